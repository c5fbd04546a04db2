/-
  What is handed in stays, and isn't kept; what is answered is new memory; or values are many, or awake says so.
-/
import Derived.Test.YtmffpbhiehjlpaaGreatZ41
import Derived.Test.YtmffpbhiehjlpaaGreatZ42
import Derived.Test.YtmffpbhiehjlpaaGreatZ43
namespace Go.Proofs.YtmffpbhiehjlpaaGreat
set_option linter.unusedSimpArgs false
set_option linter.unusedVariables false
open Go.RowKit Go.ChangeShapes Go.WideShapes Go.ChangeAt
set_option maxRecDepth 20000 in
set_option maxHeartbeats 8000000 in
theorem chunkKeeps_walk {w : World} {A B : Option Addr} {L : List Vl} {o : Co} {c d : Nat} (h : Row w 0 w.heap.size A c L) (hd : Rd w 0 w.heap.size B d (iv o.draws) ∧ Word o.draws) :
    Calls Tryz.prog 8 #[.slice A L.length c, .agg #[.int .i64 o.kind, .int .i64 o.block, .int .i64 o.rounds, .slice B o.draws.length d]] w fun e w' => e = .returned (.bool true) ∧ Below w.heap.size w w' := by
  obtain ⟨hdr, hwd⟩ := hd
  obtain ⟨hl, hm⟩ := h.len
  obtain ⟨kd, bl, ro, ds⟩ := o
  simp only at hdr hwd ⊢
  have hdl := hdr.len
  have hdm := hdr.cap
  rw [iv_length] at hdl
  obtain ⟨w1, hw1⟩ : ∃ w1, w.alloc (.cells #[.int .i64 kd, .int .i64 bl, .int .i64 ro, .slice B ds.length d] 25) = w1 := ⟨_, rfl⟩
  have B1 : Hid (Below w.heap.size w w1) := by unfold Hid; rw [← hw1]; exact (Below.refl _ w).alloc (Nat.le_refl _) _
  have hs1 : w.heap.size < w1.heap.size := by rw [← hw1]; simp
  have hbx : Blk w1 w.heap.size 25 #[.int .i64 kd, .int .i64 bl, .int .i64 ro, .slice B ds.length d] := by rw [← hw1]; exact Blk.new w _ _
  have HBX := Lib.hid hbx
  have HR : Hid (∀ W, Below w.heap.size w W → Row W 0 W.heap.size A c L) := fun W hW => (h.below hW (Nat.le_refl _)).wide (Nat.le_refl _) hW.size
  have HD : Hid (∀ W, Below w.heap.size w W → Rd W 0 W.heap.size B d (iv ds)) := fun W hW => (hdr.below hW (Nat.le_refl _)).wide (Nat.le_refl _) hW.size
  have HWD := Lib.hid hwd
  have HCF : Hid (∀ W, Below w1.heap.size w1 W → W.cell? ⟨w.heap.size, 0, none⟩ = some (.int .i64 kd) ∧ W.cell? ⟨w.heap.size, 1, none⟩ = some (.int .i64 bl) ∧ W.cell? ⟨w.heap.size, 2, none⟩ = some (.int .i64 ro) ∧ W.cell? ⟨w.heap.size, 3, none⟩ = some (.slice B ds.length d)) := fun W hW => ⟨(hbx.below hW hs1).cell 0, (hbx.below hW hs1).cell 1, (hbx.below hW hs1).cell 2, (hbx.below hW hs1).cell 3⟩
  have HAW := Lib.hid (awake_any17 (w := w1))
  clear h hdr hwd hbx
  go_enter Tryz.func8, Tryz.ntmps8
  go_wp2_with fail
  clear hw1
  refine HAW.out.mono ?_
  rintro r w2 ⟨rfl, hb2⟩
  have B2 : Hid (Below w1.heap.size w1 w2) := hb2
  have BW2 : Hid (Below w.heap.size w w2) := B1.out.trans (hb2.mono (Nat.le_of_lt hs1))
  have HFW := Lib.hid (refFew_v (w := w2) L (HR.out w2 BW2.out))
  obtain ⟨e0, e1, e2, e3⟩ := HCF.out w2 hb2
  have HAW2 := Lib.hid (awake_any17 (w := w2))
  have hsz2 := hb2.size
  clear hb2 HAW
  go_wp2_with fail
  refine HFW.out.mono ?_
  rintro r w3 ⟨⟨b, rfl, hbf⟩, rfl⟩
  clear HFW
  cases b with
  | false =>
    go_wp2_with fail
    refine HAW2.out.mono ?_
    rintro r w4 ⟨rfl, hb4⟩
    go_wp2_with fail
    go_ret
    exact ⟨rfl, BW2.out.trans (hb4.mono BW2.out.size)⟩
  | true =>
    obtain ⟨hL, hsum⟩ := hbf rfl
    by_cases hds : ds.length ≤ 60
    · have ids : ¬ (60 : Int) < (ds.length : Int) := by omega
      have HIN : Hid (∀ W, Below w.heap.size w W → CIn W L kd bl ro ds A B c d) := fun W hW => ⟨HR.out W hW, HD.out W hW, HWD.out, by omega⟩
      have hsz0 : ∀ v ∈ L, v.s.size ≤ 9223372036854775807 := (HR.out w2 BW2.out).ok
      have HSZ := Lib.hid hsz0
      obtain ⟨wz, hwz⟩ : ∃ wz, w2.alloc (.cells #[] 55) = wz := ⟨_, rfl⟩
      have hoz : wz.ownsRow w2.heap.size 55 2 (.slice (some ⟨w2.heap.size, 0, none⟩) 0 0) 0 [] := by rw [← hwz]; exact own_empty17 w2 _
      have Bz : Below w2.heap.size w2 wz := by rw [← hwz]; exact (Below.refl _ _).alloc (Nat.le_refl _) _
      have BWz : Below w.heap.size w wz := BW2.out.trans (Bz.mono BW2.out.size)
      obtain ⟨A3, c3, w3, hrun, ho3, hg3⟩ := append_vals hoz (HR.out wz BWz) (by omega) Bz.size
      have B23 : Hid (Below w2.heap.size w2 w3) := Bz.grown hg3 Bz.size (fun q hq => (own_lt hoz hq).1)
      have B3 : Hid (Below w1.heap.size w1 w3) := B2.out.trans (B23.out.mono hsz2)
      have BW3 : Hid (Below w.heap.size w w3) := B1.out.trans (B3.out.mono (Nat.le_of_lt hs1))
      have hrow3 := row_own ho3 rfl hsz0
      have HW : Hid (∀ W, Below w3.heap.size w3 W → Row W 0 W.heap.size A3 c3 L) := fun W hW => (hrow3.below hW (Nat.le_refl _)).wide (Nat.zero_le _) hW.size
      obtain ⟨f0, f1, f2, f3⟩ := HCF.out w3 B3.out
      have hs3 := B3.out.size
      clear hoz Bz BWz ho3 hg3 hrow3 hsz0 e0 e1 e2
      have HSA : Hid (∀ W A' c' A'' c'', Row W 0 W.heap.size A' c' L → Row W 0 W.heap.size A'' c'' L → Calls Tryz.prog 23 #[.slice A' L.length c', .slice A'' L.length c''] W fun r w' => r = .returned (.bool true) ∧ Below W.heap.size W w') := fun W A' c' A'' c'' hr hr2 => by
        refine (refSame_v L L hr hr2).mono ?_
        rw [decide_eq_true rfl]
        rintro r w' ⟨h1, m, rfl⟩
        exact ⟨h1, below_drewN' (Below.refl _ _) m⟩
      by_cases hmb : MayBe L ⟨kd, bl, ro, ds⟩
      · have HC := Lib.hid (code_yes (HIN.out w3 BW3.out) (o := ⟨kd, bl, ro, ds⟩) rfl hmb)
        obtain ⟨CL, hCL⟩ : ∃ CL, codeL L ⟨kd, bl, ro, ds⟩ = CL := ⟨_, rfl⟩
        rw [hCL] at HC
        obtain ⟨ck, hck⟩ : ∃ ck, chkOf L ⟨kd, bl, ro, ds⟩ = ck := ⟨_, rfl⟩
        go_wp2_with (at_builtin; refine wpList_append_run rfl _ _ _ _ rfl rfl rfl hrun ?_)
        refine HC.out.mono ?_
        rintro r w4 ⟨A4, c4, rfl, ho4, hb4, htb⟩
        have HO := Lib.hid (open_code hmb.1 hmb.2 htb)
        have HV := Lib.hid (chkOf_vals hmb.1 hmb.2 htb)
        have HOK := Lib.hid (chkOf_ok hmb.1 hmb.2 htb)
        have HTH : Hid (ck.there.length = L.length) := by unfold Hid; rw [← hck, chkOf_there, thereL_length]
        rw [hCL, hck] at HO
        rw [hck] at HV HOK
        have HLL : Hid (CL.length ≤ 1000000) := by rw [← hCL]; exact code_len hmb.1 hmb.2 htb hL (hsum hmb.1)
        have B34 : Hid (Below w3.heap.size w3 w4) := hb4
        have hs4 := hb4.size
        have HN := Lib.hid (new_any CL w4 (Rd.of_own ho4) (by have := HLL.out; omega))
        clear ho4 hb4 HC htb hCL hck hrun hwz
        go_wp2_with fail
        refine HN.out.mono ?_
        rintro r w5 ⟨g, rfl, hcu, hb5⟩
        have B35 : Hid (Below w3.heap.size w3 w5) := B34.out.trans (hb5.mono hs4)
        have hs5 := hb5.size
        have hgb := hcu.base
        have HOP := Lib.hid (open_v hcu HLL.out)
        rw [HO.out] at HOP
        clear hcu hb5 HN
        go_wp2_with fail
        refine HOP.out.mono ?_
        rintro r w6 ⟨G, rfl, hG, hckm, hcu6, hg6⟩
        have B36 : Hid (Below w3.heap.size w3 w6) := B35.out.grown hg6 (by omega) (fun q hq => by cases hq; omega)
        have HCK := Lib.hid hckm
        have HAL : Hid (∀ W, Below w6.heap.size w6 W → Calls Tryz.prog 24 #[.pointer (some ⟨G, 0, none⟩)] W fun r w' => ∃ A' c', r = .returned (.slice A' L.length c') ∧ Row w' W.heap.size w'.heap.size A' c' L ∧ Below W.heap.size W w' ∧ ∃ g, A' = some ⟨g, 0, none⟩ ∧ w'.ownsRow W.heap.size 55 2 (.slice A' L.length c') L.length (vv L)) := fun W hW => by
          have := all_v (HCK.out.below hW) (.inl HOK.out)
          rw [HV.out] at this
          exact this
        have HRA : Hid (∀ W, Below w6.heap.size w6 W → ∀ k, k < L.length → Calls Tryz.prog 33 #[.pointer (some ⟨G, 0, none⟩), .int .i64 (k : Int)] W fun r w' => ∃ bb A' c', r = .returned (.slice A' bb.length c') ∧ w'.ownsRow W.heap.size 5 1 (.slice A' bb.length c') bb.length (bv bb) ∧ Below W.heap.size W w') := fun W hW k hk => raw_any (HCK.out.below hW) HOK.out (by rw [HTH.out]; exact hk)
        have HA6 := Lib.hid (HAL.out w6 (Below.refl _ _))
        have hs6 := B36.out.size
        clear hckm hcu6 hg6 HOP HO HV
        go_wp2_with fail
        refine HA6.out.mono ?_
        rintro r w7 ⟨A7, c7, rfl, -, hb7, ga, rfl, ho7⟩
        have B67 : Hid (Below w6.heap.size w6 w7) := hb7
        have HO7 := Lib.hid ho7
        have hs7 := hb7.size
        clear hb7 ho7 HA6
        go_wp2_with fail
        go_loopw [10] (fun i wr => ∃ (k : Nat) (xs : List Value), k ≤ L.length ∧ i = .int .i64 (k : Int) ∧ Hid (wr.ownsRow w6.heap.size 55 2 (.slice (some ⟨ga, 0, none⟩) L.length c7) L.length xs) ∧ Below w6.heap.size w6 wr) (fun i _ => L.length - (intOf i).toNat)
        case atStart => exact ⟨0, _, Nat.zero_le _, rfl, HO7, B67.out⟩
        case round =>
          clear HO7 B67
          obtain ⟨k, xs, hk, rfl, HO, hb⟩ := hrel
          have HB := Lib.hid hb
          have hszr := hb.size
          clear hb
          by_cases hlt : k < L.length
          · have ik : (k : Int) < (L.length : Int) := by omega
            have hxl : xs.length = L.length * 2 := HO.out.1
            have hga : w6.heap.size ≤ ga := (own_lt HO.out rfl).1
            have fr0 := HO.out.frozenAt (k * 2)
            have fr1 := HO.out.frozenAt (k * 2 + 1)
            have c0 : wr.cell? ⟨ga, k * 2, none⟩ = some (xs[k * 2]'(by omega)) := by
              rw [HO.out.cellAt (k * 2) (by omega), List.getElem?_eq_getElem (by omega)]
            have c1 : wr.cell? ⟨ga, k * 2 + 1, none⟩ = some (xs[k * 2 + 1]'(by omega)) := by
              rw [HO.out.cellAt (k * 2 + 1) (by omega), List.getElem?_eq_getElem (by omega)]
            have HS1 := Lib.hid (World.ownsRow.stored HO.out (k * 2) (.bool false))
            have HS2 := Lib.hid (World.ownsRow.stored HS1.out.1 (k * 2 + 1) (.string ⟨#[63]⟩))
            obtain ⟨wt, hwt⟩ : ∃ wt, (wr.setCell ⟨ga, k * 2, none⟩ (.bool false)).setCell ⟨ga, k * 2 + 1, none⟩ (.string ⟨#[63]⟩) = wt := ⟨_, rfl⟩
            have HBT : Hid (Below w6.heap.size w6 wt) := by unfold Hid; rw [← hwt]; exact (HB.out.setCell (p := ⟨ga, k * 2, none⟩) hga _).setCell (p := ⟨ga, k * 2 + 1, none⟩) hga _
            have HOT := HS2.out.1
            rw [hwt] at HOT
            have HOT := Lib.hid HOT
            have HRK := Lib.hid (HRA.out wt HBT.out k hlt)
            have HX0 := HOT
            have hst := HBT.out.size
            generalize xs[k * 2]'(by omega) = y0 at *
            generalize xs[k * 2 + 1]'(by omega) = y1 at *
            clear HO HB HS1 HS2 hxl
            go_wp2_with fail
            refine HRK.out.mono ?_
            rintro r wu ⟨bb, Ab, cb, rfl, hob, hbu⟩
            have HBU : Hid (Below w6.heap.size w6 wu) := HBT.out.trans (hbu.mono hst)
            have HOU := Lib.hid (own_below HOT.out hbu (Nat.le_refl _))
            have hsu := hbu.size
            obtain ⟨n, hn⟩ : ∃ n, bb.length = n := ⟨_, rfl⟩
            rw [hn] at hob
            have HOB := Lib.hid hob
            rw [hn]
            have hcb : n ≤ cb := (by have := (Rd.of_own hob).len; rw [bv_length] at this; omega)
            have hcm : cb ≤ 9223372036854775807 := (by have := (Rd.of_own hob).cap; simpa [maxLen] using this)
            clear hob hbu HRK HBT HOT hn
            go_wp2_with fail
            go_loopw [12] (fun i wv => ∃ (j : Nat) (ys : List Value), j ≤ n ∧ i = .int .i64 (j : Int) ∧ Hid (wv.ownsRow wt.heap.size 5 1 (.slice Ab n cb) n ys) ∧ Hid (wv.ownsRow w6.heap.size 55 2 (.slice (some ⟨ga, 0, none⟩) L.length c7) L.length ((xs.set (k * 2) (.bool false)).set (k * 2 + 1) (.string ⟨#[63]⟩))) ∧ Below w6.heap.size w6 wv) (fun i _ => n - (intOf i).toNat)
            case atStart => exact ⟨0, _, Nat.zero_le _, rfl, HOB, HOU, HBU.out⟩
            case round =>
              clear HOB HOU HBU
              obtain ⟨j, ys, hj, rfl, HY, HX, hb⟩ := hrel
              have HB := Lib.hid hb
              have hszv := hb.size
              clear hb
              by_cases hjn : j < n
              · have ij : (j : Int) < (n : Int) := by omega
                obtain ⟨gy, rfl, hgy, _⟩ := own_spot HY.out (by omega)
                have hyl : ys.length = n := by have := HY.out.1; omega
                have frj := HY.out.frozenAt j
                have cj : wr.cell? ⟨gy, j, none⟩ = some (ys[j]'(by omega)) := by
                  rw [HY.out.cellAt j (by omega), List.getElem?_eq_getElem (by omega)]
                have HS := Lib.hid (World.ownsRow.stored HY.out j (.int .u8 7)).1
                have HX2 := Lib.hid (ownsRow_setCell_other (a := ⟨gy, j, none⟩) HX.out (fun e => by have h1 : ga < wt.heap.size := (own_lt HX0.out rfl).2; have h2 : ga = gy := Option.some.inj e; omega) (.int .u8 7))
                have HB2 := Lib.hid (HB.out.setCell (p := ⟨gy, j, none⟩) (by show w6.heap.size ≤ gy; omega) (.int .u8 7))
                generalize ys[j]'(by omega) = y9 at *
                clear HY HX HB hyl
                go_wp2_with fail
                go_roundw
                case rel => exact ⟨j + 1, _, by omega, by go_num, HS, HX2, HB2.out⟩
                case measure => simp [intOf]; omega
              · have ij : ¬ (j : Int) < (n : Int) := by omega
                go_wp2_with fail
                go_roundw
                case rel => exact ⟨k + 1, _, by omega, by go_num, HX, HB.out⟩
                case measure => simp [intOf]; omega
          · have ik : ¬ (k : Int) < (L.length : Int) := by omega
            have BW6 : Hid (Below w.heap.size w w6) := BW3.out.trans (B36.out.mono BW3.out.size)
            have HS1 := Lib.hid (HSA.out wr A c A3 c3 (HR.out wr (BW6.out.trans (HB.out.mono BW6.out.size))) (HW.out wr (B36.out.trans (HB.out.mono B36.out.size))))
            go_wp2_with fail
            refine HS1.out.mono ?_
            rintro r wa ⟨rfl, hba⟩
            have HBA : Hid (Below w6.heap.size w6 wa) := HB.out.trans (hba.mono HB.out.size)
            have HAA := Lib.hid (HAL.out wa HBA.out)
            clear hba HS1
            go_wp2_with fail
            refine HAA.out.mono ?_
            rintro r wb ⟨Ab, cb, rfl, hrb, hbb, -⟩
            have HBB : Hid (Below w6.heap.size w6 wb) := HBA.out.trans (hbb.mono HBA.out.size)
            have HS2 := Lib.hid (HSA.out wb Ab cb A3 c3 (hrb.wide (Nat.zero_le _) (Nat.le_refl _)) (HW.out wb (B36.out.trans (HBB.out.mono B36.out.size))))
            clear hrb hbb HAA
            go_wp2_with fail
            refine HS2.out.mono ?_
            rintro r wc ⟨rfl, hbc⟩
            go_wp2_with fail
            go_ret
            exact ⟨rfl, BW6.out.trans ((HBB.out.trans (hbc.mono HBB.out.size)).mono BW6.out.size)⟩
      · have HC := Lib.hid (code_no (HIN.out w3 BW3.out) hmb)
        go_wp2_with (at_builtin; refine wpList_append_run rfl _ _ _ _ rfl rfl rfl hrun ?_)
        refine HC.out.mono ?_
        rintro r w4 ⟨rfl, hb4⟩
        have BW4 : Hid (Below w.heap.size w w4) := BW3.out.trans (hb4.mono BW3.out.size)
        have HS1 := Lib.hid (HSA.out w4 A c A3 c3 (HR.out w4 BW4.out) (HW.out w4 hb4))
        clear hb4 HC
        go_wp2_with fail
        refine HS1.out.mono ?_
        rintro r w5 ⟨rfl, hb5⟩
        go_wp2_with fail
        go_ret
        exact ⟨rfl, BW4.out.trans (hb5.mono BW4.out.size)⟩
    · have ids : (60 : Int) < (ds.length : Int) := by omega
      go_wp2_with fail
      refine HAW2.out.mono ?_
      rintro r w4 ⟨rfl, hb4⟩
      go_wp2_with fail
      go_ret
      exact ⟨rfl, BW2.out.trans (hb4.mono BW2.out.size)⟩
set_option maxRecDepth 100000 in
theorem chunkKeeps_lifted (os : Os) (started : os.Started) (H : Type) (enc : TypeId × Value → H) :
    ReturnsInHanded {} Tryz.checked os 8 .any (Rows.chunkKeepsSpec.pre6 enc Tryz.prog Tryz.f8 Rows.chunkKeepsRow.domain false) (Rows.chunkKeepsSpec.post enc Tryz.prog Tryz.f8 false true false false) := by
  refine returnsInHanded_of_change (C := Tryz.checked) own started (by kernel_rfl) Tryz.func8
    (ChangeSpec.witness6 (enc := enc) (C := Tryz.checked) false ⟨#[], #[.slice none 0 0, .agg #[.int .i64 0, .int .i64 0, .int .i64 0, .slice none 0 0]], []⟩ 8 (by kernel_rfl) (by kernel_rfl) (by kernel_rfl) (by kernel_rfl)) ?_
  intro W base args ds gs before hval0 hW hcnd _
  have hval : ∀ (j : Nat) t v, Tryz.f8.params[j]? = some t → args[j]? = some v → Value.okWide Tryz.prog W .any base t v := hval0
  have hW' := hW
  obtain ⟨p, q, hA0, hV, rfl, hfz, hnd⟩ := hW
  have hA : DataW.TrodAll enc Tryz.prog W 0 (fun _ => true) true Tryz.f8.params.toList args.toList ds p := hA0
  have hA1 : DataW.TrodAll enc Tryz.prog W 0 (fun _ => true) true Tryz.f8.params.toList args.toList ds p := hA0
  rw [Tryz.params8] at hA hval
  obtain ⟨v0, vs0, d0, ds0, p0, q0, hargs, rfl, rfl, h0, r0⟩ := trodAll_cons hA
  obtain ⟨v1, vs1, d1, ds1, p1, q1, rfl, rfl, rfl, h1, r1⟩ := trodAll_cons r0
  obtain ⟨rfl, rfl, rfl⟩ := trodAll_nil r1
  obtain rfl : args = #[v0, v1] := by cases args; simp_all
  obtain ⟨rfl, rfl⟩ := trodVars_none hV
  obtain ⟨A0, a0, c0, rfl, w0⟩ := open_row (hval 0 22 v0 rfl rfl) h0
  obtain ⟨A1, a1, c1, rfl, w1⟩ := open_coding (hval 1 25 v1 rfl rfl) h1
  clear hA0 hval0
  refine (chunkKeeps_walk (w := W) w0 w1).mono fun e W' ⟨he, bel⟩ => ?_
  subst he
  exact ⟨_, rfl, _, _, _, [], _, [], hW', trodAll_mk1 (shut_bool Tryz.underlying4 _), trodAll_below laidOut bel _ _ _ _ (by kernel_rfl) hA1, rfl, bel.frame _, fun h => by cases h⟩
theorem chunkKeeps_over : Rows.chunkKeepsRow.holds Tryz.pinned (OpenSpec.ofChange Rows.chunkKeepsSpec) :=
  OpenClaim.holds_of_wide 8 Tryz.f8 rfl rfl rfl rfl rfl rfl rfl ⟨rfl, rfl, rfl, rfl, rfl⟩ rfl rfl rfl rfl rfl (by kernel_rfl) Tryz.func8 (by kernel_rfl)
    (of_decide_eq_true (by kernel_rfl)) (by unfold Func.isWrapper; first | (rw [if_pos (by decide +kernel)]; kernel_rfl) | (rw [if_neg (by decide +kernel)]; exact ⟨rfl, rfl⟩))
    (fun os started H enc _ => chunkKeeps_lifted os started H enc)
theorem chunkKeeps_proved : Rows.ChunkKeepsSaid := chunkKeeps_over
end Go.Proofs.YtmffpbhiehjlpaaGreat
