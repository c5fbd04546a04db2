/-
  Whatever values and coding: Code answers the document's bytes, or that they may not be, and Measure the payload's bytes and how many strings there are; or values are many, or awake says so.
-/
import Derived.Test.YtmffpbhiehjlpaaGreatZ45
import Derived.Test.YtmffpbhiehjlpaaGreatZ41
import Derived.Test.YtmffpbhiehjlpaaGreatZ42
namespace Go.Proofs.YtmffpbhiehjlpaaGreat
set_option linter.unusedSimpArgs false
set_option linter.unusedVariables false
open Go.RowKit Go.ChangeShapes Go.WideShapes Go.ChangeAt
attribute [local go_sem] run_store_complex
theorem kindK_kind {S : List ByteArray} {o : Co} (h : CoOk o) : kindK S ⟨kindK S o, o.block, o.rounds, o.draws⟩ = kindK S o := by
  have h1 := kindK_is S h
  rw [kindK, if_neg (by simp only; omega)]
theorem codeL_kind {L : List Vl} {o : Co} (h : CoOk o) : codeL L ⟨kindK (textsL L) o, o.block, o.rounds, o.draws⟩ = codeL L o := by
  rw [codeL, kindK_kind h]
  rfl
theorem co_kind {o : Co} {S : List ByteArray} (h : CoOk o) : CoOk ⟨kindK S o, o.block, o.rounds, o.draws⟩ := by
  have h1 := kindK_is S h
  obtain ⟨_, _, h3⟩ := h
  exact ⟨by simp only; omega, by simp only; omega, h3⟩
set_option maxRecDepth 20000 in
set_option maxHeartbeats 8000000 in
theorem chunkCodes_walk {w : World} {A B : Option Addr} {L : List Vl} {o : Co} {c d : Nat} (h : Row w 0 w.heap.size A c L) (hd : Rd w 0 w.heap.size B d (iv o.draws) ∧ Word o.draws) :
    Calls Tryz.prog 3 #[.slice A L.length c, .agg #[.int .i64 o.kind, .int .i64 o.block, .int .i64 o.rounds, .slice B o.draws.length d]] w fun e w' => e = .returned (.bool true) ∧ Below w.heap.size w w' := by
  obtain ⟨hdr, hwd⟩ := hd
  obtain ⟨hl, hm⟩ := h.len
  obtain ⟨kd, bl, ro, ds⟩ := o
  simp only at hdr hwd ⊢
  have hdl := hdr.len
  have hdm := hdr.cap
  rw [iv_length] at hdl
  obtain ⟨w1, hw1⟩ : ∃ w1, w.alloc (.cells #[.int .i64 kd, .int .i64 bl, .int .i64 ro, .slice B ds.length d] 25) = w1 := ⟨_, rfl⟩
  have B1 : Hid (Below w.heap.size w w1) := by unfold Hid; rw [← hw1]; exact (Below.refl _ w).alloc (Nat.le_refl _) _
  have hs1 : w.heap.size < w1.heap.size := by rw [← hw1]; simp
  have hbx : Blk w1 w.heap.size 25 #[.int .i64 kd, .int .i64 bl, .int .i64 ro, .slice B ds.length d] := by rw [← hw1]; exact Blk.new w _ _
  have HBX := Lib.hid hbx
  have HR : Hid (∀ W, Below w.heap.size w W → Row W 0 W.heap.size A c L) := fun W hW => (h.below hW (Nat.le_refl _)).wide (Nat.le_refl _) hW.size
  have HD : Hid (∀ W, Below w.heap.size w W → Rd W 0 W.heap.size B d (iv ds)) := fun W hW => (hdr.below hW (Nat.le_refl _)).wide (Nat.le_refl _) hW.size
  have HWD := Lib.hid hwd
  have HCF : Hid (∀ W, Below w1.heap.size w1 W → W.cell? ⟨w.heap.size, 0, none⟩ = some (.int .i64 kd) ∧ W.cell? ⟨w.heap.size, 1, none⟩ = some (.int .i64 bl) ∧ W.cell? ⟨w.heap.size, 2, none⟩ = some (.int .i64 ro) ∧ W.cell? ⟨w.heap.size, 3, none⟩ = some (.slice B ds.length d)) := fun W hW => ⟨(hbx.below hW hs1).cell 0, (hbx.below hW hs1).cell 1, (hbx.below hW hs1).cell 2, (hbx.below hW hs1).cell 3⟩
  have HAW := Lib.hid (awake_any17 (w := w1))
  clear h hdr hwd hbx
  go_enter Tryz.func3, Tryz.ntmps3
  go_wp2_with fail
  clear hw1
  refine HAW.out.mono ?_
  rintro r w2 ⟨rfl, hb2⟩
  have B2 : Hid (Below w1.heap.size w1 w2) := hb2
  have BW2 : Hid (Below w.heap.size w w2) := B1.out.trans (hb2.mono (Nat.le_of_lt hs1))
  have HFW := Lib.hid (refFew_v (w := w2) L (HR.out w2 BW2.out))
  obtain ⟨e0, e1, e2, e3⟩ := HCF.out w2 hb2
  have HAW2 := Lib.hid (awake_any17 (w := w2))
  have hsz2 := hb2.size
  clear hb2 HAW
  go_wp2_with fail
  refine HFW.out.mono ?_
  rintro r w3 ⟨⟨b, rfl, hbf⟩, rfl⟩
  clear HFW
  cases b with
  | false =>
    go_wp2_with fail
    refine HAW2.out.mono ?_
    rintro r w4 ⟨rfl, hb4⟩
    go_wp2_with fail
    go_ret
    exact ⟨rfl, BW2.out.trans (hb4.mono BW2.out.size)⟩
  | true =>
    obtain ⟨hL, hsum⟩ := hbf rfl
    by_cases hds : ds.length ≤ 60
    · have ids : ¬ (60 : Int) < (ds.length : Int) := by omega
      have HIN : Hid (∀ W, Below w.heap.size w W → CIn W L kd bl ro ds A B c d) := fun W hW => ⟨HR.out W hW, HD.out W hW, HWD.out, by omega⟩
      by_cases hmb : MayBe L ⟨kd, bl, ro, ds⟩
      · have HC := Lib.hid (code_yes (HIN.out w2 BW2.out) (o := ⟨kd, bl, ro, ds⟩) rfl hmb)
        obtain ⟨CL, hCL⟩ : ∃ CL, codeL L ⟨kd, bl, ro, ds⟩ = CL := ⟨_, rfl⟩
        rw [hCL] at HC
        have HCL := Lib.hid hCL
        clear hCL
        go_wp2_with fail
        refine HC.out.mono ?_
        rintro r w3 ⟨A3, c3, rfl, ho3, hb3, -⟩
        have HO3 := Lib.hid ho3
        have B3 : Hid (Below w1.heap.size w1 w3) := B2.out.trans (hb3.mono hsz2)
        have BW3 : Hid (Below w.heap.size w w3) := B1.out.trans (B3.out.mono (Nat.le_of_lt hs1))
        obtain ⟨f0, f1, f2, f3⟩ := HCF.out w3 B3.out
        have HM := Lib.hid (measure_yes (HIN.out w3 BW3.out) (o := ⟨kd, bl, ro, ds⟩) rfl hmb)
        have hsz3 := hb3.size
        obtain ⟨j, hj⟩ : ∃ j, kindK (textsL L) ⟨kd, bl, ro, ds⟩ = j := ⟨_, rfl⟩
        obtain ⟨pn, hpn⟩ : ∃ pn, (payK (textsL L) ⟨kd, bl, ro, ds⟩ j).length = pn := ⟨_, rfl⟩
        rw [hj, hpn] at HM
        obtain ⟨x, hx⟩ : ∃ x, fl pn = x := ⟨_, rfl⟩
        obtain ⟨y, hy⟩ : ∃ y, fl (textsL L).length = y := ⟨_, rfl⟩
        rw [hx, hy] at HM
        have hx2 : floatOfInt .f64 (pn : Int) = x := hx
        have hy2 : floatOfInt .f64 ((textsL L).length : Int) = y := hy
        have HX := Lib.hid hx
        have HY := Lib.hid hy
        clear ho3 hb3 HC e0 e1 e2 e3 hx hy
        go_wp2_with fail
        refine HM.out.mono ?_
        rintro r w4 ⟨rfl, hb4, hpl, -⟩
        have B4 : Hid (Below w1.heap.size w1 w4) := B3.out.trans (hb4.mono B3.out.size)
        have BW4 : Hid (Below w.heap.size w w4) := B1.out.trans (B4.out.mono (Nat.le_of_lt hs1))
        have HO4 := Lib.hid (own_below HO3.out hb4 (Nat.le_refl _))
        obtain ⟨g0, g1, g2, g3⟩ := HCF.out w4 B4.out
        have HRI := Lib.hid (refRight_v (w := w4) L ⟨kd, bl, ro, ds⟩ (HR.out w4 BW4.out) (HD.out w4 BW4.out))
        rw [decide_eq_true (show FitsV L ∧ CoOk ⟨kd, bl, ro, ds⟩ from hmb)] at HRI
        have ox := ord_self hpl HX.out
        have hsl : (textsL L).length ≤ 4096 := (hmb.few).1
        have oy := ord_self (by omega) HY.out
        have HPL := Lib.hid hpl
        clear hb4 hpl HM f0 f1 f2 f3 HO3 HX HY
        go_wp2_with fail
        refine HRI.out.mono ?_
        rintro r w5 ⟨rfl, hb5⟩
        have B5 : Hid (Below w1.heap.size w1 w5) := B4.out.trans (hb5.mono B4.out.size)
        have BW5 : Hid (Below w.heap.size w w5) := B1.out.trans (B5.out.mono (Nat.le_of_lt hs1))
        have HO5 := Lib.hid (own_below HO4.out hb5 (Nat.le_refl _))
        have HPR := Lib.hid (refPresent_v (w := w5) L (HR.out w5 BW5.out) (by omega))
        clear hb5 HRI HO4 g0 g1 g2 g3
        go_wp2_with fail
        refine HPR.out.mono ?_
        rintro r w6 ⟨A6, c6, A7, c7, rfl, -, ho6, hb6⟩
        have B6 : Hid (Below w1.heap.size w1 w6) := B5.out.trans (hb6.mono B5.out.size)
        have BW6 : Hid (Below w.heap.size w w6) := B1.out.trans (B6.out.mono (Nat.le_of_lt hs1))
        have HO6 := Lib.hid (own_below HO5.out hb6 (Nat.le_refl _))
        have HS6 : Hid (Rd w6 w5.heap.size w6.heap.size A7 c7 (sv (textsL L))) := Rd.of_own ho6
        obtain ⟨g0, g1, g2, g3⟩ := HCF.out w6 B6.out
        have htl : (textsL L).length ≤ 100 := Nat.le_trans (textsL_le L) hL
        have hPI : ∀ W k, 0 ≤ k → k ≤ 3 → Below w.heap.size w W → Rd W 0 W.heap.size A7 c7 (sv (textsL L)) → PayIn W (textsL L) k bl ro ds A7 B c7 d := fun W k hk0 hk3 hW hr => ⟨hr, HD.out W hW, HWD.out, ⟨hk0, hk3, hmb.2.2.2⟩, by omega, by omega, (hmb.few).2⟩
        have HPI := Lib.hid hPI
        have HCH := Lib.hid (refChosen_v (HPI.out w6 kd hmb.2.1 hmb.2.2.1 BW6.out (HS6.out.wide (Nat.zero_le _) (Nat.le_refl _))) htl hds)
        rw [hj] at HCH
        have hs5 := B5.out.size
        have hs56 := hb6.size
        clear ho6 hb6 HPR HO5 hPI
        go_wp2_with fail
        refine HCH.out.mono ?_
        rintro r w7 ⟨rfl, hb7⟩
        have B7 : Hid (Below w1.heap.size w1 w7) := B6.out.trans (hb7.mono B6.out.size)
        have BW7 : Hid (Below w.heap.size w w7) := B1.out.trans (B7.out.mono (Nat.le_of_lt hs1))
        have HO7 := Lib.hid (own_below HO6.out hb7 (Nat.le_refl _))
        have HS7 := Lib.hid (HS6.out.below hb7 (Nat.le_refl _))
        have hbx7 : Blk w7 w.heap.size 25 #[.int .i64 kd, .int .i64 bl, .int .i64 ro, .slice B ds.length d] := HBX.out.below B7.out hs1
        have z0 : w7.cell? ⟨w.heap.size, 0, none⟩ = some (.int .i64 kd) := hbx7.cell 0
        have fz0 := hbx7.frozen 0
        obtain ⟨w8, hw8⟩ : ∃ w8, w7.setCell ⟨w.heap.size, 0, none⟩ (.int .i64 j) = w8 := ⟨_, rfl⟩
        have HBX8 : Hid (Blk w8 w.heap.size 25 #[.int .i64 j, .int .i64 bl, .int .i64 ro, .slice B ds.length d]) := by unfold Hid; rw [← hw8]; exact hbx7.put 0 _
        have BW8 : Hid (Below w.heap.size w w8) := by unfold Hid; rw [← hw8]; exact BW7.out.setCell (p := ⟨w.heap.size, 0, none⟩) (Nat.le_refl _) _
        have hs8 : w8.heap.size = w7.heap.size := by rw [← hw8]; simp [World.setCell]
        have hs7 := hb7.size
        have HO8 : Hid (Rd w8 w2.heap.size w8.heap.size A3 c3 (bv CL)) := by unfold Hid; rw [← hw8]; exact ((Rd.of_own HO7.out).setCell (p := ⟨w.heap.size, 0, none⟩) (.inl (by show w.heap.size < _; omega)) _).wide (Nat.le_refl _) (by simp [World.setCell])
        have HS8 : Hid (Rd w8 w5.heap.size w8.heap.size A7 c7 (sv (textsL L))) := by unfold Hid; rw [← hw8]; exact (HS7.out.setCell (p := ⟨w.heap.size, 0, none⟩) (.inl (by show w.heap.size < _; omega)) _).wide (Nat.le_refl _) (by simp [World.setCell]; omega)
        have HCG : Hid (∀ W, Below w8.heap.size w8 W → W.cell? ⟨w.heap.size, 0, none⟩ = some (.int .i64 j) ∧ W.cell? ⟨w.heap.size, 1, none⟩ = some (.int .i64 bl) ∧ W.cell? ⟨w.heap.size, 2, none⟩ = some (.int .i64 ro) ∧ W.cell? ⟨w.heap.size, 3, none⟩ = some (.slice B ds.length d)) := fun W hW => ⟨(HBX8.out.below hW HBX8.out.lt).cell 0, (HBX8.out.below hW HBX8.out.lt).cell 1, (HBX8.out.below hW HBX8.out.lt).cell 2, (HBX8.out.below hW HBX8.out.lt).cell 3⟩
        obtain ⟨h0, h1, h2, h3⟩ := HCG.out w8 (Below.refl _ _)
        have hco : CoOk ⟨j, bl, ro, ds⟩ := by
          have := co_kind (S := textsL L) hmb.2
          rw [hj] at this
          exact this
        have hkk : kindK (textsL L) ⟨j, bl, ro, ds⟩ = j := by
          have := kindK_kind (S := textsL L) hmb.2
          rw [hj] at this
          exact this
        have hck : codeL L ⟨j, bl, ro, ds⟩ = CL := by
          have := codeL_kind (L := L) hmb.2
          rw [hj] at this
          rw [← HCL.out]
          exact this
        have hpk : payK (textsL L) ⟨j, bl, ro, ds⟩ j = payK (textsL L) ⟨kd, bl, ro, ds⟩ j := payK_kind ..
        have HRC := Lib.hid (refCode_v ((HIN.out w8 BW8.out).kind j) (o := ⟨j, bl, ro, ds⟩) rfl ⟨hmb.1, hco⟩ hL hds (by rw [hkk, hpk, hpn]; exact HPL.out))
        rw [hck] at HRC
        have HCO := Lib.hid hco
        have HPK : Hid ((payK (textsL L) ⟨j, bl, ro, ds⟩ j).length = pn) := by unfold Hid; rw [hpk, hpn]
        have HJI := Lib.hid (kindK_is (textsL L) hmb.2)
        rw [hj] at HJI
        clear hb7 hbx7 HCH HO6 HO7 HS6 HS7 g0 g1 g2 g3 hck hpk hkk hco hj hpn HBX8
        go_wp2_with fail
        refine HRC.out.mono ?_
        rintro r w9 ⟨A9, c9, rfl, ho9, hb9⟩
        have HSM := Lib.hid (same_len (w := w9) CL CL true (HO8.out.below hb9 (Nat.le_refl _)) (Rd.of_own ho9) rfl rfl (decide_eq_true rfl))
        have BW9 : Hid (Below w.heap.size w w9) := BW8.out.trans (hb9.mono BW8.out.size)
        obtain ⟨i0, i1, i2, i3⟩ := HCG.out w9 hb9
        have HRP := Lib.hid (refPayload_v (HPI.out w9 j (by have := HJI.out; omega) (by have := HJI.out; omega) BW9.out ((HS8.out.below hb9 (Nat.le_refl _)).wide (Nat.zero_le _) hb9.size)) (by have := HJI.out; omega) htl hds)
        rw [HPK.out] at HRP
        clear ho9 hb9 HRC h0 h1 h2 h3
        go_wp2_with fail
        refine HSM.out.mono ?_
        rintro r w10 ⟨rfl, rfl⟩
        go_wp2_with fail
        refine HRP.out.mono ?_
        rintro r w11 ⟨A11, c11, rfl, -, hb11⟩
        go_wp2_with fail
        go_ret
        exact ⟨rfl, BW9.out.trans (hb11.mono BW9.out.size)⟩
      · have HC := Lib.hid (code_no (HIN.out w2 BW2.out) hmb)
        have ho0 : (FloatKind.f64.format.order 0 0 == some .eq) = true := by decide +kernel
        go_wp2_with fail
        refine HC.out.mono ?_
        rintro r w3 ⟨rfl, hb3⟩
        have B3 : Hid (Below w1.heap.size w1 w3) := B2.out.trans (hb3.mono hsz2)
        have BW3 : Hid (Below w.heap.size w w3) := B1.out.trans (B3.out.mono (Nat.le_of_lt hs1))
        obtain ⟨f0, f1, f2, f3⟩ := HCF.out w3 B3.out
        have HM := Lib.hid (measure_no (HIN.out w3 BW3.out) hmb)
        clear hb3 HC e0 e1 e2 e3
        go_wp2_with fail
        refine HM.out.mono ?_
        rintro r w4 ⟨rfl, hb4⟩
        have B4 : Hid (Below w1.heap.size w1 w4) := B3.out.trans (hb4.mono B3.out.size)
        have BW4 : Hid (Below w.heap.size w w4) := B1.out.trans (B4.out.mono (Nat.le_of_lt hs1))
        obtain ⟨g0, g1, g2, g3⟩ := HCF.out w4 B4.out
        have HRI := Lib.hid (refRight_v (w := w4) L ⟨kd, bl, ro, ds⟩ (HR.out w4 BW4.out) (HD.out w4 BW4.out))
        rw [decide_eq_false (show ¬ (FitsV L ∧ CoOk ⟨kd, bl, ro, ds⟩) from hmb)] at HRI
        clear hb4 HM f0 f1 f2 f3
        go_wp2_with fail
        refine HRI.out.mono ?_
        rintro r w5 ⟨rfl, hb5⟩
        go_wp2_with fail
        go_ret
        exact ⟨rfl, BW4.out.trans (hb5.mono BW4.out.size)⟩
    · have ids : (60 : Int) < (ds.length : Int) := by omega
      go_wp2_with fail
      refine HAW2.out.mono ?_
      rintro r w4 ⟨rfl, hb4⟩
      go_wp2_with fail
      go_ret
      exact ⟨rfl, BW2.out.trans (hb4.mono BW2.out.size)⟩
set_option maxRecDepth 100000 in
theorem chunkCodes_lifted (os : Os) (started : os.Started) (H : Type) (enc : TypeId × Value → H) :
    ReturnsInHanded {} Tryz.checked os 3 .any (Rows.chunkCodesSpec.pre6 enc Tryz.prog Tryz.f3 Rows.chunkCodesRow.domain false) (Rows.chunkCodesSpec.post enc Tryz.prog Tryz.f3 false true false false) := by
  refine returnsInHanded_of_change (C := Tryz.checked) own started (by kernel_rfl) Tryz.func3
    (ChangeSpec.witness6 (enc := enc) (C := Tryz.checked) false ⟨#[], #[.slice none 0 0, .agg #[.int .i64 0, .int .i64 0, .int .i64 0, .slice none 0 0]], []⟩ 8 (by kernel_rfl) (by kernel_rfl) (by kernel_rfl) (by kernel_rfl)) ?_
  intro W base args ds gs before hval0 hW hcnd _
  have hval : ∀ (j : Nat) t v, Tryz.f3.params[j]? = some t → args[j]? = some v → Value.okWide Tryz.prog W .any base t v := hval0
  have hW' := hW
  obtain ⟨p, q, hA0, hV, rfl, hfz, hnd⟩ := hW
  have hA : DataW.TrodAll enc Tryz.prog W 0 (fun _ => true) true Tryz.f3.params.toList args.toList ds p := hA0
  have hA1 : DataW.TrodAll enc Tryz.prog W 0 (fun _ => true) true Tryz.f3.params.toList args.toList ds p := hA0
  rw [Tryz.params3] at hA hval
  obtain ⟨v0, vs0, d0, ds0, p0, q0, hargs, rfl, rfl, h0, r0⟩ := trodAll_cons hA
  obtain ⟨v1, vs1, d1, ds1, p1, q1, rfl, rfl, rfl, h1, r1⟩ := trodAll_cons r0
  obtain ⟨rfl, rfl, rfl⟩ := trodAll_nil r1
  obtain rfl : args = #[v0, v1] := by cases args; simp_all
  obtain ⟨rfl, rfl⟩ := trodVars_none hV
  obtain ⟨A0, a0, c0, rfl, w0⟩ := open_row (hval 0 22 v0 rfl rfl) h0
  obtain ⟨A1, a1, c1, rfl, w1⟩ := open_coding (hval 1 25 v1 rfl rfl) h1
  clear hA0 hval0
  refine (chunkCodes_walk (w := W) w0 w1).mono fun e W' ⟨he, bel⟩ => ?_
  subst he
  exact ⟨_, rfl, _, _, _, [], _, [], hW', trodAll_mk1 (shut_bool Tryz.underlying4 _), trodAll_below laidOut bel _ _ _ _ (by kernel_rfl) hA1, rfl, bel.frame _, fun h => by cases h⟩
theorem chunkCodes_over : Rows.chunkCodesRow.holds Tryz.pinned (OpenSpec.ofChange Rows.chunkCodesSpec) :=
  OpenClaim.holds_of_wide 3 Tryz.f3 rfl rfl rfl rfl rfl rfl rfl ⟨rfl, rfl, rfl, rfl, rfl⟩ rfl rfl rfl rfl rfl (by kernel_rfl) Tryz.func3 (by kernel_rfl)
    (of_decide_eq_true (by kernel_rfl)) (by unfold Func.isWrapper; first | (rw [if_pos (by decide +kernel)]; kernel_rfl) | (rw [if_neg (by decide +kernel)]; exact ⟨rfl, rfl⟩))
    (fun os started H enc _ => chunkCodes_lifted os started H enc)
theorem chunkCodes_proved : Rows.ChunkCodesSaid := chunkCodes_over
end Go.Proofs.YtmffpbhiehjlpaaGreat
