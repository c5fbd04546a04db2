/-
  What a chunk tells of how it is coded: of a dictionary the codes of its strings, else bytes that are alike just if values are, and those of a string that is there; or values are many, or the string is long, or awake says so.
-/
import Derived.Test.YtmffpbhiehjlpaaGreatZ41
import Derived.Test.YtmffpbhiehjlpaaGreatZ42
namespace Go.Proofs.YtmffpbhiehjlpaaGreat
set_option linter.unusedSimpArgs false
set_option linter.unusedVariables false
open Go.RowKit Go.ChangeShapes Go.WideShapes Go.ChangeAt
open Go.ChangeMaps (open_string shut_string)
attribute [local go_sem] field_null field_s
theorem strs_alike {enc : List UInt8 → List UInt8} (hinj : ∀ a b, enc a = enc b → a = b) {a b : ByteArray} {e : Bool} (he : (a.toList == b.toList) = e) : decide (enc a.data.toList = enc b.data.toList) = e := by
  rw [← he, Lib.toList_data, Lib.toList_data]
  by_cases h : a.data.toList = b.data.toList
  · rw [h, decide_eq_true rfl, beq_self_eq_true]
  · rw [decide_eq_false (fun h2 => h (hinj _ _ h2)), beq_eq_false_iff_ne.2 h]
set_option maxRecDepth 20000 in
set_option maxHeartbeats 8000000 in
theorem chunkKinds_walk {w : World} {A B : Option Addr} {L : List Vl} {o : Co} {c d : Nat} (h : Row w 0 w.heap.size A c L) (hd : Rd w 0 w.heap.size B d (iv o.draws) ∧ Word o.draws) (s : ByteArray) (hs9 : s.size ≤ 9223372036854775807) :
    Calls Tryz.prog 5 #[.slice A L.length c, .agg #[.int .i64 o.kind, .int .i64 o.block, .int .i64 o.rounds, .slice B o.draws.length d], .string s] w fun e w' => e = .returned (.bool true) ∧ Below w.heap.size w w' := by
  obtain ⟨hdr, hwd⟩ := hd
  obtain ⟨hl, hm⟩ := h.len
  obtain ⟨kd, bl, ro, ds⟩ := o
  simp only at hdr hwd ⊢
  have hdl := hdr.len
  have hdm := hdr.cap
  rw [iv_length] at hdl
  obtain ⟨w1, hw1⟩ : ∃ w1, w.alloc (.cells #[.int .i64 kd, .int .i64 bl, .int .i64 ro, .slice B ds.length d] 25) = w1 := ⟨_, rfl⟩
  have B1 : Hid (Below w.heap.size w w1) := by unfold Hid; rw [← hw1]; exact (Below.refl _ w).alloc (Nat.le_refl _) _
  have hs1 : w.heap.size < w1.heap.size := by rw [← hw1]; simp
  have hbx : Blk w1 w.heap.size 25 #[.int .i64 kd, .int .i64 bl, .int .i64 ro, .slice B ds.length d] := by rw [← hw1]; exact Blk.new w _ _
  have HBX := Lib.hid hbx
  have HR : Hid (∀ W, Below w.heap.size w W → Row W 0 W.heap.size A c L) := fun W hW => (h.below hW (Nat.le_refl _)).wide (Nat.le_refl _) hW.size
  have HD : Hid (∀ W, Below w.heap.size w W → Rd W 0 W.heap.size B d (iv ds)) := fun W hW => (hdr.below hW (Nat.le_refl _)).wide (Nat.le_refl _) hW.size
  have HWD := Lib.hid hwd
  have HCF : Hid (∀ W, Below w1.heap.size w1 W → W.cell? ⟨w.heap.size, 0, none⟩ = some (.int .i64 kd) ∧ W.cell? ⟨w.heap.size, 1, none⟩ = some (.int .i64 bl) ∧ W.cell? ⟨w.heap.size, 2, none⟩ = some (.int .i64 ro) ∧ W.cell? ⟨w.heap.size, 3, none⟩ = some (.slice B ds.length d)) := fun W hW => ⟨(hbx.below hW hs1).cell 0, (hbx.below hW hs1).cell 1, (hbx.below hW hs1).cell 2, (hbx.below hW hs1).cell 3⟩
  have HAW := Lib.hid (awake_any17 (w := w1))
  clear h hdr hwd hbx
  go_enter Tryz.func5, Tryz.ntmps5
  go_wp2_with fail
  clear hw1
  refine HAW.out.mono ?_
  rintro r w2 ⟨rfl, hb2⟩
  have B2 : Hid (Below w1.heap.size w1 w2) := hb2
  have BW2 : Hid (Below w.heap.size w w2) := B1.out.trans (hb2.mono (Nat.le_of_lt hs1))
  have HFW := Lib.hid (refFew_v (w := w2) L (HR.out w2 BW2.out))
  obtain ⟨e0, e1, e2, e3⟩ := HCF.out w2 hb2
  have HAW2 := Lib.hid (awake_any17 (w := w2))
  have hsz2 := hb2.size
  clear hb2 HAW
  go_wp2_with fail
  refine HFW.out.mono ?_
  rintro r w3 ⟨⟨b, rfl, hbf⟩, rfl⟩
  clear HFW
  cases b with
  | false =>
    go_wp2_with fail
    refine HAW2.out.mono ?_
    rintro r w4 ⟨rfl, hb4⟩
    go_wp2_with fail
    go_ret
    exact ⟨rfl, BW2.out.trans (hb4.mono BW2.out.size)⟩
  | true =>
    obtain ⟨hL, hsum⟩ := hbf rfl
    by_cases hds : ds.length ≤ 60
    · have ids : ¬ (60 : Int) < (ds.length : Int) := by omega
      have HIN : Hid (∀ W, Below w.heap.size w W → CIn W L kd bl ro ds A B c d) := fun W hW => ⟨HR.out W hW, HD.out W hW, HWD.out, by omega⟩
      by_cases hss : s.size ≤ 500
      · have iss : ¬ (500 : Int) < (s.size : Int) := by omega
        by_cases hmb : MayBe L ⟨kd, bl, ro, ds⟩
        · have HC := Lib.hid (code_yes (HIN.out w2 BW2.out) (o := ⟨kd, bl, ro, ds⟩) rfl hmb)
          obtain ⟨CL, hCL⟩ : ∃ CL, codeL L ⟨kd, bl, ro, ds⟩ = CL := ⟨_, rfl⟩
          rw [hCL] at HC
          go_wp2_with fail
          refine HC.out.mono ?_
          rintro r w3 ⟨A3, c3, rfl, ho3, hb3, htb⟩
          have HO := Lib.hid (open_code hmb.1 hmb.2 htb)
          have HKD : Hid (((chkOf L ⟨kd, bl, ro, ds⟩).kind : Int) = kindK (textsL L) ⟨kd, bl, ro, ds⟩) := chkOf_kind hmb.2
          rw [hCL] at HO
          have HTB := Lib.hid htb
          have HLL : Hid (CL.length ≤ 1000000) := by rw [← hCL]; exact code_len hmb.1 hmb.2 htb hL (hsum hmb.1)
          have B3 : Hid (Below w1.heap.size w1 w3) := B2.out.trans (hb3.mono hsz2)
          have BW3 : Hid (Below w.heap.size w w3) := B1.out.trans (B3.out.mono (Nat.le_of_lt hs1))
          have HN := Lib.hid (new_any CL w3 (Rd.of_own ho3) (by have := HLL.out; omega))
          clear ho3 hb3 HC htb hCL
          go_wp2_with fail
          refine HN.out.mono ?_
          rintro r w4 ⟨g, rfl, hcu, hb4⟩
          have B4 : Hid (Below w3.heap.size w3 w4) := hb4
          have hs4 := hb4.size
          have hgb := hcu.base
          have HOP := Lib.hid (open_v hcu HLL.out)
          rw [HO.out] at HOP
          clear hcu hb4 HN
          go_wp2_with fail
          refine HOP.out.mono ?_
          rintro r w5 ⟨G, rfl, hG, hckm, -, hg5⟩
          have B5 : Hid (Below w3.heap.size w3 w5) := B4.out.grown hg5 hs4 (fun q hq => by cases hq; exact hgb)
          have BW5 : Hid (Below w.heap.size w w5) := BW3.out.trans (B5.out.mono BW3.out.size)
          have HCK := Lib.hid hckm
          clear hckm hg5 HOP HO hG hgb hs4
          by_cases h3 : kindK (textsL L) ⟨kd, bl, ro, ds⟩ = 3
          · have HDI := Lib.hid (kind_dic HCK.out hmb.1 h3 w5 (Below.refl _ _))
            have hck3 : (chkOf L ⟨kd, bl, ro, ds⟩).kind = 3 := by have := HKD.out; rw [h3] at this; omega
            have HC3 : Hid (∀ W, Below w5.heap.size w5 W → Calls Tryz.prog 29 #[.pointer (some ⟨G, 0, none⟩), .string s] W fun r w' => r = .returned (.tuple #[.slice none 0 0, .bool false]) ∧ Below W.heap.size W w') := fun W hW => coded_three (HCK.out.below hW) hck3 s
            have HKN : Hid (∀ W, Below w5.heap.size w5 W → Calls Tryz.prog 25 #[.pointer (some ⟨G, 0, none⟩)] W fun r w' => r = .returned (.int .i64 3) ∧ W = w') := fun W hW => by
              have := kind_v (HCK.out.below hW)
              rw [HKD.out, h3] at this
              exact this
            have HRN : Hid (∀ W, Below w5.heap.size w5 W → ∀ k (hk : k < L.length), Calls Tryz.prog 33 #[.pointer (some ⟨G, 0, none⟩), .int .i64 (k : Int)] W fun r w' => r = .returned (.slice none 0 0) ∧ W = w') := fun W hW k hk => by
              refine raw_none (HCK.out.below hW) ?_
              rw [chkOf_there, there_at hk]
              cases L[k].null
              · exact .inr ⟨rfl, hck3⟩
              · exact .inl rfl
            have HMB := Lib.hid hmb
            clear hmb h3 hck3 HKD HTB
            go_wp2_with fail
            refine HDI.out.mono ?_
            rintro r w6 ⟨dg, ys, A6, c6, cs, rfl, hdr6, hso, hcl, hrc, hca, hb6⟩
            have B6 : Hid (Below w5.heap.size w5 w6) := hb6
            have HDR := Lib.hid hdr6
            have HSO := Lib.hid hso
            have HCL2 := Lib.hid hcl
            have HRC : Hid (∀ W, Below w6.heap.size w6 W → Rd W 0 W.heap.size A6 c6 (iv cs)) := fun W hW => (hrc.below hW (Nat.le_refl _)).wide (Nat.zero_le _) hW.size
            have HCA := Lib.hid hca
            have HC3 := Lib.hid (HC3.out w6 hb6)
            have hs6 := hb6.size
            have hyl : ys.length ≤ 4096 := by
              have h1 := hso.len
              rw [bytL2_length, bytL2_length] at h1
              have := textsL_le L
              omega
            clear hdr6 hso hcl hrc hca hb6 HDI
            go_wp2_with fail
            refine HC3.out.mono ?_
            rintro r w7 ⟨rfl, hb7⟩
            have B67 : Hid (Below w6.heap.size w6 w7) := hb7
            have B7 : Hid (Below w5.heap.size w5 w7) := B6.out.trans (hb7.mono hs6)
            have BW7 : Hid (Below w.heap.size w w7) := BW5.out.trans (B7.out.mono BW5.out.size)
            have HK7 := Lib.hid (HKN.out w7 B7.out)
            have HPR := Lib.hid (refPresent_v (w := w7) L (HR.out w7 BW7.out) (by omega))
            clear hb7 HC3 HKN
            go_wp2_with fail
            refine HK7.out.mono ?_
            rintro r w8 ⟨rfl, rfl⟩
            clear HK7
            go_wp2_with fail
            refine HPR.out.mono ?_
            rintro r w8 ⟨A8, c8, A9, c9, rfl, -, ho8, hb8⟩
            have B68 : Hid (Below w6.heap.size w6 w8) := B67.out.trans (hb8.mono B67.out.size)
            have HLN := Lib.hid (flen_r (HDR.out.below B68.out))
            have hszt : ∀ x ∈ textsL L, x.size ≤ 100000 := fun x hx => by
              obtain ⟨v, hv, rfl⟩ := textsL_mem hx
              have := (HMB.out.1.2 v hv).1
              omega
            have htl := textsL_le L
            have HST := Lib.hid (refSorted_any (w := w8) (textsL L) ((Rd.of_own ho8).wide (Nat.zero_le _) (Nat.le_refl _)) hszt (by omega))
            have hs8 := B68.out.size
            clear ho8 hb8 HPR hszt htl
            go_wp2_with fail
            refine HLN.out.mono ?_
            rintro r w9 ⟨rfl, rfl⟩
            go_wp2_with fail
            refine HST.out.mono ?_
            rintro r w9 ⟨t, A10, c10, rfl, hst, -, -, hb9⟩
            have B69 : Hid (Below w6.heap.size w6 w9) := B68.out.trans (hb9.mono hs8)
            have htn : t.length = ys.length := by
              have := congrArg List.length (hst.one HSO.out)
              rw [bytL2_length, bytL2_length] at this
              exact this
            rw [htn]
            clear hst hb9 HLN HST htn
            go_wp2_with fail
            go_loopw [16] (fun i wr => ∃ k : Nat, k ≤ L.length ∧ i = .int .i64 (k : Int) ∧ Below w6.heap.size w6 wr) (fun i _ => L.length - (intOf i).toNat)
            case atStart => exact ⟨0, Nat.zero_le _, rfl, B69.out⟩
            case round =>
              clear B69
              obtain ⟨k, hk, rfl, hb⟩ := hrel
              have HB := Lib.hid hb
              have hszr := hb.size
              clear hb
              by_cases hlt : k < L.length
              · have ik : (k : Int) < (L.length : Int) := by omega
                have ik0 : (0 : Int) ≤ (k : Int) := by omega
                have B5r : Hid (Below w5.heap.size w5 wr) := B6.out.trans (HB.out.mono hs6)
                obtain ⟨b, off, hAe, _, hbl, hx0, hx1⟩ := (HR.out wr (BW5.out.trans (B5r.out.mono BW5.out.size))).get hlt
                subst hAe
                obtain ⟨b2, off2, hAe2, _, hbl2, hy0⟩ := (HRC.out wr HB.out).num (k := k) (by rw [HCL2.out]; exact hlt)
                subst hAe2
                have hcsk : cs[k]? = some (cs[k]'(by rw [HCL2.out]; exact hlt)) := List.getElem?_eq_getElem _
                obtain ⟨z, hz⟩ : ∃ z, cs[k]'(by rw [HCL2.out]; exact hlt) = z := ⟨_, rfl⟩
                rw [hz] at hy0 hcsk
                have HXC : Hid (∀ W, Below wr.heap.size wr W → W.cell? ⟨b, off + k * 2, none⟩ = some (.bool L[k].null) ∧ W.cell? ⟨b, off + k * 2 + 1, none⟩ = some (.string L[k].s) ∧ W.cell? ⟨b2, off2 + k, none⟩ = some (.int .i64 z)) := fun W hW => ⟨(hW.cell (p := ⟨b, off + k * 2, none⟩) hbl).trans hx0, (hW.cell (p := ⟨b, off + k * 2 + 1, none⟩) hbl).trans hx1, (hW.cell (p := ⟨b2, off2 + k, none⟩) hbl2).trans hy0⟩
                have HRK : Hid (∀ W, Below wr.heap.size wr W → Calls Tryz.prog 33 #[.pointer (some ⟨G, 0, none⟩), .int .i64 (k : Int)] W fun r w' => r = .returned (.slice none 0 0) ∧ W = w') := fun W hW => HRN.out W (B5r.out.trans (hW.mono B5r.out.size)) k hlt
                obtain ⟨hc1, hc2⟩ := HCA.out k hlt
                clear hx0 hx1 hy0 hz
                cases hnb : L[k].null with
                | true =>
                  rw [hnb] at HXC
                  have hz1 : z = -1 := by
                    have := hc1 hnb
                    rw [hcsk] at this
                    exact Option.some.inj this
                  subst hz1
                  clear hc1 hc2 hcsk hnb
                  generalize L[k].s = sk at *
                  go_wp2_with fail
                  have KD : Hid (Below wr.heap.size wr wr.drew) := (Below.refl _ _).drew
                  refine wp_region_held_drew (S := fun w' => Below wr.heap.size wr w') (by kernel_rfl) KD.out (fun hHeld => ?_)
                  refine wpAnyH_take (i := 0) (oi := _) (v := ?_) rfl (by kernel_rfl) (by kernel_rfl) (by kernel_rfl) (fun _ _ _ h => h) (Or.inl ⟨by rfl, ?_⟩) hHeld ?_
                  rotate_left
                  focus (intro W hSw; obtain ⟨q0, q1, q2⟩ := HXC.out W hSw; go_simp; try with_reducible rfl)
                  try simp only [List.getElem_toArray, List.getElem_cons_zero, List.getElem_cons_succ, Act.put, List.setIfInBounds_toArray, List.set_cons_zero, List.set_cons_succ]
                  refine wpAnyH_take (i := 1) (oi := _) (v := ?_) rfl (by kernel_rfl) (by kernel_rfl) (by kernel_rfl) (fun _ _ _ h => h) (Or.inl ⟨by rfl, ?_⟩) hHeld ?_
                  rotate_left
                  focus (intro W hSw; obtain ⟨q0, q1, q2⟩ := HXC.out W hSw; go_simp; try with_reducible rfl)
                  try simp only [List.getElem_toArray, List.getElem_cons_zero, List.getElem_cons_succ, Act.put, List.setIfInBounds_toArray, List.set_cons_zero, List.set_cons_succ]
                  refine wpAnyH_take (i := 2) (oi := _) (v := ?_) rfl (by kernel_rfl) (by kernel_rfl) (by kernel_rfl) (fun _ _ _ h => h) (Or.inl ⟨by rfl, ?_⟩) hHeld ?_
                  rotate_left
                  focus (intro W hSw; obtain ⟨q0, q1, q2⟩ := HXC.out W hSw; go_simp; try with_reducible rfl)
                  try simp only [List.getElem_toArray, List.getElem_cons_zero, List.getElem_cons_succ, Act.put, List.setIfInBounds_toArray, List.set_cons_zero, List.set_cons_succ]
                  refine wpAnyH_take (i := 3) (oi := _) (v := ?_) rfl (by kernel_rfl) (by kernel_rfl) (by kernel_rfl) (fun _ _ _ h => h) (Or.inl ⟨by rfl, ?_⟩) hHeld ?_
                  rotate_left
                  focus (intro W hSw; obtain ⟨q0, q1, q2⟩ := HXC.out W hSw; go_simp; try with_reducible rfl)
                  try simp only [List.getElem_toArray, List.getElem_cons_zero, List.getElem_cons_succ, Act.put, List.setIfInBounds_toArray, List.set_cons_zero, List.set_cons_succ]
                  refine wpAnyH_take (i := 4) (oi := _) (v := ?_) rfl (by kernel_rfl) (by kernel_rfl) (by kernel_rfl) (fun _ _ _ h => h) (Or.inl ⟨by rfl, ?_⟩) hHeld ?_
                  rotate_left
                  focus (intro W hSw; obtain ⟨q0, q1, q2⟩ := HXC.out W hSw; go_simp; try with_reducible rfl)
                  try simp only [List.getElem_toArray, List.getElem_cons_zero, List.getElem_cons_succ, Act.put, List.setIfInBounds_toArray, List.set_cons_zero, List.set_cons_succ]
                  refine wpAnyH_take (i := 5) (oi := _) (v := ?_) rfl (by kernel_rfl) (by kernel_rfl) (by kernel_rfl) (fun _ _ _ h => h) (Or.inl ⟨by rfl, ?_⟩) hHeld ?_
                  rotate_left
                  focus (intro W hSw; obtain ⟨q0, q1, q2⟩ := HXC.out W hSw; go_simp; try with_reducible rfl)
                  try simp only [List.getElem_toArray, List.getElem_cons_zero, List.getElem_cons_succ, Act.put, List.setIfInBounds_toArray, List.set_cons_zero, List.set_cons_succ]
                  refine wpAnyH_take (i := 6) (oi := _) (v := ?_) rfl (by kernel_rfl) (by kernel_rfl) (by kernel_rfl) (fun _ _ _ h => h) (Or.inl ⟨by rfl, ?_⟩) hHeld ?_
                  rotate_left
                  focus (intro W hSw; obtain ⟨q0, q1, q2⟩ := HXC.out W hSw; go_simp; try with_reducible rfl)
                  try simp only [List.getElem_toArray, List.getElem_cons_zero, List.getElem_cons_succ, Act.put, List.setIfInBounds_toArray, List.set_cons_zero, List.set_cons_succ]
                  refine wpAnyH_take (i := 7) (oi := _) (v := ?_) rfl (by kernel_rfl) (by kernel_rfl) (by kernel_rfl) (fun _ _ _ h => h) (Or.inl ⟨by rfl, ?_⟩) hHeld ?_
                  rotate_left
                  focus (intro W hSw; obtain ⟨q0, q1, q2⟩ := HXC.out W hSw; go_simp; try with_reducible rfl)
                  try simp only [List.getElem_toArray, List.getElem_cons_zero, List.getElem_cons_succ, Act.put, List.setIfInBounds_toArray, List.set_cons_zero, List.set_cons_succ]
                  refine wpAnyH_take (i := 8) (oi := _) (v := ?_) rfl (by kernel_rfl) (by kernel_rfl) (by kernel_rfl) (fun _ _ _ h => h) (Or.inl ⟨by rfl, ?_⟩) hHeld ?_
                  rotate_left
                  focus (intro W hSw; obtain ⟨q0, q1, q2⟩ := HXC.out W hSw; go_simp; try with_reducible rfl)
                  try simp only [List.getElem_toArray, List.getElem_cons_zero, List.getElem_cons_succ, Act.put, List.setIfInBounds_toArray, List.set_cons_zero, List.set_cons_succ]
                  refine wpAnyH_take (i := 9) (oi := _) (v := ?_) rfl (by kernel_rfl) (by kernel_rfl) (by kernel_rfl) (fun _ _ _ h => h) (Or.inl ⟨by rfl, ?_⟩) hHeld ?_
                  rotate_left
                  focus (intro W hSw; obtain ⟨q0, q1, q2⟩ := HXC.out W hSw; go_simp; try with_reducible rfl)
                  try simp only [List.getElem_toArray, List.getElem_cons_zero, List.getElem_cons_succ, Act.put, List.setIfInBounds_toArray, List.set_cons_zero, List.set_cons_succ]
                  refine wpAnyH_take (i := 10) (oi := _) (v := ?_) rfl (by kernel_rfl) (by kernel_rfl) (by kernel_rfl) (fun _ _ _ h => h) (Or.inl ⟨by rfl, ?_⟩) hHeld ?_
                  rotate_left
                  focus (intro W hSw; obtain ⟨q0, q1, q2⟩ := HXC.out W hSw; go_simp; try with_reducible rfl)
                  try simp only [List.getElem_toArray, List.getElem_cons_zero, List.getElem_cons_succ, Act.put, List.setIfInBounds_toArray, List.set_cons_zero, List.set_cons_succ]
                  refine wpAnyH_take (i := 11) (oi := _) (v := ?_) rfl (by kernel_rfl) (by kernel_rfl) (by kernel_rfl) (fun _ _ _ h => h) (Or.inl ⟨by rfl, ?_⟩) hHeld ?_
                  rotate_left
                  focus (intro W hSw; obtain ⟨q0, q1, q2⟩ := HXC.out W hSw; go_simp; try with_reducible rfl)
                  try simp only [List.getElem_toArray, List.getElem_cons_zero, List.getElem_cons_succ, Act.put, List.setIfInBounds_toArray, List.set_cons_zero, List.set_cons_succ]
                  refine wpAnyH_take (i := 12) (oi := _) (v := ?_) rfl (by kernel_rfl) (by kernel_rfl) (by kernel_rfl) (fun _ _ _ h => h) (Or.inl ⟨by rfl, ?_⟩) hHeld ?_
                  rotate_left
                  focus (intro W hSw; obtain ⟨q0, q1, q2⟩ := HXC.out W hSw; go_simp; try with_reducible rfl)
                  try simp only [List.getElem_toArray, List.getElem_cons_zero, List.getElem_cons_succ, Act.put, List.setIfInBounds_toArray, List.set_cons_zero, List.set_cons_succ]
                  refine wpAnyH_take (i := 13) (oi := _) (v := ?_) rfl (by kernel_rfl) (by kernel_rfl) (by kernel_rfl) (fun _ _ _ h => h) (Or.inl ⟨by rfl, ?_⟩) hHeld ?_
                  rotate_left
                  focus (intro W hSw; obtain ⟨q0, q1, q2⟩ := HXC.out W hSw; go_simp; try with_reducible rfl)
                  try simp only [List.getElem_toArray, List.getElem_cons_zero, List.getElem_cons_succ, Act.put, List.setIfInBounds_toArray, List.set_cons_zero, List.set_cons_succ]
                  refine wpAnyH_take (i := 14) (oi := _) (v := ?_) rfl (by kernel_rfl) (by kernel_rfl) (by kernel_rfl) (fun _ _ _ h => h) (Or.inl ⟨by rfl, ?_⟩) hHeld ?_
                  rotate_left
                  focus (intro W hSw; obtain ⟨q0, q1, q2⟩ := HXC.out W hSw; go_simp; try with_reducible rfl)
                  try simp only [List.getElem_toArray, List.getElem_cons_zero, List.getElem_cons_succ, Act.put, List.setIfInBounds_toArray, List.set_cons_zero, List.set_cons_succ]
                  refine wpAnyH_take (i := 15) (oi := _) (v := ?_) rfl (by kernel_rfl) (by kernel_rfl) (by kernel_rfl) (fun _ _ _ h => h) (Or.inl ⟨by rfl, ?_⟩) hHeld ?_
                  rotate_left
                  focus (intro W hSw; obtain ⟨q0, q1, q2⟩ := HXC.out W hSw; go_simp; try with_reducible rfl)
                  try simp only [List.getElem_toArray, List.getElem_cons_zero, List.getElem_cons_succ, Act.put, List.setIfInBounds_toArray, List.set_cons_zero, List.set_cons_succ]
                  refine wpAnyH_take (i := 16) (oi := _) (v := ?_) rfl (by kernel_rfl) (by kernel_rfl) (by kernel_rfl) (fun _ _ _ h => h) (Or.inl ⟨by rfl, ?_⟩) hHeld ?_
                  rotate_left
                  focus (intro W hSw; obtain ⟨q0, q1, q2⟩ := HXC.out W hSw; go_simp; try with_reducible rfl)
                  try simp only [List.getElem_toArray, List.getElem_cons_zero, List.getElem_cons_succ, Act.put, List.setIfInBounds_toArray, List.set_cons_zero, List.set_cons_succ]
                  refine wpAnyH_take (i := 17) (oi := _) (v := ?_) rfl (by kernel_rfl) (by kernel_rfl) (by kernel_rfl) (fun _ _ _ h => h) (Or.inl ⟨by rfl, ?_⟩) hHeld ?_
                  rotate_left
                  focus (intro W hSw; obtain ⟨q0, q1, q2⟩ := HXC.out W hSw; go_simp; try with_reducible rfl)
                  try simp only [List.getElem_toArray, List.getElem_cons_zero, List.getElem_cons_succ, Act.put, List.setIfInBounds_toArray, List.set_cons_zero, List.set_cons_succ]
                  refine wpAnyH_take (i := 18) (oi := _) (v := undef) rfl (by kernel_rfl) (by kernel_rfl) (by kernel_rfl) (fun _ _ _ h => h) (Or.inr ⟨by rfl, rfl⟩) hHeld ?_
                  try simp only [List.getElem_toArray, List.getElem_cons_zero, List.getElem_cons_succ, Act.put, List.setIfInBounds_toArray, List.set_cons_zero, List.set_cons_succ]
                  refine wpAnyH_take (i := 19) (oi := _) (v := undef) rfl (by kernel_rfl) (by kernel_rfl) (by kernel_rfl) (fun _ _ _ h => h) (Or.inr ⟨by rfl, rfl⟩) hHeld ?_
                  try simp only [List.getElem_toArray, List.getElem_cons_zero, List.getElem_cons_succ, Act.put, List.setIfInBounds_toArray, List.set_cons_zero, List.set_cons_succ]
                  refine wpAnyH_take (i := 20) (oi := _) (v := undef) rfl (by kernel_rfl) (by kernel_rfl) (by kernel_rfl) (fun _ _ _ h => h) (Or.inr ⟨by rfl, rfl⟩) hHeld ?_
                  try simp only [List.getElem_toArray, List.getElem_cons_zero, List.getElem_cons_succ, Act.put, List.setIfInBounds_toArray, List.set_cons_zero, List.set_cons_succ]
                  refine wpAnyH_take (i := 21) (oi := _) (v := undef) rfl (by kernel_rfl) (by kernel_rfl) (by kernel_rfl) (fun _ _ _ h => h) (Or.inr ⟨by rfl, rfl⟩) hHeld ?_
                  try simp only [List.getElem_toArray, List.getElem_cons_zero, List.getElem_cons_succ, Act.put, List.setIfInBounds_toArray, List.set_cons_zero, List.set_cons_succ]
                  refine wpAnyH_take (i := 22) (oi := _) (v := undef) rfl (by kernel_rfl) (by kernel_rfl) (by kernel_rfl) (fun _ _ _ h => h) (Or.inr ⟨by rfl, rfl⟩) hHeld ?_
                  try simp only [List.getElem_toArray, List.getElem_cons_zero, List.getElem_cons_succ, Act.put, List.setIfInBounds_toArray, List.set_cons_zero, List.set_cons_succ]
                  refine wpAnyH_take (i := 23) (oi := _) (v := undef) rfl (by kernel_rfl) (by kernel_rfl) (by kernel_rfl) (fun _ _ _ h => h) (Or.inr ⟨by rfl, rfl⟩) hHeld ?_
                  try simp only [List.getElem_toArray, List.getElem_cons_zero, List.getElem_cons_succ, Act.put, List.setIfInBounds_toArray, List.set_cons_zero, List.set_cons_succ]
                  refine wpAnyH_take (i := 24) (oi := _) (v := undef) rfl (by kernel_rfl) (by kernel_rfl) (by kernel_rfl) (fun _ _ _ h => h) (Or.inr ⟨by rfl, rfl⟩) hHeld ?_
                  try simp only [List.getElem_toArray, List.getElem_cons_zero, List.getElem_cons_succ, Act.put, List.setIfInBounds_toArray, List.set_cons_zero, List.set_cons_succ]
                  refine wpAnyH_take (i := 25) (oi := _) (v := undef) rfl (by kernel_rfl) (by kernel_rfl) (by kernel_rfl) (fun _ _ _ h => h) (Or.inr ⟨by rfl, rfl⟩) hHeld ?_
                  try simp only [List.getElem_toArray, List.getElem_cons_zero, List.getElem_cons_succ, Act.put, List.setIfInBounds_toArray, List.set_cons_zero, List.set_cons_succ]
                  refine wpAnyH_take (i := 26) (oi := _) (v := undef) rfl (by kernel_rfl) (by kernel_rfl) (by kernel_rfl) (fun _ _ _ h => h) (Or.inr ⟨by rfl, rfl⟩) hHeld ?_
                  try simp only [List.getElem_toArray, List.getElem_cons_zero, List.getElem_cons_succ, Act.put, List.setIfInBounds_toArray, List.set_cons_zero, List.set_cons_succ]
                  refine wpAnyH_take (i := 27) (oi := _) (v := undef) rfl (by kernel_rfl) (by kernel_rfl) (by kernel_rfl) (fun _ _ _ h => h) (Or.inr ⟨by rfl, rfl⟩) hHeld ?_
                  try simp only [List.getElem_toArray, List.getElem_cons_zero, List.getElem_cons_succ, Act.put, List.setIfInBounds_toArray, List.set_cons_zero, List.set_cons_succ]
                  refine wpAnyH_take (i := 28) (oi := _) (v := undef) rfl (by kernel_rfl) (by kernel_rfl) (by kernel_rfl) (fun _ _ _ h => h) (Or.inr ⟨by rfl, rfl⟩) hHeld ?_
                  try simp only [List.getElem_toArray, List.getElem_cons_zero, List.getElem_cons_succ, Act.put, List.setIfInBounds_toArray, List.set_cons_zero, List.set_cons_succ]
                  refine wpAnyH_take (i := 29) (oi := _) (v := undef) rfl (by kernel_rfl) (by kernel_rfl) (by kernel_rfl) (fun _ _ _ h => h) (Or.inr ⟨by rfl, rfl⟩) hHeld ?_
                  try simp only [List.getElem_toArray, List.getElem_cons_zero, List.getElem_cons_succ, Act.put, List.setIfInBounds_toArray, List.set_cons_zero, List.set_cons_succ]
                  refine wpAnyH_take (i := 30) (oi := _) (v := ?_) rfl (by kernel_rfl) (by kernel_rfl) (by kernel_rfl) (fun _ _ _ h => h) (Or.inl ⟨by rfl, ?_⟩) hHeld ?_
                  rotate_left
                  focus (intro W hSw; obtain ⟨q0, q1, q2⟩ := HXC.out W hSw; go_simp; try with_reducible rfl)
                  try simp only [List.getElem_toArray, List.getElem_cons_zero, List.getElem_cons_succ, Act.put, List.setIfInBounds_toArray, List.set_cons_zero, List.set_cons_succ]
                  refine wpAnyH_take (i := 31) (oi := _) (v := ?_) rfl (by kernel_rfl) (by kernel_rfl) (by kernel_rfl) (fun _ _ _ h => h) (Or.inl ⟨by rfl, ?_⟩) hHeld ?_
                  rotate_left
                  focus (intro W hSw; obtain ⟨q0, q1, q2⟩ := HXC.out W hSw; go_simp; try with_reducible rfl)
                  try simp only [List.getElem_toArray, List.getElem_cons_zero, List.getElem_cons_succ, Act.put, List.setIfInBounds_toArray, List.set_cons_zero, List.set_cons_succ]
                  refine wpAnyH_take (i := 32) (oi := _) (v := ?_) rfl (by kernel_rfl) (by kernel_rfl) (by kernel_rfl) (fun _ _ _ h => h) (Or.inl ⟨by rfl, ?_⟩) hHeld ?_
                  rotate_left
                  focus (intro W hSw; obtain ⟨q0, q1, q2⟩ := HXC.out W hSw; go_simp; try with_reducible rfl)
                  try simp only [List.getElem_toArray, List.getElem_cons_zero, List.getElem_cons_succ, Act.put, List.setIfInBounds_toArray, List.set_cons_zero, List.set_cons_succ]
                  refine wpAnyH_take (i := 33) (oi := _) (v := ?_) rfl (by kernel_rfl) (by kernel_rfl) (by kernel_rfl) (fun _ _ _ h => h) (Or.inl ⟨by rfl, ?_⟩) hHeld ?_
                  rotate_left
                  focus (intro W hSw; obtain ⟨q0, q1, q2⟩ := HXC.out W hSw; go_simp; try with_reducible rfl)
                  try simp only [List.getElem_toArray, List.getElem_cons_zero, List.getElem_cons_succ, Act.put, List.setIfInBounds_toArray, List.set_cons_zero, List.set_cons_succ]
                  refine wpAnyH_take (i := 34) (oi := _) (v := ?_) rfl (by kernel_rfl) (by kernel_rfl) (by kernel_rfl) (fun _ _ _ h => h) (Or.inl ⟨by rfl, ?_⟩) hHeld ?_
                  rotate_left
                  focus (intro W hSw; obtain ⟨q0, q1, q2⟩ := HXC.out W hSw; go_simp; try with_reducible rfl)
                  try simp only [List.getElem_toArray, List.getElem_cons_zero, List.getElem_cons_succ, Act.put, List.setIfInBounds_toArray, List.set_cons_zero, List.set_cons_succ]
                  obtain ⟨wd, hwd⟩ : ∃ q, wr.drew = q := ⟨_, rfl⟩
                  rw [hwd] at hHeld ⊢
                  clear KD hwd
                  have K_wd := Lib.hid hHeld
                  refine wpAnyH_ready (rs := [35]) (by kernel_rfl) (by simp) ?_
                  refine AllReadyH.cons (o := _) rfl (fun K hK => ?_) AllReadyH.nil
                  go_simp
                  refine (HRK.out _ K_wd.out).mono ?_
                  rintro r v1 ⟨rfl, he_v1⟩
                  have hb_v1 : Below wd.heap.size wd v1 := by rw [← he_v1]; exact Below.refl _ _
                  clear he_v1
                  have s_v1 : wd.heap.size ≤ v1.heap.size := hb_v1.size
                  have K_v1 : Hid (Below wr.heap.size wr v1) := Lib.hid (K_wd.out.trans (hb_v1.mono K_wd.out.size))
                  clear hb_v1
                  refine hK.out _ _ K_v1.out (fun hHeld => ?_)
                  clear hK K
                  try simp only [List.getElem_toArray, List.getElem_cons_zero, List.getElem_cons_succ, Act.put, List.setIfInBounds_toArray, List.set_cons_zero, List.set_cons_succ]
                  refine wpAnyH_take (i := 36) (oi := _) (v := ?_) rfl (by kernel_rfl) (by kernel_rfl) (by kernel_rfl) (fun _ _ _ h => h) (Or.inl ⟨by rfl, ?_⟩) hHeld ?_
                  rotate_left
                  focus (intro W hSw; obtain ⟨q0, q1, q2⟩ := HXC.out W hSw; go_simp; try with_reducible rfl)
                  try simp only [List.getElem_toArray, List.getElem_cons_zero, List.getElem_cons_succ, Act.put, List.setIfInBounds_toArray, List.set_cons_zero, List.set_cons_succ]
                  refine wpAnyH_take (i := 37) (oi := _) (v := ?_) rfl (by kernel_rfl) (by kernel_rfl) (by kernel_rfl) (fun _ _ _ h => h) (Or.inl ⟨by rfl, ?_⟩) hHeld ?_
                  rotate_left
                  focus (intro W hSw; obtain ⟨q0, q1, q2⟩ := HXC.out W hSw; go_simp; try with_reducible rfl)
                  try simp only [List.getElem_toArray, List.getElem_cons_zero, List.getElem_cons_succ, Act.put, List.setIfInBounds_toArray, List.set_cons_zero, List.set_cons_succ]
                  refine wpAnyH_take (i := 38) (oi := _) (v := ?_) rfl (by kernel_rfl) (by kernel_rfl) (by kernel_rfl) (fun _ _ _ h => h) (Or.inl ⟨by rfl, ?_⟩) hHeld ?_
                  rotate_left
                  focus (intro W hSw; obtain ⟨q0, q1, q2⟩ := HXC.out W hSw; go_simp; try with_reducible rfl)
                  try simp only [List.getElem_toArray, List.getElem_cons_zero, List.getElem_cons_succ, Act.put, List.setIfInBounds_toArray, List.set_cons_zero, List.set_cons_succ]
                  refine wpAnyH_done (by kernel_rfl) ?_ _
                  have KG := K_v1
                  go_wp2_with fail
                  go_roundw
                  case rel => exact ⟨k + 1, by omega, by go_num, HB.out.trans (KG.out.mono hszr)⟩
                  case measure => simp [intOf]; omega
                | false =>
                  rw [hnb] at HXC
                  obtain ⟨n, hn, hz2, hyn⟩ := hc2 hnb
                  have hz1 : z = (n : Int) := by
                    rw [hcsk] at hz2
                    exact Option.some.inj hz2
                  subst hz1
                  have HAT : Hid (∀ W, Below wr.heap.size wr W → Calls Tryz.prog 32 #[.pointer (some ⟨dg, 0, none⟩), .int .i64 (n : Int)] W fun r w' => r = .returned (.string L[k].s) ∧ Below W.heap.size W w') := fun W hW => by
                    have hv : L[k].s.size ≤ 4096 := (HMB.out.1.2 _ (List.getElem_mem hlt)).1
                    have := fat_in_r (HDR.out.below (HB.out.trans (hW.mono hszr))) n hn (by rw [hyn]; omega)
                    rw [hyn] at this
                    exact this
                  have izn : ¬ (n : Int) < 0 := by omega
                  have izp : (0 : Int) ≤ (n : Int) := by omega
                  have hde : decide ((n : Int) < 0) = false := decide_eq_false izn
                  clear hc1 hc2 hcsk hnb hz2 hyn
                  generalize L[k].s = sk at *
                  go_wp2_with fail
                  have KD : Hid (Below wr.heap.size wr wr.drew) := (Below.refl _ _).drew
                  refine wp_region_held_drew (S := fun w' => Below wr.heap.size wr w') (by kernel_rfl) KD.out (fun hHeld => ?_)
                  refine wpAnyH_take (i := 0) (oi := _) (v := ?_) rfl (by kernel_rfl) (by kernel_rfl) (by kernel_rfl) (fun _ _ _ h => h) (Or.inl ⟨by rfl, ?_⟩) hHeld ?_
                  rotate_left
                  focus (intro W hSw; obtain ⟨q0, q1, q2⟩ := HXC.out W hSw; go_simp; try with_reducible rfl)
                  try simp only [List.getElem_toArray, List.getElem_cons_zero, List.getElem_cons_succ, Act.put, List.setIfInBounds_toArray, List.set_cons_zero, List.set_cons_succ]
                  refine wpAnyH_take (i := 1) (oi := _) (v := ?_) rfl (by kernel_rfl) (by kernel_rfl) (by kernel_rfl) (fun _ _ _ h => h) (Or.inl ⟨by rfl, ?_⟩) hHeld ?_
                  rotate_left
                  focus (intro W hSw; obtain ⟨q0, q1, q2⟩ := HXC.out W hSw; go_simp; try with_reducible rfl)
                  try simp only [List.getElem_toArray, List.getElem_cons_zero, List.getElem_cons_succ, Act.put, List.setIfInBounds_toArray, List.set_cons_zero, List.set_cons_succ]
                  refine wpAnyH_take (i := 2) (oi := _) (v := ?_) rfl (by kernel_rfl) (by kernel_rfl) (by kernel_rfl) (fun _ _ _ h => h) (Or.inl ⟨by rfl, ?_⟩) hHeld ?_
                  rotate_left
                  focus (intro W hSw; obtain ⟨q0, q1, q2⟩ := HXC.out W hSw; go_simp; try with_reducible rfl)
                  try simp only [List.getElem_toArray, List.getElem_cons_zero, List.getElem_cons_succ, Act.put, List.setIfInBounds_toArray, List.set_cons_zero, List.set_cons_succ]
                  refine wpAnyH_take (i := 3) (oi := _) (v := ?_) rfl (by kernel_rfl) (by kernel_rfl) (by kernel_rfl) (fun _ _ _ h => h) (Or.inl ⟨by rfl, ?_⟩) hHeld ?_
                  rotate_left
                  focus (intro W hSw; obtain ⟨q0, q1, q2⟩ := HXC.out W hSw; go_simp; try with_reducible rfl)
                  try simp only [List.getElem_toArray, List.getElem_cons_zero, List.getElem_cons_succ, Act.put, List.setIfInBounds_toArray, List.set_cons_zero, List.set_cons_succ]
                  refine wpAnyH_take (i := 4) (oi := _) (v := ?_) rfl (by kernel_rfl) (by kernel_rfl) (by kernel_rfl) (fun _ _ _ h => h) (Or.inl ⟨by rfl, ?_⟩) hHeld ?_
                  rotate_left
                  focus (intro W hSw; obtain ⟨q0, q1, q2⟩ := HXC.out W hSw; go_simp; try with_reducible rfl)
                  try simp only [List.getElem_toArray, List.getElem_cons_zero, List.getElem_cons_succ, Act.put, List.setIfInBounds_toArray, List.set_cons_zero, List.set_cons_succ]
                  refine wpAnyH_take (i := 5) (oi := _) (v := ?_) rfl (by kernel_rfl) (by kernel_rfl) (by kernel_rfl) (fun _ _ _ h => h) (Or.inl ⟨by rfl, ?_⟩) hHeld ?_
                  rotate_left
                  focus (intro W hSw; obtain ⟨q0, q1, q2⟩ := HXC.out W hSw; go_simp; try with_reducible rfl)
                  try simp only [List.getElem_toArray, List.getElem_cons_zero, List.getElem_cons_succ, Act.put, List.setIfInBounds_toArray, List.set_cons_zero, List.set_cons_succ]
                  refine wpAnyH_take (i := 6) (oi := _) (v := ?_) rfl (by kernel_rfl) (by kernel_rfl) (by kernel_rfl) (fun _ _ _ h => h) (Or.inl ⟨by rfl, ?_⟩) hHeld ?_
                  rotate_left
                  focus (intro W hSw; obtain ⟨q0, q1, q2⟩ := HXC.out W hSw; go_simp; try with_reducible rfl)
                  try simp only [List.getElem_toArray, List.getElem_cons_zero, List.getElem_cons_succ, Act.put, List.setIfInBounds_toArray, List.set_cons_zero, List.set_cons_succ]
                  refine wpAnyH_take (i := 7) (oi := _) (v := ?_) rfl (by kernel_rfl) (by kernel_rfl) (by kernel_rfl) (fun _ _ _ h => h) (Or.inl ⟨by rfl, ?_⟩) hHeld ?_
                  rotate_left
                  focus (intro W hSw; obtain ⟨q0, q1, q2⟩ := HXC.out W hSw; go_simp; try with_reducible rfl)
                  try simp only [List.getElem_toArray, List.getElem_cons_zero, List.getElem_cons_succ, Act.put, List.setIfInBounds_toArray, List.set_cons_zero, List.set_cons_succ]
                  refine wpAnyH_take (i := 8) (oi := _) (v := ?_) rfl (by kernel_rfl) (by kernel_rfl) (by kernel_rfl) (fun _ _ _ h => h) (Or.inl ⟨by rfl, ?_⟩) hHeld ?_
                  rotate_left
                  focus (intro W hSw; obtain ⟨q0, q1, q2⟩ := HXC.out W hSw; go_simp; try with_reducible rfl)
                  try simp only [List.getElem_toArray, List.getElem_cons_zero, List.getElem_cons_succ, Act.put, List.setIfInBounds_toArray, List.set_cons_zero, List.set_cons_succ]
                  refine wpAnyH_take (i := 9) (oi := _) (v := ?_) rfl (by kernel_rfl) (by kernel_rfl) (by kernel_rfl) (fun _ _ _ h => h) (Or.inl ⟨by rfl, ?_⟩) hHeld ?_
                  rotate_left
                  focus (intro W hSw; obtain ⟨q0, q1, q2⟩ := HXC.out W hSw; go_simp; try with_reducible rfl)
                  try simp only [List.getElem_toArray, List.getElem_cons_zero, List.getElem_cons_succ, Act.put, List.setIfInBounds_toArray, List.set_cons_zero, List.set_cons_succ]
                  refine wpAnyH_take (i := 10) (oi := _) (v := ?_) rfl (by kernel_rfl) (by kernel_rfl) (by kernel_rfl) (fun _ _ _ h => h) (Or.inl ⟨by rfl, ?_⟩) hHeld ?_
                  rotate_left
                  focus (intro W hSw; obtain ⟨q0, q1, q2⟩ := HXC.out W hSw; go_simp; try with_reducible rfl)
                  try simp only [List.getElem_toArray, List.getElem_cons_zero, List.getElem_cons_succ, Act.put, List.setIfInBounds_toArray, List.set_cons_zero, List.set_cons_succ]
                  refine wpAnyH_take (i := 11) (oi := _) (v := ?_) rfl (by kernel_rfl) (by kernel_rfl) (by kernel_rfl) (fun _ _ _ h => h) (Or.inl ⟨by rfl, ?_⟩) hHeld ?_
                  rotate_left
                  focus (intro W hSw; obtain ⟨q0, q1, q2⟩ := HXC.out W hSw; go_simp; try with_reducible rfl)
                  try simp only [List.getElem_toArray, List.getElem_cons_zero, List.getElem_cons_succ, Act.put, List.setIfInBounds_toArray, List.set_cons_zero, List.set_cons_succ]
                  refine wpAnyH_take (i := 12) (oi := _) (v := ?_) rfl (by kernel_rfl) (by kernel_rfl) (by kernel_rfl) (fun _ _ _ h => h) (Or.inl ⟨by rfl, ?_⟩) hHeld ?_
                  rotate_left
                  focus (intro W hSw; obtain ⟨q0, q1, q2⟩ := HXC.out W hSw; go_simp; try with_reducible rfl)
                  try simp only [List.getElem_toArray, List.getElem_cons_zero, List.getElem_cons_succ, Act.put, List.setIfInBounds_toArray, List.set_cons_zero, List.set_cons_succ]
                  refine wpAnyH_take (i := 13) (oi := _) (v := ?_) rfl (by kernel_rfl) (by kernel_rfl) (by kernel_rfl) (fun _ _ _ h => h) (Or.inl ⟨by rfl, ?_⟩) hHeld ?_
                  rotate_left
                  focus (intro W hSw; obtain ⟨q0, q1, q2⟩ := HXC.out W hSw; go_simp; try with_reducible rfl)
                  try simp only [List.getElem_toArray, List.getElem_cons_zero, List.getElem_cons_succ, Act.put, List.setIfInBounds_toArray, List.set_cons_zero, List.set_cons_succ]
                  refine wpAnyH_take (i := 14) (oi := _) (v := ?_) rfl (by kernel_rfl) (by kernel_rfl) (by kernel_rfl) (fun _ _ _ h => h) (Or.inl ⟨by rfl, ?_⟩) hHeld ?_
                  rotate_left
                  focus (intro W hSw; obtain ⟨q0, q1, q2⟩ := HXC.out W hSw; go_simp; try with_reducible rfl)
                  try simp only [List.getElem_toArray, List.getElem_cons_zero, List.getElem_cons_succ, Act.put, List.setIfInBounds_toArray, List.set_cons_zero, List.set_cons_succ]
                  refine wpAnyH_take (i := 15) (oi := _) (v := ?_) rfl (by kernel_rfl) (by kernel_rfl) (by kernel_rfl) (fun _ _ _ h => h) (Or.inl ⟨by rfl, ?_⟩) hHeld ?_
                  rotate_left
                  focus (intro W hSw; obtain ⟨q0, q1, q2⟩ := HXC.out W hSw; go_simp; try with_reducible rfl)
                  try simp only [List.getElem_toArray, List.getElem_cons_zero, List.getElem_cons_succ, Act.put, List.setIfInBounds_toArray, List.set_cons_zero, List.set_cons_succ]
                  refine wpAnyH_take (i := 16) (oi := _) (v := ?_) rfl (by kernel_rfl) (by kernel_rfl) (by kernel_rfl) (fun _ _ _ h => h) (Or.inl ⟨by rfl, ?_⟩) hHeld ?_
                  rotate_left
                  focus (intro W hSw; obtain ⟨q0, q1, q2⟩ := HXC.out W hSw; go_simp; try with_reducible rfl)
                  try simp only [List.getElem_toArray, List.getElem_cons_zero, List.getElem_cons_succ, Act.put, List.setIfInBounds_toArray, List.set_cons_zero, List.set_cons_succ]
                  refine wpAnyH_take (i := 17) (oi := _) (v := ?_) rfl (by kernel_rfl) (by kernel_rfl) (by kernel_rfl) (fun _ _ _ h => h) (Or.inl ⟨by rfl, ?_⟩) hHeld ?_
                  rotate_left
                  focus (intro W hSw; obtain ⟨q0, q1, q2⟩ := HXC.out W hSw; go_simp; try with_reducible rfl)
                  try simp only [List.getElem_toArray, List.getElem_cons_zero, List.getElem_cons_succ, Act.put, List.setIfInBounds_toArray, List.set_cons_zero, List.set_cons_succ]
                  refine wpAnyH_take (i := 18) (oi := _) (v := ?_) rfl (by kernel_rfl) (by kernel_rfl) (by kernel_rfl) (fun _ _ _ h => h) (Or.inl ⟨by rfl, ?_⟩) hHeld ?_
                  rotate_left
                  focus (intro W hSw; obtain ⟨q0, q1, q2⟩ := HXC.out W hSw; go_simp; try with_reducible rfl)
                  try simp only [List.getElem_toArray, List.getElem_cons_zero, List.getElem_cons_succ, Act.put, List.setIfInBounds_toArray, List.set_cons_zero, List.set_cons_succ]
                  refine wpAnyH_take (i := 19) (oi := _) (v := ?_) rfl (by kernel_rfl) (by kernel_rfl) (by kernel_rfl) (fun _ _ _ h => h) (Or.inl ⟨by rfl, ?_⟩) hHeld ?_
                  rotate_left
                  focus (intro W hSw; obtain ⟨q0, q1, q2⟩ := HXC.out W hSw; go_simp; try with_reducible rfl)
                  try simp only [List.getElem_toArray, List.getElem_cons_zero, List.getElem_cons_succ, Act.put, List.setIfInBounds_toArray, List.set_cons_zero, List.set_cons_succ]
                  refine wpAnyH_take (i := 20) (oi := _) (v := ?_) rfl (by kernel_rfl) (by kernel_rfl) (by kernel_rfl) (fun _ _ _ h => h) (Or.inl ⟨by rfl, ?_⟩) hHeld ?_
                  rotate_left
                  focus (intro W hSw; obtain ⟨q0, q1, q2⟩ := HXC.out W hSw; go_simp; try with_reducible rfl)
                  try simp only [List.getElem_toArray, List.getElem_cons_zero, List.getElem_cons_succ, Act.put, List.setIfInBounds_toArray, List.set_cons_zero, List.set_cons_succ]
                  refine wpAnyH_take (i := 21) (oi := _) (v := ?_) rfl (by kernel_rfl) (by kernel_rfl) (by kernel_rfl) (fun _ _ _ h => h) (Or.inl ⟨by rfl, ?_⟩) hHeld ?_
                  rotate_left
                  focus (intro W hSw; obtain ⟨q0, q1, q2⟩ := HXC.out W hSw; go_simp; try with_reducible rfl)
                  try simp only [List.getElem_toArray, List.getElem_cons_zero, List.getElem_cons_succ, Act.put, List.setIfInBounds_toArray, List.set_cons_zero, List.set_cons_succ]
                  refine wpAnyH_take (i := 22) (oi := _) (v := ?_) rfl (by kernel_rfl) (by kernel_rfl) (by kernel_rfl) (fun _ _ _ h => h) (Or.inl ⟨by rfl, ?_⟩) hHeld ?_
                  rotate_left
                  focus (intro W hSw; obtain ⟨q0, q1, q2⟩ := HXC.out W hSw; go_simp; try with_reducible rfl)
                  try simp only [List.getElem_toArray, List.getElem_cons_zero, List.getElem_cons_succ, Act.put, List.setIfInBounds_toArray, List.set_cons_zero, List.set_cons_succ]
                  refine wpAnyH_take (i := 24) (oi := _) (v := ?_) rfl (by kernel_rfl) (by kernel_rfl) (by kernel_rfl) (fun _ _ _ h => h) (Or.inl ⟨by rfl, ?_⟩) hHeld ?_
                  rotate_left
                  focus (intro W hSw; obtain ⟨q0, q1, q2⟩ := HXC.out W hSw; go_simp; try with_reducible rfl)
                  try simp only [List.getElem_toArray, List.getElem_cons_zero, List.getElem_cons_succ, Act.put, List.setIfInBounds_toArray, List.set_cons_zero, List.set_cons_succ]
                  refine wpAnyH_take (i := 25) (oi := _) (v := ?_) rfl (by kernel_rfl) (by kernel_rfl) (by kernel_rfl) (fun _ _ _ h => h) (Or.inl ⟨by rfl, ?_⟩) hHeld ?_
                  rotate_left
                  focus (intro W hSw; obtain ⟨q0, q1, q2⟩ := HXC.out W hSw; go_simp; try with_reducible rfl)
                  try simp only [List.getElem_toArray, List.getElem_cons_zero, List.getElem_cons_succ, Act.put, List.setIfInBounds_toArray, List.set_cons_zero, List.set_cons_succ]
                  refine wpAnyH_take (i := 26) (oi := _) (v := ?_) rfl (by kernel_rfl) (by kernel_rfl) (by kernel_rfl) (fun _ _ _ h => h) (Or.inl ⟨by rfl, ?_⟩) hHeld ?_
                  rotate_left
                  focus (intro W hSw; obtain ⟨q0, q1, q2⟩ := HXC.out W hSw; go_simp; try with_reducible rfl)
                  try simp only [List.getElem_toArray, List.getElem_cons_zero, List.getElem_cons_succ, Act.put, List.setIfInBounds_toArray, List.set_cons_zero, List.set_cons_succ]
                  refine wpAnyH_take (i := 27) (oi := _) (v := ?_) rfl (by kernel_rfl) (by kernel_rfl) (by kernel_rfl) (fun _ _ _ h => h) (Or.inl ⟨by rfl, ?_⟩) hHeld ?_
                  rotate_left
                  focus (intro W hSw; obtain ⟨q0, q1, q2⟩ := HXC.out W hSw; go_simp; try with_reducible rfl)
                  try simp only [List.getElem_toArray, List.getElem_cons_zero, List.getElem_cons_succ, Act.put, List.setIfInBounds_toArray, List.set_cons_zero, List.set_cons_succ]
                  refine wpAnyH_take (i := 28) (oi := _) (v := ?_) rfl (by kernel_rfl) (by kernel_rfl) (by kernel_rfl) (fun _ _ _ h => h) (Or.inl ⟨by rfl, ?_⟩) hHeld ?_
                  rotate_left
                  focus (intro W hSw; obtain ⟨q0, q1, q2⟩ := HXC.out W hSw; go_simp; try with_reducible rfl)
                  try simp only [List.getElem_toArray, List.getElem_cons_zero, List.getElem_cons_succ, Act.put, List.setIfInBounds_toArray, List.set_cons_zero, List.set_cons_succ]
                  obtain ⟨wd, hwd⟩ : ∃ q, wr.drew = q := ⟨_, rfl⟩
                  rw [hwd] at hHeld ⊢
                  clear KD hwd
                  have K_wd := Lib.hid hHeld
                  refine wpAnyH_ready (rs := [23]) (by kernel_rfl) (by simp) ?_
                  refine AllReadyH.cons (o := _) rfl (fun K hK => ?_) AllReadyH.nil
                  go_simp
                  refine (HAT.out _ K_wd.out).mono ?_
                  rintro r v1 ⟨rfl, hb_v1⟩
                  have s_v1 : wd.heap.size ≤ v1.heap.size := hb_v1.size
                  have K_v1 : Hid (Below wr.heap.size wr v1) := Lib.hid (K_wd.out.trans (hb_v1.mono K_wd.out.size))
                  clear hb_v1
                  refine hK.out _ _ K_v1.out (fun hHeld => ?_)
                  clear hK K
                  try simp only [List.getElem_toArray, List.getElem_cons_zero, List.getElem_cons_succ, Act.put, List.setIfInBounds_toArray, List.set_cons_zero, List.set_cons_succ]
                  refine wpAnyH_take (i := 29) (oi := _) (v := ?_) rfl (by kernel_rfl) (by kernel_rfl) (by kernel_rfl) (fun _ _ _ h => h) (Or.inl ⟨by rfl, ?_⟩) hHeld ?_
                  rotate_left
                  focus (intro W hSw; obtain ⟨q0, q1, q2⟩ := HXC.out W hSw; go_simp; try with_reducible rfl)
                  try simp only [List.getElem_toArray, List.getElem_cons_zero, List.getElem_cons_succ, Act.put, List.setIfInBounds_toArray, List.set_cons_zero, List.set_cons_succ]
                  refine wpAnyH_take (i := 30) (oi := _) (v := ?_) rfl (by kernel_rfl) (by kernel_rfl) (by kernel_rfl) (fun _ _ _ h => h) (Or.inl ⟨by rfl, ?_⟩) hHeld ?_
                  rotate_left
                  focus (intro W hSw; obtain ⟨q0, q1, q2⟩ := HXC.out W hSw; go_simp; try with_reducible rfl)
                  try simp only [List.getElem_toArray, List.getElem_cons_zero, List.getElem_cons_succ, Act.put, List.setIfInBounds_toArray, List.set_cons_zero, List.set_cons_succ]
                  refine wpAnyH_take (i := 31) (oi := _) (v := ?_) rfl (by kernel_rfl) (by kernel_rfl) (by kernel_rfl) (fun _ _ _ h => h) (Or.inl ⟨by rfl, ?_⟩) hHeld ?_
                  rotate_left
                  focus (intro W hSw; obtain ⟨q0, q1, q2⟩ := HXC.out W hSw; go_simp; try with_reducible rfl)
                  try simp only [List.getElem_toArray, List.getElem_cons_zero, List.getElem_cons_succ, Act.put, List.setIfInBounds_toArray, List.set_cons_zero, List.set_cons_succ]
                  refine wpAnyH_take (i := 32) (oi := _) (v := ?_) rfl (by kernel_rfl) (by kernel_rfl) (by kernel_rfl) (fun _ _ _ h => h) (Or.inl ⟨by rfl, ?_⟩) hHeld ?_
                  rotate_left
                  focus (intro W hSw; obtain ⟨q0, q1, q2⟩ := HXC.out W hSw; go_simp; try with_reducible rfl)
                  try simp only [List.getElem_toArray, List.getElem_cons_zero, List.getElem_cons_succ, Act.put, List.setIfInBounds_toArray, List.set_cons_zero, List.set_cons_succ]
                  refine wpAnyH_take (i := 33) (oi := _) (v := ?_) rfl (by kernel_rfl) (by kernel_rfl) (by kernel_rfl) (fun _ _ _ h => h) (Or.inl ⟨by rfl, ?_⟩) hHeld ?_
                  rotate_left
                  focus (intro W hSw; obtain ⟨q0, q1, q2⟩ := HXC.out W hSw; go_simp; try with_reducible rfl)
                  try simp only [List.getElem_toArray, List.getElem_cons_zero, List.getElem_cons_succ, Act.put, List.setIfInBounds_toArray, List.set_cons_zero, List.set_cons_succ]
                  refine wpAnyH_take (i := 34) (oi := _) (v := ?_) rfl (by kernel_rfl) (by kernel_rfl) (by kernel_rfl) (fun _ _ _ h => h) (Or.inl ⟨by rfl, ?_⟩) hHeld ?_
                  rotate_left
                  focus (intro W hSw; obtain ⟨q0, q1, q2⟩ := HXC.out W hSw; go_simp; try with_reducible rfl)
                  try simp only [List.getElem_toArray, List.getElem_cons_zero, List.getElem_cons_succ, Act.put, List.setIfInBounds_toArray, List.set_cons_zero, List.set_cons_succ]
                  refine wpAnyH_ready (rs := [35]) (by kernel_rfl) (by simp) ?_
                  refine AllReadyH.cons (o := _) rfl (fun K hK => ?_) AllReadyH.nil
                  go_simp
                  refine (HRK.out _ K_v1.out).mono ?_
                  rintro r v2 ⟨rfl, he_v2⟩
                  have hb_v2 : Below v1.heap.size v1 v2 := by rw [← he_v2]; exact Below.refl _ _
                  clear he_v2
                  have s_v2 : v1.heap.size ≤ v2.heap.size := hb_v2.size
                  have K_v2 : Hid (Below wr.heap.size wr v2) := Lib.hid (K_v1.out.trans (hb_v2.mono K_v1.out.size))
                  clear hb_v2
                  refine hK.out _ _ K_v2.out (fun hHeld => ?_)
                  clear hK K
                  try simp only [List.getElem_toArray, List.getElem_cons_zero, List.getElem_cons_succ, Act.put, List.setIfInBounds_toArray, List.set_cons_zero, List.set_cons_succ]
                  refine wpAnyH_take (i := 36) (oi := _) (v := ?_) rfl (by kernel_rfl) (by kernel_rfl) (by kernel_rfl) (fun _ _ _ h => h) (Or.inl ⟨by rfl, ?_⟩) hHeld ?_
                  rotate_left
                  focus (intro W hSw; obtain ⟨q0, q1, q2⟩ := HXC.out W hSw; go_simp; try with_reducible rfl)
                  try simp only [List.getElem_toArray, List.getElem_cons_zero, List.getElem_cons_succ, Act.put, List.setIfInBounds_toArray, List.set_cons_zero, List.set_cons_succ]
                  refine wpAnyH_take (i := 37) (oi := _) (v := ?_) rfl (by kernel_rfl) (by kernel_rfl) (by kernel_rfl) (fun _ _ _ h => h) (Or.inl ⟨by rfl, ?_⟩) hHeld ?_
                  rotate_left
                  focus (intro W hSw; obtain ⟨q0, q1, q2⟩ := HXC.out W hSw; go_simp; try with_reducible rfl)
                  try simp only [List.getElem_toArray, List.getElem_cons_zero, List.getElem_cons_succ, Act.put, List.setIfInBounds_toArray, List.set_cons_zero, List.set_cons_succ]
                  refine wpAnyH_take (i := 38) (oi := _) (v := ?_) rfl (by kernel_rfl) (by kernel_rfl) (by kernel_rfl) (fun _ _ _ h => h) (Or.inl ⟨by rfl, ?_⟩) hHeld ?_
                  rotate_left
                  focus (intro W hSw; obtain ⟨q0, q1, q2⟩ := HXC.out W hSw; go_simp; try with_reducible rfl)
                  try simp only [List.getElem_toArray, List.getElem_cons_zero, List.getElem_cons_succ, Act.put, List.setIfInBounds_toArray, List.set_cons_zero, List.set_cons_succ]
                  refine wpAnyH_done (by kernel_rfl) ?_ _
                  have KG := K_v2
                  go_wp2_with fail
                  go_roundw
                  case rel => exact ⟨k + 1, by omega, by go_num, HB.out.trans (KG.out.mono hszr)⟩
                  case measure => simp [intOf]; omega
              · have ik : ¬ (k : Int) < (L.length : Int) := by omega
                have BWr : Hid (Below w.heap.size w wr) := BW5.out.trans ((B6.out.trans (HB.out.mono hs6)).mono BW5.out.size)
                go_wp2_with fail
                go_ret
                exact ⟨rfl, BWr.out⟩
          · obtain ⟨enc, hinj, hcod, hraw⟩ := kind_enc HCK.out hmb.1 hmb.2 HTB.out h3 s (by omega)
            have HINJ : Hid (∀ a b, enc a = enc b → a = b) := hinj
            have HCO := Lib.hid hcod
            have HRAW := Lib.hid hraw
            obtain ⟨kk, hkk⟩ : ∃ kk, (chkOf L ⟨kd, bl, ro, ds⟩).kind = kk := ⟨_, rfl⟩
            have hk3 : kk ≠ 3 := fun e => h3 (by have := HKD.out; rw [hkk, e] at this; exact this.symm)
            have HDN := Lib.hid (dict_no HCK.out (by rw [hkk]; exact hk3))
            have HKN : Hid (∀ W, Below w5.heap.size w5 W → Calls Tryz.prog 25 #[.pointer (some ⟨G, 0, none⟩)] W fun r w' => r = .returned (.int .i64 (kk : Int)) ∧ W = w') := fun W hW => by
              have := kind_v (HCK.out.below hW)
              rw [hkk] at this
              exact this
            have ik3 : ¬ (kk : Int) = 3 := by omega
            have ik3b : ((kk : Int) == 3) = false := beq_eq_false_iff_ne.2 ik3
            clear hinj hcod hraw hkk hmb h3 HKD HTB HCK hk3
            go_wp2_with fail
            refine HDN.out.mono ?_
            rintro r w6 ⟨rfl, hb6⟩
            have B6 : Hid (Below w5.heap.size w5 w6) := hb6
            have hs6 := hb6.size
            have HCOD := Lib.hid (HCO.out w6 hb6)
            clear hb6 HDN
            go_wp2_with fail
            refine HCOD.out.mono ?_
            rintro r w7 ⟨A7, c7, rfl, hr7, hb7⟩
            have B7 : Hid (Below w5.heap.size w5 w7) := B6.out.trans (hb7.mono hs6)
            have hs7 := B7.out.size
            have HR7 : Hid (∀ W, Below w7.heap.size w7 W → Rd W 0 W.heap.size A7 c7 (bv (enc s.data.toList))) := fun W hW => (hr7.below hW (Nat.le_refl _)).wide (Nat.zero_le _) hW.size
            have HK7 := Lib.hid (HKN.out w7 B7.out)
            obtain ⟨n7, hn7⟩ : ∃ n7, (enc s.data.toList).length = n7 := ⟨_, rfl⟩
            have HN7 := Lib.hid hn7
            rw [hn7]
            clear hr7 hb7 HCOD HKN hn7
            go_wp2_with fail
            refine HK7.out.mono ?_
            rintro r w8 ⟨rfl, rfl⟩
            clear HK7
            go_wp2_with fail
            go_loopw [17] (fun i wr => ∃ k : Nat, k ≤ L.length ∧ i = .int .i64 (k : Int) ∧ Below w7.heap.size w7 wr) (fun i _ => L.length - (intOf i).toNat)
            case atStart => exact ⟨0, Nat.zero_le _, rfl, Below.refl _ _⟩
            case round =>
              obtain ⟨k, hk, rfl, hb⟩ := hrel
              obtain ⟨wo, hwo⟩ : ∃ wo, wo = wr := ⟨_, rfl⟩
              subst hwo
              have HB := Lib.hid hb
              have hszr := hb.size
              clear hb
              by_cases hlt : k < L.length
              · have ik : (k : Int) < (L.length : Int) := by omega
                have ik0 : (0 : Int) ≤ (k : Int) := by omega
                have B5r : Hid (Below w5.heap.size w5 wo) := B7.out.trans (HB.out.mono hs7)
                have BWr : Hid (Below w.heap.size w wo) := BW5.out.trans (B5r.out.mono BW5.out.size)
                obtain ⟨b, off, hAe, _, hbl, hx0, hx1⟩ := (HR.out wo BWr.out).get hlt
                subst hAe
                have HXK : Hid (∀ W, Below wo.heap.size wo W → W.cell? ⟨b, off + k * 2, none⟩ = some (.bool L[k].null) ∧ W.cell? ⟨b, off + k * 2 + 1, none⟩ = some (.string L[k].s)) := fun W hW => ⟨(hW.cell (p := ⟨b, off + k * 2, none⟩) hbl).trans hx0, (hW.cell (p := ⟨b, off + k * 2 + 1, none⟩) hbl).trans hx1⟩
                cases hnb : L[k].null with
                | true =>
                  rw [hnb] at hx0
                  clear HXK hnb hx1
                  go_wp2_with fail
                  go_roundw
                  case rel => exact ⟨k + 1, by omega, by go_num, HB.out⟩
                  case measure => simp [intOf]; omega
                | false =>
                  rw [hnb] at hx0
                  rw [hnb] at HXK
                  obtain ⟨xk, hxk⟩ : ∃ xk, enc L[k].s.data.toList = xk := ⟨_, rfl⟩
                  obtain ⟨nk, hnk⟩ : ∃ nk, xk.length = nk := ⟨_, rfl⟩
                  have HRK : Hid (∀ W, Below wo.heap.size wo W → Calls Tryz.prog 33 #[.pointer (some ⟨G, 0, none⟩), .int .i64 (k : Int)] W fun r w' => ∃ A' c', r = .returned (.slice A' nk c') ∧ Rd w' W.heap.size w'.heap.size A' c' (bv xk) ∧ Below W.heap.size W w') := fun W hW => by
                    have := HRAW.out W (B5r.out.trans (hW.mono B5r.out.size)) k hlt hnb
                    rw [hxk, hnk] at this
                    exact this
                  obtain ⟨e, he⟩ : ∃ e, (L[k].s.toList == s.toList) = e := ⟨_, rfl⟩
                  have hdx : decide (xk = enc s.data.toList) = e := by rw [← hxk]; exact strs_alike HINJ.out he
                  have HSM : Hid (∀ W A' c', Below wo.heap.size wo W → Rd W 0 W.heap.size A' c' (bv xk) → Calls Tryz.prog 16 #[.slice A' nk c', .slice A7 n7 c7] W fun r w' => r = .returned (.bool e) ∧ W = w') := fun W A' c' hW hr => same_len _ _ _ hr (HR7.out W (HB.out.trans (hW.mono hszr))) hnk HN7.out hdx
                  have hee : (e != e) = false := bne_self_eq_false e
                  have HXE := Lib.hid hxk
                  have HNK := Lib.hid hnk
                  have HNB := Lib.hid hnb
                  clear hxk hnk hdx hnb hx1
                  obtain ⟨sk, hsk⟩ : ∃ sk, L[k].s = sk := ⟨_, rfl⟩
                  have HSK := Lib.hid hsk
                  rw [hsk] at he HXK HXE
                  clear hsk
                  go_wp2_with fail
                  have KD : Hid (Below wo.heap.size wo wo.drew) := (Below.refl _ _).drew
                  refine wp_region_held_drew (S := fun w' => Below wo.heap.size wo w') (by kernel_rfl) KD.out (fun hHeld => ?_)
                  refine wpAnyH_take (i := 0) (oi := _) (v := ?_) rfl (by kernel_rfl) (by kernel_rfl) (by kernel_rfl) (fun _ _ _ h => h) (Or.inl ⟨by rfl, ?_⟩) hHeld ?_
                  rotate_left
                  focus (intro W hSw; obtain ⟨q0, q1⟩ := HXK.out W hSw; go_simp; try with_reducible rfl)
                  try simp only [List.getElem_toArray, List.getElem_cons_zero, List.getElem_cons_succ, Act.put, List.setIfInBounds_toArray, List.set_cons_zero, List.set_cons_succ]
                  refine wpAnyH_take (i := 1) (oi := _) (v := ?_) rfl (by kernel_rfl) (by kernel_rfl) (by kernel_rfl) (fun _ _ _ h => h) (Or.inl ⟨by rfl, ?_⟩) hHeld ?_
                  rotate_left
                  focus (intro W hSw; obtain ⟨q0, q1⟩ := HXK.out W hSw; go_simp; try with_reducible rfl)
                  try simp only [List.getElem_toArray, List.getElem_cons_zero, List.getElem_cons_succ, Act.put, List.setIfInBounds_toArray, List.set_cons_zero, List.set_cons_succ]
                  refine wpAnyH_take (i := 3) (oi := _) (v := ?_) rfl (by kernel_rfl) (by kernel_rfl) (by kernel_rfl) (fun _ _ _ h => h) (Or.inl ⟨by rfl, ?_⟩) hHeld ?_
                  rotate_left
                  focus (intro W hSw; obtain ⟨q0, q1⟩ := HXK.out W hSw; go_simp; try with_reducible rfl)
                  try simp only [List.getElem_toArray, List.getElem_cons_zero, List.getElem_cons_succ, Act.put, List.setIfInBounds_toArray, List.set_cons_zero, List.set_cons_succ]
                  refine wpAnyH_take (i := 5) (oi := _) (v := ?_) rfl (by kernel_rfl) (by kernel_rfl) (by kernel_rfl) (fun _ _ _ h => h) (Or.inl ⟨by rfl, ?_⟩) hHeld ?_
                  rotate_left
                  focus (intro W hSw; obtain ⟨q0, q1⟩ := HXK.out W hSw; go_simp; try with_reducible rfl)
                  try simp only [List.getElem_toArray, List.getElem_cons_zero, List.getElem_cons_succ, Act.put, List.setIfInBounds_toArray, List.set_cons_zero, List.set_cons_succ]
                  refine wpAnyH_take (i := 6) (oi := _) (v := ?_) rfl (by kernel_rfl) (by kernel_rfl) (by kernel_rfl) (fun _ _ _ h => h) (Or.inl ⟨by rfl, ?_⟩) hHeld ?_
                  rotate_left
                  focus (intro W hSw; obtain ⟨q0, q1⟩ := HXK.out W hSw; go_simp; try with_reducible rfl)
                  try simp only [List.getElem_toArray, List.getElem_cons_zero, List.getElem_cons_succ, Act.put, List.setIfInBounds_toArray, List.set_cons_zero, List.set_cons_succ]
                  refine wpAnyH_take (i := 7) (oi := _) (v := ?_) rfl (by kernel_rfl) (by kernel_rfl) (by kernel_rfl) (fun _ _ _ h => h) (Or.inl ⟨by rfl, ?_⟩) hHeld ?_
                  rotate_left
                  focus (intro W hSw; obtain ⟨q0, q1⟩ := HXK.out W hSw; go_simp; try with_reducible rfl)
                  try simp only [List.getElem_toArray, List.getElem_cons_zero, List.getElem_cons_succ, Act.put, List.setIfInBounds_toArray, List.set_cons_zero, List.set_cons_succ]
                  refine wpAnyH_take (i := 8) (oi := _) (v := ?_) rfl (by kernel_rfl) (by kernel_rfl) (by kernel_rfl) (fun _ _ _ h => h) (Or.inl ⟨by rfl, ?_⟩) hHeld ?_
                  rotate_left
                  focus (intro W hSw; obtain ⟨q0, q1⟩ := HXK.out W hSw; go_simp; try with_reducible rfl)
                  try simp only [List.getElem_toArray, List.getElem_cons_zero, List.getElem_cons_succ, Act.put, List.setIfInBounds_toArray, List.set_cons_zero, List.set_cons_succ]
                  refine wpAnyH_take (i := 9) (oi := _) (v := ?_) rfl (by kernel_rfl) (by kernel_rfl) (by kernel_rfl) (fun _ _ _ h => h) (Or.inl ⟨by rfl, ?_⟩) hHeld ?_
                  rotate_left
                  focus (intro W hSw; obtain ⟨q0, q1⟩ := HXK.out W hSw; go_simp; try with_reducible rfl)
                  try simp only [List.getElem_toArray, List.getElem_cons_zero, List.getElem_cons_succ, Act.put, List.setIfInBounds_toArray, List.set_cons_zero, List.set_cons_succ]
                  refine wpAnyH_take (i := 10) (oi := _) (v := ?_) rfl (by kernel_rfl) (by kernel_rfl) (by kernel_rfl) (fun _ _ _ h => h) (Or.inl ⟨by rfl, ?_⟩) hHeld ?_
                  rotate_left
                  focus (intro W hSw; obtain ⟨q0, q1⟩ := HXK.out W hSw; go_simp; try with_reducible rfl)
                  try simp only [List.getElem_toArray, List.getElem_cons_zero, List.getElem_cons_succ, Act.put, List.setIfInBounds_toArray, List.set_cons_zero, List.set_cons_succ]
                  refine wpAnyH_take (i := 11) (oi := _) (v := ?_) rfl (by kernel_rfl) (by kernel_rfl) (by kernel_rfl) (fun _ _ _ h => h) (Or.inl ⟨by rfl, ?_⟩) hHeld ?_
                  rotate_left
                  focus (intro W hSw; obtain ⟨q0, q1⟩ := HXK.out W hSw; go_simp; try with_reducible rfl)
                  try simp only [List.getElem_toArray, List.getElem_cons_zero, List.getElem_cons_succ, Act.put, List.setIfInBounds_toArray, List.set_cons_zero, List.set_cons_succ]
                  obtain ⟨wd, hwd⟩ : ∃ q, wo.drew = q := ⟨_, rfl⟩
                  rw [hwd] at hHeld ⊢
                  clear KD hwd
                  have K_wd := Lib.hid hHeld
                  refine wpAnyH_ready (rs := [2]) (by kernel_rfl) (by simp) ?_
                  refine AllReadyH.cons (o := _) rfl (fun K hK => ?_) AllReadyH.nil
                  go_simp
                  refine (HRK.out _ K_wd.out).mono ?_
                  rintro r v1 ⟨Aa, ca, rfl, hra, hb_v1⟩
                  have s_v1 : wd.heap.size ≤ v1.heap.size := hb_v1.size
                  have K_v1 : Hid (Below wo.heap.size wo v1) := Lib.hid (K_wd.out.trans (hb_v1.mono K_wd.out.size))
                  have Ha_v1 : Hid (Rd v1 0 v1.heap.size Aa ca (bv xk)) := hra.wide (Nat.zero_le _) (Nat.le_refl _)
                  clear hb_v1
                  clear hra
                  refine hK.out _ _ K_v1.out (fun hHeld => ?_)
                  clear hK K
                  try simp only [List.getElem_toArray, List.getElem_cons_zero, List.getElem_cons_succ, Act.put, List.setIfInBounds_toArray, List.set_cons_zero, List.set_cons_succ]
                  refine wpAnyH_ready (rs := [4]) (by kernel_rfl) (by simp) ?_
                  refine AllReadyH.cons (o := _) rfl (fun K hK => ?_) AllReadyH.nil
                  go_simp
                  refine (HSM.out _ _ _ K_v1.out Ha_v1.out).mono ?_
                  rintro r v2 ⟨rfl, he_v2⟩
                  have hb_v2 : Below v1.heap.size v1 v2 := by rw [← he_v2]; exact Below.refl _ _
                  clear he_v2
                  have s_v2 : v1.heap.size ≤ v2.heap.size := hb_v2.size
                  have K_v2 : Hid (Below wo.heap.size wo v2) := Lib.hid (K_v1.out.trans (hb_v2.mono K_v1.out.size))
                  have Ha_v2 : Hid (Rd v2 0 v2.heap.size Aa ca (bv xk)) := (Ha_v1.out.below hb_v2 (Nat.le_refl _)).wide (Nat.le_refl _) hb_v2.size
                  clear hb_v2
                  refine hK.out _ _ K_v2.out (fun hHeld => ?_)
                  clear hK K
                  try simp only [List.getElem_toArray, List.getElem_cons_zero, List.getElem_cons_succ, Act.put, List.setIfInBounds_toArray, List.set_cons_zero, List.set_cons_succ]
                  refine wpAnyH_take (i := 12) (oi := _) (v := ?_) rfl (by kernel_rfl) (by kernel_rfl) (by kernel_rfl) (fun _ _ _ h => h) (Or.inl ⟨by rfl, ?_⟩) hHeld ?_
                  rotate_left
                  focus (intro W hSw; obtain ⟨q0, q1⟩ := HXK.out W hSw; go_simp; try with_reducible rfl)
                  try simp only [List.getElem_toArray, List.getElem_cons_zero, List.getElem_cons_succ, Act.put, List.setIfInBounds_toArray, List.set_cons_zero, List.set_cons_succ]
                  refine wpAnyH_done (by kernel_rfl) ?_ _
                  have KF := K_v2
                  clear HSM
                  go_wp2_with fail
                  go_loopw [18] (fun i wr => ∃ j : Nat, j ≤ k ∧ i = .int .i64 (j : Int) ∧ Below wo.heap.size wo wr) (fun i _ => k - (intOf i).toNat)
                  case atStart => exact ⟨0, Nat.zero_le _, rfl, KF.out⟩
                  case round =>
                    clear KF
                    obtain ⟨j, hj, rfl, hbi⟩ := hrel
                    have HWI := Lib.hid hbi
                    have HBI : Hid (Below wo.heap.size wo wr) := hbi
                    have hszi := hbi.size
                    clear hbi
                    by_cases hjk : j < k
                    · have ij : (j : Int) < (k : Int) := by omega
                      have ij0 : (0 : Int) ≤ (j : Int) := by omega
                      have ijl : (j : Int) < (L.length : Int) := by omega
                      have hjl : j < L.length := by omega
                      obtain ⟨b', off', hAe, _, hbl2, hy0, hy1⟩ := (HR.out wr (BWr.out.trans (HWI.out.mono BWr.out.size))).get hjl
                      injection hAe with hAe
                      injection hAe with h1 h2
                      subst h1 h2
                      have HXJ : Hid (∀ W, Below wr.heap.size wr W → W.cell? ⟨b, off + j * 2, none⟩ = some (.bool L[j].null) ∧ W.cell? ⟨b, off + j * 2 + 1, none⟩ = some (.string L[j].s)) := fun W hW => ⟨(hW.cell (p := ⟨b, off + j * 2, none⟩) hbl2).trans hy0, (hW.cell (p := ⟨b, off + j * 2 + 1, none⟩) hbl2).trans hy1⟩
                      clear hy0 hy1
                      cases hnj : L[j].null with
                      | true =>
                        rw [hnj] at HXJ
                        clear hnj
                        generalize L[j].s = sj at *
                        go_wp2_with fail
                        have KD : Hid (Below wr.heap.size wr wr.drew) := (Below.refl _ _).drew
                        refine wp_region_held_drew (S := fun w' => Below wr.heap.size wr w') (by kernel_rfl) KD.out (fun hHeld => ?_)
                        refine wpAnyH_take (i := 0) (oi := _) (v := ?_) rfl (by kernel_rfl) (by kernel_rfl) (by kernel_rfl) (fun _ _ _ h => h) (Or.inl ⟨by rfl, ?_⟩) hHeld ?_
                        rotate_left
                        focus (intro W hSw; obtain ⟨q0, q1⟩ := HXK.out W (HWI.out.trans (hSw.mono HWI.out.size)); obtain ⟨q2, q3⟩ := HXJ.out W hSw; go_simp; try with_reducible rfl)
                        try simp only [List.getElem_toArray, List.getElem_cons_zero, List.getElem_cons_succ, Act.put, List.setIfInBounds_toArray, List.set_cons_zero, List.set_cons_succ]
                        refine wpAnyH_take (i := 1) (oi := _) (v := ?_) rfl (by kernel_rfl) (by kernel_rfl) (by kernel_rfl) (fun _ _ _ h => h) (Or.inl ⟨by rfl, ?_⟩) hHeld ?_
                        rotate_left
                        focus (intro W hSw; obtain ⟨q0, q1⟩ := HXK.out W (HWI.out.trans (hSw.mono HWI.out.size)); obtain ⟨q2, q3⟩ := HXJ.out W hSw; go_simp; try with_reducible rfl)
                        try simp only [List.getElem_toArray, List.getElem_cons_zero, List.getElem_cons_succ, Act.put, List.setIfInBounds_toArray, List.set_cons_zero, List.set_cons_succ]
                        refine wpAnyH_take (i := 2) (oi := _) (v := ?_) rfl (by kernel_rfl) (by kernel_rfl) (by kernel_rfl) (fun _ _ _ h => h) (Or.inl ⟨by rfl, ?_⟩) hHeld ?_
                        rotate_left
                        focus (intro W hSw; obtain ⟨q0, q1⟩ := HXK.out W (HWI.out.trans (hSw.mono HWI.out.size)); obtain ⟨q2, q3⟩ := HXJ.out W hSw; go_simp; try with_reducible rfl)
                        try simp only [List.getElem_toArray, List.getElem_cons_zero, List.getElem_cons_succ, Act.put, List.setIfInBounds_toArray, List.set_cons_zero, List.set_cons_succ]
                        refine wpAnyH_take (i := 3) (oi := _) (v := ?_) rfl (by kernel_rfl) (by kernel_rfl) (by kernel_rfl) (fun _ _ _ h => h) (Or.inl ⟨by rfl, ?_⟩) hHeld ?_
                        rotate_left
                        focus (intro W hSw; obtain ⟨q0, q1⟩ := HXK.out W (HWI.out.trans (hSw.mono HWI.out.size)); obtain ⟨q2, q3⟩ := HXJ.out W hSw; go_simp; try with_reducible rfl)
                        try simp only [List.getElem_toArray, List.getElem_cons_zero, List.getElem_cons_succ, Act.put, List.setIfInBounds_toArray, List.set_cons_zero, List.set_cons_succ]
                        refine wpAnyH_take (i := 4) (oi := _) (v := ?_) rfl (by kernel_rfl) (by kernel_rfl) (by kernel_rfl) (fun _ _ _ h => h) (Or.inl ⟨by rfl, ?_⟩) hHeld ?_
                        rotate_left
                        focus (intro W hSw; obtain ⟨q0, q1⟩ := HXK.out W (HWI.out.trans (hSw.mono HWI.out.size)); obtain ⟨q2, q3⟩ := HXJ.out W hSw; go_simp; try with_reducible rfl)
                        try simp only [List.getElem_toArray, List.getElem_cons_zero, List.getElem_cons_succ, Act.put, List.setIfInBounds_toArray, List.set_cons_zero, List.set_cons_succ]
                        refine wpAnyH_take (i := 5) (oi := _) (v := ?_) rfl (by kernel_rfl) (by kernel_rfl) (by kernel_rfl) (fun _ _ _ h => h) (Or.inl ⟨by rfl, ?_⟩) hHeld ?_
                        rotate_left
                        focus (intro W hSw; obtain ⟨q0, q1⟩ := HXK.out W (HWI.out.trans (hSw.mono HWI.out.size)); obtain ⟨q2, q3⟩ := HXJ.out W hSw; go_simp; try with_reducible rfl)
                        try simp only [List.getElem_toArray, List.getElem_cons_zero, List.getElem_cons_succ, Act.put, List.setIfInBounds_toArray, List.set_cons_zero, List.set_cons_succ]
                        refine wpAnyH_take (i := 6) (oi := _) (v := ?_) rfl (by kernel_rfl) (by kernel_rfl) (by kernel_rfl) (fun _ _ _ h => h) (Or.inl ⟨by rfl, ?_⟩) hHeld ?_
                        rotate_left
                        focus (intro W hSw; obtain ⟨q0, q1⟩ := HXK.out W (HWI.out.trans (hSw.mono HWI.out.size)); obtain ⟨q2, q3⟩ := HXJ.out W hSw; go_simp; try with_reducible rfl)
                        try simp only [List.getElem_toArray, List.getElem_cons_zero, List.getElem_cons_succ, Act.put, List.setIfInBounds_toArray, List.set_cons_zero, List.set_cons_succ]
                        refine wpAnyH_take (i := 7) (oi := _) (v := undef) rfl (by kernel_rfl) (by kernel_rfl) (by kernel_rfl) (fun _ _ _ h => h) (Or.inr ⟨by rfl, rfl⟩) hHeld ?_
                        try simp only [List.getElem_toArray, List.getElem_cons_zero, List.getElem_cons_succ, Act.put, List.setIfInBounds_toArray, List.set_cons_zero, List.set_cons_succ]
                        refine wpAnyH_take (i := 8) (oi := _) (v := undef) rfl (by kernel_rfl) (by kernel_rfl) (by kernel_rfl) (fun _ _ _ h => h) (Or.inr ⟨by rfl, rfl⟩) hHeld ?_
                        try simp only [List.getElem_toArray, List.getElem_cons_zero, List.getElem_cons_succ, Act.put, List.setIfInBounds_toArray, List.set_cons_zero, List.set_cons_succ]
                        refine wpAnyH_take (i := 9) (oi := _) (v := undef) rfl (by kernel_rfl) (by kernel_rfl) (by kernel_rfl) (fun _ _ _ h => h) (Or.inr ⟨by rfl, rfl⟩) hHeld ?_
                        try simp only [List.getElem_toArray, List.getElem_cons_zero, List.getElem_cons_succ, Act.put, List.setIfInBounds_toArray, List.set_cons_zero, List.set_cons_succ]
                        refine wpAnyH_take (i := 10) (oi := _) (v := undef) rfl (by kernel_rfl) (by kernel_rfl) (by kernel_rfl) (fun _ _ _ h => h) (Or.inr ⟨by rfl, rfl⟩) hHeld ?_
                        try simp only [List.getElem_toArray, List.getElem_cons_zero, List.getElem_cons_succ, Act.put, List.setIfInBounds_toArray, List.set_cons_zero, List.set_cons_succ]
                        refine wpAnyH_take (i := 11) (oi := _) (v := undef) rfl (by kernel_rfl) (by kernel_rfl) (by kernel_rfl) (fun _ _ _ h => h) (Or.inr ⟨by rfl, rfl⟩) hHeld ?_
                        try simp only [List.getElem_toArray, List.getElem_cons_zero, List.getElem_cons_succ, Act.put, List.setIfInBounds_toArray, List.set_cons_zero, List.set_cons_succ]
                        refine wpAnyH_take (i := 12) (oi := _) (v := undef) rfl (by kernel_rfl) (by kernel_rfl) (by kernel_rfl) (fun _ _ _ h => h) (Or.inr ⟨by rfl, rfl⟩) hHeld ?_
                        try simp only [List.getElem_toArray, List.getElem_cons_zero, List.getElem_cons_succ, Act.put, List.setIfInBounds_toArray, List.set_cons_zero, List.set_cons_succ]
                        refine wpAnyH_take (i := 13) (oi := _) (v := undef) rfl (by kernel_rfl) (by kernel_rfl) (by kernel_rfl) (fun _ _ _ h => h) (Or.inr ⟨by rfl, rfl⟩) hHeld ?_
                        try simp only [List.getElem_toArray, List.getElem_cons_zero, List.getElem_cons_succ, Act.put, List.setIfInBounds_toArray, List.set_cons_zero, List.set_cons_succ]
                        refine wpAnyH_take (i := 14) (oi := _) (v := undef) rfl (by kernel_rfl) (by kernel_rfl) (by kernel_rfl) (fun _ _ _ h => h) (Or.inr ⟨by rfl, rfl⟩) hHeld ?_
                        try simp only [List.getElem_toArray, List.getElem_cons_zero, List.getElem_cons_succ, Act.put, List.setIfInBounds_toArray, List.set_cons_zero, List.set_cons_succ]
                        refine wpAnyH_take (i := 15) (oi := _) (v := undef) rfl (by kernel_rfl) (by kernel_rfl) (by kernel_rfl) (fun _ _ _ h => h) (Or.inr ⟨by rfl, rfl⟩) hHeld ?_
                        try simp only [List.getElem_toArray, List.getElem_cons_zero, List.getElem_cons_succ, Act.put, List.setIfInBounds_toArray, List.set_cons_zero, List.set_cons_succ]
                        refine wpAnyH_take (i := 16) (oi := _) (v := undef) rfl (by kernel_rfl) (by kernel_rfl) (by kernel_rfl) (fun _ _ _ h => h) (Or.inr ⟨by rfl, rfl⟩) hHeld ?_
                        try simp only [List.getElem_toArray, List.getElem_cons_zero, List.getElem_cons_succ, Act.put, List.setIfInBounds_toArray, List.set_cons_zero, List.set_cons_succ]
                        refine wpAnyH_take (i := 17) (oi := _) (v := undef) rfl (by kernel_rfl) (by kernel_rfl) (by kernel_rfl) (fun _ _ _ h => h) (Or.inr ⟨by rfl, rfl⟩) hHeld ?_
                        try simp only [List.getElem_toArray, List.getElem_cons_zero, List.getElem_cons_succ, Act.put, List.setIfInBounds_toArray, List.set_cons_zero, List.set_cons_succ]
                        refine wpAnyH_take (i := 18) (oi := _) (v := undef) rfl (by kernel_rfl) (by kernel_rfl) (by kernel_rfl) (fun _ _ _ h => h) (Or.inr ⟨by rfl, rfl⟩) hHeld ?_
                        try simp only [List.getElem_toArray, List.getElem_cons_zero, List.getElem_cons_succ, Act.put, List.setIfInBounds_toArray, List.set_cons_zero, List.set_cons_succ]
                        refine wpAnyH_take (i := 19) (oi := _) (v := undef) rfl (by kernel_rfl) (by kernel_rfl) (by kernel_rfl) (fun _ _ _ h => h) (Or.inr ⟨by rfl, rfl⟩) hHeld ?_
                        try simp only [List.getElem_toArray, List.getElem_cons_zero, List.getElem_cons_succ, Act.put, List.setIfInBounds_toArray, List.set_cons_zero, List.set_cons_succ]
                        refine wpAnyH_take (i := 20) (oi := _) (v := undef) rfl (by kernel_rfl) (by kernel_rfl) (by kernel_rfl) (fun _ _ _ h => h) (Or.inr ⟨by rfl, rfl⟩) hHeld ?_
                        try simp only [List.getElem_toArray, List.getElem_cons_zero, List.getElem_cons_succ, Act.put, List.setIfInBounds_toArray, List.set_cons_zero, List.set_cons_succ]
                        refine wpAnyH_take (i := 21) (oi := _) (v := undef) rfl (by kernel_rfl) (by kernel_rfl) (by kernel_rfl) (fun _ _ _ h => h) (Or.inr ⟨by rfl, rfl⟩) hHeld ?_
                        try simp only [List.getElem_toArray, List.getElem_cons_zero, List.getElem_cons_succ, Act.put, List.setIfInBounds_toArray, List.set_cons_zero, List.set_cons_succ]
                        refine wpAnyH_take (i := 22) (oi := _) (v := undef) rfl (by kernel_rfl) (by kernel_rfl) (by kernel_rfl) (fun _ _ _ h => h) (Or.inr ⟨by rfl, rfl⟩) hHeld ?_
                        try simp only [List.getElem_toArray, List.getElem_cons_zero, List.getElem_cons_succ, Act.put, List.setIfInBounds_toArray, List.set_cons_zero, List.set_cons_succ]
                        refine wpAnyH_take (i := 23) (oi := _) (v := undef) rfl (by kernel_rfl) (by kernel_rfl) (by kernel_rfl) (fun _ _ _ h => h) (Or.inr ⟨by rfl, rfl⟩) hHeld ?_
                        try simp only [List.getElem_toArray, List.getElem_cons_zero, List.getElem_cons_succ, Act.put, List.setIfInBounds_toArray, List.set_cons_zero, List.set_cons_succ]
                        refine wpAnyH_take (i := 24) (oi := _) (v := undef) rfl (by kernel_rfl) (by kernel_rfl) (by kernel_rfl) (fun _ _ _ h => h) (Or.inr ⟨by rfl, rfl⟩) hHeld ?_
                        try simp only [List.getElem_toArray, List.getElem_cons_zero, List.getElem_cons_succ, Act.put, List.setIfInBounds_toArray, List.set_cons_zero, List.set_cons_succ]
                        refine wpAnyH_take (i := 25) (oi := _) (v := undef) rfl (by kernel_rfl) (by kernel_rfl) (by kernel_rfl) (fun _ _ _ h => h) (Or.inr ⟨by rfl, rfl⟩) hHeld ?_
                        try simp only [List.getElem_toArray, List.getElem_cons_zero, List.getElem_cons_succ, Act.put, List.setIfInBounds_toArray, List.set_cons_zero, List.set_cons_succ]
                        refine wpAnyH_take (i := 26) (oi := _) (v := ?_) rfl (by kernel_rfl) (by kernel_rfl) (by kernel_rfl) (fun _ _ _ h => h) (Or.inl ⟨by rfl, ?_⟩) hHeld ?_
                        rotate_left
                        focus (intro W hSw; obtain ⟨q0, q1⟩ := HXK.out W (HWI.out.trans (hSw.mono HWI.out.size)); obtain ⟨q2, q3⟩ := HXJ.out W hSw; go_simp; try with_reducible rfl)
                        try simp only [List.getElem_toArray, List.getElem_cons_zero, List.getElem_cons_succ, Act.put, List.setIfInBounds_toArray, List.set_cons_zero, List.set_cons_succ]
                        obtain ⟨wd, hwd⟩ : ∃ q, wr.drew = q := ⟨_, rfl⟩
                        rw [hwd] at hHeld ⊢
                        clear KD hwd
                        have K_wd := Lib.hid hHeld
                        refine wpAnyH_done (by kernel_rfl) ?_ _
                        have KH := K_wd
                        go_wp2_with fail
                        go_roundw
                        case rel => exact ⟨j + 1, by omega, by go_num, HBI.out.trans (KH.out.mono hszi)⟩
                        case measure => simp [intOf]; omega
                      | false =>
                        rw [hnj] at HXJ
                        obtain ⟨xj, hxj⟩ : ∃ xj, enc L[j].s.data.toList = xj := ⟨_, rfl⟩
                        obtain ⟨nj, hnj2⟩ : ∃ nj, xj.length = nj := ⟨_, rfl⟩
                        have HRJ : Hid (∀ W, Below wr.heap.size wr W → Calls Tryz.prog 33 #[.pointer (some ⟨G, 0, none⟩), .int .i64 (j : Int)] W fun r w' => ∃ A' c', r = .returned (.slice A' nj c') ∧ Rd w' W.heap.size w'.heap.size A' c' (bv xj) ∧ Below W.heap.size W w') := fun W hW => by
                          have := HRAW.out W (B5r.out.trans ((HWI.out.trans (hW.mono HWI.out.size)).mono B5r.out.size)) j hjl hnj
                          rw [hxj, hnj2] at this
                          exact this
                        obtain ⟨e2, he2⟩ : ∃ e2, (sk.toList == L[j].s.toList) = e2 := ⟨_, rfl⟩
                        have hdx : decide (xk = xj) = e2 := by rw [← hxj, ← HXE.out]; exact strs_alike HINJ.out he2
                        have HSJ : Hid (∀ W A' c' A'' c'', Below wr.heap.size wr W → Rd W 0 W.heap.size A' c' (bv xk) → Rd W 0 W.heap.size A'' c'' (bv xj) → Calls Tryz.prog 16 #[.slice A' nk c', .slice A'' nj c''] W fun r w' => r = .returned (.bool e2) ∧ W = w') := fun W A' c' A'' c'' hW hr hr2 => same_len _ _ _ hr hr2 HNK.out hnj2 hdx
                        have hee2 : (e2 != e2) = false := bne_self_eq_false e2
                        clear hxj hnj hdx
                        obtain ⟨sj, hsj⟩ : ∃ sj, L[j].s = sj := ⟨_, rfl⟩
                        rw [hsj] at he2 HXJ
                        clear hsj hnj2
                        go_wp2_with fail
                        have KD : Hid (Below wr.heap.size wr wr.drew) := (Below.refl _ _).drew
                        refine wp_region_held_drew (S := fun w' => Below wr.heap.size wr w') (by kernel_rfl) KD.out (fun hHeld => ?_)
                        refine wpAnyH_take (i := 0) (oi := _) (v := ?_) rfl (by kernel_rfl) (by kernel_rfl) (by kernel_rfl) (fun _ _ _ h => h) (Or.inl ⟨by rfl, ?_⟩) hHeld ?_
                        rotate_left
                        focus (intro W hSw; obtain ⟨q0, q1⟩ := HXK.out W (HWI.out.trans (hSw.mono HWI.out.size)); obtain ⟨q2, q3⟩ := HXJ.out W hSw; go_simp; try with_reducible rfl)
                        try simp only [List.getElem_toArray, List.getElem_cons_zero, List.getElem_cons_succ, Act.put, List.setIfInBounds_toArray, List.set_cons_zero, List.set_cons_succ]
                        refine wpAnyH_take (i := 1) (oi := _) (v := ?_) rfl (by kernel_rfl) (by kernel_rfl) (by kernel_rfl) (fun _ _ _ h => h) (Or.inl ⟨by rfl, ?_⟩) hHeld ?_
                        rotate_left
                        focus (intro W hSw; obtain ⟨q0, q1⟩ := HXK.out W (HWI.out.trans (hSw.mono HWI.out.size)); obtain ⟨q2, q3⟩ := HXJ.out W hSw; go_simp; try with_reducible rfl)
                        try simp only [List.getElem_toArray, List.getElem_cons_zero, List.getElem_cons_succ, Act.put, List.setIfInBounds_toArray, List.set_cons_zero, List.set_cons_succ]
                        refine wpAnyH_take (i := 2) (oi := _) (v := ?_) rfl (by kernel_rfl) (by kernel_rfl) (by kernel_rfl) (fun _ _ _ h => h) (Or.inl ⟨by rfl, ?_⟩) hHeld ?_
                        rotate_left
                        focus (intro W hSw; obtain ⟨q0, q1⟩ := HXK.out W (HWI.out.trans (hSw.mono HWI.out.size)); obtain ⟨q2, q3⟩ := HXJ.out W hSw; go_simp; try with_reducible rfl)
                        try simp only [List.getElem_toArray, List.getElem_cons_zero, List.getElem_cons_succ, Act.put, List.setIfInBounds_toArray, List.set_cons_zero, List.set_cons_succ]
                        refine wpAnyH_take (i := 3) (oi := _) (v := ?_) rfl (by kernel_rfl) (by kernel_rfl) (by kernel_rfl) (fun _ _ _ h => h) (Or.inl ⟨by rfl, ?_⟩) hHeld ?_
                        rotate_left
                        focus (intro W hSw; obtain ⟨q0, q1⟩ := HXK.out W (HWI.out.trans (hSw.mono HWI.out.size)); obtain ⟨q2, q3⟩ := HXJ.out W hSw; go_simp; try with_reducible rfl)
                        try simp only [List.getElem_toArray, List.getElem_cons_zero, List.getElem_cons_succ, Act.put, List.setIfInBounds_toArray, List.set_cons_zero, List.set_cons_succ]
                        refine wpAnyH_take (i := 4) (oi := _) (v := ?_) rfl (by kernel_rfl) (by kernel_rfl) (by kernel_rfl) (fun _ _ _ h => h) (Or.inl ⟨by rfl, ?_⟩) hHeld ?_
                        rotate_left
                        focus (intro W hSw; obtain ⟨q0, q1⟩ := HXK.out W (HWI.out.trans (hSw.mono HWI.out.size)); obtain ⟨q2, q3⟩ := HXJ.out W hSw; go_simp; try with_reducible rfl)
                        try simp only [List.getElem_toArray, List.getElem_cons_zero, List.getElem_cons_succ, Act.put, List.setIfInBounds_toArray, List.set_cons_zero, List.set_cons_succ]
                        refine wpAnyH_take (i := 5) (oi := _) (v := ?_) rfl (by kernel_rfl) (by kernel_rfl) (by kernel_rfl) (fun _ _ _ h => h) (Or.inl ⟨by rfl, ?_⟩) hHeld ?_
                        rotate_left
                        focus (intro W hSw; obtain ⟨q0, q1⟩ := HXK.out W (HWI.out.trans (hSw.mono HWI.out.size)); obtain ⟨q2, q3⟩ := HXJ.out W hSw; go_simp; try with_reducible rfl)
                        try simp only [List.getElem_toArray, List.getElem_cons_zero, List.getElem_cons_succ, Act.put, List.setIfInBounds_toArray, List.set_cons_zero, List.set_cons_succ]
                        refine wpAnyH_take (i := 6) (oi := _) (v := ?_) rfl (by kernel_rfl) (by kernel_rfl) (by kernel_rfl) (fun _ _ _ h => h) (Or.inl ⟨by rfl, ?_⟩) hHeld ?_
                        rotate_left
                        focus (intro W hSw; obtain ⟨q0, q1⟩ := HXK.out W (HWI.out.trans (hSw.mono HWI.out.size)); obtain ⟨q2, q3⟩ := HXJ.out W hSw; go_simp; try with_reducible rfl)
                        try simp only [List.getElem_toArray, List.getElem_cons_zero, List.getElem_cons_succ, Act.put, List.setIfInBounds_toArray, List.set_cons_zero, List.set_cons_succ]
                        refine wpAnyH_take (i := 7) (oi := _) (v := ?_) rfl (by kernel_rfl) (by kernel_rfl) (by kernel_rfl) (fun _ _ _ h => h) (Or.inl ⟨by rfl, ?_⟩) hHeld ?_
                        rotate_left
                        focus (intro W hSw; obtain ⟨q0, q1⟩ := HXK.out W (HWI.out.trans (hSw.mono HWI.out.size)); obtain ⟨q2, q3⟩ := HXJ.out W hSw; go_simp; try with_reducible rfl)
                        try simp only [List.getElem_toArray, List.getElem_cons_zero, List.getElem_cons_succ, Act.put, List.setIfInBounds_toArray, List.set_cons_zero, List.set_cons_succ]
                        refine wpAnyH_take (i := 8) (oi := _) (v := ?_) rfl (by kernel_rfl) (by kernel_rfl) (by kernel_rfl) (fun _ _ _ h => h) (Or.inl ⟨by rfl, ?_⟩) hHeld ?_
                        rotate_left
                        focus (intro W hSw; obtain ⟨q0, q1⟩ := HXK.out W (HWI.out.trans (hSw.mono HWI.out.size)); obtain ⟨q2, q3⟩ := HXJ.out W hSw; go_simp; try with_reducible rfl)
                        try simp only [List.getElem_toArray, List.getElem_cons_zero, List.getElem_cons_succ, Act.put, List.setIfInBounds_toArray, List.set_cons_zero, List.set_cons_succ]
                        refine wpAnyH_take (i := 10) (oi := _) (v := ?_) rfl (by kernel_rfl) (by kernel_rfl) (by kernel_rfl) (fun _ _ _ h => h) (Or.inl ⟨by rfl, ?_⟩) hHeld ?_
                        rotate_left
                        focus (intro W hSw; obtain ⟨q0, q1⟩ := HXK.out W (HWI.out.trans (hSw.mono HWI.out.size)); obtain ⟨q2, q3⟩ := HXJ.out W hSw; go_simp; try with_reducible rfl)
                        try simp only [List.getElem_toArray, List.getElem_cons_zero, List.getElem_cons_succ, Act.put, List.setIfInBounds_toArray, List.set_cons_zero, List.set_cons_succ]
                        refine wpAnyH_take (i := 11) (oi := _) (v := ?_) rfl (by kernel_rfl) (by kernel_rfl) (by kernel_rfl) (fun _ _ _ h => h) (Or.inl ⟨by rfl, ?_⟩) hHeld ?_
                        rotate_left
                        focus (intro W hSw; obtain ⟨q0, q1⟩ := HXK.out W (HWI.out.trans (hSw.mono HWI.out.size)); obtain ⟨q2, q3⟩ := HXJ.out W hSw; go_simp; try with_reducible rfl)
                        try simp only [List.getElem_toArray, List.getElem_cons_zero, List.getElem_cons_succ, Act.put, List.setIfInBounds_toArray, List.set_cons_zero, List.set_cons_succ]
                        refine wpAnyH_take (i := 14) (oi := _) (v := ?_) rfl (by kernel_rfl) (by kernel_rfl) (by kernel_rfl) (fun _ _ _ h => h) (Or.inl ⟨by rfl, ?_⟩) hHeld ?_
                        rotate_left
                        focus (intro W hSw; obtain ⟨q0, q1⟩ := HXK.out W (HWI.out.trans (hSw.mono HWI.out.size)); obtain ⟨q2, q3⟩ := HXJ.out W hSw; go_simp; try with_reducible rfl)
                        try simp only [List.getElem_toArray, List.getElem_cons_zero, List.getElem_cons_succ, Act.put, List.setIfInBounds_toArray, List.set_cons_zero, List.set_cons_succ]
                        refine wpAnyH_take (i := 15) (oi := _) (v := ?_) rfl (by kernel_rfl) (by kernel_rfl) (by kernel_rfl) (fun _ _ _ h => h) (Or.inl ⟨by rfl, ?_⟩) hHeld ?_
                        rotate_left
                        focus (intro W hSw; obtain ⟨q0, q1⟩ := HXK.out W (HWI.out.trans (hSw.mono HWI.out.size)); obtain ⟨q2, q3⟩ := HXJ.out W hSw; go_simp; try with_reducible rfl)
                        try simp only [List.getElem_toArray, List.getElem_cons_zero, List.getElem_cons_succ, Act.put, List.setIfInBounds_toArray, List.set_cons_zero, List.set_cons_succ]
                        refine wpAnyH_take (i := 16) (oi := _) (v := ?_) rfl (by kernel_rfl) (by kernel_rfl) (by kernel_rfl) (fun _ _ _ h => h) (Or.inl ⟨by rfl, ?_⟩) hHeld ?_
                        rotate_left
                        focus (intro W hSw; obtain ⟨q0, q1⟩ := HXK.out W (HWI.out.trans (hSw.mono HWI.out.size)); obtain ⟨q2, q3⟩ := HXJ.out W hSw; go_simp; try with_reducible rfl)
                        try simp only [List.getElem_toArray, List.getElem_cons_zero, List.getElem_cons_succ, Act.put, List.setIfInBounds_toArray, List.set_cons_zero, List.set_cons_succ]
                        refine wpAnyH_take (i := 17) (oi := _) (v := ?_) rfl (by kernel_rfl) (by kernel_rfl) (by kernel_rfl) (fun _ _ _ h => h) (Or.inl ⟨by rfl, ?_⟩) hHeld ?_
                        rotate_left
                        focus (intro W hSw; obtain ⟨q0, q1⟩ := HXK.out W (HWI.out.trans (hSw.mono HWI.out.size)); obtain ⟨q2, q3⟩ := HXJ.out W hSw; go_simp; try with_reducible rfl)
                        try simp only [List.getElem_toArray, List.getElem_cons_zero, List.getElem_cons_succ, Act.put, List.setIfInBounds_toArray, List.set_cons_zero, List.set_cons_succ]
                        refine wpAnyH_take (i := 18) (oi := _) (v := ?_) rfl (by kernel_rfl) (by kernel_rfl) (by kernel_rfl) (fun _ _ _ h => h) (Or.inl ⟨by rfl, ?_⟩) hHeld ?_
                        rotate_left
                        focus (intro W hSw; obtain ⟨q0, q1⟩ := HXK.out W (HWI.out.trans (hSw.mono HWI.out.size)); obtain ⟨q2, q3⟩ := HXJ.out W hSw; go_simp; try with_reducible rfl)
                        try simp only [List.getElem_toArray, List.getElem_cons_zero, List.getElem_cons_succ, Act.put, List.setIfInBounds_toArray, List.set_cons_zero, List.set_cons_succ]
                        refine wpAnyH_take (i := 19) (oi := _) (v := ?_) rfl (by kernel_rfl) (by kernel_rfl) (by kernel_rfl) (fun _ _ _ h => h) (Or.inl ⟨by rfl, ?_⟩) hHeld ?_
                        rotate_left
                        focus (intro W hSw; obtain ⟨q0, q1⟩ := HXK.out W (HWI.out.trans (hSw.mono HWI.out.size)); obtain ⟨q2, q3⟩ := HXJ.out W hSw; go_simp; try with_reducible rfl)
                        try simp only [List.getElem_toArray, List.getElem_cons_zero, List.getElem_cons_succ, Act.put, List.setIfInBounds_toArray, List.set_cons_zero, List.set_cons_succ]
                        refine wpAnyH_take (i := 20) (oi := _) (v := ?_) rfl (by kernel_rfl) (by kernel_rfl) (by kernel_rfl) (fun _ _ _ h => h) (Or.inl ⟨by rfl, ?_⟩) hHeld ?_
                        rotate_left
                        focus (intro W hSw; obtain ⟨q0, q1⟩ := HXK.out W (HWI.out.trans (hSw.mono HWI.out.size)); obtain ⟨q2, q3⟩ := HXJ.out W hSw; go_simp; try with_reducible rfl)
                        try simp only [List.getElem_toArray, List.getElem_cons_zero, List.getElem_cons_succ, Act.put, List.setIfInBounds_toArray, List.set_cons_zero, List.set_cons_succ]
                        refine wpAnyH_take (i := 21) (oi := _) (v := ?_) rfl (by kernel_rfl) (by kernel_rfl) (by kernel_rfl) (fun _ _ _ h => h) (Or.inl ⟨by rfl, ?_⟩) hHeld ?_
                        rotate_left
                        focus (intro W hSw; obtain ⟨q0, q1⟩ := HXK.out W (HWI.out.trans (hSw.mono HWI.out.size)); obtain ⟨q2, q3⟩ := HXJ.out W hSw; go_simp; try with_reducible rfl)
                        try simp only [List.getElem_toArray, List.getElem_cons_zero, List.getElem_cons_succ, Act.put, List.setIfInBounds_toArray, List.set_cons_zero, List.set_cons_succ]
                        refine wpAnyH_take (i := 22) (oi := _) (v := ?_) rfl (by kernel_rfl) (by kernel_rfl) (by kernel_rfl) (fun _ _ _ h => h) (Or.inl ⟨by rfl, ?_⟩) hHeld ?_
                        rotate_left
                        focus (intro W hSw; obtain ⟨q0, q1⟩ := HXK.out W (HWI.out.trans (hSw.mono HWI.out.size)); obtain ⟨q2, q3⟩ := HXJ.out W hSw; go_simp; try with_reducible rfl)
                        try simp only [List.getElem_toArray, List.getElem_cons_zero, List.getElem_cons_succ, Act.put, List.setIfInBounds_toArray, List.set_cons_zero, List.set_cons_succ]
                        refine wpAnyH_take (i := 23) (oi := _) (v := ?_) rfl (by kernel_rfl) (by kernel_rfl) (by kernel_rfl) (fun _ _ _ h => h) (Or.inl ⟨by rfl, ?_⟩) hHeld ?_
                        rotate_left
                        focus (intro W hSw; obtain ⟨q0, q1⟩ := HXK.out W (HWI.out.trans (hSw.mono HWI.out.size)); obtain ⟨q2, q3⟩ := HXJ.out W hSw; go_simp; try with_reducible rfl)
                        try simp only [List.getElem_toArray, List.getElem_cons_zero, List.getElem_cons_succ, Act.put, List.setIfInBounds_toArray, List.set_cons_zero, List.set_cons_succ]
                        refine wpAnyH_take (i := 24) (oi := _) (v := ?_) rfl (by kernel_rfl) (by kernel_rfl) (by kernel_rfl) (fun _ _ _ h => h) (Or.inl ⟨by rfl, ?_⟩) hHeld ?_
                        rotate_left
                        focus (intro W hSw; obtain ⟨q0, q1⟩ := HXK.out W (HWI.out.trans (hSw.mono HWI.out.size)); obtain ⟨q2, q3⟩ := HXJ.out W hSw; go_simp; try with_reducible rfl)
                        try simp only [List.getElem_toArray, List.getElem_cons_zero, List.getElem_cons_succ, Act.put, List.setIfInBounds_toArray, List.set_cons_zero, List.set_cons_succ]
                        obtain ⟨wd, hwd⟩ : ∃ q, wr.drew = q := ⟨_, rfl⟩
                        rw [hwd] at hHeld ⊢
                        clear KD hwd
                        have K_wd := Lib.hid hHeld
                        refine wpAnyH_ready (rs := [9]) (by kernel_rfl) (by simp) ?_
                        refine AllReadyH.cons (o := _) rfl (fun K hK => ?_) AllReadyH.nil
                        go_simp
                        refine (HRK.out _ (HWI.out.trans (K_wd.out.mono HWI.out.size))).mono ?_
                        rintro r v61 ⟨Aa, ca, rfl, hra, hb_v61⟩
                        have s_v61 : wd.heap.size ≤ v61.heap.size := hb_v61.size
                        have K_v61 : Hid (Below wr.heap.size wr v61) := Lib.hid (K_wd.out.trans (hb_v61.mono K_wd.out.size))
                        have Ha_v61 : Hid (Rd v61 0 v61.heap.size Aa ca (bv xk)) := hra.wide (Nat.zero_le _) (Nat.le_refl _)
                        clear hb_v61
                        clear hra
                        refine hK.out _ _ K_v61.out (fun hHeld => ?_)
                        clear hK K
                        try simp only [List.getElem_toArray, List.getElem_cons_zero, List.getElem_cons_succ, Act.put, List.setIfInBounds_toArray, List.set_cons_zero, List.set_cons_succ]
                        refine wpAnyH_ready (rs := [12]) (by kernel_rfl) (by simp) ?_
                        refine AllReadyH.cons (o := _) rfl (fun K hK => ?_) AllReadyH.nil
                        go_simp
                        refine (HRJ.out _ K_v61.out).mono ?_
                        rintro r v62 ⟨Ab, cb, rfl, hrb, hb_v62⟩
                        have s_v62 : v61.heap.size ≤ v62.heap.size := hb_v62.size
                        have K_v62 : Hid (Below wr.heap.size wr v62) := Lib.hid (K_v61.out.trans (hb_v62.mono K_v61.out.size))
                        have Ha_v62 : Hid (Rd v62 0 v62.heap.size Aa ca (bv xk)) := (Ha_v61.out.below hb_v62 (Nat.le_refl _)).wide (Nat.le_refl _) hb_v62.size
                        have Hb_v62 : Hid (Rd v62 0 v62.heap.size Ab cb (bv xj)) := hrb.wide (Nat.zero_le _) (Nat.le_refl _)
                        clear hb_v62
                        clear hrb
                        refine hK.out _ _ K_v62.out (fun hHeld => ?_)
                        clear hK K
                        try simp only [List.getElem_toArray, List.getElem_cons_zero, List.getElem_cons_succ, Act.put, List.setIfInBounds_toArray, List.set_cons_zero, List.set_cons_succ]
                        refine wpAnyH_ready (rs := [13]) (by kernel_rfl) (by simp) ?_
                        refine AllReadyH.cons (o := _) rfl (fun K hK => ?_) AllReadyH.nil
                        go_simp
                        refine (HSJ.out _ _ _ _ _ K_v62.out Ha_v62.out Hb_v62.out).mono ?_
                        rintro r v63 ⟨rfl, he_v63⟩
                        have hb_v63 : Below v62.heap.size v62 v63 := by rw [← he_v63]; exact Below.refl _ _
                        clear he_v63
                        have s_v63 : v62.heap.size ≤ v63.heap.size := hb_v63.size
                        have K_v63 : Hid (Below wr.heap.size wr v63) := Lib.hid (K_v62.out.trans (hb_v63.mono K_v62.out.size))
                        have Ha_v63 : Hid (Rd v63 0 v63.heap.size Aa ca (bv xk)) := (Ha_v62.out.below hb_v63 (Nat.le_refl _)).wide (Nat.le_refl _) hb_v63.size
                        have Hb_v63 : Hid (Rd v63 0 v63.heap.size Ab cb (bv xj)) := (Hb_v62.out.below hb_v63 (Nat.le_refl _)).wide (Nat.le_refl _) hb_v63.size
                        clear hb_v63
                        refine hK.out _ _ K_v63.out (fun hHeld => ?_)
                        clear hK K
                        try simp only [List.getElem_toArray, List.getElem_cons_zero, List.getElem_cons_succ, Act.put, List.setIfInBounds_toArray, List.set_cons_zero, List.set_cons_succ]
                        refine wpAnyH_take (i := 25) (oi := _) (v := ?_) rfl (by kernel_rfl) (by kernel_rfl) (by kernel_rfl) (fun _ _ _ h => h) (Or.inl ⟨by rfl, ?_⟩) hHeld ?_
                        rotate_left
                        focus (intro W hSw; obtain ⟨q0, q1⟩ := HXK.out W (HWI.out.trans (hSw.mono HWI.out.size)); obtain ⟨q2, q3⟩ := HXJ.out W hSw; go_simp; try with_reducible rfl)
                        try simp only [List.getElem_toArray, List.getElem_cons_zero, List.getElem_cons_succ, Act.put, List.setIfInBounds_toArray, List.set_cons_zero, List.set_cons_succ]
                        refine wpAnyH_take (i := 26) (oi := _) (v := ?_) rfl (by kernel_rfl) (by kernel_rfl) (by kernel_rfl) (fun _ _ _ h => h) (Or.inl ⟨by rfl, ?_⟩) hHeld ?_
                        rotate_left
                        focus (intro W hSw; obtain ⟨q0, q1⟩ := HXK.out W (HWI.out.trans (hSw.mono HWI.out.size)); obtain ⟨q2, q3⟩ := HXJ.out W hSw; go_simp; try with_reducible rfl)
                        try simp only [List.getElem_toArray, List.getElem_cons_zero, List.getElem_cons_succ, Act.put, List.setIfInBounds_toArray, List.set_cons_zero, List.set_cons_succ]
                        refine wpAnyH_done (by kernel_rfl) ?_ _
                        have KH := K_v63
                        go_wp2_with fail
                        go_roundw
                        case rel => exact ⟨j + 1, by omega, by go_num, HBI.out.trans (KH.out.mono hszi)⟩
                        case measure => simp [intOf]; omega
                    · have ij : ¬ (j : Int) < (k : Int) := by omega
                      go_wp2_with fail
                      go_roundw
                      case rel => exact ⟨k + 1, by omega, by go_num, HB.out.trans (HWI.out.mono hszr)⟩
                      case measure => simp [intOf]; omega
              · have ik : ¬ (k : Int) < (L.length : Int) := by omega
                have BWr : Hid (Below w.heap.size w wo) := BW5.out.trans ((B7.out.trans (HB.out.mono hs7)).mono BW5.out.size)
                go_wp2_with fail
                go_ret
                exact ⟨rfl, BWr.out⟩
        · have HC := Lib.hid (code_no (HIN.out w2 BW2.out) hmb)
          go_wp2_with fail
          refine HC.out.mono ?_
          rintro r w3 ⟨rfl, hb3⟩
          go_wp2_with fail
          go_ret
          exact ⟨rfl, BW2.out.trans (hb3.mono BW2.out.size)⟩
      · have iss : (500 : Int) < (s.size : Int) := by omega
        have HAW3 := HAW2
        go_wp2_with fail
        refine HAW3.out.mono ?_
        rintro r w4 ⟨rfl, hb4⟩
        go_wp2_with fail
        go_ret
        exact ⟨rfl, BW2.out.trans (hb4.mono BW2.out.size)⟩
    · have ids : (60 : Int) < (ds.length : Int) := by omega
      go_wp2_with fail
      refine HAW2.out.mono ?_
      rintro r w4 ⟨rfl, hb4⟩
      go_wp2_with fail
      go_ret
      exact ⟨rfl, BW2.out.trans (hb4.mono BW2.out.size)⟩
set_option maxRecDepth 100000 in
theorem chunkKinds_lifted (os : Os) (started : os.Started) (H : Type) (enc : TypeId × Value → H) :
    ReturnsInHanded {} Tryz.checked os 5 .any (Rows.chunkKindsSpec.pre6 enc Tryz.prog Tryz.f5 Rows.chunkKindsRow.domain false) (Rows.chunkKindsSpec.post enc Tryz.prog Tryz.f5 false true false false) := by
  refine returnsInHanded_of_change (C := Tryz.checked) own started (by kernel_rfl) Tryz.func5
    (ChangeSpec.witness6 (enc := enc) (C := Tryz.checked) false ⟨#[], #[.slice none 0 0, .agg #[.int .i64 0, .int .i64 0, .int .i64 0, .slice none 0 0], .string ByteArray.empty], []⟩ 8 (by kernel_rfl) (by kernel_rfl) (by kernel_rfl) (by kernel_rfl)) ?_
  intro W base args ds gs before hval0 hW hcnd _
  have hval : ∀ (j : Nat) t v, Tryz.f5.params[j]? = some t → args[j]? = some v → Value.okWide Tryz.prog W .any base t v := hval0
  have hW' := hW
  obtain ⟨p, q, hA0, hV, rfl, hfz, hnd⟩ := hW
  have hA : DataW.TrodAll enc Tryz.prog W 0 (fun _ => true) true Tryz.f5.params.toList args.toList ds p := hA0
  have hA1 : DataW.TrodAll enc Tryz.prog W 0 (fun _ => true) true Tryz.f5.params.toList args.toList ds p := hA0
  rw [Tryz.params5] at hA hval
  obtain ⟨v0, vs0, d0, ds0, p0, q0, hargs, rfl, rfl, h0, r0⟩ := trodAll_cons hA
  obtain ⟨v1, vs1, d1, ds1, p1, q1, rfl, rfl, rfl, h1, r1⟩ := trodAll_cons r0
  obtain ⟨v2, vs2, d2, ds2, p2, q2, rfl, rfl, rfl, h2, r2⟩ := trodAll_cons r1
  obtain ⟨rfl, rfl, rfl⟩ := trodAll_nil r2
  obtain rfl : args = #[v0, v1, v2] := by cases args; simp_all
  obtain ⟨rfl, rfl⟩ := trodVars_none hV
  obtain ⟨A0, a0, c0, rfl, w0⟩ := open_row (hval 0 22 v0 rfl rfl) h0
  obtain ⟨A1, a1, c1, rfl, w1⟩ := open_coding (hval 1 25 v1 rfl rfl) h1
  obtain ⟨a2, rfl, rfl, rfl, w2⟩ := open_string Tryz.underlying9 (hval 2 9 v2 rfl rfl) h2
  clear hA0 hval0
  refine (chunkKinds_walk (w := W) w0 w1 a2 w2).mono fun e W' ⟨he, bel⟩ => ?_
  subst he
  exact ⟨_, rfl, _, _, _, [], _, [], hW', trodAll_mk1 (shut_bool Tryz.underlying4 _), trodAll_below laidOut bel _ _ _ _ (by kernel_rfl) hA1, rfl, bel.frame _, fun h => by cases h⟩
theorem chunkKinds_over : Rows.chunkKindsRow.holds Tryz.pinned (OpenSpec.ofChange Rows.chunkKindsSpec) :=
  OpenClaim.holds_of_wide 5 Tryz.f5 rfl rfl rfl rfl rfl rfl rfl ⟨rfl, rfl, rfl, rfl, rfl⟩ rfl rfl rfl rfl rfl (by kernel_rfl) Tryz.func5 (by kernel_rfl)
    (of_decide_eq_true (by kernel_rfl)) (by unfold Func.isWrapper; first | (rw [if_pos (by decide +kernel)]; kernel_rfl) | (rw [if_neg (by decide +kernel)]; exact ⟨rfl, rfl⟩))
    (fun os started H enc _ => chunkKinds_lifted os started H enc)
theorem chunkKinds_proved : Rows.ChunkKindsSaid := chunkKinds_over
end Go.Proofs.YtmffpbhiehjlpaaGreat
