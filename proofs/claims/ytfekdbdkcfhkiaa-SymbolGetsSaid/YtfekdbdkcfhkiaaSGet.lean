/-
  Proved: SymbolGets of layer 10: of whatever bytes of at most 5,000, what is read is a table that is written as it stood, or nothing and an error; what came in reads as it did. Conditions: none of our own.
-/
import Derived.Test.YtfekdbdkcfhkiaaLawS
import Derived.Test.YtfekdbdkcfhkiaaShellT
import Derived.Test.YtfekdbdkcfhkiaaShell
import Derived.Deep.RegionHeld3
namespace Go.Proofs.Ytfekdbdkcfhkiaa
set_option linter.unusedSimpArgs false
set_option linter.unusedVariables false
open Go.ChangeShapes Go.WideShapes Go.ChangeAt Go.RowKit
open Go.ChangeMaps (open_string shut_string)

set_option maxRecDepth 20000 in
set_option maxHeartbeats 8000000 in
theorem symbolGets_walk {w : World} {A : Option Addr} {bs : List UInt8} {c : Nat} (h : Rd w 0 w.heap.size A c (bv bs)) :
    Calls Try.prog 4 #[.slice A bs.length c] w fun e w' => e = .returned (.bool true) ∧ Below w.heap.size w w' := by
  have hl := h.len
  have hm := h.cap
  rw [bv_length] at hl
  unfold maxLen at hm
  have H := Lib.hid h
  clear h
  by_cases h5 : (5000 : Int) < (bs.length : Int)
  · have H5 := h5
    go_enter Try.func4, Try.ntmps4
    go_wp2_with fail
    refine (awake10_any (w := _)).mono ?_
    rintro r w1 ⟨rfl, b1⟩
    go_wp2_with fail
    refine (awake10_any (w := _)).mono ?_
    rintro r w3 ⟨rfl, b3⟩
    go_wp2_with fail
    go_ret
    exact ⟨rfl, below_below b1 b3 b1.size⟩
  · have hb5 : bs.length ≤ 5000 := by omega
    obtain ⟨L, hL⟩ : ∃ L, getL bs = L := ⟨_, rfl⟩
    have hgood := getL_good (bs := bs)
    have hbad := getL_bad (bs := bs)
    rw [hL] at hgood hbad
    have HL := Lib.hid hL
    clear hL
    obtain ⟨t, p, e⟩ := L
    simp only at hgood hbad
    have HGO := Lib.hid hgood
    have HBA := Lib.hid hbad
    clear hgood hbad
    obtain ⟨ev, hev⟩ : ∃ ev, endR bs p e = ev := ⟨_, rfl⟩
    have HEV := Lib.hid hev
    clear hev
    go_enter Try.func4, Try.ntmps4
    go_wp2_with fail
    refine (awake10_any (w := _)).mono ?_
    rintro r w1 ⟨rfl, b1⟩
    have B1 := Lib.hid b1
    have HB1 := Lib.hid (H.out.below b1 (Nat.le_refl _))
    have S1 := b1.size
    clear b1
    go_wp2_with fail
    obtain ⟨w2, hw2⟩ : ∃ w2, w2 = w1 := ⟨_, rfl⟩
    subst hw2
    refine (new_any bs w2 HB1.out (by omega)).mono ?_
    rintro r w3 ⟨g2, rfl, hc3, b3⟩
    have HB3 := Lib.hid (HB1.out.below b3 S1)
    have B3 := Lib.hid (below_below B1.out b3 S1)
    have S3 := B3.out.size
    have hg2 := hc3.base
    have hg2l := hc3.lt
    have HGT := Lib.hid (sget_any hc3 (by omega))
    rw [HL.out] at HGT
    simp only at HGT
    unfold cp at HGT
    clear hc3 b3 HB1
    go_wp2_with fail
    refine HGT.out.mono ?_
    rintro r w4 ⟨A4, c4, rfl, ho4, hc4, hg4⟩
    have HT4 := Lib.hid (Rd.of_own ho4)
    have HB4 := Lib.hid (HB3.out.grown hg4 S3 (fun q e => by injection e with e; omega))
    have B4 : Hid (Below w.heap.size w w4) := below_some B3.out hg4 S3 (by omega)
    have S4 := B4.out.size
    have HEN := Lib.hid (end_any hc4)
    have HC4 := Lib.hid hc4
    rw [HEV.out] at HEN
    unfold cp at HEN
    clear ho4 hc4 hg4 HGT HB3
    go_wp2_with fail
    refine HEN.out.mono ?_
    rintro r w5 ⟨rfl, m6, rfl⟩
    have HT5 : Hid (Rd (w4.drewN m6) w3.heap.size w4.heap.size A4 c4 (sv (strsL t))) := HT4.out.drewN m6
    have HC5 : Hid (Cur (w4.drewN m6) w2.heap.size g2 bs p e) := HC4.out.drewN m6
    have HB5 : Hid (Rd (w4.drewN m6) 0 w.heap.size A c (bv bs)) := HB4.out.drewN m6
    have B5 : Hid (Below w.heap.size w (w4.drewN m6)) := below_drewN' B4.out m6
    clear HEN HT4 HC4 HB4
    have hbe : endR bs p e = ev := HEV.out
    unfold endR at hbe
    by_cases ht0 : t.length = 0
    · have htn : t = [] := List.eq_nil_of_length_eq_zero ht0
      by_cases hev0 : ev = 0
      · have he0 : e = 0 := by
          apply Decidable.byContradiction
          intro he
          rw [if_pos he] at hbe
          exact he (hbe.trans hev0)
        obtain ⟨g1, g2', g3⟩ := HGO.out he0
        rw [he0, if_neg (by decide)] at hbe
        have hnp : ¬ p < bs.length := fun h => by rw [if_pos h] at hbe; omega
        have hpl : p = bs.length := by omega
        have hb0 : bs = [0] := by
          rw [hpl, List.take_of_length_le (Nat.le_refl _), htn] at g3
          rw [g3]; rfl
        subst hb0
        obtain ⟨b0, o0, rfl, _, hbh, hcell⟩ := HB5.out.byte (k := 0) (by simp)
        have hcell0 : (w4.drewN m6).cell? ⟨b0, o0, none⟩ = some (.int .u8 0) := hcell
        subst hev0
        subst htn
        clear hcell hbe hpl g1 g2' g3 hnp ht0 HGO HBA he0
        go_wp2_with fail
        go_ret
        exact ⟨rfl, B5.out⟩
      · have hne : (ev != 0) = true := by simpa using hev0
        subst htn
        clear hbe ht0 HGO HBA
        go_wp2_with fail
        go_ret
        exact ⟨rfl, B5.out⟩
    · have he0 : e = 0 := by
        apply Decidable.byContradiction
        intro he
        exact ht0 (by rw [HBA.out he]; rfl)
      subst he0
      obtain ⟨g1, g2', g3⟩ := HGO.out rfl
      rw [if_neg (by decide)] at hbe
      have HR : Hid (rightT (bytL2 (strsL t)) = true) := by unfold Hid; rw [bytL2_strs]; exact g1
      have HTL : Hid ((strsL t).length = t.length) := strsL_length t
      have HZ8 : Hid (∀ s ∈ strsL t, s.size ≤ 100000) := fun s hs => by have := (right_small HR.out).2 s hs; omega
      obtain ⟨px, hpx⟩ : ∃ px, bs.take p = px := ⟨_, rfl⟩
      have HPK := Lib.hid hpx
      have HPT : Hid (putT (bytL2 (strsL t)) = px) := by unfold Hid; rw [bytL2_strs, ← g3]; exact hpx
      have HPL : Hid (px.length = p) := by unfold Hid; rw [← hpx, List.length_take]; omega
      have hsub : (bs.length : Int) - ((bs.length - p : Nat) : Int) = (p : Int) := by omega
      have hpc : p ≤ c := by omega
      have ht1 : ((t.length : Int) == 0) = false := by rw [beq_eq_false_iff_ne]; omega
      clear g1 g3 hpx HGO HBA HL HEV
      by_cases hpn : p < bs.length
      · rw [if_pos hpn] at hbe
        subst hbe
        have hlf : decide ((0 : Int) < ((bs.length - p : Nat) : Int)) = true := decide_eq_true (by omega)
        have hlf2 : decide (0 < bs.length - p) = true := decide_eq_true (by omega)
        have hlf3 : 0 < bs.length - p := by omega
        go_wp2_with fail
        refine (left_any HC5.out).mono ?_
        rintro r w7 ⟨rfl, m7, rfl⟩
        obtain ⟨w8, hw8⟩ : ∃ w8, (w4.drewN m6).drewN m7 = w8 := ⟨_, rfl⟩
        have HC8 : Hid (Cur w8 w2.heap.size g2 bs p 0) := by unfold Hid; rw [← hw8]; exact HC5.out.drewN m7
        have HT8 : Hid (Rd w8 0 w8.heap.size A4 c4 (sv (strsL t))) := by unfold Hid; rw [← hw8]; exact (HT5.out.drewN m7).wide (Nat.zero_le _) (Nat.le_refl _)
        have HB8 : Hid (Rd w8 0 w.heap.size A c (bv bs)) := by unfold Hid; rw [← hw8]; exact HB5.out.drewN m7
        have B8 : Hid (Below w.heap.size w w8) := by unfold Hid; rw [← hw8]; exact below_drewN' B5.out m7
        have S8 := B8.out.size
        rw [hw8]
        clear hw8 HC5 HT5 HB5 B5
        have HLE : Hid (∀ W, Below w8.heap.size w8 W → Calls Try.prog 19 #[.pointer (some ⟨g2, 0, none⟩)] W fun x w' => x = .returned (.int .i64 ((bs.length - p : Nat) : Int)) ∧ ∃ n, w' = W.drewN n) := fun W hW => left_any (HC8.out.grown (below_gb_none (Nat.le_refl _) hW) (by simp))
        have HRR : Hid (∀ W, Below w8.heap.size w8 W → Calls Try.prog 13 #[.slice A4 t.length c4] W fun r w' => r = .returned (.bool true) ∧ ∃ m, w' = W.drewN m) := fun W hW => refright_is (strsL t) true (HT8.out.below hW (Nat.le_refl _)) HZ8.out HR.out HTL.out
        have HPP : Hid (∀ W, Below w8.heap.size w8 W → Calls Try.prog 15 #[.slice A4 t.length c4] W fun r w' => ∃ A' c', r = .returned (.slice A' px.length c') ∧ w'.ownsRow W.heap.size 5 1 (.slice A' px.length c') px.length (bv px) ∧ Below W.heap.size W w') := fun W hW => refput_is (strsL t) px ((HT8.out.below hW (Nat.le_refl _)).wide (Nat.le_refl _) hW.size) HR.out HPT.out HTL.out
        have HPX : Hid (∀ W, Below w8.heap.size w8 W → Rd W 0 w.heap.size A c (bv px)) := fun W hW => by rw [← HPK.out, bv_take]; exact (HB8.out.below hW S8).take_ p
        clear HC8 HT8 HB8
        go_wp2_with fail
        refine wp_region_held_drew (S := fun w' => Below w8.heap.size w8 w') (by kernel_rfl) (Below.drew (Below.refl _ _)) (fun hHeld => ?_)
        refine wpAnyH_take (i := 0) (oi := _) (v := ?_) rfl (by kernel_rfl) (by kernel_rfl) (by kernel_rfl) (fun _ _ _ h => h) (Or.inl ⟨by rfl, ?_⟩) hHeld ?_
        rotate_left
        focus (intro W hSw; go_simp; try with_reducible rfl)
        try simp only [List.getElem_toArray, List.getElem_cons_zero, List.getElem_cons_succ, Act.put, List.setIfInBounds_toArray, List.set_cons_zero, List.set_cons_succ]
        refine wpAnyH_take (i := 1) (oi := _) (v := ?_) rfl (by kernel_rfl) (by kernel_rfl) (by kernel_rfl) (fun _ _ _ h => h) (Or.inl ⟨by rfl, ?_⟩) hHeld ?_
        rotate_left
        focus (intro W hSw; go_simp; try with_reducible rfl)
        try simp only [List.getElem_toArray, List.getElem_cons_zero, List.getElem_cons_succ, Act.put, List.setIfInBounds_toArray, List.set_cons_zero, List.set_cons_succ]
        refine wpAnyH_take (i := 2) (oi := _) (v := ?_) rfl (by kernel_rfl) (by kernel_rfl) (by kernel_rfl) (fun _ _ _ h => h) (Or.inl ⟨by rfl, ?_⟩) hHeld ?_
        rotate_left
        focus (intro W hSw; go_simp; try with_reducible rfl)
        try simp only [List.getElem_toArray, List.getElem_cons_zero, List.getElem_cons_succ, Act.put, List.setIfInBounds_toArray, List.set_cons_zero, List.set_cons_succ]
        refine wpAnyH_take (i := 3) (oi := _) (v := ?_) rfl (by kernel_rfl) (by kernel_rfl) (by kernel_rfl) (fun _ _ _ h => h) (Or.inl ⟨by rfl, ?_⟩) hHeld ?_
        rotate_left
        focus (intro W hSw; go_simp; try with_reducible rfl)
        try simp only [List.getElem_toArray, List.getElem_cons_zero, List.getElem_cons_succ, Act.put, List.setIfInBounds_toArray, List.set_cons_zero, List.set_cons_succ]
        refine wpAnyH_take (i := 4) (oi := _) (v := ?_) rfl (by kernel_rfl) (by kernel_rfl) (by kernel_rfl) (fun _ _ _ h => h) (Or.inl ⟨by rfl, ?_⟩) hHeld ?_
        rotate_left
        focus (intro W hSw; go_simp; try with_reducible rfl)
        try simp only [List.getElem_toArray, List.getElem_cons_zero, List.getElem_cons_succ, Act.put, List.setIfInBounds_toArray, List.set_cons_zero, List.set_cons_succ]
        refine wpAnyH_take (i := 5) (oi := _) (v := ?_) rfl (by kernel_rfl) (by kernel_rfl) (by kernel_rfl) (fun _ _ _ h => h) (Or.inl ⟨by rfl, ?_⟩) hHeld ?_
        rotate_left
        focus (intro W hSw; go_simp; try with_reducible rfl)
        try simp only [List.getElem_toArray, List.getElem_cons_zero, List.getElem_cons_succ, Act.put, List.setIfInBounds_toArray, List.set_cons_zero, List.set_cons_succ]
        refine wpAnyH_take (i := 6) (oi := _) (v := ?_) rfl (by kernel_rfl) (by kernel_rfl) (by kernel_rfl) (fun _ _ _ h => h) (Or.inl ⟨by rfl, ?_⟩) hHeld ?_
        rotate_left
        focus (intro W hSw; go_simp; try with_reducible rfl)
        try simp only [List.getElem_toArray, List.getElem_cons_zero, List.getElem_cons_succ, Act.put, List.setIfInBounds_toArray, List.set_cons_zero, List.set_cons_succ]
        refine wpAnyH_ready (rs := [7]) (by kernel_rfl) (by simp) ?_
        refine AllReadyH.cons (o := _) rfl (fun K hK => ?_) AllReadyH.nil
        go_simp
        refine (HLE.out _ hHeld).mono ?_
        rintro r w9 ⟨rfl, m9, rfl⟩
        refine hK.out _ _ (below_drewN' hHeld m9) (fun hHeld => ?_)
        clear hK K
        try simp only [List.getElem_toArray, List.getElem_cons_zero, List.getElem_cons_succ, Act.put, List.setIfInBounds_toArray, List.set_cons_zero, List.set_cons_succ]
        refine wpAnyH_take (i := 8) (oi := _) (v := .bool true) rfl (by kernel_rfl) (by kernel_rfl) (by kernel_rfl) (fun _ _ _ h => h) (Or.inl ⟨by rfl, ?_⟩) hHeld ?_
        focus (intro W hSw; go_simp; try with_reducible rfl)
        try simp only [List.getElem_toArray, List.getElem_cons_zero, List.getElem_cons_succ, Act.put, List.setIfInBounds_toArray, List.set_cons_zero, List.set_cons_succ]
        refine wpAnyH_take (i := 9) (oi := _) (v := ?_) rfl (by kernel_rfl) (by kernel_rfl) (by kernel_rfl) (fun _ _ _ h => h) (Or.inl ⟨by rfl, ?_⟩) hHeld ?_
        rotate_left
        focus (intro W hSw; go_simp; try with_reducible rfl)
        try simp only [List.getElem_toArray, List.getElem_cons_zero, List.getElem_cons_succ, Act.put, List.setIfInBounds_toArray, List.set_cons_zero, List.set_cons_succ]
        refine wpAnyH_take (i := 10) (oi := _) (v := ?_) rfl (by kernel_rfl) (by kernel_rfl) (by kernel_rfl) (fun _ _ _ h => h) (Or.inl ⟨by rfl, ?_⟩) hHeld ?_
        rotate_left
        focus (intro W hSw; go_simp; try with_reducible rfl)
        try simp only [List.getElem_toArray, List.getElem_cons_zero, List.getElem_cons_succ, Act.put, List.setIfInBounds_toArray, List.set_cons_zero, List.set_cons_succ]
        refine wpAnyH_take (i := 11) (oi := _) (v := ?_) rfl (by kernel_rfl) (by kernel_rfl) (by kernel_rfl) (fun _ _ _ h => h) (Or.inl ⟨by rfl, ?_⟩) hHeld ?_
        rotate_left
        focus (intro W hSw; go_simp; try with_reducible rfl)
        try simp only [List.getElem_toArray, List.getElem_cons_zero, List.getElem_cons_succ, Act.put, List.setIfInBounds_toArray, List.set_cons_zero, List.set_cons_succ]
        refine wpAnyH_take (i := 12) (oi := _) (v := ?_) rfl (by kernel_rfl) (by kernel_rfl) (by kernel_rfl) (fun _ _ _ h => h) (Or.inl ⟨by rfl, ?_⟩) hHeld ?_
        rotate_left
        focus (intro W hSw; go_simp; try with_reducible rfl)
        try simp only [List.getElem_toArray, List.getElem_cons_zero, List.getElem_cons_succ, Act.put, List.setIfInBounds_toArray, List.set_cons_zero, List.set_cons_succ]
        refine wpAnyH_ready (rs := [13]) (by kernel_rfl) (by simp) ?_
        refine AllReadyH.cons (o := _) rfl (fun K hK => ?_) AllReadyH.nil
        go_simp
        refine (HRR.out _ (below_drewN' (Below.refl _ _) _)).mono ?_
        rintro r w10 ⟨rfl, m10, rfl⟩
        refine hK.out _ _ (below_drewN' (below_drewN' (Below.refl _ _) _) m10) (fun hHeld => ?_)
        clear hK K
        try simp only [List.getElem_toArray, List.getElem_cons_zero, List.getElem_cons_succ, Act.put, List.setIfInBounds_toArray, List.set_cons_zero, List.set_cons_succ]
        refine wpAnyH_take (i := 14) (oi := _) (v := ?_) rfl (by kernel_rfl) (by kernel_rfl) (by kernel_rfl) (fun _ _ _ h => h) (Or.inl ⟨by rfl, ?_⟩) hHeld ?_
        rotate_left
        focus (intro W hSw; go_simp; try with_reducible rfl)
        try simp only [List.getElem_toArray, List.getElem_cons_zero, List.getElem_cons_succ, Act.put, List.setIfInBounds_toArray, List.set_cons_zero, List.set_cons_succ]
        refine wpAnyH_take (i := 15) (oi := _) (v := ?_) rfl (by kernel_rfl) (by kernel_rfl) (by kernel_rfl) (fun _ _ _ h => h) (Or.inl ⟨by rfl, ?_⟩) hHeld ?_
        rotate_left
        focus (intro W hSw; go_simp; try with_reducible rfl)
        try simp only [List.getElem_toArray, List.getElem_cons_zero, List.getElem_cons_succ, Act.put, List.setIfInBounds_toArray, List.set_cons_zero, List.set_cons_succ]
        refine wpAnyH_take (i := 16) (oi := _) (v := ?_) rfl (by kernel_rfl) (by kernel_rfl) (by kernel_rfl) (fun _ _ _ h => h) (Or.inl ⟨by rfl, ?_⟩) hHeld ?_
        rotate_left
        focus (intro W hSw; go_simp; try with_reducible rfl)
        try simp only [List.getElem_toArray, List.getElem_cons_zero, List.getElem_cons_succ, Act.put, List.setIfInBounds_toArray, List.set_cons_zero, List.set_cons_succ]
        refine wpAnyH_take (i := 18) (oi := _) (v := ?_) rfl (by kernel_rfl) (by kernel_rfl) (by kernel_rfl) (fun _ _ _ h => h) (Or.inl ⟨by rfl, ?_⟩) hHeld ?_
        rotate_left
        focus (intro W hSw; go_simp; try with_reducible rfl)
        try simp only [List.getElem_toArray, List.getElem_cons_zero, List.getElem_cons_succ, Act.put, List.setIfInBounds_toArray, List.set_cons_zero, List.set_cons_succ]
        refine wpAnyH_take (i := 19) (oi := _) (v := ?_) rfl (by kernel_rfl) (by kernel_rfl) (by kernel_rfl) (fun _ _ _ h => h) (Or.inl ⟨by rfl, ?_⟩) hHeld ?_
        rotate_left
        focus (intro W hSw; go_simp; try with_reducible rfl)
        try simp only [List.getElem_toArray, List.getElem_cons_zero, List.getElem_cons_succ, Act.put, List.setIfInBounds_toArray, List.set_cons_zero, List.set_cons_succ]
        refine wpAnyH_take (i := 20) (oi := _) (v := .slice A p c) rfl (by kernel_rfl) (by kernel_rfl) (by kernel_rfl) (fun _ _ _ h => h) (Or.inl ⟨by rfl, ?_⟩) hHeld ?_
        focus (intro W hSw; go_simp; try with_reducible rfl)
        try simp only [List.getElem_toArray, List.getElem_cons_zero, List.getElem_cons_succ, Act.put, List.setIfInBounds_toArray, List.set_cons_zero, List.set_cons_succ]
        refine wpAnyH_ready (rs := [17]) (by kernel_rfl) (by simp) ?_
        refine AllReadyH.cons (o := _) rfl (fun K hK => ?_) AllReadyH.nil
        go_simp
        refine (HPP.out _ (below_drewN' (Below.refl _ _) _)).mono ?_
        rintro r w11 ⟨A11, c11, rfl, ho11, b11⟩
        have HO11 := Lib.hid (Rd.of_own ho11)
        have HH11 := Lib.hid (below_below (below_drewN' (Below.refl _ _) _) b11 (Nat.le_refl _))
        refine hK.out _ _ HH11.out (fun hHeld => ?_)
        clear hK K
        try simp only [List.getElem_toArray, List.getElem_cons_zero, List.getElem_cons_succ, Act.put, List.setIfInBounds_toArray, List.set_cons_zero, List.set_cons_succ]
        refine wpAnyH_ready (rs := [21]) (by kernel_rfl) (by simp) ?_
        refine AllReadyH.cons (o := _) rfl (fun K hK => ?_) AllReadyH.nil
        go_simp
        refine (same_len px px true HO11.out (HPX.out _ HH11.out) rfl HPL.out (decide_eq_true rfl)).mono ?_
        rintro r w12 ⟨rfl, rfl⟩
        refine hK.out _ _ HH11.out (fun hHeld => ?_)
        clear hK K
        try simp only [List.getElem_toArray, List.getElem_cons_zero, List.getElem_cons_succ, Act.put, List.setIfInBounds_toArray, List.set_cons_zero, List.set_cons_succ]
        refine wpAnyH_take (i := 22) (oi := _) (v := ?_) rfl (by kernel_rfl) (by kernel_rfl) (by kernel_rfl) (fun _ _ _ h => h) (Or.inl ⟨by rfl, ?_⟩) hHeld ?_
        rotate_left
        focus (intro W hSw; go_simp; try with_reducible rfl)
        try simp only [List.getElem_toArray, List.getElem_cons_zero, List.getElem_cons_succ, Act.put, List.setIfInBounds_toArray, List.set_cons_zero, List.set_cons_succ]
        refine wpAnyH_take (i := 23) (oi := _) (v := ?_) rfl (by kernel_rfl) (by kernel_rfl) (by kernel_rfl) (fun _ _ _ h => h) (Or.inl ⟨by rfl, ?_⟩) hHeld ?_
        rotate_left
        focus (intro W hSw; go_simp; try with_reducible rfl)
        try simp only [List.getElem_toArray, List.getElem_cons_zero, List.getElem_cons_succ, Act.put, List.setIfInBounds_toArray, List.set_cons_zero, List.set_cons_succ]
        refine wpAnyH_done (by kernel_rfl) ?_ _
        go_wp2_with fail
        go_ret
        exact ⟨rfl, below_below B8.out HH11.out S8⟩
      · rw [if_neg hpn] at hbe
        subst hbe
        go_wp2_with fail
        refine (left_any HC5.out).mono ?_
        rintro r w7 ⟨rfl, m7, rfl⟩
        obtain ⟨w8, hw8⟩ : ∃ w8, (w4.drewN m6).drewN m7 = w8 := ⟨_, rfl⟩
        have HC8 : Hid (Cur w8 w2.heap.size g2 bs p 0) := by unfold Hid; rw [← hw8]; exact HC5.out.drewN m7
        have HT8 : Hid (Rd w8 0 w8.heap.size A4 c4 (sv (strsL t))) := by unfold Hid; rw [← hw8]; exact (HT5.out.drewN m7).wide (Nat.zero_le _) (Nat.le_refl _)
        have HB8 : Hid (Rd w8 0 w.heap.size A c (bv bs)) := by unfold Hid; rw [← hw8]; exact HB5.out.drewN m7
        have B8 : Hid (Below w.heap.size w w8) := by unfold Hid; rw [← hw8]; exact below_drewN' B5.out m7
        have S8 := B8.out.size
        rw [hw8]
        clear hw8 HC5 HT5 HB5 B5
        have HLE : Hid (∀ W, Below w8.heap.size w8 W → Calls Try.prog 19 #[.pointer (some ⟨g2, 0, none⟩)] W fun x w' => x = .returned (.int .i64 ((bs.length - p : Nat) : Int)) ∧ ∃ n, w' = W.drewN n) := fun W hW => left_any (HC8.out.grown (below_gb_none (Nat.le_refl _) hW) (by simp))
        have HRR : Hid (∀ W, Below w8.heap.size w8 W → Calls Try.prog 13 #[.slice A4 t.length c4] W fun r w' => r = .returned (.bool true) ∧ ∃ m, w' = W.drewN m) := fun W hW => refright_is (strsL t) true (HT8.out.below hW (Nat.le_refl _)) HZ8.out HR.out HTL.out
        have HPP : Hid (∀ W, Below w8.heap.size w8 W → Calls Try.prog 15 #[.slice A4 t.length c4] W fun r w' => ∃ A' c', r = .returned (.slice A' px.length c') ∧ w'.ownsRow W.heap.size 5 1 (.slice A' px.length c') px.length (bv px) ∧ Below W.heap.size W w') := fun W hW => refput_is (strsL t) px ((HT8.out.below hW (Nat.le_refl _)).wide (Nat.le_refl _) hW.size) HR.out HPT.out HTL.out
        have HPX : Hid (∀ W, Below w8.heap.size w8 W → Rd W 0 w.heap.size A c (bv px)) := fun W hW => by rw [← HPK.out, bv_take]; exact (HB8.out.below hW S8).take_ p
        clear HC8 HT8 HB8
        go_wp2_with fail
        refine wp_region_held_drew (S := fun w' => Below w8.heap.size w8 w') (by kernel_rfl) (Below.drew (Below.refl _ _)) (fun hHeld => ?_)
        refine wpAnyH_take (i := 0) (oi := _) (v := ?_) rfl (by kernel_rfl) (by kernel_rfl) (by kernel_rfl) (fun _ _ _ h => h) (Or.inl ⟨by rfl, ?_⟩) hHeld ?_
        rotate_left
        focus (intro W hSw; go_simp; try with_reducible rfl)
        try simp only [List.getElem_toArray, List.getElem_cons_zero, List.getElem_cons_succ, Act.put, List.setIfInBounds_toArray, List.set_cons_zero, List.set_cons_succ]
        refine wpAnyH_take (i := 1) (oi := _) (v := ?_) rfl (by kernel_rfl) (by kernel_rfl) (by kernel_rfl) (fun _ _ _ h => h) (Or.inl ⟨by rfl, ?_⟩) hHeld ?_
        rotate_left
        focus (intro W hSw; go_simp; try with_reducible rfl)
        try simp only [List.getElem_toArray, List.getElem_cons_zero, List.getElem_cons_succ, Act.put, List.setIfInBounds_toArray, List.set_cons_zero, List.set_cons_succ]
        refine wpAnyH_take (i := 2) (oi := _) (v := ?_) rfl (by kernel_rfl) (by kernel_rfl) (by kernel_rfl) (fun _ _ _ h => h) (Or.inl ⟨by rfl, ?_⟩) hHeld ?_
        rotate_left
        focus (intro W hSw; go_simp; try with_reducible rfl)
        try simp only [List.getElem_toArray, List.getElem_cons_zero, List.getElem_cons_succ, Act.put, List.setIfInBounds_toArray, List.set_cons_zero, List.set_cons_succ]
        refine wpAnyH_take (i := 3) (oi := _) (v := undef) rfl (by kernel_rfl) (by kernel_rfl) (by kernel_rfl) (fun _ _ _ h => h) (Or.inr ⟨by rfl, rfl⟩) hHeld ?_
        try simp only [List.getElem_toArray, List.getElem_cons_zero, List.getElem_cons_succ, Act.put, List.setIfInBounds_toArray, List.set_cons_zero, List.set_cons_succ]
        refine wpAnyH_take (i := 4) (oi := _) (v := undef) rfl (by kernel_rfl) (by kernel_rfl) (by kernel_rfl) (fun _ _ _ h => h) (Or.inr ⟨by rfl, rfl⟩) hHeld ?_
        try simp only [List.getElem_toArray, List.getElem_cons_zero, List.getElem_cons_succ, Act.put, List.setIfInBounds_toArray, List.set_cons_zero, List.set_cons_succ]
        refine wpAnyH_take (i := 5) (oi := _) (v := undef) rfl (by kernel_rfl) (by kernel_rfl) (by kernel_rfl) (fun _ _ _ h => h) (Or.inr ⟨by rfl, rfl⟩) hHeld ?_
        try simp only [List.getElem_toArray, List.getElem_cons_zero, List.getElem_cons_succ, Act.put, List.setIfInBounds_toArray, List.set_cons_zero, List.set_cons_succ]
        refine wpAnyH_take (i := 6) (oi := _) (v := undef) rfl (by kernel_rfl) (by kernel_rfl) (by kernel_rfl) (fun _ _ _ h => h) (Or.inr ⟨by rfl, rfl⟩) hHeld ?_
        try simp only [List.getElem_toArray, List.getElem_cons_zero, List.getElem_cons_succ, Act.put, List.setIfInBounds_toArray, List.set_cons_zero, List.set_cons_succ]
        refine wpAnyH_take (i := 7) (oi := _) (v := undef) rfl (by kernel_rfl) (by kernel_rfl) (by kernel_rfl) (fun _ _ _ h => h) (Or.inr ⟨by rfl, rfl⟩) hHeld ?_
        try simp only [List.getElem_toArray, List.getElem_cons_zero, List.getElem_cons_succ, Act.put, List.setIfInBounds_toArray, List.set_cons_zero, List.set_cons_succ]
        refine wpAnyH_take (i := 8) (oi := _) (v := undef) rfl (by kernel_rfl) (by kernel_rfl) (by kernel_rfl) (fun _ _ _ h => h) (Or.inr ⟨by rfl, rfl⟩) hHeld ?_
        try simp only [List.getElem_toArray, List.getElem_cons_zero, List.getElem_cons_succ, Act.put, List.setIfInBounds_toArray, List.set_cons_zero, List.set_cons_succ]
        refine wpAnyH_take (i := 9) (oi := _) (v := undef) rfl (by kernel_rfl) (by kernel_rfl) (by kernel_rfl) (fun _ _ _ h => h) (Or.inr ⟨by rfl, rfl⟩) hHeld ?_
        try simp only [List.getElem_toArray, List.getElem_cons_zero, List.getElem_cons_succ, Act.put, List.setIfInBounds_toArray, List.set_cons_zero, List.set_cons_succ]
        refine wpAnyH_take (i := 10) (oi := _) (v := ?_) rfl (by kernel_rfl) (by kernel_rfl) (by kernel_rfl) (fun _ _ _ h => h) (Or.inl ⟨by rfl, ?_⟩) hHeld ?_
        rotate_left
        focus (intro W hSw; go_simp; try with_reducible rfl)
        try simp only [List.getElem_toArray, List.getElem_cons_zero, List.getElem_cons_succ, Act.put, List.setIfInBounds_toArray, List.set_cons_zero, List.set_cons_succ]
        refine wpAnyH_take (i := 11) (oi := _) (v := ?_) rfl (by kernel_rfl) (by kernel_rfl) (by kernel_rfl) (fun _ _ _ h => h) (Or.inl ⟨by rfl, ?_⟩) hHeld ?_
        rotate_left
        focus (intro W hSw; go_simp; try with_reducible rfl)
        try simp only [List.getElem_toArray, List.getElem_cons_zero, List.getElem_cons_succ, Act.put, List.setIfInBounds_toArray, List.set_cons_zero, List.set_cons_succ]
        refine wpAnyH_take (i := 12) (oi := _) (v := ?_) rfl (by kernel_rfl) (by kernel_rfl) (by kernel_rfl) (fun _ _ _ h => h) (Or.inl ⟨by rfl, ?_⟩) hHeld ?_
        rotate_left
        focus (intro W hSw; go_simp; try with_reducible rfl)
        try simp only [List.getElem_toArray, List.getElem_cons_zero, List.getElem_cons_succ, Act.put, List.setIfInBounds_toArray, List.set_cons_zero, List.set_cons_succ]
        refine wpAnyH_ready (rs := [13]) (by kernel_rfl) (by simp) ?_
        refine AllReadyH.cons (o := _) rfl (fun K hK => ?_) AllReadyH.nil
        go_simp
        refine (HRR.out _ hHeld).mono ?_
        rintro r w10 ⟨rfl, m10, rfl⟩
        refine hK.out _ _ (below_drewN' hHeld m10) (fun hHeld => ?_)
        clear hK K
        try simp only [List.getElem_toArray, List.getElem_cons_zero, List.getElem_cons_succ, Act.put, List.setIfInBounds_toArray, List.set_cons_zero, List.set_cons_succ]
        refine wpAnyH_take (i := 14) (oi := _) (v := ?_) rfl (by kernel_rfl) (by kernel_rfl) (by kernel_rfl) (fun _ _ _ h => h) (Or.inl ⟨by rfl, ?_⟩) hHeld ?_
        rotate_left
        focus (intro W hSw; go_simp; try with_reducible rfl)
        try simp only [List.getElem_toArray, List.getElem_cons_zero, List.getElem_cons_succ, Act.put, List.setIfInBounds_toArray, List.set_cons_zero, List.set_cons_succ]
        refine wpAnyH_take (i := 15) (oi := _) (v := ?_) rfl (by kernel_rfl) (by kernel_rfl) (by kernel_rfl) (fun _ _ _ h => h) (Or.inl ⟨by rfl, ?_⟩) hHeld ?_
        rotate_left
        focus (intro W hSw; go_simp; try with_reducible rfl)
        try simp only [List.getElem_toArray, List.getElem_cons_zero, List.getElem_cons_succ, Act.put, List.setIfInBounds_toArray, List.set_cons_zero, List.set_cons_succ]
        refine wpAnyH_take (i := 16) (oi := _) (v := ?_) rfl (by kernel_rfl) (by kernel_rfl) (by kernel_rfl) (fun _ _ _ h => h) (Or.inl ⟨by rfl, ?_⟩) hHeld ?_
        rotate_left
        focus (intro W hSw; go_simp; try with_reducible rfl)
        try simp only [List.getElem_toArray, List.getElem_cons_zero, List.getElem_cons_succ, Act.put, List.setIfInBounds_toArray, List.set_cons_zero, List.set_cons_succ]
        refine wpAnyH_take (i := 18) (oi := _) (v := ?_) rfl (by kernel_rfl) (by kernel_rfl) (by kernel_rfl) (fun _ _ _ h => h) (Or.inl ⟨by rfl, ?_⟩) hHeld ?_
        rotate_left
        focus (intro W hSw; go_simp; try with_reducible rfl)
        try simp only [List.getElem_toArray, List.getElem_cons_zero, List.getElem_cons_succ, Act.put, List.setIfInBounds_toArray, List.set_cons_zero, List.set_cons_succ]
        refine wpAnyH_take (i := 19) (oi := _) (v := ?_) rfl (by kernel_rfl) (by kernel_rfl) (by kernel_rfl) (fun _ _ _ h => h) (Or.inl ⟨by rfl, ?_⟩) hHeld ?_
        rotate_left
        focus (intro W hSw; go_simp; try with_reducible rfl)
        try simp only [List.getElem_toArray, List.getElem_cons_zero, List.getElem_cons_succ, Act.put, List.setIfInBounds_toArray, List.set_cons_zero, List.set_cons_succ]
        refine wpAnyH_take (i := 20) (oi := _) (v := .slice A p c) rfl (by kernel_rfl) (by kernel_rfl) (by kernel_rfl) (fun _ _ _ h => h) (Or.inl ⟨by rfl, ?_⟩) hHeld ?_
        focus (intro W hSw; go_simp; try with_reducible rfl)
        try simp only [List.getElem_toArray, List.getElem_cons_zero, List.getElem_cons_succ, Act.put, List.setIfInBounds_toArray, List.set_cons_zero, List.set_cons_succ]
        refine wpAnyH_ready (rs := [17]) (by kernel_rfl) (by simp) ?_
        refine AllReadyH.cons (o := _) rfl (fun K hK => ?_) AllReadyH.nil
        go_simp
        refine (HPP.out _ (below_drewN' (Below.refl _ _) _)).mono ?_
        rintro r w11 ⟨A11, c11, rfl, ho11, b11⟩
        have HO11 := Lib.hid (Rd.of_own ho11)
        have HH11 := Lib.hid (below_below (below_drewN' (Below.refl _ _) _) b11 (Nat.le_refl _))
        refine hK.out _ _ HH11.out (fun hHeld => ?_)
        clear hK K
        try simp only [List.getElem_toArray, List.getElem_cons_zero, List.getElem_cons_succ, Act.put, List.setIfInBounds_toArray, List.set_cons_zero, List.set_cons_succ]
        refine wpAnyH_ready (rs := [21]) (by kernel_rfl) (by simp) ?_
        refine AllReadyH.cons (o := _) rfl (fun K hK => ?_) AllReadyH.nil
        go_simp
        refine (same_len px px true HO11.out (HPX.out _ HH11.out) rfl HPL.out (decide_eq_true rfl)).mono ?_
        rintro r w12 ⟨rfl, rfl⟩
        refine hK.out _ _ HH11.out (fun hHeld => ?_)
        clear hK K
        try simp only [List.getElem_toArray, List.getElem_cons_zero, List.getElem_cons_succ, Act.put, List.setIfInBounds_toArray, List.set_cons_zero, List.set_cons_succ]
        refine wpAnyH_take (i := 22) (oi := _) (v := ?_) rfl (by kernel_rfl) (by kernel_rfl) (by kernel_rfl) (fun _ _ _ h => h) (Or.inl ⟨by rfl, ?_⟩) hHeld ?_
        rotate_left
        focus (intro W hSw; go_simp; try with_reducible rfl)
        try simp only [List.getElem_toArray, List.getElem_cons_zero, List.getElem_cons_succ, Act.put, List.setIfInBounds_toArray, List.set_cons_zero, List.set_cons_succ]
        refine wpAnyH_take (i := 23) (oi := _) (v := ?_) rfl (by kernel_rfl) (by kernel_rfl) (by kernel_rfl) (fun _ _ _ h => h) (Or.inl ⟨by rfl, ?_⟩) hHeld ?_
        rotate_left
        focus (intro W hSw; go_simp; try with_reducible rfl)
        try simp only [List.getElem_toArray, List.getElem_cons_zero, List.getElem_cons_succ, Act.put, List.setIfInBounds_toArray, List.set_cons_zero, List.set_cons_succ]
        refine wpAnyH_done (by kernel_rfl) ?_ _
        go_wp2_with fail
        go_ret
        exact ⟨rfl, below_below B8.out HH11.out S8⟩


set_option maxRecDepth 100000 in
theorem symbolGets_lifted (os : Os) (started : os.Started) (H : Type) (enc : TypeId × Value → H) :
    ReturnsInHanded {} Try.checked os 4 .any (Rows.symbolGetsSpec.pre6 enc Try.prog Try.f4 Rows.symbolGetsRow.domain false) (Rows.symbolGetsSpec.post enc Try.prog Try.f4 false true false false) := by
  refine returnsInHanded_of_change (C := Try.checked) own started (by kernel_rfl) Try.func4
    (ChangeSpec.witness6 (enc := enc) (C := Try.checked) false ⟨#[], #[.slice none 0 0], []⟩ 8 (by kernel_rfl) (by kernel_rfl) (by kernel_rfl) (by kernel_rfl)) ?_
  intro W base args ds gs before hval0 hW hcnd _
  have hval : ∀ (j : Nat) t v, Try.f4.params[j]? = some t → args[j]? = some v → Value.okWide Try.prog W .any base t v := hval0
  have hW' := hW
  obtain ⟨p, q, hA0, hV, rfl, hfz, hnd⟩ := hW
  have hA : DataW.TrodAll enc Try.prog W 0 (fun _ => true) true Try.f4.params.toList args.toList ds p := hA0
  have hA1 : DataW.TrodAll enc Try.prog W 0 (fun _ => true) true Try.f4.params.toList args.toList ds p := hA0
  rw [Try.params4] at hA hval
  obtain ⟨v0, vs0, d0, ds0, p0, q0, hargs, rfl, rfl, h0, r0⟩ := trodAll_cons hA
  obtain ⟨rfl, rfl, rfl⟩ := trodAll_nil r0
  obtain rfl : args = #[v0] := by cases args; simp_all
  obtain ⟨rfl, rfl⟩ := trodVars_none hV
  obtain ⟨A0, a0, c0, rfl, w0⟩ := open_bytes Try.underlying25 Try.underlying5 (by kernel_rfl) (hval 0 25 v0 rfl rfl) h0
  clear hA0 hval0
  refine (symbolGets_walk (w := W) w0).mono fun e W' ⟨he, bel⟩ => ?_
  subst he
  exact ⟨_, rfl, _, _, _, [], _, [], hW', trodAll_mk1 (shut_bool Try.underlying4 _), trodAll_below laidOut bel _ _ _ _ (by kernel_rfl) hA1, rfl, bel.frame _, fun h => by cases h⟩

theorem symbolGets_over : Rows.symbolGetsRow.holds Try.pinned (OpenSpec.ofChange Rows.symbolGetsSpec) :=
  OpenClaim.holds_of_wide 4 Try.f4 rfl rfl rfl rfl rfl rfl rfl ⟨rfl, rfl, rfl, rfl, rfl⟩ rfl rfl rfl rfl rfl (by kernel_rfl) Try.func4 (by kernel_rfl)
    (of_decide_eq_true (by kernel_rfl)) (by unfold Func.isWrapper; first | (rw [if_pos (by decide +kernel)]; kernel_rfl) | (rw [if_neg (by decide +kernel)]; exact ⟨rfl, rfl⟩))
    (fun os started H enc _ => symbolGets_lifted os started H enc)

/-- The statement. -/
theorem symbolGets_proved : Rows.SymbolGetsSaid := symbolGets_over


end Go.Proofs.Ytfekdbdkcfhkiaa
