/-
  Proved: PackReads returns true for all bytes and every limit, and leaves what was there as it was. No condition.
-/
import Derived.Test.YtfoadchengbedaaPPuts
import Derived.Test.YtfoadchengbedaaReadM
import Derived.Deep.RegionHeld3
import Derived.Deep.RegionWith
namespace Go.Proofs.Ytfoadchengbedaa
set_option linter.unusedSimpArgs false
set_option linter.unusedVariables false
open Go.ChangeShapes Go.WideShapes Go.ChangeAt Go.RowKit

theorem pread_is {w : World} {lo g k : Nat} {bs : List UInt8} {e : Int} (most : Int) (R : List Nat × Nat × Int) (hR : readR bs k e most = R) (h : Cur w lo g bs k e) (hb : bs.length ≤ 1000000000000) :
    Calls Try.prog 21 #[cp g, .int .i64 most] w fun r w' => ∃ A c, r = .returned (.slice A R.1.length c) ∧ w'.ownsRow w.heap.size 3 1 (.slice A R.1.length c) R.1.length (iv (ints R.1)) ∧
      Cur w' lo g bs R.2.1 R.2.2 ∧ w.grownBy w' (some g) := by
  subst hR
  exact pread_any most h hb
theorem may_len {w : World} {n : Nat} (zs : List Int) (b : Bool) (hb : mayB zs = b) {lo h' : Nat} {A : Option Addr} {c : Nat} (h : Rd w lo h' A c (iv zs)) (hn : zs.length = n) :
    Calls Try.prog 13 #[.slice A n c] w fun r w' => r = .returned (.bool b) ∧ w = w' := by
  subst hn
  exact may_is zs b hb h
theorem rwrite_len {w : World} {n : Nat} (zs : List Int) (xs : List UInt8) (hm : May zs) {h' : Nat} {A : Option Addr} {c : Nat} (h : Rd w 0 h' A c (iv zs)) (hh : h' ≤ w.heap.size) (hlen : zs.length ≤ 4294967295) (hn : zs.length = n) (hx : writeL zs = xs) :
    Calls Try.prog 19 #[.slice A n c] w fun r w' => ∃ A' c', r = .returned (.slice A' xs.length c') ∧
      w'.ownsRow w.heap.size 5 1 (.slice A' xs.length c') xs.length (bv xs) ∧ Below w.heap.size w w' := by
  subst hn hx
  exact rwrite_any zs hm h hh hlen

/-- operation 0 of the law's test -/
def r9o0 : Oper := { dst := some 35, op := Op.move (Operand.tmp 7), type := 25, pos := "law.go:62", after := #[], guard := none }
/-- operation 1 of the law's test -/
def r9o1 : Oper := { dst := some 36, op := Op.binOp BinOp.neq 25 (Operand.tmp 35) (Operand.const (Value.int IntKind.i64 0)) 25, type := 4, pos := "law.go:62", after := #[{ on := 0, ground := Ground.data }], guard := none }
/-- operation 2 of the law's test -/
def r9o2 : Oper := { dst := some 37, op := Op.move (Operand.tmp 36), type := 4, pos := "law.go:62", after := #[{ on := 1, ground := Ground.data }], guard := none }
/-- operation 3 of the law's test -/
def r9o3 : Oper := { dst := some 38, op := Op.move (Operand.tmp 7), type := 25, pos := "law.go:62", after := #[{ on := 2, ground := Ground.guard }], guard := some (2, true) }
/-- operation 4 of the law's test -/
def r9o4 : Oper := { dst := some 39, op := Op.binOp BinOp.neq 25 (Operand.tmp 38) (Operand.const (Value.int IntKind.i64 2)) 25, type := 4, pos := "law.go:62", after := #[{ on := 3, ground := Ground.data }, { on := 2, ground := Ground.guard }], guard := some (2, true) }
/-- operation 5 of the law's test -/
def r9o5 : Oper := { dst := some 40, op := Op.pick (Operand.tmp 37) (Operand.tmp 39) (Operand.const (Value.bool false)), type := 4, pos := "law.go:62", after := #[{ on := 2, ground := Ground.data }, { on := 4, ground := Ground.data }], guard := none }
/-- operation 6 of the law's test -/
def r9o6 : Oper := { dst := some 41, op := Op.move (Operand.tmp 40), type := 4, pos := "law.go:62", after := #[{ on := 5, ground := Ground.data }, { on := 2, ground := Ground.chain }], guard := none }
/-- operation 7 of the law's test -/
def r9o7 : Oper := { dst := some 42, op := Op.move (Operand.tmp 6), type := 22, pos := "law.go:62", after := #[{ on := 6, ground := Ground.guard }], guard := some (6, false) }
/-- operation 8 of the law's test -/
def r9o8 : Oper := { dst := some 43, op := Op.call { callee := Callee.builtin Builtin.len, args := #[Operand.tmp 42], argTypes := #[22] }, type := 3, pos := "law.go:62", after := #[{ on := 7, ground := Ground.data }, { on := 6, ground := Ground.guard }], guard := some (6, false) }
/-- operation 9 of the law's test -/
def r9o9 : Oper := { dst := some 44, op := Op.move (Operand.tmp 1), type := 5, pos := "law.go:62", after := #[{ on := 6, ground := Ground.guard }], guard := some (6, false) }
/-- operation 10 of the law's test -/
def r9o10 : Oper := { dst := some 45, op := Op.convert 5 3 (Operand.tmp 44), type := 3, pos := "law.go:62", after := #[{ on := 9, ground := Ground.data }, { on := 6, ground := Ground.guard }], guard := some (6, false) }
/-- operation 11 of the law's test -/
def r9o11 : Oper := { dst := some 46, op := Op.binOp BinOp.gtr 3 (Operand.tmp 43) (Operand.tmp 45) 3, type := 4, pos := "law.go:62", after := #[{ on := 8, ground := Ground.data }, { on := 10, ground := Ground.data }, { on := 6, ground := Ground.guard }], guard := some (6, false) }
/-- operation 12 of the law's test -/
def r9o12 : Oper := { dst := some 47, op := Op.pick (Operand.tmp 41) (Operand.const (Value.bool true)) (Operand.tmp 46), type := 4, pos := "law.go:62", after := #[{ on := 6, ground := Ground.data }, { on := 11, ground := Ground.data }], guard := none }
/-- operation 13 of the law's test -/
def r9o13 : Oper := { dst := some 48, op := Op.move (Operand.tmp 47), type := 4, pos := "law.go:62", after := #[{ on := 12, ground := Ground.data }, { on := 6, ground := Ground.chain }], guard := none }
/-- operation 14 of the law's test -/
def r9o14 : Oper := { dst := some 49, op := Op.move (Operand.tmp 6), type := 22, pos := "law.go:62", after := #[{ on := 13, ground := Ground.guard }], guard := some (13, false) }
/-- operation 15 of the law's test -/
def r9o15 : Oper := { dst := some 50, op := Op.call { callee := Callee.value (Operand.func 13), args := #[Operand.tmp 49], argTypes := #[22] }, type := 4, pos := "law.go:62", after := #[{ on := 14, ground := Ground.data }, { on := 13, ground := Ground.chain }, { on := 13, ground := Ground.guard }], guard := some (13, false) }
/-- operation 16 of the law's test -/
def r9o16 : Oper := { dst := some 51, op := Op.unOp UnOp.not 4 (Operand.tmp 50), type := 4, pos := "law.go:62", after := #[{ on := 15, ground := Ground.data }, { on := 13, ground := Ground.guard }], guard := some (13, false) }
/-- operation 17 of the law's test -/
def r9o17 : Oper := { dst := some 52, op := Op.pick (Operand.tmp 48) (Operand.const (Value.bool true)) (Operand.tmp 51), type := 4, pos := "law.go:62", after := #[{ on := 13, ground := Ground.data }, { on := 16, ground := Ground.data }], guard := none }
/-- operation 18 of the law's test -/
def r9o18 : Oper := { dst := some 53, op := Op.move (Operand.tmp 52), type := 4, pos := "law.go:62", after := #[{ on := 17, ground := Ground.data }, { on := 15, ground := Ground.chain }], guard := none }
/-- operation 19 of the law's test -/
def r9o19 : Oper := { dst := some 54, op := Op.move (Operand.tmp 6), type := 22, pos := "law.go:62", after := #[{ on := 18, ground := Ground.guard }], guard := some (18, false) }
/-- operation 20 of the law's test -/
def r9o20 : Oper := { dst := some 55, op := Op.call { callee := Callee.value (Operand.func 19), args := #[Operand.tmp 54], argTypes := #[22] }, type := 24, pos := "law.go:62", after := #[{ on := 19, ground := Ground.data }, { on := 18, ground := Ground.chain }, { on := 18, ground := Ground.guard }], guard := some (18, false) }
/-- operation 21 of the law's test -/
def r9o21 : Oper := { dst := some 56, op := Op.move (Operand.tmp 0), type := 24, pos := "law.go:62", after := #[{ on := 18, ground := Ground.guard }], guard := some (18, false) }
/-- operation 22 of the law's test -/
def r9o22 : Oper := { dst := some 57, op := Op.move (Operand.tmp 8), type := 3, pos := "law.go:62", after := #[{ on := 18, ground := Ground.guard }], guard := some (18, false) }
/-- operation 23 of the law's test -/
def r9o23 : Oper := { dst := some 58, op := Op.slice 24 (Operand.tmp 56) none (some (Operand.tmp 57)) none, type := 24, pos := "law.go:62", after := #[{ on := 21, ground := Ground.data }, { on := 22, ground := Ground.data }, { on := 18, ground := Ground.guard }], guard := some (18, false) }
/-- operation 24 of the law's test -/
def r9o24 : Oper := { dst := some 59, op := Op.call { callee := Callee.value (Operand.func 12), args := #[Operand.tmp 55, Operand.tmp 58], argTypes := #[24, 24] }, type := 4, pos := "law.go:62", after := #[{ on := 20, ground := Ground.data }, { on := 23, ground := Ground.data }, { on := 20, ground := Ground.chain }, { on := 18, ground := Ground.guard }], guard := some (18, false) }
/-- operation 25 of the law's test -/
def r9o25 : Oper := { dst := some 60, op := Op.unOp UnOp.not 4 (Operand.tmp 59), type := 4, pos := "law.go:62", after := #[{ on := 24, ground := Ground.data }, { on := 18, ground := Ground.guard }], guard := some (18, false) }
/-- operation 26 of the law's test -/
def r9o26 : Oper := { dst := some 61, op := Op.pick (Operand.tmp 53) (Operand.const (Value.bool true)) (Operand.tmp 60), type := 4, pos := "law.go:62", after := #[{ on := 18, ground := Ground.data }, { on := 25, ground := Ground.data }], guard := none }

set_option maxRecDepth 20000 in
set_option maxHeartbeats 1000000 in
theorem packReads_walk {w : World} {A : Option Addr} {bs : List UInt8} {c : Nat} (h : Rd w 0 w.heap.size A c (bv bs)) (mb : UInt8) :
    Calls Try.prog 6 #[.slice A bs.length c, .int .u8 (mb.toNat : Int)] w fun e w' => e = .returned (.bool true) ∧ Below w.heap.size w w' := by
  have hl := h.len
  have hc := h.cap
  rw [bv_length] at hl
  unfold maxLen at hc
  have H := Lib.hid h
  have hm := UInt8.toNat_lt mb
  clear h
  generalize mb.toNat = most at *
  by_cases h1000 : bs.length ≤ 1000
  · have hforms := readR_forms bs most (by omega)
    by_cases hne : (readR bs 0 0 (most : Int)).1 = []
    · obtain ⟨R, hR⟩ : ∃ R, readR bs 0 0 (most : Int) = R := ⟨_, rfl⟩
      rw [hR] at hne
      obtain ⟨l, k', e'⟩ := R
      dsimp only at hne
      subst hne
      have HR := Lib.hid hR
      clear hforms hR
      go_enter Try.func6, Try.ntmps6
      go_wp2_with fail
      refine (awake3_any _).mono ?_
      rintro r w1 ⟨rfl, hb1⟩
      have K1 := Lib.hid hb1
      have s1 := hb1.size
      clear hb1
      go_wp2_with fail
      refine (new_any bs _ (H.out.below K1.out (Nat.le_refl _)) (by omega)).mono ?_
      rintro r w2 ⟨g, rfl, hc2, hb2⟩
      have HC2 := Lib.hid hc2
      have K2 := Lib.hid (below_below K1.out hb2 s1)
      have s2 := hb2.size
      have hg := hc2.base
      clear hc2 hb2
      go_wp2_with fail
      refine (pread_is (most : Int) ([], k', e') HR.out HC2.out (by omega)).mono ?_
      rintro r w3 ⟨A3, c3, rfl, ho3, hc3, hg3⟩
      have HC3 := Lib.hid hc3
      have K3 := Lib.hid (below_some K2.out hg3 (by omega) (by omega))
      clear ho3 hc3 hg3
      go_wp2_with fail
      refine (end_any HC3.out).mono ?_
      rintro r w4 ⟨rfl, q, rfl⟩
      go_wp2
      go_ret
      exact ⟨rfl, below_drewN' K3.out q⟩
    · obtain ⟨he, hlm, hmy, hk, hwr, hov⟩ := hforms hne
      obtain ⟨R, hR⟩ : ∃ R, readR bs 0 0 (most : Int) = R := ⟨_, rfl⟩
      rw [hR] at hne he hlm hmy hk hwr hov
      obtain ⟨l, k', e'⟩ := R
      dsimp only at hne he hlm hmy hk hwr hov
      subst he
      obtain ⟨L, hL⟩ : ∃ L, l.length = L := ⟨_, rfl⟩
      have hLp : 0 < L := by
        rw [← hL]
        exact List.length_pos_iff.2 hne
      rw [hL] at hov hlm
      have HR := Lib.hid hR
      have HOV := Lib.hid hov
      have HMY := Lib.hid hmy
      have HMB : Hid (mayB (ints l) = true) := decide_eq_true hmy
      have HIL : Hid ((ints l).length = L) := by unfold Hid; rw [ints_length, hL]
      have HLL := Lib.hid hL
      obtain ⟨px, hpx⟩ : ∃ px, bs.take k' = px := ⟨_, rfl⟩
      rw [hpx] at hwr
      have HWR := Lib.hid hwr
      have HTK : Hid (px.length = k') := by unfold Hid; rw [← hpx, List.length_take]; omega
      have HPX := Lib.hid hpx
      have HRP : ∀ (w1 : World), Rd w1 0 w.heap.size A c (bv bs) → Rd w1 0 w.heap.size A c (bv px) := fun w1 h => by rw [← hpx, bv_take]; exact h.take_ k'
      have hL1 : (L : Int) - 1 = ((L - 1 : Nat) : Int) := by omega
      have hL1b : L - 1 ≤ 255 := by omega
      generalize L - 1 = L1 at *
      have hsub : (bs.length : Int) - ((bs.length - k' : Nat) : Int) = (k' : Int) := by omega
      have hev : endR bs k' 0 = 0 ∨ endR bs k' 0 = 2 := by
        unfold endR
        rw [if_neg (by simp)]
        split
        · exact .inr rfl
        · exact .inl rfl
      obtain ⟨ev, hevd⟩ : ∃ ev, endR bs k' 0 = ev := ⟨_, rfl⟩
      rw [hevd] at hev
      have HEV := Lib.hid hevd
      have hLz : ((L : Int) == 0) = false := by rw [beq_eq_false_iff_ne]; omega
      clear hR hov hmy hL hwr hne hforms hevd hpx
      go_enter Try.func6, Try.ntmps6
      go_wp2_with fail
      refine (awake3_any _).mono ?_
      rintro r w1 ⟨rfl, hb1⟩
      have K1 := Lib.hid hb1
      have s1 := hb1.size
      clear hb1
      go_wp2_with fail
      refine (new_any bs _ (H.out.below K1.out (Nat.le_refl _)) (by omega)).mono ?_
      rintro r w2 ⟨g, rfl, hc2, hb2⟩
      have HC2 := Lib.hid hc2
      have K2 := Lib.hid (below_below K1.out hb2 s1)
      have s2 := hb2.size
      have hg := hc2.base
      clear hc2 hb2
      go_wp2_with fail
      refine (pread_is (most : Int) (l, k', 0) HR.out HC2.out (by omega)).mono ?_
      dsimp only
      rw [HLL.out]
      rintro r w3 ⟨A3, c3, rfl, ho3, hc3, hg3⟩
      have HC3 := Lib.hid hc3
      have HO3 := Lib.hid ho3
      have K3 := Lib.hid (below_some K2.out hg3 (by omega) (by omega))
      have s3 := K3.out.size
      clear ho3 hc3 hg3
      go_wp2_with fail
      refine (end_any HC3.out).mono ?_
      rw [HEV.out]
      rintro r w4 ⟨rfl, q, rfl⟩
      go_wp2_with fail
      refine (left_any (HC3.out.drewN q)).mono ?_
      rintro r w5 ⟨rfl, q2, rfl⟩
      have HO5 : Hid ((w3.drewN (q + q2)).ownsRow w2.heap.size 3 1 (.slice A3 L c3) L (iv (ints l))) := HO3.out
      have K5 : Hid (Below w.heap.size w (w3.drewN (q + q2))) := below_drewN' K3.out (q + q2)
      have s5 : w.heap.size ≤ (w3.drewN (q + q2)).heap.size := s3
      have l1 : (0 : Int) ≤ (k' : Int) := by omega
      have l2 : (k' : Int) ≤ (bs.length : Int) := by omega
      have l4 : (bs.length : Int) ≤ (c : Int) := by omega
      have l6 : (k' : Int) ≤ (c : Int) := by omega
      have l7 : k' ≤ c := by omega
      have d1 : decide ((most : Int) < (L : Int)) = false := by simp; omega
      have d2 : decide (most < L) = false := by simp; omega
      have hwm : IntKind.i64.wrap (most : Int) = (most : Int) := IntWalk.i64_in _ (by omega)
      rcases hev with rfl | rfl
      · go_wp2_with fail
        generalize w3.drewN (q + q2) = w6 at *
        have HOD : Hid (w6.drew.ownsRow w2.heap.size 3 1 (.slice A3 L c3) L (iv (ints l))) := HO5.out
        have KD : Hid (Below w.heap.size w w6.drew) := below_drewN' K5.out 1
        have HRD := Lib.hid ((Rd.own HOD.out).wide (Nat.zero_le _) (Nat.le_refl _))
        refine wp_region_held_drew (S := fun _ => True) (by kernel_rfl) trivial (fun hHeld => ?_)
        refine wpAnyH_take (i := 0) (oi := r9o0) (v := ?_) rfl (by kernel_rfl) (by kernel_rfl) (by kernel_rfl) (fun _ _ _ h => h) (Or.inl ⟨by rfl, ?_⟩) hHeld ?_
        rotate_left
        focus (intro W hSw; unfold r9o0; go_simp; try with_reducible rfl)
        simp only [Act.put, r9o0, List.setIfInBounds_toArray, List.set_cons_zero, List.set_cons_succ]
        refine wpAnyH_take (i := 1) (oi := r9o1) (v := ?_) rfl (by kernel_rfl) (by kernel_rfl) (by kernel_rfl) (fun _ _ _ h => h) (Or.inl ⟨by rfl, ?_⟩) hHeld ?_
        rotate_left
        focus (intro W hSw; unfold r9o1; go_simp; try with_reducible rfl)
        simp only [Act.put, r9o1, List.setIfInBounds_toArray, List.set_cons_zero, List.set_cons_succ]
        refine wpAnyH_take (i := 2) (oi := r9o2) (v := ?_) rfl (by kernel_rfl) (by kernel_rfl) (by kernel_rfl) (fun _ _ _ h => h) (Or.inl ⟨by rfl, ?_⟩) hHeld ?_
        rotate_left
        focus (intro W hSw; unfold r9o2; go_simp; try with_reducible rfl)
        simp only [Act.put, r9o2, List.setIfInBounds_toArray, List.set_cons_zero, List.set_cons_succ]
        refine wpAnyH_take (i := 3) (oi := r9o3) (v := undef) rfl (by kernel_rfl) (by kernel_rfl) (by kernel_rfl) (fun _ _ _ h => h) (Or.inr ⟨by rfl, rfl⟩) hHeld ?_
        simp only [Act.put, r9o3, List.setIfInBounds_toArray, List.set_cons_zero, List.set_cons_succ]
        refine wpAnyH_take (i := 4) (oi := r9o4) (v := undef) rfl (by kernel_rfl) (by kernel_rfl) (by kernel_rfl) (fun _ _ _ h => h) (Or.inr ⟨by rfl, rfl⟩) hHeld ?_
        simp only [Act.put, r9o4, List.setIfInBounds_toArray, List.set_cons_zero, List.set_cons_succ]
        refine wpAnyH_take (i := 5) (oi := r9o5) (v := ?_) rfl (by kernel_rfl) (by kernel_rfl) (by kernel_rfl) (fun _ _ _ h => h) (Or.inl ⟨by rfl, ?_⟩) hHeld ?_
        rotate_left
        focus (intro W hSw; unfold r9o5; go_simp; try with_reducible rfl)
        simp only [Act.put, r9o5, List.setIfInBounds_toArray, List.set_cons_zero, List.set_cons_succ]
        refine wpAnyH_take (i := 6) (oi := r9o6) (v := ?_) rfl (by kernel_rfl) (by kernel_rfl) (by kernel_rfl) (fun _ _ _ h => h) (Or.inl ⟨by rfl, ?_⟩) hHeld ?_
        rotate_left
        focus (intro W hSw; unfold r9o6; go_simp; try with_reducible rfl)
        simp only [Act.put, r9o6, List.setIfInBounds_toArray, List.set_cons_zero, List.set_cons_succ]
        refine wpAnyH_take (i := 7) (oi := r9o7) (v := ?_) rfl (by kernel_rfl) (by kernel_rfl) (by kernel_rfl) (fun _ _ _ h => h) (Or.inl ⟨by rfl, ?_⟩) hHeld ?_
        rotate_left
        focus (intro W hSw; unfold r9o7; go_simp; try with_reducible rfl)
        simp only [Act.put, r9o7, List.setIfInBounds_toArray, List.set_cons_zero, List.set_cons_succ]
        refine wpAnyH_take (i := 8) (oi := r9o8) (v := ?_) rfl (by kernel_rfl) (by kernel_rfl) (by kernel_rfl) (fun _ _ _ h => h) (Or.inl ⟨by rfl, ?_⟩) hHeld ?_
        rotate_left
        focus (intro W hSw; unfold r9o8; go_simp; try with_reducible rfl)
        simp only [Act.put, r9o8, List.setIfInBounds_toArray, List.set_cons_zero, List.set_cons_succ]
        refine wpAnyH_take (i := 9) (oi := r9o9) (v := ?_) rfl (by kernel_rfl) (by kernel_rfl) (by kernel_rfl) (fun _ _ _ h => h) (Or.inl ⟨by rfl, ?_⟩) hHeld ?_
        rotate_left
        focus (intro W hSw; unfold r9o9; go_simp; try with_reducible rfl)
        simp only [Act.put, r9o9, List.setIfInBounds_toArray, List.set_cons_zero, List.set_cons_succ]
        refine wpAnyH_take (i := 10) (oi := r9o10) (v := ?_) rfl (by kernel_rfl) (by kernel_rfl) (by kernel_rfl) (fun _ _ _ h => h) (Or.inl ⟨by rfl, ?_⟩) hHeld ?_
        rotate_left
        focus (intro W hSw; unfold r9o10; go_simp; try with_reducible rfl)
        simp only [Act.put, r9o10, List.setIfInBounds_toArray, List.set_cons_zero, List.set_cons_succ]
        refine wpAnyH_take (i := 11) (oi := r9o11) (v := ?_) rfl (by kernel_rfl) (by kernel_rfl) (by kernel_rfl) (fun _ _ _ h => h) (Or.inl ⟨by rfl, ?_⟩) hHeld ?_
        rotate_left
        focus (intro W hSw; unfold r9o11; go_simp; try with_reducible rfl)
        simp only [Act.put, r9o11, List.setIfInBounds_toArray, List.set_cons_zero, List.set_cons_succ]
        refine wpAnyH_take (i := 12) (oi := r9o12) (v := ?_) rfl (by kernel_rfl) (by kernel_rfl) (by kernel_rfl) (fun _ _ _ h => h) (Or.inl ⟨by rfl, ?_⟩) hHeld ?_
        rotate_left
        focus (intro W hSw; unfold r9o12; go_simp; try with_reducible rfl)
        simp only [Act.put, r9o12, List.setIfInBounds_toArray, List.set_cons_zero, List.set_cons_succ]
        refine wpAnyH_take (i := 13) (oi := r9o13) (v := ?_) rfl (by kernel_rfl) (by kernel_rfl) (by kernel_rfl) (fun _ _ _ h => h) (Or.inl ⟨by rfl, ?_⟩) hHeld ?_
        rotate_left
        focus (intro W hSw; unfold r9o13; go_simp; try with_reducible rfl)
        simp only [Act.put, r9o13, List.setIfInBounds_toArray, List.set_cons_zero, List.set_cons_succ]
        refine wpAnyH_take (i := 14) (oi := r9o14) (v := ?_) rfl (by kernel_rfl) (by kernel_rfl) (by kernel_rfl) (fun _ _ _ h => h) (Or.inl ⟨by rfl, ?_⟩) hHeld ?_
        rotate_left
        focus (intro W hSw; unfold r9o14; go_simp; try with_reducible rfl)
        simp only [Act.put, r9o14, List.setIfInBounds_toArray, List.set_cons_zero, List.set_cons_succ]
        refine wpAnyH_ready (rs := [15]) (by kernel_rfl) (by simp) ?_
        refine AllReadyH.cons (o := r9o15) rfl (fun K hK => ?_) AllReadyH.nil
        unfold r9o15
        go_simp
        refine (may_len (ints l) true HMB.out HRD.out HIL.out).mono ?_
        rintro r w1 ⟨rfl, rfl⟩
        refine hK.out _ _ trivial (fun hHeld => ?_)
        clear hK K
        refine wpAnyH_take (i := 16) (oi := r9o16) (v := ?_) rfl (by kernel_rfl) (by kernel_rfl) (by kernel_rfl) (fun _ _ _ h => h) (Or.inl ⟨by rfl, ?_⟩) hHeld ?_
        rotate_left
        focus (intro W hSw; unfold r9o16; go_simp; try with_reducible rfl)
        simp only [Act.put, r9o16, List.setIfInBounds_toArray, List.set_cons_zero, List.set_cons_succ]
        refine wpAnyH_take (i := 17) (oi := r9o17) (v := ?_) rfl (by kernel_rfl) (by kernel_rfl) (by kernel_rfl) (fun _ _ _ h => h) (Or.inl ⟨by rfl, ?_⟩) hHeld ?_
        rotate_left
        focus (intro W hSw; unfold r9o17; go_simp; try with_reducible rfl)
        simp only [Act.put, r9o17, List.setIfInBounds_toArray, List.set_cons_zero, List.set_cons_succ]
        refine wpAnyH_take (i := 18) (oi := r9o18) (v := ?_) rfl (by kernel_rfl) (by kernel_rfl) (by kernel_rfl) (fun _ _ _ h => h) (Or.inl ⟨by rfl, ?_⟩) hHeld ?_
        rotate_left
        focus (intro W hSw; unfold r9o18; go_simp; try with_reducible rfl)
        simp only [Act.put, r9o18, List.setIfInBounds_toArray, List.set_cons_zero, List.set_cons_succ]
        refine wpAnyH_take (i := 19) (oi := r9o19) (v := ?_) rfl (by kernel_rfl) (by kernel_rfl) (by kernel_rfl) (fun _ _ _ h => h) (Or.inl ⟨by rfl, ?_⟩) hHeld ?_
        rotate_left
        focus (intro W hSw; unfold r9o19; go_simp; try with_reducible rfl)
        simp only [Act.put, r9o19, List.setIfInBounds_toArray, List.set_cons_zero, List.set_cons_succ]
        refine wpAnyH_take (i := 21) (oi := r9o21) (v := ?_) rfl (by kernel_rfl) (by kernel_rfl) (by kernel_rfl) (fun _ _ _ h => h) (Or.inl ⟨by rfl, ?_⟩) hHeld ?_
        rotate_left
        focus (intro W hSw; unfold r9o21; go_simp; try with_reducible rfl)
        simp only [Act.put, r9o21, List.setIfInBounds_toArray, List.set_cons_zero, List.set_cons_succ]
        refine wpAnyH_take (i := 22) (oi := r9o22) (v := ?_) rfl (by kernel_rfl) (by kernel_rfl) (by kernel_rfl) (fun _ _ _ h => h) (Or.inl ⟨by rfl, ?_⟩) hHeld ?_
        rotate_left
        focus (intro W hSw; unfold r9o22; go_simp; try with_reducible rfl)
        simp only [Act.put, r9o22, List.setIfInBounds_toArray, List.set_cons_zero, List.set_cons_succ]
        refine wpAnyH_take (i := 23) (oi := r9o23) (v := ?_) rfl (by kernel_rfl) (by kernel_rfl) (by kernel_rfl) (fun _ _ _ h => h) (Or.inl ⟨by rfl, ?_⟩) hHeld ?_
        rotate_left
        focus (intro W hSw; unfold r9o23; go_simp; try with_reducible rfl)
        simp only [Act.put, r9o23, List.setIfInBounds_toArray, List.set_cons_zero, List.set_cons_succ]
        refine wpAnyH_ready (rs := [20]) (by kernel_rfl) (by simp) ?_
        refine AllReadyH.cons (o := r9o20) rfl (fun K hK => ?_) AllReadyH.nil
        unfold r9o20
        go_simp
        refine (rwrite_len (ints l) px HMY.out HRD.out (Nat.le_refl _) (by have := HIL.out; omega) HIL.out HWR.out).mono ?_
        rintro r w7 ⟨A7, c7, rfl, hown, hb7⟩
        have HO7 := Lib.hid hown
        have HB7 := Lib.hid hb7
        clear hown hb7
        refine hK.out _ _ trivial (fun hHeld => ?_)
        clear hK K
        refine wpAnyH_ready (rs := [24]) (by kernel_rfl) (by simp) ?_
        refine AllReadyH.cons (o := r9o24) rfl (fun K hK => ?_) AllReadyH.nil
        unfold r9o24
        go_simp
        refine (same_len px px true (Rd.own HO7.out) (HRP _ ((H.out.below KD.out (Nat.le_refl _)).below HB7.out s5)) rfl HTK.out (decide_eq_true rfl)).mono ?_
        rintro r w8 ⟨rfl, rfl⟩
        refine hK.out _ _ trivial (fun hHeld => ?_)
        clear hK K
        refine wpAnyH_take (i := 25) (oi := r9o25) (v := ?_) rfl (by kernel_rfl) (by kernel_rfl) (by kernel_rfl) (fun _ _ _ h => h) (Or.inl ⟨by rfl, ?_⟩) hHeld ?_
        rotate_left
        focus (intro W hSw; unfold r9o25; go_simp; try with_reducible rfl)
        simp only [Act.put, r9o25, List.setIfInBounds_toArray, List.set_cons_zero, List.set_cons_succ]
        refine wpAnyH_take (i := 26) (oi := r9o26) (v := ?_) rfl (by kernel_rfl) (by kernel_rfl) (by kernel_rfl) (fun _ _ _ h => h) (Or.inl ⟨by rfl, ?_⟩) hHeld ?_
        rotate_left
        focus (intro W hSw; unfold r9o26; go_simp; try with_reducible rfl)
        simp only [Act.put, r9o26, List.setIfInBounds_toArray, List.set_cons_zero, List.set_cons_succ]
        refine wpAnyH_done (by kernel_rfl) ?_ _
        have K7 := Lib.hid (below_below KD.out HB7.out s5)
        have s7 := K7.out.size
        go_wp2_with fail
        refine (new_any bs _ (H.out.below K7.out (Nat.le_refl _)) (by omega)).mono ?_
        rintro r w9 ⟨g9, rfl, hc9, hb9⟩
        have HC9 := Lib.hid hc9
        have K9 := Lib.hid (below_below K7.out hb9 s7)
        have s9 := hb9.size
        have hg9 := hc9.base
        clear hc9 hb9
        go_wp2_with fail
        refine (pread_is (L1 : Int) ([], 0, 3) HOV.out HC9.out (by omega)).mono ?_
        rintro r w10 ⟨A10, c10, rfl, ho10, hc10, hg10⟩
        have HC10 := Lib.hid hc10
        have K10 := Lib.hid (below_some K9.out hg10 (by omega) (by omega))
        have hend : endR bs 0 3 = 3 := rfl
        have HEN := Lib.hid (end_any hc10)
        rw [hend] at HEN
        clear ho10 hc10 hg10 hend
        go_wp2_with fail
        refine HEN.out.mono ?_
        rintro r w11 ⟨rfl, q3, rfl⟩
        go_wp2
        go_ret
        exact ⟨rfl, below_drewN' K10.out q3⟩
      · go_wp2_with fail
        generalize w3.drewN (q + q2) = w6 at *
        have HOD : Hid (w6.drew.ownsRow w2.heap.size 3 1 (.slice A3 L c3) L (iv (ints l))) := HO5.out
        have KD : Hid (Below w.heap.size w w6.drew) := below_drewN' K5.out 1
        have HRD := Lib.hid ((Rd.own HOD.out).wide (Nat.zero_le _) (Nat.le_refl _))
        refine wp_region_held_drew (S := fun _ => True) (by kernel_rfl) trivial (fun hHeld => ?_)
        refine wpAnyH_take (i := 0) (oi := r9o0) (v := ?_) rfl (by kernel_rfl) (by kernel_rfl) (by kernel_rfl) (fun _ _ _ h => h) (Or.inl ⟨by rfl, ?_⟩) hHeld ?_
        rotate_left
        focus (intro W hSw; unfold r9o0; go_simp; try with_reducible rfl)
        simp only [Act.put, r9o0, List.setIfInBounds_toArray, List.set_cons_zero, List.set_cons_succ]
        refine wpAnyH_take (i := 1) (oi := r9o1) (v := ?_) rfl (by kernel_rfl) (by kernel_rfl) (by kernel_rfl) (fun _ _ _ h => h) (Or.inl ⟨by rfl, ?_⟩) hHeld ?_
        rotate_left
        focus (intro W hSw; unfold r9o1; go_simp; try with_reducible rfl)
        simp only [Act.put, r9o1, List.setIfInBounds_toArray, List.set_cons_zero, List.set_cons_succ]
        refine wpAnyH_take (i := 2) (oi := r9o2) (v := ?_) rfl (by kernel_rfl) (by kernel_rfl) (by kernel_rfl) (fun _ _ _ h => h) (Or.inl ⟨by rfl, ?_⟩) hHeld ?_
        rotate_left
        focus (intro W hSw; unfold r9o2; go_simp; try with_reducible rfl)
        simp only [Act.put, r9o2, List.setIfInBounds_toArray, List.set_cons_zero, List.set_cons_succ]
        refine wpAnyH_take (i := 3) (oi := r9o3) (v := ?_) rfl (by kernel_rfl) (by kernel_rfl) (by kernel_rfl) (fun _ _ _ h => h) (Or.inl ⟨by rfl, ?_⟩) hHeld ?_
        rotate_left
        focus (intro W hSw; unfold r9o3; go_simp; try with_reducible rfl)
        simp only [Act.put, r9o3, List.setIfInBounds_toArray, List.set_cons_zero, List.set_cons_succ]
        refine wpAnyH_take (i := 4) (oi := r9o4) (v := ?_) rfl (by kernel_rfl) (by kernel_rfl) (by kernel_rfl) (fun _ _ _ h => h) (Or.inl ⟨by rfl, ?_⟩) hHeld ?_
        rotate_left
        focus (intro W hSw; unfold r9o4; go_simp; try with_reducible rfl)
        simp only [Act.put, r9o4, List.setIfInBounds_toArray, List.set_cons_zero, List.set_cons_succ]
        refine wpAnyH_take (i := 5) (oi := r9o5) (v := ?_) rfl (by kernel_rfl) (by kernel_rfl) (by kernel_rfl) (fun _ _ _ h => h) (Or.inl ⟨by rfl, ?_⟩) hHeld ?_
        rotate_left
        focus (intro W hSw; unfold r9o5; go_simp; try with_reducible rfl)
        simp only [Act.put, r9o5, List.setIfInBounds_toArray, List.set_cons_zero, List.set_cons_succ]
        refine wpAnyH_take (i := 6) (oi := r9o6) (v := ?_) rfl (by kernel_rfl) (by kernel_rfl) (by kernel_rfl) (fun _ _ _ h => h) (Or.inl ⟨by rfl, ?_⟩) hHeld ?_
        rotate_left
        focus (intro W hSw; unfold r9o6; go_simp; try with_reducible rfl)
        simp only [Act.put, r9o6, List.setIfInBounds_toArray, List.set_cons_zero, List.set_cons_succ]
        refine wpAnyH_take (i := 7) (oi := r9o7) (v := ?_) rfl (by kernel_rfl) (by kernel_rfl) (by kernel_rfl) (fun _ _ _ h => h) (Or.inl ⟨by rfl, ?_⟩) hHeld ?_
        rotate_left
        focus (intro W hSw; unfold r9o7; go_simp; try with_reducible rfl)
        simp only [Act.put, r9o7, List.setIfInBounds_toArray, List.set_cons_zero, List.set_cons_succ]
        refine wpAnyH_take (i := 8) (oi := r9o8) (v := ?_) rfl (by kernel_rfl) (by kernel_rfl) (by kernel_rfl) (fun _ _ _ h => h) (Or.inl ⟨by rfl, ?_⟩) hHeld ?_
        rotate_left
        focus (intro W hSw; unfold r9o8; go_simp; try with_reducible rfl)
        simp only [Act.put, r9o8, List.setIfInBounds_toArray, List.set_cons_zero, List.set_cons_succ]
        refine wpAnyH_take (i := 9) (oi := r9o9) (v := ?_) rfl (by kernel_rfl) (by kernel_rfl) (by kernel_rfl) (fun _ _ _ h => h) (Or.inl ⟨by rfl, ?_⟩) hHeld ?_
        rotate_left
        focus (intro W hSw; unfold r9o9; go_simp; try with_reducible rfl)
        simp only [Act.put, r9o9, List.setIfInBounds_toArray, List.set_cons_zero, List.set_cons_succ]
        refine wpAnyH_take (i := 10) (oi := r9o10) (v := ?_) rfl (by kernel_rfl) (by kernel_rfl) (by kernel_rfl) (fun _ _ _ h => h) (Or.inl ⟨by rfl, ?_⟩) hHeld ?_
        rotate_left
        focus (intro W hSw; unfold r9o10; go_simp; try with_reducible rfl)
        simp only [Act.put, r9o10, List.setIfInBounds_toArray, List.set_cons_zero, List.set_cons_succ]
        refine wpAnyH_take (i := 11) (oi := r9o11) (v := ?_) rfl (by kernel_rfl) (by kernel_rfl) (by kernel_rfl) (fun _ _ _ h => h) (Or.inl ⟨by rfl, ?_⟩) hHeld ?_
        rotate_left
        focus (intro W hSw; unfold r9o11; go_simp; try with_reducible rfl)
        simp only [Act.put, r9o11, List.setIfInBounds_toArray, List.set_cons_zero, List.set_cons_succ]
        refine wpAnyH_take (i := 12) (oi := r9o12) (v := ?_) rfl (by kernel_rfl) (by kernel_rfl) (by kernel_rfl) (fun _ _ _ h => h) (Or.inl ⟨by rfl, ?_⟩) hHeld ?_
        rotate_left
        focus (intro W hSw; unfold r9o12; go_simp; try with_reducible rfl)
        simp only [Act.put, r9o12, List.setIfInBounds_toArray, List.set_cons_zero, List.set_cons_succ]
        refine wpAnyH_take (i := 13) (oi := r9o13) (v := ?_) rfl (by kernel_rfl) (by kernel_rfl) (by kernel_rfl) (fun _ _ _ h => h) (Or.inl ⟨by rfl, ?_⟩) hHeld ?_
        rotate_left
        focus (intro W hSw; unfold r9o13; go_simp; try with_reducible rfl)
        simp only [Act.put, r9o13, List.setIfInBounds_toArray, List.set_cons_zero, List.set_cons_succ]
        refine wpAnyH_take (i := 14) (oi := r9o14) (v := ?_) rfl (by kernel_rfl) (by kernel_rfl) (by kernel_rfl) (fun _ _ _ h => h) (Or.inl ⟨by rfl, ?_⟩) hHeld ?_
        rotate_left
        focus (intro W hSw; unfold r9o14; go_simp; try with_reducible rfl)
        simp only [Act.put, r9o14, List.setIfInBounds_toArray, List.set_cons_zero, List.set_cons_succ]
        refine wpAnyH_ready (rs := [15]) (by kernel_rfl) (by simp) ?_
        refine AllReadyH.cons (o := r9o15) rfl (fun K hK => ?_) AllReadyH.nil
        unfold r9o15
        go_simp
        refine (may_len (ints l) true HMB.out HRD.out HIL.out).mono ?_
        rintro r w1 ⟨rfl, rfl⟩
        refine hK.out _ _ trivial (fun hHeld => ?_)
        clear hK K
        refine wpAnyH_take (i := 16) (oi := r9o16) (v := ?_) rfl (by kernel_rfl) (by kernel_rfl) (by kernel_rfl) (fun _ _ _ h => h) (Or.inl ⟨by rfl, ?_⟩) hHeld ?_
        rotate_left
        focus (intro W hSw; unfold r9o16; go_simp; try with_reducible rfl)
        simp only [Act.put, r9o16, List.setIfInBounds_toArray, List.set_cons_zero, List.set_cons_succ]
        refine wpAnyH_take (i := 17) (oi := r9o17) (v := ?_) rfl (by kernel_rfl) (by kernel_rfl) (by kernel_rfl) (fun _ _ _ h => h) (Or.inl ⟨by rfl, ?_⟩) hHeld ?_
        rotate_left
        focus (intro W hSw; unfold r9o17; go_simp; try with_reducible rfl)
        simp only [Act.put, r9o17, List.setIfInBounds_toArray, List.set_cons_zero, List.set_cons_succ]
        refine wpAnyH_take (i := 18) (oi := r9o18) (v := ?_) rfl (by kernel_rfl) (by kernel_rfl) (by kernel_rfl) (fun _ _ _ h => h) (Or.inl ⟨by rfl, ?_⟩) hHeld ?_
        rotate_left
        focus (intro W hSw; unfold r9o18; go_simp; try with_reducible rfl)
        simp only [Act.put, r9o18, List.setIfInBounds_toArray, List.set_cons_zero, List.set_cons_succ]
        refine wpAnyH_take (i := 19) (oi := r9o19) (v := ?_) rfl (by kernel_rfl) (by kernel_rfl) (by kernel_rfl) (fun _ _ _ h => h) (Or.inl ⟨by rfl, ?_⟩) hHeld ?_
        rotate_left
        focus (intro W hSw; unfold r9o19; go_simp; try with_reducible rfl)
        simp only [Act.put, r9o19, List.setIfInBounds_toArray, List.set_cons_zero, List.set_cons_succ]
        refine wpAnyH_take (i := 21) (oi := r9o21) (v := ?_) rfl (by kernel_rfl) (by kernel_rfl) (by kernel_rfl) (fun _ _ _ h => h) (Or.inl ⟨by rfl, ?_⟩) hHeld ?_
        rotate_left
        focus (intro W hSw; unfold r9o21; go_simp; try with_reducible rfl)
        simp only [Act.put, r9o21, List.setIfInBounds_toArray, List.set_cons_zero, List.set_cons_succ]
        refine wpAnyH_take (i := 22) (oi := r9o22) (v := ?_) rfl (by kernel_rfl) (by kernel_rfl) (by kernel_rfl) (fun _ _ _ h => h) (Or.inl ⟨by rfl, ?_⟩) hHeld ?_
        rotate_left
        focus (intro W hSw; unfold r9o22; go_simp; try with_reducible rfl)
        simp only [Act.put, r9o22, List.setIfInBounds_toArray, List.set_cons_zero, List.set_cons_succ]
        refine wpAnyH_take (i := 23) (oi := r9o23) (v := ?_) rfl (by kernel_rfl) (by kernel_rfl) (by kernel_rfl) (fun _ _ _ h => h) (Or.inl ⟨by rfl, ?_⟩) hHeld ?_
        rotate_left
        focus (intro W hSw; unfold r9o23; go_simp; try with_reducible rfl)
        simp only [Act.put, r9o23, List.setIfInBounds_toArray, List.set_cons_zero, List.set_cons_succ]
        refine wpAnyH_ready (rs := [20]) (by kernel_rfl) (by simp) ?_
        refine AllReadyH.cons (o := r9o20) rfl (fun K hK => ?_) AllReadyH.nil
        unfold r9o20
        go_simp
        refine (rwrite_len (ints l) px HMY.out HRD.out (Nat.le_refl _) (by have := HIL.out; omega) HIL.out HWR.out).mono ?_
        rintro r w7 ⟨A7, c7, rfl, hown, hb7⟩
        have HO7 := Lib.hid hown
        have HB7 := Lib.hid hb7
        clear hown hb7
        refine hK.out _ _ trivial (fun hHeld => ?_)
        clear hK K
        refine wpAnyH_ready (rs := [24]) (by kernel_rfl) (by simp) ?_
        refine AllReadyH.cons (o := r9o24) rfl (fun K hK => ?_) AllReadyH.nil
        unfold r9o24
        go_simp
        refine (same_len px px true (Rd.own HO7.out) (HRP _ ((H.out.below KD.out (Nat.le_refl _)).below HB7.out s5)) rfl HTK.out (decide_eq_true rfl)).mono ?_
        rintro r w8 ⟨rfl, rfl⟩
        refine hK.out _ _ trivial (fun hHeld => ?_)
        clear hK K
        refine wpAnyH_take (i := 25) (oi := r9o25) (v := ?_) rfl (by kernel_rfl) (by kernel_rfl) (by kernel_rfl) (fun _ _ _ h => h) (Or.inl ⟨by rfl, ?_⟩) hHeld ?_
        rotate_left
        focus (intro W hSw; unfold r9o25; go_simp; try with_reducible rfl)
        simp only [Act.put, r9o25, List.setIfInBounds_toArray, List.set_cons_zero, List.set_cons_succ]
        refine wpAnyH_take (i := 26) (oi := r9o26) (v := ?_) rfl (by kernel_rfl) (by kernel_rfl) (by kernel_rfl) (fun _ _ _ h => h) (Or.inl ⟨by rfl, ?_⟩) hHeld ?_
        rotate_left
        focus (intro W hSw; unfold r9o26; go_simp; try with_reducible rfl)
        simp only [Act.put, r9o26, List.setIfInBounds_toArray, List.set_cons_zero, List.set_cons_succ]
        refine wpAnyH_done (by kernel_rfl) ?_ _
        have K7 := Lib.hid (below_below KD.out HB7.out s5)
        have s7 := K7.out.size
        go_wp2_with fail
        refine (new_any bs _ (H.out.below K7.out (Nat.le_refl _)) (by omega)).mono ?_
        rintro r w9 ⟨g9, rfl, hc9, hb9⟩
        have HC9 := Lib.hid hc9
        have K9 := Lib.hid (below_below K7.out hb9 s7)
        have s9 := hb9.size
        have hg9 := hc9.base
        clear hc9 hb9
        go_wp2_with fail
        refine (pread_is (L1 : Int) ([], 0, 3) HOV.out HC9.out (by omega)).mono ?_
        rintro r w10 ⟨A10, c10, rfl, ho10, hc10, hg10⟩
        have HC10 := Lib.hid hc10
        have K10 := Lib.hid (below_some K9.out hg10 (by omega) (by omega))
        have hend : endR bs 0 3 = 3 := rfl
        have HEN := Lib.hid (end_any hc10)
        rw [hend] at HEN
        clear ho10 hc10 hg10 hend
        go_wp2_with fail
        refine HEN.out.mono ?_
        rintro r w11 ⟨rfl, q3, rfl⟩
        go_wp2
        go_ret
        exact ⟨rfl, below_drewN' K10.out q3⟩
  · go_enter Try.func6, Try.ntmps6
    go_wp2_with fail
    refine (awake3_any _).mono ?_
    rintro r w1 ⟨rfl, hb1⟩
    have HB1 := Lib.hid hb1
    clear hb1
    go_wp2_with fail
    refine (awake3_any _).mono ?_
    rintro r w2 ⟨rfl, hb2⟩
    have HB2 := Lib.hid hb2
    clear hb2
    go_wp2
    go_ret
    exact ⟨rfl, below_below HB1.out HB2.out HB1.out.size⟩

set_option maxRecDepth 100000 in
theorem packReads_lifted (os : Os) (started : os.Started) (H : Type) (enc : TypeId × Value → H) :
    ReturnsInHanded {} Try.checked os 6 .any (Rows.packReadsSpec.pre6 enc Try.prog Try.f6 Rows.packReadsRow.domain false) (Rows.packReadsSpec.post enc Try.prog Try.f6 false true false false) := by
  refine returnsInHanded_of_change (C := Try.checked) own started (by kernel_rfl) Try.func6
    (ChangeSpec.witness6 (enc := enc) (C := Try.checked) false ⟨#[], #[.slice none 0 0, .int .u8 0], []⟩ 8 (by kernel_rfl) (by kernel_rfl) (by kernel_rfl) (by kernel_rfl)) ?_
  intro W base args ds gs before hval0 hW hcnd _
  have hval : ∀ (j : Nat) t v, Try.f6.params[j]? = some t → args[j]? = some v → Value.okWide Try.prog W .any base t v := hval0
  have hW' := hW
  obtain ⟨p, q, hA0, hV, rfl, hfz, hnd⟩ := hW
  have hA : DataW.TrodAll enc Try.prog W 0 (fun _ => true) true Try.f6.params.toList args.toList ds p := hA0
  have hA1 : DataW.TrodAll enc Try.prog W 0 (fun _ => true) true Try.f6.params.toList args.toList ds p := hA0
  rw [Try.params6] at hA hval
  obtain ⟨v0, vs0, d0, ds0, p0, q0, hargs, rfl, rfl, h0, r0⟩ := trodAll_cons hA
  obtain ⟨v1, vs1, d1, ds1, p1, q1, rfl, rfl, rfl, h1, r1⟩ := trodAll_cons r0
  obtain ⟨rfl, rfl, rfl⟩ := trodAll_nil r1
  obtain rfl : args = #[v0, v1] := by cases args; simp_all
  obtain ⟨rfl, rfl⟩ := trodVars_none hV
  obtain ⟨A0, a0, c0, rfl, w0⟩ := open_bytes Try.underlying24 Try.underlying5 (by kernel_rfl) (hval 0 24 v0 rfl rfl) h0
  obtain ⟨a1, rfl, rfl, rfl, w1⟩ := open_int Try.underlying5 (hval 1 5 v1 rfl rfl) h1
  obtain ⟨b1, rfl⟩ := u8_of_wf w1
  clear hA0 hval0
  refine (packReads_walk (w := W) w0 b1).mono fun e W' ⟨he, bel⟩ => ?_
  subst he
  exact ⟨_, rfl, _, _, _, [], _, [], hW', trodAll_mk1 (shut_bool Try.underlying4 _), trodAll_below laidOut bel _ _ _ _ (by kernel_rfl) hA1, rfl, bel.frame _, fun h => by cases h⟩

theorem packReads_over : Rows.packReadsRow.holds Try.pinned (OpenSpec.ofChange Rows.packReadsSpec) :=
  OpenClaim.holds_of_wide 6 Try.f6 rfl rfl rfl rfl rfl rfl rfl ⟨rfl, rfl, rfl, rfl, rfl⟩ rfl rfl rfl rfl rfl (by kernel_rfl) Try.func6 (by kernel_rfl)
    (of_decide_eq_true (by kernel_rfl)) (by unfold Func.isWrapper; first | (rw [if_pos (by decide +kernel)]; kernel_rfl) | (rw [if_neg (by decide +kernel)]; exact ⟨rfl, rfl⟩))
    (fun os started H enc _ => packReads_lifted os started H enc)

/-- The statement. -/
theorem packReads_proved : Rows.PackReadsSaid := packReads_over


end Go.Proofs.Ytfoadchengbedaa
