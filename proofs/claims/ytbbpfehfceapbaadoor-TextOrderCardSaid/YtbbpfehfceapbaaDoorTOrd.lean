/-
  The walk of TextOrder.
-/
import Derived.Test.YtbbpfehfceapbaaDoorTFol
namespace Go.Proofs.YtbbpfehfceapbaaDoor
set_option linter.unusedSimpArgs false
set_option linter.unusedVariables false
open Go.RowKit

theorem cmpP_three : ∀ (a b : List Nat), cmpP a b = -1 ∨ cmpP a b = 0 ∨ cmpP a b = 1
  | [], [] => by simp [cmpP]
  | [], _ :: _ => by simp [cmpP]
  | _ :: _, [] => by simp [cmpP]
  | x :: a, y :: b => by
    unfold cmpP
    split
    · simp
    · split
      · simp
      · exact cmpP_three a b
theorem byPoints_named {w : World} (a b : ByteArray) (x : Int) (h : cmpP (ptsL a.data.toList) (ptsL b.data.toList) = x) (ha : a.size ≤ 1000000) (hb : b.size ≤ 1000000) (hT : Tabs w) :
    Calls Tryd.prog 21 #[.string a, .string b] w fun r w' => r = .returned (.int .i64 x) ∧ Below w.heap.size w w' := by
  subst h
  exact byPoints_any a b ha hb hT
theorem byFold_named {w : World} (a b : ByteArray) (x : Int) (h : cmpL (foldL a.data.toList) (foldL b.data.toList) = x) (ha : a.size ≤ 1000000) (hb : b.size ≤ 1000000) :
    Calls Tryd.prog 19 #[.string a, .string b] w fun r w' => r = .returned (.int .i64 x) ∧ Below w.heap.size w w' := by
  subst h
  exact byFold_any a b ha hb
theorem byFold_folded {w : World} (a : ByteArray) (ha : a.size ≤ 1000000) :
    Calls Tryd.prog 19 #[.string a, .string ⟨(foldL a.data.toList).toArray⟩] w fun r w' => r = .returned (.int .i64 0) ∧ Below w.heap.size w w' := by
  have hz : (⟨(foldL a.data.toList).toArray⟩ : ByteArray).size = a.size := by
    rw [← size_toL ⟨(foldL a.data.toList).toArray⟩]
    show (foldL a.data.toList).length = _
    rw [foldL_length, size_toL]
  exact byFold_named a ⟨(foldL a.data.toList).toArray⟩ 0 (by
    show cmpL (foldL a.data.toList) (foldL (foldL a.data.toList)) = 0
    rw [foldL_twice, cmpL_same]) ha (by omega)

set_option maxRecDepth 20000 in
set_option maxHeartbeats 2000000 in
theorem order_long {w : World} (a b c : ByteArray) (hT : Tabs w) (hs : 1000 < a.size ∨ 1000 < b.size ∨ 1000 < c.size) :
    Calls Tryd.prog 7 #[.string a, .string b, .string c] w fun r w' => r = .returned (.bool true) ∧ Below w.heap.size w w' := by
  have HT := Lib.hid hT
  clear hT
  have hor : (decide ((1000 : Int) < (a.size : Int)) = true) ∨ (decide ((1000 : Int) < (a.size : Int)) = false ∧ decide ((1000 : Int) < (b.size : Int)) = true) ∨ (decide ((1000 : Int) < (a.size : Int)) = false ∧ decide ((1000 : Int) < (b.size : Int)) = false ∧ decide ((1000 : Int) < (c.size : Int)) = true) := by
    rcases Nat.lt_or_ge 1000 a.size with h | h
    · exact Or.inl (decide_eq_true (by omega))
    · rcases Nat.lt_or_ge 1000 b.size with h2 | h2
      · exact Or.inr (Or.inl ⟨decide_eq_false (by omega), decide_eq_true (by omega)⟩)
      · exact Or.inr (Or.inr ⟨decide_eq_false (by omega), decide_eq_false (by omega), decide_eq_true (by omega)⟩)
  clear hs
  rcases hor with h1 | ⟨h1, h2⟩ | ⟨h1, h2, h3⟩
  all_goals
    go_enter Tryd.func7, Tryd.ntmps7
    go_wp2_with fail
    refine (awake8_any HT.out).mono ?_
    rintro r w1 ⟨rfl, b1⟩
    have HB1 := Lib.hid b1
    clear b1
    go_wp2_with fail
    refine (awake8_any (HT.out.on HB1.out)).mono ?_
    rintro r w2 ⟨rfl, b2⟩
    go_wp2_with fail
    go_ret
    exact ⟨rfl, below_on HB1.out b2⟩

set_option maxRecDepth 20000 in
set_option maxHeartbeats 2000000 in
theorem order_short {w : World} (a b c : ByteArray) (hT : Tabs w) (ha : a.size ≤ 1000) (hb : b.size ≤ 1000) (hc : c.size ≤ 1000) :
    Calls Tryd.prog 7 #[.string a, .string b, .string c] w fun r w' => r = .returned (.bool true) ∧ Below w.heap.size w w' := by
  have HT := Lib.hid hT
  clear hT
  have ia : ¬ (1000 : Int) < (a.size : Int) := by omega
  have ib : ¬ (1000 : Int) < (b.size : Int) := by omega
  have ic : ¬ (1000 : Int) < (c.size : Int) := by omega
  obtain ⟨x, hx⟩ : ∃ x, cmpP (ptsL a.data.toList) (ptsL b.data.toList) = x := ⟨_, rfl⟩
  obtain ⟨y, hy⟩ : ∃ y, cmpP (ptsL b.data.toList) (ptsL c.data.toList) = y := ⟨_, rfl⟩
  obtain ⟨z, hz⟩ : ∃ z, cmpP (ptsL a.data.toList) (ptsL c.data.toList) = z := ⟨_, rfl⟩
  obtain ⟨u, hu⟩ : ∃ u, cmpL (foldL a.data.toList) (foldL b.data.toList) = u := ⟨_, rfl⟩
  have hx' : cmpP (ptsL b.data.toList) (ptsL a.data.toList) = -x := by rw [← hx]; exact cmpP_turn _ _
  have hu' : cmpL (foldL b.data.toList) (foldL a.data.toList) = -u := by rw [← hu]; exact cmpL_turn _ _
  have hx3 := cmpP_three (ptsL a.data.toList) (ptsL b.data.toList)
  have hy3 := cmpP_three (ptsL b.data.toList) (ptsL c.data.toList)
  have hu3 := cmpL_three (foldL a.data.toList) (foldL b.data.toList)
  have hxz : x = 0 ↔ a = b := by
    rw [← hx, cmpP_pts]
    exact ⟨fun h => by rw [str_eq (t := a) rfl, str_eq (t := b) rfl, h], fun h => by rw [h]⟩
  have htr : x ≤ 0 → y ≤ 0 → z ≤ 0 := fun h1 h2 => by rw [← hz]; exact cmpP_trans (by rw [hx]; exact h1) (by rw [hy]; exact h2)
  rw [hx] at hx3
  rw [hy] at hy3
  rw [hu] at hu3
  have HX := Lib.hid (fun w hT => byPoints_named (w := w) a b x hx (by omega) (by omega) hT)
  obtain ⟨x', hxe⟩ : ∃ x', x' = -x := ⟨_, rfl⟩
  obtain ⟨u', hue⟩ : ∃ u', u' = -u := ⟨_, rfl⟩
  have HXT := Lib.hid (fun w hT => byPoints_named (w := w) b a x' (hx'.trans hxe.symm) (by omega) (by omega) hT)
  have HY := Lib.hid (fun w hT => byPoints_named (w := w) b c y hy (by omega) (by omega) hT)
  have HZ := Lib.hid (fun w hT => byPoints_named (w := w) a c z hz (by omega) (by omega) hT)
  have HU := Lib.hid (fun w => byFold_named (w := w) a b u hu (by omega) (by omega))
  have HUT := Lib.hid (fun w => byFold_named (w := w) b a u' (hu'.trans hue.symm) (by omega) (by omega))
  have HF := Lib.hid (fun w => tfold_any (w := w) a (by omega))
  have HFF := Lib.hid (fun w => byFold_folded (w := w) a (by omega))
  generalize (⟨(foldL a.data.toList).toArray⟩ : ByteArray) = f at *
  clear hx hy hz hu hx' hu'
  have hy1 : -1 ≤ y ∧ y ≤ 1 := by omega
  have hcase : (x = 1 ∧ x' = -1 ∧ ¬ a = b) ∨ (x = -1 ∧ x' = 1 ∧ ¬ a = b ∧ ¬ y ≤ 0) ∨ (x = -1 ∧ x' = 1 ∧ ¬ a = b ∧ y ≤ 0 ∧ ¬ 0 < z) ∨ (x = 0 ∧ x' = 0 ∧ a = b ∧ ¬ y ≤ 0) ∨ (x = 0 ∧ x' = 0 ∧ a = b ∧ y ≤ 0 ∧ ¬ 0 < z) := by
    rcases hx3 with h | h | h
    · have hn : ¬ a = b := fun e => by have := hxz.2 e; omega
      by_cases hy : y ≤ 0
      · exact Or.inr (Or.inr (Or.inl ⟨h, by omega, hn, hy, by have := htr (by omega) hy; omega⟩))
      · exact Or.inr (Or.inl ⟨h, by omega, hn, hy⟩)
    · have hn : a = b := hxz.1 h
      by_cases hy : y ≤ 0
      · exact Or.inr (Or.inr (Or.inr (Or.inr ⟨h, by omega, hn, hy, by have := htr (by omega) hy; omega⟩)))
      · exact Or.inr (Or.inr (Or.inr (Or.inl ⟨h, by omega, hn, hy⟩)))
    · exact Or.inl ⟨h, by omega, fun e => by have := hxz.2 e; omega⟩
  have hucase : (u = 1 ∧ u' = -1) ∨ (u = 0 ∧ u' = 0) ∨ (u = -1 ∧ u' = 1) := by omega
  clear hxz htr hx3 hy3 hu3 hxe hue
  obtain ⟨hy1, hy2⟩ := hy1
  rcases hcase with ⟨rfl, rfl, hne⟩ | ⟨rfl, rfl, hne, hny⟩ | ⟨rfl, rfl, hne, hny, hnz⟩ | ⟨rfl, rfl, rfl, hny⟩ | ⟨rfl, rfl, rfl, hny, hnz⟩
  · have hnb : ¬ a.toList = b.toList := fun e => hne (by rw [Lib.toList_data, Lib.toList_data] at e; rw [str_eq (t := a) rfl, str_eq (t := b) rfl, e])
    have hnb2 : (a.toList == b.toList) = false := beq_eq_false_iff_ne.2 hnb
    rcases hucase with ⟨rfl, rfl⟩ | ⟨rfl, rfl⟩ | ⟨rfl, rfl⟩
    all_goals
      go_enter Tryd.func7, Tryd.ntmps7
      go_wp2_with fail
      refine (awake8_any HT.out).mono ?_
      rintro r w1 ⟨rfl, b1⟩
      have HB1 := Lib.hid b1
      clear b1
      go_wp2_with fail
      refine (HX.out _ (HT.out.on HB1.out)).mono ?_
      rintro r w2 ⟨rfl, b2⟩
      have HB2 := Lib.hid (below_on HB1.out b2)
      clear b2
      go_wp2_with fail
      refine (HY.out _ (HT.out.on HB2.out)).mono ?_
      rintro r w3 ⟨rfl, b3⟩
      have HB3 := Lib.hid (below_on HB2.out b3)
      clear b3
      go_wp2_with fail
      refine (HXT.out _ (HT.out.on HB3.out)).mono ?_
      rintro r w4 ⟨rfl, b4⟩
      have HB4 := Lib.hid (below_on HB3.out b4)
      clear b4
      go_wp2_with fail
      refine (HU.out _).mono ?_
      rintro r w5 ⟨rfl, b5⟩
      have HB5 := Lib.hid (below_on HB4.out b5)
      clear b5
      go_wp2_with fail
      refine (HUT.out _).mono ?_
      rintro r w6 ⟨rfl, b6⟩
      have HB6 := Lib.hid (below_on HB5.out b6)
      clear b6
      go_wp2_with fail
      refine (HF.out _).mono ?_
      rintro r w7 ⟨rfl, b7⟩
      have HB7 := Lib.hid (below_on HB6.out b7)
      clear b7
      go_wp2_with fail
      refine (HFF.out _).mono ?_
      rintro r w8 ⟨rfl, b8⟩
      have HB8 := Lib.hid (below_on HB7.out b8)
      clear b8
      go_wp2_with fail
      go_ret
      exact ⟨rfl, HB8.out⟩
  · have hnb : ¬ a.toList = b.toList := fun e => hne (by rw [Lib.toList_data, Lib.toList_data] at e; rw [str_eq (t := a) rfl, str_eq (t := b) rfl, e])
    have hnb2 : (a.toList == b.toList) = false := beq_eq_false_iff_ne.2 hnb
    rcases hucase with ⟨rfl, rfl⟩ | ⟨rfl, rfl⟩ | ⟨rfl, rfl⟩
    all_goals
      go_enter Tryd.func7, Tryd.ntmps7
      go_wp2_with fail
      refine (awake8_any HT.out).mono ?_
      rintro r w1 ⟨rfl, b1⟩
      have HB1 := Lib.hid b1
      clear b1
      go_wp2_with fail
      refine (HX.out _ (HT.out.on HB1.out)).mono ?_
      rintro r w2 ⟨rfl, b2⟩
      have HB2 := Lib.hid (below_on HB1.out b2)
      clear b2
      go_wp2_with fail
      refine (HY.out _ (HT.out.on HB2.out)).mono ?_
      rintro r w3 ⟨rfl, b3⟩
      have HB3 := Lib.hid (below_on HB2.out b3)
      clear b3
      go_wp2_with fail
      refine (HXT.out _ (HT.out.on HB3.out)).mono ?_
      rintro r w4 ⟨rfl, b4⟩
      have HB4 := Lib.hid (below_on HB3.out b4)
      clear b4
      go_wp2_with fail
      refine (HU.out _).mono ?_
      rintro r w5 ⟨rfl, b5⟩
      have HB5 := Lib.hid (below_on HB4.out b5)
      clear b5
      go_wp2_with fail
      refine (HUT.out _).mono ?_
      rintro r w6 ⟨rfl, b6⟩
      have HB6 := Lib.hid (below_on HB5.out b6)
      clear b6
      go_wp2_with fail
      refine (HF.out _).mono ?_
      rintro r w7 ⟨rfl, b7⟩
      have HB7 := Lib.hid (below_on HB6.out b7)
      clear b7
      go_wp2_with fail
      refine (HFF.out _).mono ?_
      rintro r w8 ⟨rfl, b8⟩
      have HB8 := Lib.hid (below_on HB7.out b8)
      clear b8
      go_wp2_with fail
      go_ret
      exact ⟨rfl, HB8.out⟩
  · have hnb : ¬ a.toList = b.toList := fun e => hne (by rw [Lib.toList_data, Lib.toList_data] at e; rw [str_eq (t := a) rfl, str_eq (t := b) rfl, e])
    have hnb2 : (a.toList == b.toList) = false := beq_eq_false_iff_ne.2 hnb
    rcases hucase with ⟨rfl, rfl⟩ | ⟨rfl, rfl⟩ | ⟨rfl, rfl⟩
    all_goals
      go_enter Tryd.func7, Tryd.ntmps7
      go_wp2_with fail
      refine (awake8_any HT.out).mono ?_
      rintro r w1 ⟨rfl, b1⟩
      have HB1 := Lib.hid b1
      clear b1
      go_wp2_with fail
      refine (HX.out _ (HT.out.on HB1.out)).mono ?_
      rintro r w2 ⟨rfl, b2⟩
      have HB2 := Lib.hid (below_on HB1.out b2)
      clear b2
      go_wp2_with fail
      refine (HY.out _ (HT.out.on HB2.out)).mono ?_
      rintro r w3 ⟨rfl, b3⟩
      have HB3 := Lib.hid (below_on HB2.out b3)
      clear b3
      go_wp2_with fail
      refine (HXT.out _ (HT.out.on HB3.out)).mono ?_
      rintro r w4 ⟨rfl, b4⟩
      have HB4 := Lib.hid (below_on HB3.out b4)
      clear b4
      go_wp2_with fail
      refine (HU.out _).mono ?_
      rintro r w5 ⟨rfl, b5⟩
      have HB5 := Lib.hid (below_on HB4.out b5)
      clear b5
      go_wp2_with fail
      refine (HUT.out _).mono ?_
      rintro r w6 ⟨rfl, b6⟩
      have HB6 := Lib.hid (below_on HB5.out b6)
      clear b6
      go_wp2_with fail
      refine (HZ.out _ (HT.out.on HB6.out)).mono ?_
      rintro r w7 ⟨rfl, b7⟩
      have HB7 := Lib.hid (below_on HB6.out b7)
      clear b7
      go_wp2_with fail
      refine (HF.out _).mono ?_
      rintro r w8 ⟨rfl, b8⟩
      have HB8 := Lib.hid (below_on HB7.out b8)
      clear b8
      go_wp2_with fail
      refine (HFF.out _).mono ?_
      rintro r w9 ⟨rfl, b9⟩
      have HB9 := Lib.hid (below_on HB8.out b9)
      clear b9
      go_wp2_with fail
      go_ret
      exact ⟨rfl, HB9.out⟩
  · rcases hucase with ⟨rfl, rfl⟩ | ⟨rfl, rfl⟩ | ⟨rfl, rfl⟩
    all_goals
      go_enter Tryd.func7, Tryd.ntmps7
      go_wp2_with fail
      refine (awake8_any HT.out).mono ?_
      rintro r w1 ⟨rfl, b1⟩
      have HB1 := Lib.hid b1
      clear b1
      go_wp2_with fail
      refine (HX.out _ (HT.out.on HB1.out)).mono ?_
      rintro r w2 ⟨rfl, b2⟩
      have HB2 := Lib.hid (below_on HB1.out b2)
      clear b2
      go_wp2_with fail
      refine (HY.out _ (HT.out.on HB2.out)).mono ?_
      rintro r w3 ⟨rfl, b3⟩
      have HB3 := Lib.hid (below_on HB2.out b3)
      clear b3
      go_wp2_with fail
      refine (HXT.out _ (HT.out.on HB3.out)).mono ?_
      rintro r w4 ⟨rfl, b4⟩
      have HB4 := Lib.hid (below_on HB3.out b4)
      clear b4
      go_wp2_with fail
      refine (HU.out _).mono ?_
      rintro r w5 ⟨rfl, b5⟩
      have HB5 := Lib.hid (below_on HB4.out b5)
      clear b5
      go_wp2_with fail
      refine (HUT.out _).mono ?_
      rintro r w6 ⟨rfl, b6⟩
      have HB6 := Lib.hid (below_on HB5.out b6)
      clear b6
      go_wp2_with fail
      refine (HF.out _).mono ?_
      rintro r w7 ⟨rfl, b7⟩
      have HB7 := Lib.hid (below_on HB6.out b7)
      clear b7
      go_wp2_with fail
      refine (HFF.out _).mono ?_
      rintro r w8 ⟨rfl, b8⟩
      have HB8 := Lib.hid (below_on HB7.out b8)
      clear b8
      go_wp2_with fail
      go_ret
      exact ⟨rfl, HB8.out⟩
  · rcases hucase with ⟨rfl, rfl⟩ | ⟨rfl, rfl⟩ | ⟨rfl, rfl⟩
    all_goals
      go_enter Tryd.func7, Tryd.ntmps7
      go_wp2_with fail
      refine (awake8_any HT.out).mono ?_
      rintro r w1 ⟨rfl, b1⟩
      have HB1 := Lib.hid b1
      clear b1
      go_wp2_with fail
      refine (HX.out _ (HT.out.on HB1.out)).mono ?_
      rintro r w2 ⟨rfl, b2⟩
      have HB2 := Lib.hid (below_on HB1.out b2)
      clear b2
      go_wp2_with fail
      refine (HY.out _ (HT.out.on HB2.out)).mono ?_
      rintro r w3 ⟨rfl, b3⟩
      have HB3 := Lib.hid (below_on HB2.out b3)
      clear b3
      go_wp2_with fail
      refine (HXT.out _ (HT.out.on HB3.out)).mono ?_
      rintro r w4 ⟨rfl, b4⟩
      have HB4 := Lib.hid (below_on HB3.out b4)
      clear b4
      go_wp2_with fail
      refine (HU.out _).mono ?_
      rintro r w5 ⟨rfl, b5⟩
      have HB5 := Lib.hid (below_on HB4.out b5)
      clear b5
      go_wp2_with fail
      refine (HUT.out _).mono ?_
      rintro r w6 ⟨rfl, b6⟩
      have HB6 := Lib.hid (below_on HB5.out b6)
      clear b6
      go_wp2_with fail
      refine (HZ.out _ (HT.out.on HB6.out)).mono ?_
      rintro r w7 ⟨rfl, b7⟩
      have HB7 := Lib.hid (below_on HB6.out b7)
      clear b7
      go_wp2_with fail
      refine (HF.out _).mono ?_
      rintro r w8 ⟨rfl, b8⟩
      have HB8 := Lib.hid (below_on HB7.out b8)
      clear b8
      go_wp2_with fail
      refine (HFF.out _).mono ?_
      rintro r w9 ⟨rfl, b9⟩
      have HB9 := Lib.hid (below_on HB8.out b9)
      clear b9
      go_wp2_with fail
      go_ret
      exact ⟨rfl, HB9.out⟩

theorem textOrder_walk {w : World} (a b c : ByteArray) (hT : Tabs w) :
    Calls Tryd.prog 7 #[.string a, .string b, .string c] w fun r w' => r = .returned (.bool true) ∧ Below w.heap.size w w' := by
  by_cases h : 1000 < a.size ∨ 1000 < b.size ∨ 1000 < c.size
  · exact order_long a b c hT h
  · exact order_short a b c hT (by omega) (by omega) (by omega)
end Go.Proofs.YtbbpfehfceapbaaDoor
