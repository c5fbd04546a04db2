/-
  The walk of TextFolds.
-/
import Derived.Test.YtbbpfehfceapbaaDoorLawT
import Derived.Test.YtbbpfehfceapbaaDoorRefZ
namespace Go.Proofs.YtbbpfehfceapbaaDoor
set_option linter.unusedSimpArgs false
set_option linter.unusedVariables false
open Go.RowKit

theorem tfold_again {w : World} (s : ByteArray) (hs : s.size ≤ 1000000) :
    Calls Tryd.prog 17 #[.string ⟨(foldL s.data.toList).toArray⟩] w fun r w' => r = .returned (.string ⟨(foldL s.data.toList).toArray⟩) ∧ Below w.heap.size w w' := by
  have hz : (⟨(foldL s.data.toList).toArray⟩ : ByteArray).size = s.size := by
    rw [← size_toL ⟨(foldL s.data.toList).toArray⟩]
    show (foldL s.data.toList).length = _
    rw [foldL_length, size_toL]
  have := tfold_any (w := w) ⟨(foldL s.data.toList).toArray⟩ (by omega)
  rw [show foldL (⟨(foldL s.data.toList).toArray⟩ : ByteArray).data.toList = foldL s.data.toList from foldL_twice _] at this
  exact this

set_option maxRecDepth 20000 in
set_option maxHeartbeats 2000000 in
theorem textFolds_walk {w : World} (a b : ByteArray) (hT : Tabs w) :
    Calls Tryd.prog 5 #[.string a, .string b] w fun r w' => r = .returned (.bool true) ∧ Below w.heap.size w w' := by
  have HT := Lib.hid hT
  clear hT
  by_cases hs : 2000 < a.size ∨ 2000 < b.size
  · have hor : (decide ((2000 : Int) < (a.size : Int)) = true) ∨ (decide ((2000 : Int) < (a.size : Int)) = false ∧ decide ((2000 : Int) < (b.size : Int)) = true) := by
      rcases Nat.lt_or_ge 2000 a.size with h | h
      · exact Or.inl (decide_eq_true (by omega))
      · exact Or.inr ⟨decide_eq_false (by omega), decide_eq_true (by omega)⟩
    clear hs
    rcases hor with h1 | ⟨h1, h2⟩
    all_goals
      go_enter Tryd.func5, Tryd.ntmps5
      go_wp2_with fail
      refine (awake8_any HT.out).mono ?_
      rintro r w1 ⟨rfl, b1⟩
      have HB1 := Lib.hid b1
      clear b1
      go_wp2_with fail
      refine (awake8_any (HT.out.on HB1.out)).mono ?_
      rintro r w2 ⟨rfl, b2⟩
      go_wp2_with fail
      go_ret
      exact ⟨rfl, below_on HB1.out b2⟩
  · have ia : ¬ (2000 : Int) < (a.size : Int) := by omega
    have ib : ¬ (2000 : Int) < (b.size : Int) := by omega
    have ha : a.size ≤ 1000000 := by omega
    have hb : b.size ≤ 1000000 := by omega
    have ha5 : a.size ≤ 100000 := by omega
    have hb5 : b.size ≤ 100000 := by omega
    clear hs
    have HFA := Lib.hid (fun w => tfold_any (w := w) a ha)
    have HRF := Lib.hid (fun w => refFold_any (w := w) a ha)
    have HAG := Lib.hid (fun w => tfold_again (w := w) a ha)
    have HBF := Lib.hid (fun w => byFold_any (w := w) a b ha hb)
    have HRB := Lib.hid (fun w => refByFold_any (w := w) a b ha5 hb5)
    have HBP := Lib.hid (fun w hT => byPoints_any (w := w) a b ha hb hT)
    have HRP := Lib.hid (fun w => refByPoints_any (w := w) a b ha hb)
    generalize (⟨(foldL a.data.toList).toArray⟩ : ByteArray) = f at *
    generalize cmpL (foldL a.data.toList) (foldL b.data.toList) = x at *
    generalize cmpP (ptsL a.data.toList) (ptsL b.data.toList) = y at *
    go_enter Tryd.func5, Tryd.ntmps5
    go_wp2_with fail
    refine (awake8_any HT.out).mono ?_
    rintro r w1 ⟨rfl, b1⟩
    have HB1 := Lib.hid b1
    clear b1
    go_wp2_with fail
    refine (HFA.out _).mono ?_
    rintro r w2 ⟨rfl, b2⟩
    have HB2 := Lib.hid (below_on HB1.out b2)
    clear b2
    go_wp2_with fail
    refine (HRF.out _).mono ?_
    rintro r w3 ⟨rfl, b3⟩
    have HB3 := Lib.hid (below_on HB2.out b3)
    clear b3
    go_wp2_with fail
    refine (HAG.out _).mono ?_
    rintro r w4 ⟨rfl, b4⟩
    have HB4 := Lib.hid (below_on HB3.out b4)
    clear b4
    go_wp2_with fail
    refine (HBF.out _).mono ?_
    rintro r w5 ⟨rfl, b5⟩
    have HB5 := Lib.hid (below_on HB4.out b5)
    clear b5
    go_wp2_with fail
    refine (HRB.out _).mono ?_
    rintro r w6 ⟨rfl, b6⟩
    have HB6 := Lib.hid (below_on HB5.out b6)
    clear b6
    go_wp2_with fail
    refine (HBP.out _ (HT.out.on HB6.out)).mono ?_
    rintro r w7 ⟨rfl, b7⟩
    have HB7 := Lib.hid (below_on HB6.out b7)
    clear b7
    go_wp2_with fail
    refine (HRP.out _).mono ?_
    rintro r w8 ⟨rfl, b8⟩
    have HB8 := Lib.hid (below_on HB7.out b8)
    clear b8
    go_wp2_with fail
    go_ret
    exact ⟨rfl, HB8.out⟩
end Go.Proofs.YtbbpfehfceapbaaDoor
