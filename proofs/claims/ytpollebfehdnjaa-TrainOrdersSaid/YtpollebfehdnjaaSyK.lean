/-
  The symbol package: fits.
-/
import Derived.Test.YtpollebfehdnjaaMgS
namespace Go.Proofs.Ytpollebfehdnjaa
set_option linter.unusedSimpArgs false
set_option linter.unusedVariables false
open Go.RowKit

theorem fits_any {w : World} (z : Int) : Calls Try.prog 43 #[.int .i64 z] w fun r w' => r = .returned (.bool (decide (1 ≤ z) && decide (z ≤ 8))) ∧ w = w' := by
  by_cases h0 : z < 1
  · have hf : decide (1 ≤ z) = false := decide_eq_false (by omega)
    rw [hf]
    go_enter Try.func43, Try.ntmps43
    go_wp2
    go_ret
    exact ⟨rfl, rfl⟩
  · have ht : decide (1 ≤ z) = true := decide_eq_true (by omega)
    rw [ht]
    by_cases h1 : z ≤ 8
    · have h2 : decide (z ≤ 8) = true := decide_eq_true h1
      rw [h2]
      go_enter Try.func43, Try.ntmps43
      go_wp2
      go_ret
      exact ⟨rfl, rfl⟩
    · have h2 : decide (z ≤ 8) = false := decide_eq_false h1
      rw [h2]
      go_enter Try.func43, Try.ntmps43
      go_wp2
      go_ret
      exact ⟨rfl, rfl⟩

theorem fits_size (s : ByteArray) : (decide (1 ≤ (s.size : Int)) && decide ((s.size : Int) ≤ 8)) = okS s.data.toList := by
  rw [ok_size]
  congr 1 <;> (rw [decide_eq_decide]; omega)
end Go.Proofs.Ytpollebfehdnjaa
