/-
  The document's Power of layer 3.
-/
import Derived.Test.YtiainckeakhccaaRows
import Derived.Test.YtiainckeakhccaaMem
namespace Go.Proofs.Ytiainckeakhccaa
set_option linter.unusedSimpArgs false
set_option linter.unusedVariables false
open Go.RowKit

theorem pow_small {k n : Nat} (h : k ≤ n) (hn : n ≤ 62) : 2 ^ k ≤ 4611686018427387904 := Nat.le_trans (Nat.pow_le_pow_right (by omega) (Nat.le_trans h hn)) (by decide)
theorem power_any {w : World} (n : Nat) (hn : n ≤ 62) :
    Calls Try.prog 26 #[.int .i64 (n : Int)] w fun r w' => r = .returned (.int .i64 ((2 ^ n : Nat) : Int)) ∧ w = w' := by
  go_enter Try.func26, Try.ntmps26
  go_wp2_with fail
  go_loop [3, 4] (fun x i => ∃ k : Nat, k ≤ n ∧ i = .int .i64 (k : Int) ∧ x = .int .i64 ((2 ^ k : Nat) : Int)) (fun _ i => n - (intOf i).toNat)
  case atStart => exact ⟨0, Nat.zero_le _, rfl, rfl⟩
  case round =>
    obtain ⟨k, hk, rfl, rfl⟩ := hrel
    by_cases hlt : k < n
    · have hb := pow_small (k := k + 1) hlt hn
      have hs : Hid ((2 ^ (k + 1) : Nat) = 2 * 2 ^ k) := by unfold Hid; rw [Nat.pow_succ, Nat.mul_comm]
      rw [hs] at hb
      generalize 2 ^ k = p at *
      go_wp2
      go_round
      case rel => exact ⟨k + 1, by omega, by go_num, by rw [hs.out]; go_num⟩
      case measure => simp [intOf]; omega
    · obtain rfl : k = n := by omega
      go_wp2
      go_ret
      exact ⟨rfl, rfl⟩

end Go.Proofs.Ytiainckeakhccaa
