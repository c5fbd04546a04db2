/-
  The text package, what only reads: how two numbers compare, a byte folded, how many points a string has, where a point begins, a point of a rune.
-/
import Derived.Test.YtbbpfehfceapbaaDoorRows
import Derived.Test.YtbbpfehfceapbaaDoorTxtN
import Derived.Outline
import Derived.BigQuiet
import Derived.Deep.QuietTactic
namespace Go.Proofs.YtbbpfehfceapbaaDoor
set_option linter.unusedSimpArgs false
set_option linter.unusedVariables false
open Go.RowKit

/-- how two numbers compare -/
def cmpI (x y : Int) : Int := if x < y then -1 else if y < x then 1 else 0
theorem cmpI_lt {x y : Int} (h : x < y) : cmpI x y = -1 := by unfold cmpI; rw [if_pos h]
theorem cmpI_gt {x y : Int} (h : y < x) : cmpI x y = 1 := by unfold cmpI; rw [if_neg (by omega), if_pos h]
theorem cmpI_eq {x y : Int} (h : x = y) : cmpI x y = 0 := by unfold cmpI; rw [if_neg (by omega), if_neg (by omega)]
theorem cmpI_zero {x y : Int} : cmpI x y = 0 ↔ x = y := by
  unfold cmpI
  split
  · constructor
    · intro h; cases h
    · omega
  · split
    · constructor
      · intro h; cases h
      · omega
    · constructor <;> intro <;> first | omega | rfl

theorem cmpInt_any {w : World} (x y : Int) :
    Calls Tryd.prog 34 #[.int .i64 x, .int .i64 y] w fun r w' => r = .returned (.int .i64 (cmpI x y)) ∧ w = w' := by
  rcases Int.lt_trichotomy x y with h | h | h
  · rw [cmpI_lt h]
    go_enter Tryd.func34, Tryd.ntmps34
    go_wp2
    go_ret
    first | exact ⟨rfl, rfl⟩ | trivial
  · rw [cmpI_eq h]
    subst h
    go_enter Tryd.func34, Tryd.ntmps34
    go_wp2
    go_ret
    first | exact ⟨rfl, rfl⟩ | trivial
  · rw [cmpI_gt h]
    have h2 : ¬ x < y := by omega
    go_enter Tryd.func34, Tryd.ntmps34
    go_wp2
    go_ret
    first | exact ⟨rfl, rfl⟩ | trivial

theorem cmpByte_any {w : World} (x y : Int) :
    Calls Tryd.prog 33 #[.int .u8 x, .int .u8 y] w fun r w' => r = .returned (.int .i64 (cmpI x y)) ∧ w = w' := by
  rcases Int.lt_trichotomy x y with h | h | h
  · rw [cmpI_lt h]
    go_enter Tryd.func33, Tryd.ntmps33
    go_wp2
    go_ret
    first | exact ⟨rfl, rfl⟩ | trivial
  · rw [cmpI_eq h]
    subst h
    go_enter Tryd.func33, Tryd.ntmps33
    go_wp2
    go_ret
    first | exact ⟨rfl, rfl⟩ | trivial
  · rw [cmpI_gt h]
    have h2 : ¬ x < y := by omega
    go_enter Tryd.func33, Tryd.ntmps33
    go_wp2
    go_ret
    first | exact ⟨rfl, rfl⟩ | trivial

theorem fold_any {w : World} (c : UInt8) :
    Calls Tryd.prog 32 #[.int .u8 (c.toNat : Int)] w fun r w' => r = .returned (.int .u8 ((foldB c).toNat : Int)) ∧ w = w' := by
  have hfb := foldB_nat c
  have hc : c.toNat < 256 := UInt8.toNat_lt _
  generalize (foldB c).toNat = f at *
  generalize c.toNat = x at *
  by_cases h1 : 65 ≤ x
  · by_cases h2 : x ≤ 90
    · rw [if_pos ⟨h1, h2⟩] at hfb
      have HF := Lib.hid hfb
      clear hfb
      go_enter Tryd.func32, Tryd.ntmps32
      go_wp2
      go_ret
      exact ⟨by rw [HF.out]; first | rfl | (simp; omega), rfl⟩
    · rw [if_neg (fun h => h2 h.2)] at hfb
      subst hfb
      go_enter Tryd.func32, Tryd.ntmps32
      go_wp2
      go_ret
      first | exact ⟨rfl, rfl⟩ | trivial
  · rw [if_neg (fun h => h1 h.1)] at hfb
    subst hfb
    go_enter Tryd.func32, Tryd.ntmps32
    go_wp2
    go_ret
    first | exact ⟨rfl, rfl⟩ | trivial
end Go.Proofs.YtbbpfehfceapbaaDoor
