/-
  The model's order of strings is cmpL's.
-/
import Derived.Test.YtihlbcnoficpgaaCmpM
import Derived.Lib.Strings
namespace Go.Proofs.Ytihlbcnoficpgaa
set_option linter.unusedSimpArgs false
set_option linter.unusedVariables false

theorem less_cmp : ∀ (a b : List UInt8), Op.bytesLess a b = decide (cmpL a b < 0)
  | [], [] => by simp [Op.bytesLess, cmpL]
  | [], _ :: _ => by simp [Op.bytesLess, cmpL]
  | _ :: _, [] => by simp [Op.bytesLess, cmpL]
  | x :: a, y :: b => by
    unfold Op.bytesLess cmpL
    by_cases h1 : x.toNat < y.toNat
    · rw [if_pos h1, decide_eq_true (show x < y from h1)]; rfl
    · rw [if_neg h1, decide_eq_false (show ¬ x < y from h1), Bool.false_or]
      by_cases h2 : y.toNat < x.toNat
      · rw [if_pos h2, show (x == y) = false from beq_eq_false_iff_ne.2 (fun e => by subst e; omega)]; rfl
      · rw [if_neg h2, show (x == y) = true from beq_iff_eq.2 (UInt8.toNat_inj.1 (by omega)), Bool.true_and, less_cmp a b]
theorem less_str (a b : ByteArray) : Op.bytesLess a.toList b.toList = decide (cmpL a.data.toList b.data.toList < 0) := by rw [Lib.toList_data, Lib.toList_data, less_cmp]
end Go.Proofs.Ytihlbcnoficpgaa
