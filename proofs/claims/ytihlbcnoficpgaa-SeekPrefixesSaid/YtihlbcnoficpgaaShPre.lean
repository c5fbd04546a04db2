/-
  strings.HasPrefix: the library's contract at this program's numbers.
-/
import Derived.Shelf.Strings.Prefix
import Derived.Test.YtihlbcnoficpgaaRows
import Derived.Test.YtihlbcnoficpgaaSkM
namespace Go.Proofs.Ytihlbcnoficpgaa
set_option maxRecDepth 100000
set_option linter.unusedSimpArgs false
set_option linter.unusedVariables false
open Go.RowKit

/-- this program's numbers of the shelf's functions, types and variables (Lays) -/
def renP : Go.Shelf.Ren := ⟨fun | 99 => 15 | 206 => 32 | n => n, fun | 3 => 3 | 4 => 4 | 9 => 9 | n => n, fun n => n⟩

theorem laysP99 : Go.Proofs.Lays.n99 Try.prog renP := {
  mixed := by kernel_rfl
  f99 := Try.func15.trans (congrArg some (by kernel_rfl))
  f206 := Try.func32.trans (congrArg some (by kernel_rfl))
  t3 := Try.underlying3
  a3 := Try.isAgg3
  z3 := Try.sizeOf3
  v3 := Try.zeroValue3
  t4 := Try.underlying4
  a4 := Try.isAgg4
  z4 := Try.sizeOf4
  v4 := Try.zeroValue4
  t9 := Try.underlying9
  a9 := Try.isAgg9
  z9 := Try.sizeOf9
  v9 := Try.zeroValue9 }

theorem hasPrefix_beg : ∀ (s p : List UInt8), Lib.hasPrefix s p = begL p s
  | s, [] => by rw [beg_nil]; simp [Lib.hasPrefix]
  | [], x :: p => rfl
  | y :: s, x :: p => by
    have := hasPrefix_beg s p
    unfold Lib.hasPrefix at this ⊢
    rw [List.isPrefixOf, this, begL]
    by_cases e : x = y
    · simp [e]
    · simp [e]
theorem hpre_any {w : World} (s p : ByteArray) :
    Calls Try.prog 15 #[.string s, .string p] w fun e w' => e = .returned (.bool (begL p.data.toList s.data.toList)) ∧ w = w' := by
  refine (Any.strings_HasPrefix laysP99 s p w).mono ?_
  rintro r w' ⟨rfl, rfl⟩
  exact ⟨by rw [hasPrefix_beg], rfl⟩
end Go.Proofs.Ytihlbcnoficpgaa
