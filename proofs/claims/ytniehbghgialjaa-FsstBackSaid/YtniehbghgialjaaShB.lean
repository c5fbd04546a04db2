/-
  slices.BinarySearch of strings: the library's contract at this program's numbers.
-/
import Derived.Shelf.Spec.SearchS
import Derived.Test.YtniehbghgialjaaRows
import Derived.Test.YtniehbghgialjaaMem
namespace Go.Proofs.Ytniehbghgialjaa
set_option maxRecDepth 100000
set_option linter.unusedSimpArgs false
set_option linter.unusedVariables false
open Go.RowKit

/-- this program's numbers of the shelf's functions, types and variables (Lays2) -/
def ren2 : Go.Shelf.Ren := ⟨fun | 26 => 21 | 33 => 23 | 34 => 24 | 38 => 25 | n => n, fun | 0 => 0 | 3 => 3 | 4 => 4 | 9 => 9 | 24 => 22 | 40 => 47 | n => n, fun n => n⟩

theorem lays2_26 : Go.Proofs.Lays2.n26 Try.prog ren2 := {
  mixed := by kernel_rfl
  f26 := Try.func21.trans (congrArg some (by kernel_rfl))
  f33 := Try.func23.trans (congrArg some (by kernel_rfl))
  f34 := Try.func24.trans (congrArg some (by kernel_rfl))
  f38 := Try.func25.trans (congrArg some (by kernel_rfl))
  t0 := Try.underlying0
  a0 := Try.isAgg0
  z0 := Try.sizeOf0
  v0 := Try.zeroValue0
  t3 := Try.underlying3
  a3 := Try.isAgg3
  z3 := Try.sizeOf3
  v3 := Try.zeroValue3
  t4 := Try.underlying4
  a4 := Try.isAgg4
  z4 := Try.sizeOf4
  v4 := Try.zeroValue4
  t9 := Try.underlying9
  a9 := Try.isAgg9
  z9 := Try.sizeOf9
  v9 := Try.zeroValue9
  t24 := Try.underlying22
  a24 := Try.isAgg22
  z24 := Try.sizeOf22
  v24 := Try.zeroValue22
  t40 := Try.underlying47
  a40 := Try.isAgg47
  z40 := Try.sizeOf47
  v40 := Try.zeroValue47 }
end Go.Proofs.Ytniehbghgialjaa
