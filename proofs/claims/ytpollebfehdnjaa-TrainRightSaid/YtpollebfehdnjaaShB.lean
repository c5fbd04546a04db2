/-
  slices.BinarySearch of strings: the library's contract at this program's numbers.
-/
import Derived.Shelf.Spec.SearchS
import Derived.Test.YtpollebfehdnjaaRows
import Derived.Test.YtpollebfehdnjaaMem
namespace Go.Proofs.Ytpollebfehdnjaa
set_option maxRecDepth 100000
set_option linter.unusedSimpArgs false
set_option linter.unusedVariables false
open Go.RowKit

/-- this program's numbers of the shelf's functions, types and variables (Lays2) -/
def ren2 : Go.Shelf.Ren := ⟨fun | 26 => 37 | 33 => 50 | 34 => 51 | 38 => 63 | n => n, fun | 0 => 0 | 3 => 3 | 4 => 4 | 9 => 9 | 24 => 22 | 40 => 38 | n => n, fun n => n⟩

theorem lays2_26 : Go.Proofs.Lays2.n26 Try.prog ren2 := {
  mixed := by kernel_rfl
  f26 := Try.func37.trans (congrArg some (by kernel_rfl))
  f33 := Try.func50.trans (congrArg some (by kernel_rfl))
  f34 := Try.func51.trans (congrArg some (by kernel_rfl))
  f38 := Try.func63.trans (congrArg some (by kernel_rfl))
  t0 := Try.underlying0
  a0 := Try.isAgg0
  z0 := Try.sizeOf0
  v0 := Try.zeroValue0
  t3 := Try.underlying3
  a3 := Try.isAgg3
  z3 := Try.sizeOf3
  v3 := Try.zeroValue3
  t4 := Try.underlying4
  a4 := Try.isAgg4
  z4 := Try.sizeOf4
  v4 := Try.zeroValue4
  t9 := Try.underlying9
  a9 := Try.isAgg9
  z9 := Try.sizeOf9
  v9 := Try.zeroValue9
  t24 := Try.underlying22
  a24 := Try.isAgg22
  z24 := Try.sizeOf22
  v24 := Try.zeroValue22
  t40 := Try.underlying38
  a40 := Try.isAgg38
  z40 := Try.sizeOf38
  v40 := Try.zeroValue38 }
end Go.Proofs.Ytpollebfehdnjaa
