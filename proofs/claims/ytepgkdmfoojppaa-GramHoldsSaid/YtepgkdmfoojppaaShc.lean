/-
  strings.Contains, laid at this program's numbers; it asks one cell: the library's variable holds some number.
-/
import Derived.Shelf.Strings.Search3
import Derived.Shelf.Vars
import Derived.Test.YtepgkdmfoojppaaRows
import Derived.Test.YtepgkdmfoojppaaMem
namespace Go.Proofs.Ytepgkdmfoojppaa
set_option maxRecDepth 100000
set_option linter.unusedSimpArgs false
set_option linter.unusedVariables false
open Go.RowKit

/-- this program's numbers of the shelf's functions, types and variables (Lays) -/
def ren4 : Go.Shelf.Ren := ⟨fun | 143 => 37 | 144 => 20 | 217 => 69 | 219 => 53 | 224 => 71 | 225 => 70 | 266 => 87 | 267 => 72 | 314 => 88 | n => n, fun | 3 => 3 | 4 => 4 | 5 => 5 | 9 => 9 | 46 => 80 | 51 => 36 | 146 => 101 | n => n, fun | 1 => 0 | n => n⟩

theorem lays144 : Go.Proofs.Lays.n144 Try.prog ren4 := {
  mixed := by kernel_rfl
  f143 := Try.func37.trans (congrArg some (by kernel_rfl))
  f144 := Try.func20.trans (congrArg some (by kernel_rfl))
  f217 := Try.func69.trans (congrArg some (by kernel_rfl))
  f219 := Try.func53.trans (congrArg some (by kernel_rfl))
  f224 := Try.func71.trans (congrArg some (by kernel_rfl))
  f225 := Try.func70.trans (congrArg some (by kernel_rfl))
  f266 := Try.func87.trans (congrArg some (by kernel_rfl))
  f267 := Try.func72.trans (congrArg some (by kernel_rfl))
  f314 := Try.func88.trans (congrArg some (by kernel_rfl))
  t3 := Try.underlying3
  a3 := Try.isAgg3
  z3 := Try.sizeOf3
  v3 := Try.zeroValue3
  t4 := Try.underlying4
  a4 := Try.isAgg4
  z4 := Try.sizeOf4
  v4 := Try.zeroValue4
  t5 := Try.underlying5
  a5 := Try.isAgg5
  z5 := Try.sizeOf5
  v5 := Try.zeroValue5
  t9 := Try.underlying9
  a9 := Try.isAgg9
  z9 := Try.sizeOf9
  v9 := Try.zeroValue9
  t46 := Try.underlying80
  a46 := Try.isAgg80
  z46 := Try.sizeOf80
  v46 := Try.zeroValue80
  t51 := Try.underlying36
  a51 := Try.isAgg36
  z51 := Try.sizeOf36
  v51 := Try.zeroValue36
  t146 := Try.underlying101
  a146 := Try.isAgg101
  z146 := Try.sizeOf101
  v146 := Try.zeroValue101
  g1 := by kernel_rfl }

/-- the library's variable holds some number -/
def MaxLenIs (m : Int) (w : World) : Prop := w.cell? ⟨0, 0, none⟩ = some (.int .i64 m)
theorem maxlen_of {w : World} (h : w.ShapedOpen Try.prog) : ∃ m, MaxLenIs m w :=
  Go.Proofs.cell_of_shapedOpen_int (zero := #[.int .i64 0]) (t := 3) h (of_decide_eq_true (by kernel_rfl)) (by kernel_rfl) rfl (by kernel_rfl) (by kernel_rfl) Try.underlying3
theorem cell_lt' {w : World} {a : Addr} {v : Value} (h : w.cell? a = some v) : a.block < w.heap.size := World.block_lt_of_cell? w _ h
theorem MaxLenIs.on {m : Int} {w w' : World} (h : MaxLenIs m w) (hb : Below w.heap.size w w') : MaxLenIs m w' := (hb.cell (cell_lt' h)).trans h
theorem contains_any {w : World} (s t : ByteArray) (m : Int) (hs : s.size < 4294967281) (hm : MaxLenIs m w) :
    Calls Try.prog 20 #[.string s, .string t] w fun e w' => e = .returned (.bool (Lib.contains s.data.toList t.data.toList)) ∧ w' = w := Any.strings_Contains lays144 s t m w hs hm
end Go.Proofs.Ytepgkdmfoojppaa
