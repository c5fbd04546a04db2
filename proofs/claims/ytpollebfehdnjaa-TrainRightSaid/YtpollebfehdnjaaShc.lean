/-
  strings.Contains, laid at this program's numbers; it asks one cell: the library's variable holds some number.
-/
import Derived.Shelf.Strings.Search3
import Derived.Shelf.Vars
import Derived.Test.YtpollebfehdnjaaRows
import Derived.Test.YtpollebfehdnjaaMem
namespace Go.Proofs.Ytpollebfehdnjaa
set_option maxRecDepth 100000
set_option linter.unusedSimpArgs false
set_option linter.unusedVariables false
open Go.RowKit

/-- this program's numbers of the shelf's functions, types and variables (Lays) -/
def ren4 : Go.Shelf.Ren := ⟨fun | 143 => 30 | 144 => 21 | 217 => 46 | 219 => 36 | 224 => 48 | 225 => 47 | 266 => 65 | 267 => 49 | 314 => 66 | n => n, fun | 3 => 3 | 4 => 4 | 5 => 5 | 9 => 9 | 46 => 38 | 51 => 75 | 146 => 79 | n => n, fun | 1 => 0 | n => n⟩

theorem lays144 : Go.Proofs.Lays.n144 Try.prog ren4 := {
  mixed := by kernel_rfl
  f143 := Try.func30.trans (congrArg some (by kernel_rfl))
  f144 := Try.func21.trans (congrArg some (by kernel_rfl))
  f217 := Try.func46.trans (congrArg some (by kernel_rfl))
  f219 := Try.func36.trans (congrArg some (by kernel_rfl))
  f224 := Try.func48.trans (congrArg some (by kernel_rfl))
  f225 := Try.func47.trans (congrArg some (by kernel_rfl))
  f266 := Try.func65.trans (congrArg some (by kernel_rfl))
  f267 := Try.func49.trans (congrArg some (by kernel_rfl))
  f314 := Try.func66.trans (congrArg some (by kernel_rfl))
  t3 := Try.underlying3
  a3 := Try.isAgg3
  z3 := Try.sizeOf3
  v3 := Try.zeroValue3
  t4 := Try.underlying4
  a4 := Try.isAgg4
  z4 := Try.sizeOf4
  v4 := Try.zeroValue4
  t5 := Try.underlying5
  a5 := Try.isAgg5
  z5 := Try.sizeOf5
  v5 := Try.zeroValue5
  t9 := Try.underlying9
  a9 := Try.isAgg9
  z9 := Try.sizeOf9
  v9 := Try.zeroValue9
  t46 := Try.underlying38
  a46 := Try.isAgg38
  z46 := Try.sizeOf38
  v46 := Try.zeroValue38
  t51 := Try.underlying75
  a51 := Try.isAgg75
  z51 := Try.sizeOf75
  v51 := Try.zeroValue75
  t146 := Try.underlying79
  a146 := Try.isAgg79
  z146 := Try.sizeOf79
  v146 := Try.zeroValue79
  g1 := by kernel_rfl }

/-- the library's variable holds some number -/
def MaxLenIs (m : Int) (w : World) : Prop := w.cell? ⟨0, 0, none⟩ = some (.int .i64 m)
theorem maxlen_of {w : World} (h : w.ShapedOpen Try.prog) : ∃ m, MaxLenIs m w :=
  Go.Proofs.cell_of_shapedOpen_int (zero := #[.int .i64 0]) (t := 3) h (of_decide_eq_true (by kernel_rfl)) (by kernel_rfl) rfl (by kernel_rfl) (by kernel_rfl) Try.underlying3
theorem cell_lt' {w : World} {a : Addr} {v : Value} (h : w.cell? a = some v) : a.block < w.heap.size := World.block_lt_of_cell? w _ h
theorem MaxLenIs.on {m : Int} {w w' : World} (h : MaxLenIs m w) (hb : Below w.heap.size w w') : MaxLenIs m w' := (hb.cell (cell_lt' h)).trans h
theorem contains_any {w : World} (s t : ByteArray) (m : Int) (hs : s.size < 4294967281) (hm : MaxLenIs m w) :
    Calls Try.prog 21 #[.string s, .string t] w fun e w' => e = .returned (.bool (Lib.contains s.data.toList t.data.toList)) ∧ w' = w := Any.strings_Contains lays144 s t m w hs hm
end Go.Proofs.Ytpollebfehdnjaa
