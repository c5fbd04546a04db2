/-
  strings.Index, laid at this program's numbers; it asks one cell: the library's variable holds some number.
-/
import Derived.Shelf.Strings.Search3
import Derived.Shelf.Vars
import Derived.Test.YtcpllbfpbhnjeaaShl
namespace Go.Proofs.Ytcpllbfpbhnjeaa
set_option maxRecDepth 100000
open Go.RowKit

theorem lays143 : Go.Proofs.Lays.n143 Try.prog ren := {
  mixed := by kernel_rfl
  f143 := Try.func21.trans (congrArg some (by kernel_rfl))
  f217 := Try.func32.trans (congrArg some (by kernel_rfl))
  f219 := Try.func29.trans (congrArg some (by kernel_rfl))
  f224 := Try.func34.trans (congrArg some (by kernel_rfl))
  f225 := Try.func33.trans (congrArg some (by kernel_rfl))
  f266 := Try.func38.trans (congrArg some (by kernel_rfl))
  f267 := Try.func35.trans (congrArg some (by kernel_rfl))
  f314 := Try.func39.trans (congrArg some (by kernel_rfl))
  t3 := Try.underlying3
  a3 := Try.isAgg3
  z3 := Try.sizeOf3
  v3 := Try.zeroValue3
  t4 := Try.underlying4
  a4 := Try.isAgg4
  z4 := Try.sizeOf4
  v4 := Try.zeroValue4
  t5 := Try.underlying5
  a5 := Try.isAgg5
  z5 := Try.sizeOf5
  v5 := Try.zeroValue5
  t9 := Try.underlying9
  a9 := Try.isAgg9
  z9 := Try.sizeOf9
  v9 := Try.zeroValue9
  t46 := Try.underlying55
  a46 := Try.isAgg55
  z46 := Try.sizeOf55
  v46 := Try.zeroValue55
  t51 := Try.underlying59
  a51 := Try.isAgg59
  z51 := Try.sizeOf59
  v51 := Try.zeroValue59
  t146 := Try.underlying60
  a146 := Try.isAgg60
  z146 := Try.sizeOf60
  v146 := Try.zeroValue60
  g1 := by kernel_rfl }

/-- the library's variable holds some number -/
def MaxLenIs (m : Int) (w : World) : Prop := w.cell? ⟨0, 0, none⟩ = some (.int .i64 m)
theorem maxlen_of {w : World} (h : w.ShapedOpen Try.prog) : ∃ m, MaxLenIs m w :=
  Go.Proofs.cell_of_shapedOpen_int (zero := #[.int .i64 0]) (t := 3) h (of_decide_eq_true (by kernel_rfl)) (by kernel_rfl) rfl (by kernel_rfl) (by kernel_rfl) Try.underlying3
theorem cell_lt' {w : World} {a : Addr} {v : Value} (h : w.cell? a = some v) : a.block < w.heap.size := World.block_lt_of_cell? w _ h
theorem MaxLenIs.on {m : Int} {w w' : World} (h : MaxLenIs m w) (hb : Below w.heap.size w w') : MaxLenIs m w' := (hb.cell (cell_lt' h)).trans h
theorem index_any {w : World} (s t : ByteArray) (m : Int) (hs : s.size < 4294967281) (hm : MaxLenIs m w) :
    Calls Try.prog 21 #[.string s, .string t] w fun e w' => e = .returned (.int .i64 (Lib.index s.data.toList t.data.toList)) ∧ w' = w := Any.strings_Index lays143 s t m w hs hm
end Go.Proofs.Ytcpllbfpbhnjeaa
