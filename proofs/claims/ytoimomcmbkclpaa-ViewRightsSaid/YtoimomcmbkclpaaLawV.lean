/-
  The helpers of layer 6's laws: a number's four bytes, a view's number at a place.
-/
import Derived.Test.YtoimomcmbkclpaaVewF
import Derived.Test.YtoimomcmbkclpaaVewC
import Derived.IntWalk
namespace Go.Proofs.Ytoimomcmbkclpaa
set_option linter.unusedSimpArgs false
set_option linter.unusedVariables false
open Go.RowKit

theorem le4_cells {n : Nat} (h : n < 4294967296) : bv (le4 n) = [.int .u8 ((n : Int) % 256), .int .u8 ((n : Int) / 256 % 256), .int .u8 ((n : Int) / 65536 % 256), .int .u8 ((n : Int) / 16777216 % 256)] := by
  have e (m : Nat) : ((UInt8.ofNat m).toNat : Int) = (m : Int) % 256 := by rw [UInt8.toNat_ofNat']; omega
  simp only [bv, le4, List.map_cons, List.map_nil, e]
  rfl

theorem four_any {w : World} (n : Nat) (hn : n < 4294967296) :
    Calls Try.prog 8 #[.int .i64 (n : Int)] w fun r w' => r = .returned (.slice (some ⟨w.heap.size, 0, none⟩) 4 4) ∧
      w'.ownsRow w.heap.size 5 1 (.slice (some ⟨w.heap.size, 0, none⟩) 4 4) (le4 n).length (bv (le4 n)) ∧ Below w.heap.size w w' := by
  have ho := own_lit w (le4 n) #[.int .u8 ((n : Int) % 256), .int .u8 ((n : Int) / 256 % 256), .int .u8 ((n : Int) / 65536 % 256), .int .u8 ((n : Int) / 16777216 % 256)] (by rw [le4_cells hn]) (by rw [le4_length]; omega)
  have HO := Lib.hid ho
  clear ho
  go_enter Try.func8, Try.ntmps8
  go_wp2
  go_ret
  refine ⟨rfl, HO.out, (Below.refl _ _).alloc (Nat.le_refl _) _⟩

theorem numAt_cells {l : List UInt8} {p : Nat} (h : p + 4 ≤ l.length) : numAt l p = l[p].toNat + 256 * l[p + 1].toNat + 65536 * l[p + 2].toNat + 16777216 * l[p + 3].toNat := by
  unfold numAt
  rw [List.drop_eq_getElem_cons (by omega), List.drop_eq_getElem_cons (by omega), List.drop_eq_getElem_cons (by omega), List.drop_eq_getElem_cons (by omega)]
  simp only [List.take_succ_cons, List.take_zero, num, Nat.add_assoc, Nat.reduceAdd]
  omega

theorem lnumber_any {w : World} (l : List UInt8) (hl : l.length = 16) (p : Nat) (hp : p + 4 ≤ 16) :
    Calls Try.prog 9 #[.agg (vb l), .int .i64 (p : Int)] w fun r w' => r = .returned (.int .i64 (numAt l p : Int)) ∧ Below w.heap.size w w' := by
  have hb := Blk.new w 23 (vb l)
  have hk := (Below.refl w.heap.size w).alloc (Nat.le_refl _) (.cells (vb l) 23)
  have hc := numAt_cells (l := l) (p := p) (by omega)
  have c0 : (w.alloc (.cells (vb l) 23)).cell? ⟨w.heap.size, p, none⟩ = some (.int .u8 (l[p].toNat : Int)) := (hb.cell _).trans (vb_get _ _ (by omega))
  have c1 : (w.alloc (.cells (vb l) 23)).cell? ⟨w.heap.size, p + 1, none⟩ = some (.int .u8 (l[p + 1].toNat : Int)) := (hb.cell _).trans (vb_get _ _ (by omega))
  have c2 : (w.alloc (.cells (vb l) 23)).cell? ⟨w.heap.size, p + 2, none⟩ = some (.int .u8 (l[p + 2].toNat : Int)) := (hb.cell _).trans (vb_get _ _ (by omega))
  have c3 : (w.alloc (.cells (vb l) 23)).cell? ⟨w.heap.size, p + 3, none⟩ = some (.int .u8 (l[p + 3].toNat : Int)) := (hb.cell _).trans (vb_get _ _ (by omega))
  have b0 := UInt8.toNat_lt l[p]
  have b1 := UInt8.toNat_lt l[p + 1]
  have b2 := UInt8.toNat_lt l[p + 2]
  have b3 := UInt8.toNat_lt l[p + 3]
  generalize l[p].toNat = x0 at *
  generalize l[p + 1].toNat = x1 at *
  generalize l[p + 2].toNat = x2 at *
  generalize l[p + 3].toNat = x3 at *
  have HK := Lib.hid hk
  have HC := Lib.hid hc
  have w1 : IntKind.i64.wrap ((p : Int) + 1) = ((p + 1 : Nat) : Int) := IntWalk.i64_in _ (by omega)
  have w2 : IntKind.i64.wrap ((p : Int) + 2) = ((p + 2 : Nat) : Int) := IntWalk.i64_in _ (by omega)
  have w3 : IntKind.i64.wrap ((p : Int) + 3) = ((p + 3 : Nat) : Int) := IntWalk.i64_in _ (by omega)
  clear hb hk hc
  go_enter Try.func9, Try.ntmps9
  go_wp2_with fail
  go_quiet (fail)
  go_wp2
  go_ret
  refine ⟨ret_int' ?_, below_drewN' HK.out _⟩
  rw [HC.out]
  omega

end Go.Proofs.Ytoimomcmbkclpaa
