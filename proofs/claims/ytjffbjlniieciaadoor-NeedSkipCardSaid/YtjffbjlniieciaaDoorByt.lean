/-
  Appends of bytes, in this program.
-/
import Derived.Test.YtjffbjlniieciaaDoorRows
import Derived.Test.YtjffbjlniieciaaDoorMem
import Derived.Outline
import Derived.BigQuiet
import Derived.Deep.QuietTactic
namespace Go.Proofs.YtjffbjlniieciaaDoor
set_option linter.unusedSimpArgs false
set_option linter.unusedVariables false
open Go.RowKit

/-- the cell of a byte that is read -/
theorem Rd.byte {w : World} {lo hi c : Nat} {A : Option Addr} {bs : List UInt8} (h : Rd w lo hi A c (bv bs)) {k : Nat} (hk : k < bs.length) :
    ∃ b off, A = some ⟨b, off, none⟩ ∧ lo ≤ b ∧ b < hi ∧ w.cell? ⟨b, off + k, none⟩ = some (.int .u8 (bs[k].toNat : Int)) := by
  obtain ⟨b, off, e, h1, h2, h3⟩ := h.at_ (by rw [bv_length]; omega)
  exact ⟨b, off, e, h1, h2, h3 k _ (bv_get bs k hk)⟩

theorem Tryd.infoU8 : (Tryd.prog.info? 5).map (fun i => (i.zero, i.size, i.bytes)) = some (some (.int .u8 0), 1, 1) := by kernel_rfl

/-- append of bytes onto bytes of the call's own, in this program -/
theorem append_bytes (w : World) (base : Nat) (v : Value) (ys bs : List UInt8) (hown : w.ownsRow base 5 1 v ys.length (bv ys)) {lo h' : Nat} {A : Option Addr} {c : Nat} (hr : Rd w lo h' A c (bv bs))
    (hb : ys.length + bs.length ≤ 140737488355328) (hbase : base ≤ w.heap.size) :
    ∃ A' c' w', (Builtin.append_ #[71, 71] 71 #[v, .slice A bs.length c]).run Tryd.prog w = .ok (.slice A' (ys.length + bs.length) c') w' ∧
      w'.ownsRow base 5 1 (.slice A' (ys.length + bs.length) c') (ys.length + bs.length) (bv (ys ++ bs)) ∧ w.grownBy w' v.ownBlock := by
  obtain ⟨i0, hi0, hz0, hz1, hz2⟩ := info_parts Tryd.infoU8
  have hl := bv_length bs
  obtain ⟨A', c', w', hrun, h2, h3, _⟩ := run_append_rd (P := Tryd.prog) w base 71 71 5 i0 _ 1 Tryd.underlying71 hi0 hz0 hz1 hz2 rfl v ys.length (bv ys) hown lo h' A c (bv bs) hr (bv_one _)
    (by rw [hl]; simp only [maxLen]; omega) (by rw [hl]; omega) hbase
  rw [hl] at hrun h2
  exact ⟨A', c', w', hrun, by rw [bv_append]; exact h2, h3⟩

/-- the same, what comes of it under a name of its own -/
theorem append_named (w : World) (base : Nat) (v : Value) (ys bs cs : List UInt8) (hcs : ys ++ bs = cs) (hown : w.ownsRow base 5 1 v ys.length (bv ys)) {lo h' : Nat} {A : Option Addr} {c : Nat} (hr : Rd w lo h' A c (bv bs))
    (hb : ys.length + bs.length ≤ 140737488355328) (hbase : base ≤ w.heap.size) :
    ∃ A' c' w', (Builtin.append_ #[71, 71] 71 #[v, .slice A bs.length c]).run Tryd.prog w = .ok (.slice A' cs.length c') w' ∧
      w'.ownsRow base 5 1 (.slice A' cs.length c') cs.length (bv cs) ∧ w.grownBy w' v.ownBlock := by
  subst hcs
  rw [List.length_append]
  exact append_bytes w base v ys bs hown hr hb hbase

/-- append of one byte that a new block holds -/
theorem wpList_push {ops : Array Oper} {rest : List Oper} {o : Oper} {a : Act} {Q : Exit → Act → World → Prop} {w : World} {v : Value} {g : Nat} (base : Nat) (ys : List UInt8) (b : UInt8) (hgd : o.guard = none) (s x : Operand)
    (ho : o.op = .call { callee := .builtin .append, args := #[s, x], argTypes := #[71, 71] }) (hty : o.type = 71)
    (hs : a.eval s = v) (hx : a.eval x = .slice (some ⟨g, 0, none⟩) 1 1) (hcell : w.cell? ⟨g, 0, none⟩ = some (.int .u8 (b.toNat : Int)))
    (hown : w.ownsRow base 5 1 v ys.length (bv ys)) (hb : ys.length + 1 ≤ 140737488355328) (hbase : base ≤ w.heap.size)
    (h : ∀ A' c' w', w'.ownsRow base 5 1 (.slice A' (ys ++ [b]).length c') (ys ++ [b]).length (bv (ys ++ [b])) → w.grownBy w' v.ownBlock → wpList Tryd.prog ops Q rest (a.put o.dst (.slice A' (ys.length + 1) c')) w') :
    wpList Tryd.prog ops Q (o :: rest) a w := by
  have hr : Rd w 0 w.heap.size (some ⟨g, 0, none⟩) 1 (bv [b]) := ⟨by simp [bv], by simp [maxLen], fun _ => ⟨g, 0, rfl, Nat.zero_le _, World.block_lt_of_cell? w _ hcell, fun j u hu => by
    match j, hu with
    | 0, hu =>
      simp [bv] at hu
      subst hu
      exact hcell
    | j + 1, hu => simp [bv] at hu⟩⟩
  obtain ⟨A', c', w', hrun, h2, h3⟩ := append_bytes w base v ys [b] hown hr (by simpa using hb) hbase
  refine wpList_append_run hgd s x _ _ ho hs hx (by rw [hty]; exact hrun) (h A' c' w' (by simpa using h2) h3)

theorem own_lit (w : World) (l : List UInt8) (cs : Array Value) (h : cs.toList = bv l) (hm : l.length ≤ 1000) : (w.alloc (.cells cs 5)).ownsRow w.heap.size 5 1 (.slice (some ⟨w.heap.size, 0, none⟩) l.length l.length) l.length (bv l) := by
  have := World.ownsRow_lit (e := 5) (size := 1) (base := w.heap.size) w cs l.length (Nat.le_refl _) (by simp only [maxLen]; omega) (by rw [← Array.length_toList, h, bv_length, Nat.mul_one])
  rwa [h] at this

end Go.Proofs.YtjffbjlniieciaaDoor
