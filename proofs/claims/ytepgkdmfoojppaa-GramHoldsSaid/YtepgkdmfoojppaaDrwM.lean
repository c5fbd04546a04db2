/-
  New blocks in a region that draws its order: empty literals and literals of one cell, in whichever order. No program is named here.
-/
import Derived.Test.YtepgkdmfoojppaaMem
namespace Go.Proofs.Ytepgkdmfoojppaa
set_option linter.unusedSimpArgs false
set_option linter.unusedVariables false

theorem own_none' (w : World) (t : TypeId) : (w.alloc (.cells #[] t)).ownsRow w.heap.size t 1 (.slice (some ⟨w.heap.size, 0, none⟩) 0 0) 0 [] := by
  have := World.ownsRow_lit (e := t) (size := 1) (base := w.heap.size) w #[] 0 (Nat.le_refl _) (by simp [maxLen]) (by simp)
  exact this
theorem cell_new (w : World) (t : TypeId) (v : Value) : (w.alloc (.cells #[v] t)).cell? ⟨w.heap.size, 0, none⟩ = some v := by rw [World.cell?_alloc_at _ _ _ _ rfl]; rfl
theorem own_none2 (w : World) (o : Obj) (t : TypeId) : ((w.alloc o).alloc (.cells #[] t)).ownsRow w.heap.size t 1 (.slice (some ⟨w.heap.size + 1, 0, none⟩) 0 0) 0 [] := by
  have h := own_none' (w.alloc o) t
  rw [World.size_alloc] at h
  exact own_base h (Nat.le_succ _)
theorem cell_after (w : World) (t t' : TypeId) (v : Value) : ((w.alloc (.cells #[] t')).alloc (.cells #[v] t)).cell? ⟨w.heap.size + 1, 0, none⟩ = some v := by
  have h := cell_new (w.alloc (.cells #[] t')) t v
  rw [World.size_alloc] at h
  exact h
theorem cell_before (w : World) (t t' : TypeId) (v : Value) : ((w.alloc (.cells #[v] t)).alloc (.cells #[] t')).cell? ⟨w.heap.size, 0, none⟩ = some v :=
  (World.cell?_alloc_lt (w.alloc (.cells #[v] t)) _ _ (by rw [World.size_alloc]; exact Nat.lt_succ_self _)).trans (cell_new w t v)
theorem cell_grown {w w' : World} {row : Option Nat} {g : Nat} {v : Value} (hg : w.grownBy w' row) (hc : w.cell? ⟨g, 0, none⟩ = some v) (hne : some g ≠ row) : w'.cell? ⟨g, 0, none⟩ = some v :=
  (World.cell?_of_block (hg.block g (World.block_lt_of_cell? w _ hc) hne)).trans hc
end Go.Proofs.Ytepgkdmfoojppaa
