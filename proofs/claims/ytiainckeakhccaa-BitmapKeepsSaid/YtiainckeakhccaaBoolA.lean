/-
  Appends of rows, in this program.
-/
import Derived.Test.YtiainckeakhccaaBmB
namespace Go.Proofs.Ytiainckeakhccaa
set_option linter.unusedSimpArgs false
set_option linter.unusedVariables false
open Go.RowKit

/-- append of rows onto rows of the call's own, what comes of it under a name of its own -/
theorem append_bools (w : World) (base : Nat) (v : Value) (ys zs us : List Bool) (hus : ys ++ zs = us) (hown : w.ownsRow base 4 1 v ys.length (lv ys)) {lo h' : Nat} {A : Option Addr} {c : Nat} (hr : Rd w lo h' A c (lv zs))
    (hb : ys.length + zs.length ≤ 140737488355328) (hbase : base ≤ w.heap.size) :
    ∃ A' c' w', (Builtin.append_ #[22, 22] 22 #[v, .slice A zs.length c]).run Try.prog w = .ok (.slice A' us.length c') w' ∧
      w'.ownsRow base 4 1 (.slice A' us.length c') us.length (lv us) ∧ w.grownBy w' v.ownBlock := by
  subst hus
  obtain ⟨i0, hi0, hz0, hz1, hz2⟩ := info_parts Try.infoBool
  have hl := lv_length zs
  obtain ⟨A', c', w', hrun, h2, h3, _⟩ := run_append_rd (P := Try.prog) w base 22 22 4 i0 _ 1 Try.underlying22 hi0 hz0 hz1 hz2 rfl v ys.length (lv ys) hown lo h' A c (lv zs) hr (lv_one _)
    (by rw [hl]; simp only [maxLen]; omega) (by rw [hl]; omega) hbase
  rw [hl] at hrun h2
  rw [List.length_append]
  exact ⟨A', c', w', hrun, by rw [lv_append]; exact h2, h3⟩
theorem own_empty (w : World) (t : TypeId) : (w.alloc (.cells #[] t)).ownsRow w.heap.size t 1 (.slice (some ⟨w.heap.size, 0, none⟩) 0 0) 0 [] := by
  have := World.ownsRow_lit (e := t) (size := 1) (base := w.heap.size) w #[] 0 (Nat.le_refl _) (by simp [maxLen]) (by simp)
  exact this
end Go.Proofs.Ytiainckeakhccaa
