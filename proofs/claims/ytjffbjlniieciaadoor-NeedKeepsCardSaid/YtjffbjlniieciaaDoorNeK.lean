/-
  The laws of layer 16: a row of values appended to a row of the call's own.
-/
import Derived.Test.YtjffbjlniieciaaDoorMgE
import Derived.Laws.OwnMore
import Derived.Laws.MakeOwn
namespace Go.Proofs.YtjffbjlniieciaaDoor
set_option linter.unusedSimpArgs false
set_option linter.unusedVariables false
open Go.RowKit

theorem Tryd.infoVal : (Tryd.prog.info? 42).map (fun i => (i.zero, i.size, i.bytes)) = some (some (.agg #[.bool false, .string ⟨#[]⟩]), 2, 24) := by kernel_rfl
/-- the cells of values -/
def vcs (r : List Vl) : List Value := r.flatMap vlVals
theorem vcs_length : ∀ r : List Vl, (vcs r).length = r.length * 2
  | [] => rfl
  | v :: r => by
    have := vcs_length r
    show (vlVals v ++ vcs r).length = _
    rw [List.length_append, this, List.length_cons]
    show 2 + _ = _
    omega
theorem vcs_one (r : List Vl) : ∀ u ∈ vcs r, u.oneCell' = true := by
  intro u hu
  obtain ⟨v, _, hv⟩ := List.mem_flatMap.1 hu
  rcases List.mem_cons.1 hv with rfl | hv
  · rfl
  · rw [List.mem_singleton.1 hv]
    rfl
theorem vcs_get : ∀ {r : List Vl} {j i : Nat} (hj : j < r.length) (hi : i < 2), (vcs r)[j * 2 + i]? = (vlVals r[j])[i]?
  | [], j, i, hj, _ => absurd hj (Nat.not_lt_zero _)
  | v :: r, 0, i, _, hi => by
    show (vlVals v ++ vcs r)[0 * 2 + i]? = _
    rw [Nat.zero_mul, Nat.zero_add, List.getElem?_append_left (by show i < 2; exact hi)]
    rfl
  | v :: r, j + 1, i, hj, hi => by
    show (vlVals v ++ vcs r)[(j + 1) * 2 + i]? = _
    rw [List.getElem?_append_right (by show 2 ≤ _; omega), show (j + 1) * 2 + i - (vlVals v).length = j * 2 + i by show _ - 2 = _; omega]
    exact vcs_get (by simpa using hj) hi
theorem row_of {w : World} {base c : Nat} {A : Option Addr} {t : TypeId} {row : List Vl} (h : w.ownsRow base t 2 (.slice A row.length c) row.length (vcs row)) (ho : ∀ v ∈ row, v.s.size ≤ 9223372036854775807) : Row w 0 w.heap.size A c row := by
  refine ⟨?_, ho⟩
  rcases h.2 with ⟨hv, hn⟩ | ⟨g, cap, cur, hv, hb, hg, hnc, hcm, hcs, htake⟩
  · injection hv with h1 h2 h3
    subst h1 h3
    have : row = [] := List.eq_nil_of_length_eq_zero hn
    subst this
    exact Els.nil _ _ _ _ _
  · injection hv with h1 h2 h3
    subst h1 h3
    refine ⟨hnc, hcm, fun _ => ⟨g, 0, rfl, Nat.zero_le _, (Array.getElem?_eq_some_iff.1 hg).1, fun j hj i hi => ?_⟩⟩
    have hcell := vcs_get hj hi
    have h2 : (vlVals row[j]).length = 2 := rfl
    rw [List.getElem?_eq_getElem (show i < (vlVals row[j]).length by omega)] at hcell
    have := h.cells (g := g) (by simp [Value.ownBlock]) (j * 2 + i) _ hcell
    have e0 : ∀ m : Nat, (⟨g, 0, none⟩ : Addr).add m = ⟨g, m, none⟩ := fun m => by unfold Addr.add; by_cases h0 : m = 0 <;> simp [h0]
    rw [e0] at this
    rw [Nat.zero_add, this, List.getElem?_eq_getElem hj, Option.bind_some, ← List.getElem?_eq_getElem (show i < (vlVals row[j]).length by omega)]
/-- append(.., row...) onto nothing of the call's own -/
theorem append_row {w : World} {base : Nat} {v : Value} (hown : w.ownsRow base 42 2 v 0 []) {A : Option Addr} {c : Nat} {row : List Vl} (hr : Row w 0 w.heap.size A c row) (h1 : 1 ≤ row.length) (h8 : row.length ≤ 1000) (hbase : base ≤ w.heap.size) :
    ∃ A' c' w', (Builtin.append_ #[28, 28] 28 #[v, .slice A row.length c]).run Tryd.prog w = .ok (.slice A' row.length c') w' ∧ w'.ownsRow base 42 2 (.slice A' row.length c') row.length (vcs row) ∧ w.grownBy w' v.ownBlock := by
  obtain ⟨i0, hi0, hz0, hz1, hz2⟩ := info_parts Tryd.infoVal
  obtain ⟨b, off, rfl, _, _, hcs⟩ := hr.els.lies h1
  have hcells : ∀ j u, (vcs row)[j]? = some u → w.cell? ((⟨b, off, none⟩ : Addr).add j) = some u := fun j u hu => by
    have hjl : j < (vcs row).length := (List.getElem?_eq_some_iff.1 hu).1
    rw [vcs_length] at hjl
    have h2 := hcs (j / 2) (by omega) (j % 2) (by omega)
    rw [List.getElem?_eq_getElem (show j / 2 < row.length by omega), Option.bind_some, ← vcs_get (show j / 2 < row.length by omega) (show j % 2 < 2 by omega), show j / 2 * 2 + j % 2 = j by omega, hu] at h2
    have e : (⟨b, off, none⟩ : Addr).add j = ⟨b, off + j / 2 * 2 + j % 2, none⟩ := by
      unfold Addr.add
      by_cases h0 : j = 0
      · simp [h0]
      · simp [h0]; omega
    rw [e]
    exact h2
  obtain ⟨v', w', hrun, h2, h3, _, _⟩ := run_append_own_at (P := Tryd.prog) w base 28 28 42 i0 _ 2 24 Tryd.underlying28 hi0 hz0 hz1 hz2 rfl (by omega) v 0 [] hown ⟨b, off, none⟩ row.length c (vcs row) (vcs_length row) hcells (vcs_one row) (by simp only [maxLen]; omega) (by omega) hbase
  rw [Nat.zero_add, List.nil_append] at h2
  obtain ⟨A', c', rfl, _⟩ := own_form w' h2
  exact ⟨A', c', w', hrun, h2, h3⟩
theorem own_empty2 (w : World) (t : TypeId) : (w.alloc (.cells #[] t)).ownsRow w.heap.size t 2 (.slice (some ⟨w.heap.size, 0, none⟩) 0 0) 0 [] := World.ownsRow_lit (e := t) (size := 2) (base := w.heap.size) w #[] 0 (Nat.le_refl _) (by simp [maxLen]) (by simp)
end Go.Proofs.YtjffbjlniieciaaDoor
