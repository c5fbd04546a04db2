/-
  A string that another one has within it: strings.Contains, in plain. No program is named here.
-/
import Derived.Test.YtepgkdmfoojppaaMgL
import Derived.Lib.IndexMore
namespace Go.Proofs.Ytepgkdmfoojppaa
set_option linter.unusedSimpArgs false
set_option linter.unusedVariables false

theorem contains_iff (s x : List UInt8) : Lib.contains s x = true ↔ List.IsInfix x s := by
  unfold Lib.contains
  rw [decide_eq_true_iff]
  rcases index_spec s x with ⟨h1, h2⟩ | ⟨i, h1, h2, h3, _⟩
  · rw [h1]
    constructor
    · intro h; omega
    · rintro ⟨a, b, rfl⟩
      have := h2 a.length (by simp)
      unfold Lib.occAt at this
      rw [List.append_assoc, List.drop_left] at this
      have hp : x.isPrefixOf (x ++ b) = true := List.isPrefixOf_iff_prefix.2 (List.prefix_append x b)
      rw [hp] at this
      cases this
  · rw [h2]
    constructor
    · intro _
      unfold Lib.occAt at h3
      obtain ⟨r, hr⟩ := List.isPrefixOf_iff_prefix.1 h3
      exact ⟨s.take i, r, by rw [List.append_assoc, hr, List.take_append_drop]⟩
    · intro _; omega
end Go.Proofs.Ytepgkdmfoojppaa
