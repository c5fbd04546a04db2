/-
  What is trained, in plain: each symbol stands in a string of the sample; with one round, and few symbols, nothing is escaped.
-/
import Derived.Test.YtpollebfehdnjaaTrT
import Derived.Test.YtpollebfehdnjaaMgL
import Derived.Lib.IndexMore
namespace Go.Proofs.Ytpollebfehdnjaa
set_option linter.unusedSimpArgs false
set_option linter.unusedVariables false

theorem contains_iff (s x : List UInt8) : Lib.contains s x = true ↔ List.IsInfix x s := by
  unfold Lib.contains
  rw [decide_eq_true_iff]
  rcases index_spec s x with ⟨h1, h2⟩ | ⟨i, h1, h2, h3, _⟩
  · rw [h1]
    constructor
    · intro h; omega
    · rintro ⟨a, b, rfl⟩
      have := h2 a.length (by simp)
      unfold Lib.occAt at this
      rw [List.append_assoc, List.drop_left] at this
      have hp : x.isPrefixOf (x ++ b) = true := List.isPrefixOf_iff_prefix.2 (List.prefix_append x b)
      rw [hp] at this
      cases this
  · rw [h2]
    constructor
    · intro _
      unfold Lib.occAt at h3
      obtain ⟨r, hr⟩ := List.isPrefixOf_iff_prefix.1 h3
      exact ⟨s.take i, r, by rw [List.append_assoc, hr, List.take_append_drop]⟩
    · intro _; omega
/-- pieces, and two of them put together, stand in the string -/
theorem pieces_in (T : List (List UInt8)) (l : List UInt8) : ∀ last x, x ∈ piecesL T last l → List.IsInfix x (last ++ l) ∧ 0 < x.length := by
  generalize hn : l.length = n
  induction n using Nat.strongRecOn generalizing l with
  | _ n ih =>
    intro last x hx
    by_cases h : l = []
    · subst h
      rw [pieces_nil] at hx
      cases hx
    · have h0 := stepP_pos T l
      have h1 := stepP_le (T := T) h
      have hp : (l.take (stepP T l)).length = stepP T l := by rw [List.length_take]; omega
      have hsplit : l.take (stepP T l) ++ l.drop (stepP T l) = l := List.take_append_drop _ _
      rw [pieces_cons T last h, List.mem_cons, List.mem_append] at hx
      rcases hx with rfl | hx | hx
      · exact ⟨⟨last, l.drop (stepP T l), by rw [List.append_assoc, hsplit]⟩, by omega⟩
      · split at hx
        · rw [List.mem_singleton] at hx
          subst hx
          exact ⟨⟨[], l.drop (stepP T l), by rw [List.nil_append, List.append_assoc, hsplit]⟩, by rw [List.length_append]; omega⟩
        · cases hx
      · have := ih (l.drop (stepP T l)).length (by rw [List.length_drop]; omega) (l.drop (stepP T l)) rfl (l.take (stepP T l)) x hx
        rw [hsplit] at this
        obtain ⟨⟨a, b, hab⟩, h2⟩ := this
        exact ⟨⟨last ++ a, b, by rw [← hab]; simp only [List.append_assoc]⟩, h2⟩
theorem bag_in {T S : List (List UInt8)} {x : List UInt8} (h : x ∈ bagL T S) : ∃ s ∈ S, List.IsInfix x s ∧ 0 < x.length := by
  obtain ⟨s, hs, hx⟩ := List.mem_flatMap.1 h
  have := pieces_in T s [] x hx
  rw [List.nil_append] at this
  exact ⟨s, hs, this.1, this.2⟩
theorem IsRound.mem {P t : List (List UInt8)} (h : IsRound P t) : ∀ x ∈ t, x ∈ P := by
  obtain ⟨b, h1, h2⟩ := h
  exact fun x hx => h1.of x (h2.of x hx).1
theorem Trained.stands {S : List (List UInt8)} : ∀ {k : Nat} {t : List (List UInt8)}, Trained S k t → ∀ x ∈ t, ∃ s ∈ S, Lib.contains s x = true
  | 0, t, h, x, hx => by
    obtain rfl : t = [] := h
    cases hx
  | k + 1, t, ⟨u, _, h⟩, x, hx => by
    obtain ⟨s, hs, hi, _⟩ := bag_in (h.mem x hx)
    exact ⟨s, hs, (contains_iff s x).2 hi⟩
theorem longP_empty (l : List UInt8) : longP [] l = (-1, 0) := longP_none fun u hu => (by cases hu)
/-- of the empty table each byte is a piece -/
theorem pieces_bytes (l : List UInt8) : ∀ last (c : UInt8), c ∈ l → [c] ∈ piecesL [] last l := by
  induction l with
  | nil => intro _ _ h; cases h
  | cons x l ih =>
    intro last c hc
    have hs : stepP [] (x :: l) = 1 := by rw [stepP, longP_empty]; rfl
    rw [pieces_cons [] last (List.cons_ne_nil x l), hs]
    rcases List.mem_cons.1 hc with rfl | hc
    · exact List.mem_cons_self
    · exact List.mem_cons_of_mem _ (List.mem_append_right _ (ih _ c hc))
/-- a table of fewer than 255 symbols has all that is counted -/
theorem IsRound.whole {P t : List (List UInt8)} (h : IsRound P t) (hP : ∀ x ∈ P, okS x = true) (hl : t.length < 255) : ∀ x ∈ P, x ∈ t := by
  obtain ⟨b, h1, h2⟩ := h
  have hsub : ∀ y ∈ b, y ∈ t := fun y hy => by
    rcases h2.all y hy (hP y (h1.of y hy)) with h | ⟨h, _⟩
    · exact h
    · omega
  intro x hx
  refine hsub x (Classical.byContradiction fun hn => ?_)
  have h3 := (h1.top x hx hn).1
  have := h1.once.length_le_of_subset hsub
  omega
theorem long_has {T : List (List UInt8)} {l s : List UInt8} (hs : s ∈ T) (hp : List.IsPrefix s l) : s.length ≤ (longP T l).2 := (longF_most l T 0 (-1) 0).2 s hs (List.isPrefixOf_iff_prefix.2 hp)
/-- where each byte is a symbol, nothing is escaped -/
theorem enc_short {T : List (List UInt8)} (l : List UInt8) (h : ∀ c ∈ l, [c] ∈ T) : (encL T l).length ≤ l.length := by
  revert h
  refine enc_ind (T := T) (P := fun l => (∀ c ∈ l, [c] ∈ T) → (encL T l).length ≤ l.length) ?_ ?_ ?_ l
  · intro _
    exact Nat.le_refl _
  · intro x l hl _ h
    have := long_has (l := x :: l) (h x List.mem_cons_self) ⟨l, rfl⟩
    rw [hl] at this
    exact absurd this (by show ¬ 1 ≤ 0; omega)
  · intro j s l hj hl h0 ih h
    have h1 := ih fun c hc => h c (List.mem_append_right _ hc)
    rw [enc_code hl h0, List.drop_left, List.length_cons, List.length_append]
    omega
theorem Trained.short {S : List (List UInt8)} {u : List (List UInt8)} (h : Trained S 1 u) (hl : u.length < 255) : ∀ s ∈ S, (encL u s).length ≤ s.length := by
  obtain ⟨e, he, h⟩ := h
  obtain rfl : e = [] := he
  intro s hs
  refine enc_short s fun c hc => h.whole (fun x hx => ?_) hl [c] (List.mem_flatMap.2 ⟨s, hs, pieces_bytes s [] c hc⟩)
  obtain ⟨_, _, _, h2⟩ := bag_in hx
  have h3 := bag_ok (T := []) (fun s hs => by cases hs) hx
  exact okS_iff.2 ⟨h2, h3⟩
end Go.Proofs.Ytpollebfehdnjaa
