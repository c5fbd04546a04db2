/-
  The longest symbol at a string's beginning, in plain.
-/
import Derived.Test.YtpollebfehdnjaaMgS
namespace Go.Proofs.Ytpollebfehdnjaa
set_option linter.unusedSimpArgs false
set_option linter.unusedVariables false

/-- the longest symbol at the beginning: which, and how long; or (-1, 0) -/
def longP (T : List (List UInt8)) (l : List UInt8) : Int × Nat := longF T 0 (-1) 0 l
theorem longF_spec (l : List UInt8) : ∀ (T : List (List UInt8)) (i : Nat) (c : Int) (n : Nat), longF T i c n l = (c, n) ∨ ∃ j s, T[j]? = some s ∧ longF T i c n l = (((i + j : Nat) : Int), s.length) ∧ n < s.length ∧ s.isPrefixOf l = true
  | [], i, c, n => Or.inl rfl
  | t :: ts, i, c, n => by
    unfold longF
    by_cases h : n < t.length ∧ t.isPrefixOf l = true
    · rw [if_pos h]
      rcases longF_spec l ts (i + 1) (i : Int) t.length with h1 | ⟨j, s, h1, h2, h3, h4⟩
      · exact Or.inr ⟨0, t, rfl, h1, h.1, h.2⟩
      · exact Or.inr ⟨j + 1, s, by simpa using h1, by rw [h2, show i + 1 + j = i + (j + 1) by omega], by omega, h4⟩
    · rw [if_neg h]
      rcases longF_spec l ts (i + 1) c n with h1 | ⟨j, s, h1, h2, h3, h4⟩
      · exact Or.inl h1
      · exact Or.inr ⟨j + 1, s, by simpa using h1, by rw [h2, show i + 1 + j = i + (j + 1) by omega], h3, h4⟩
theorem longP_spec (T : List (List UInt8)) (l : List UInt8) : longP T l = (-1, 0) ∨ ∃ (j : Nat) (s : List UInt8), T[j]? = some s ∧ longP T l = ((j : Int), s.length) ∧ 0 < s.length ∧ List.IsPrefix s l := by
  rcases longF_spec l T 0 (-1) 0 with h | ⟨j, s, h1, h2, h3, h4⟩
  · exact Or.inl h
  · exact Or.inr ⟨j, s, h1, by rw [longP, h2, Nat.zero_add], h3, List.isPrefixOf_iff_prefix.1 h4⟩
theorem longP_nil (T : List (List UInt8)) : longP T [] = (-1, 0) := by
  rcases longP_spec T [] with h | ⟨j, s, _, _, h3, h4⟩
  · exact h
  · have := h4.length_le
    rw [List.length_nil] at this
    omega

theorem longF_most (l : List UInt8) : ∀ (T : List (List UInt8)) (i : Nat) (c : Int) (n : Nat), n ≤ (longF T i c n l).2 ∧ ∀ u ∈ T, u.isPrefixOf l = true → u.length ≤ (longF T i c n l).2
  | [], i, c, n => ⟨Nat.le_refl _, fun u hu => by cases hu⟩
  | t :: ts, i, c, n => by
    unfold longF
    by_cases h : n < t.length ∧ t.isPrefixOf l = true
    · rw [if_pos h]
      have ih := longF_most l ts (i + 1) (i : Int) t.length
      refine ⟨by omega, fun u hu hp => ?_⟩
      rcases List.mem_cons.1 hu with rfl | hu
      · exact ih.1
      · exact ih.2 u hu hp
    · rw [if_neg h]
      have ih := longF_most l ts (i + 1) c n
      refine ⟨ih.1, fun u hu hp => ?_⟩
      rcases List.mem_cons.1 hu with rfl | hu
      · have : ¬ n < u.length := fun h2 => h ⟨h2, hp⟩
        omega
      · exact ih.2 u hu hp
theorem longP_is {T : List (List UInt8)} {l s : List UInt8} {i : Nat} (hr : risesL T = true) (hi : i < T.length) (he : T[i] = s) (hp : List.IsPrefix s l) (h0 : 0 < s.length) (hm : ∀ u ∈ T, List.IsPrefix u l → u.length ≤ s.length) : longP T l = ((i : Int), s.length) := by
  have hmost := (longF_most l T 0 (-1) 0).2 s (he ▸ List.getElem_mem hi) (List.isPrefixOf_iff_prefix.2 hp)
  rcases longP_spec T l with h | ⟨j, s2, h1, h2, h3, h4⟩
  · rw [show longF T 0 (-1) 0 l = longP T l from rfl, h] at hmost
    exact absurd hmost (by show ¬ s.length ≤ 0; omega)
  · rw [show longF T 0 (-1) 0 l = longP T l from rfl, h2] at hmost
    obtain ⟨hj, hje⟩ := List.getElem?_eq_some_iff.1 h1
    have hle := hm s2 (hje ▸ List.getElem_mem hj) h4
    have hlen : s.length = s2.length := by show _ = _; simp only at hmost; omega
    have hes : s = s2 := by
      obtain ⟨r1, e1⟩ := hp
      obtain ⟨r2, e2⟩ := h4
      exact (List.append_inj (e1.trans e2.symm) hlen).1
    have : i = j := rises_inj hr hi hj (by rw [he, hje, hes])
    rw [h2, this, hlen]
theorem longP_none {T : List (List UInt8)} {l : List UInt8} (h : ∀ u ∈ T, List.IsPrefix u l → u.length = 0) : longP T l = (-1, 0) := by
  rcases longP_spec T l with h1 | ⟨j, s, h1, h2, h3, h4⟩
  · exact h1
  · obtain ⟨hj, hje⟩ := List.getElem?_eq_some_iff.1 h1
    have := h s (hje ▸ List.getElem_mem hj) h4
    omega
theorem cmpL_prefix {p q : List UInt8} (h : q ≠ []) : cmpL p (p ++ q) < 0 := by
  have := cmpL_ahead p [] q
  rw [List.append_nil] at this
  rw [this]
  cases q with
  | nil => exact absurd rfl h
  | cons => simp [cmpL]
theorem cmpL_takes {l : List UInt8} {m n : Nat} (h : m < n) (hn : n ≤ l.length) : cmpL (l.take m) (l.take n) < 0 := by
  have e : l.take n = l.take m ++ (l.drop m).take (n - m) := by
    rw [← List.take_add, show m + (n - m) = n by omega]
  rw [e]
  refine cmpL_prefix fun h2 => ?_
  have := congrArg List.length h2
  rw [List.length_take, List.length_drop, List.length_nil] at this
  omega
end Go.Proofs.Ytpollebfehdnjaa
