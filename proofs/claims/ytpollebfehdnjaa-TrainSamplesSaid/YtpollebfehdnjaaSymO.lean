/-
  The document's Order of layer 10: the least one that is greater than the last, again and again.
-/
import Derived.Test.YtpollebfehdnjaaMgS
namespace Go.Proofs.Ytpollebfehdnjaa
set_option linter.unusedSimpArgs false
set_option linter.unusedVariables false
open Go.RowKit

theorem cmpL_neg (a b : List UInt8) : 0 < cmpL b a ↔ cmpL a b < 0 := by rw [cmpL_turn a b]; omega
/-- greater than all of these, and a symbol -/
def Cand (ts : List (List UInt8)) (s : List UInt8) : Prop := okS s = true ∧ ∀ x ∈ ts, cmpL x s < 0
theorem rises_push : ∀ {t : List (List UInt8)} {b : List UInt8}, risesL t = true → (∀ x ∈ t, cmpL x b < 0) → risesL (t ++ [b]) = true
  | [], b, _, _ => rfl
  | [a], b, _, h => by
    show risesL [a, b] = true
    exact rises_cons.2 ⟨h a List.mem_cons_self, rfl⟩
  | a :: c :: t, b, hr, h => by
    obtain ⟨h1, h2⟩ := rises_cons.1 hr
    exact rises_cons.2 ⟨h1, rises_push h2 fun x hx => h x (List.mem_cons_of_mem _ hx)⟩
theorem rises_last : ∀ {t : List (List UInt8)} {a : List UInt8}, risesL (t ++ [a]) = true → ∀ x ∈ t, cmpL x a < 0
  | [], _, _, x, hx => by cases hx
  | b :: t, a, h, x, hx => by
    have h1 : ∀ y ∈ t ++ [a], cmpL b y < 0 := rises_head (a := b) (t := t ++ [a]) h
    rcases List.mem_cons.1 hx with rfl | hx
    · exact h1 a (List.mem_append_right _ List.mem_cons_self)
    · exact rises_last (rises_tail (a := b) (t := t ++ [a]) h) x hx
theorem cand_last {t : List (List UInt8)} {a s : List UInt8} (h : risesL (t ++ [a]) = true) (ho : okS s = true) : Cand (t ++ [a]) s ↔ 0 < cmpL s a := by
  rw [cmpL_neg a s]
  constructor
  · rintro ⟨_, h2⟩
    exact h2 a (List.mem_append_right _ List.mem_cons_self)
  · intro h2
    refine ⟨ho, fun x hx => ?_⟩
    rcases List.mem_append.1 hx with hx | hx
    · exact cmpL_lt_trans (rises_last h x hx) h2
    · rw [List.mem_singleton.1 hx]; exact h2
theorem cand_nil {s : List UInt8} : Cand [] s ↔ okS s = true := ⟨fun h => h.1, fun h => ⟨h, fun x hx => by cases hx⟩⟩
/-- what stands of the table up to now -/
structure Ord (l t : List (List UInt8)) : Prop where
  rises : risesL t = true
  of : ∀ x ∈ t, x ∈ l ∧ okS x = true
  all : ∀ s ∈ l, okS s = true → s ∈ t ∨ ∀ x ∈ t, cmpL x s < 0
theorem Ord.nil (l : List (List UInt8)) : Ord l [] := ⟨rfl, fun x hx => (by cases hx), fun s _ _ => Or.inr fun x hx => (by cases hx)⟩
theorem Ord.push {l t : List (List UInt8)} {b : List UInt8} (h : Ord l t) (hb : b ∈ l) (hc : Cand t b) (hm : ∀ s ∈ l, Cand t s → cmpL b s ≤ 0) : Ord l (t ++ [b]) := by
  refine ⟨rises_push h.rises hc.2, fun x hx => ?_, fun s hs ho => ?_⟩
  · rcases List.mem_append.1 hx with hx | hx
    · exact h.of x hx
    · rw [List.mem_singleton.1 hx]; exact ⟨hb, hc.1⟩
  · rcases h.all s hs ho with h1 | h1
    · exact Or.inl (List.mem_append_left _ h1)
    · have h2 := hm s hs ⟨ho, h1⟩
      rcases Int.lt_or_eq_of_le h2 with h3 | h3
      · refine Or.inr fun x hx => ?_
        rcases List.mem_append.1 hx with hx | hx
        · exact h1 x hx
        · rw [List.mem_singleton.1 hx]; exact h3
      · rw [← cmpL_zero h3]
        exact Or.inl (List.mem_append_right _ List.mem_cons_self)
theorem Ord.done {l t : List (List UInt8)} (h : Ord l t) (hn : ∀ s ∈ l, ¬ Cand t s) (h5 : t.length ≤ 255) : IsOrder l t :=
  ⟨h.rises, h5, h.of, fun s hs ho => (h.all s hs ho).imp id fun h1 => absurd ⟨ho, h1⟩ (hn s hs)⟩
theorem Ord.full {l t : List (List UInt8)} (h : Ord l t) (h5 : t.length = 255) : IsOrder l t :=
  ⟨h.rises, by omega, h.of, fun s hs ho => (h.all s hs ho).imp id fun h1 => ⟨h5, h1⟩⟩
/-- the least of the first k, or none -/
def Inn (l t : List (List UInt8)) (k : Nat) (b : List UInt8) : Prop :=
  (b = [] ∧ ∀ j (hj : j < l.length), j < k → ¬ Cand t l[j]) ∨ (Cand t b ∧ b ∈ l ∧ ∀ j (hj : j < l.length), j < k → Cand t l[j] → cmpL b l[j] ≤ 0)
theorem cand_ne {t : List (List UInt8)} {b : List UInt8} (h : Cand t b) : b ≠ [] := fun e => by
  subst e
  have := h.1
  simp [okS] at this
theorem inn_zero (l t : List (List UInt8)) : Inn l t 0 [] := Or.inl ⟨rfl, fun j _ h => absurd h (Nat.not_lt_zero j)⟩
theorem inn_step {l : List (List UInt8)} {k : Nat} {P : Nat → Prop} (h1 : ∀ j, j < l.length → j < k → P j) (h2 : k < l.length → P k) : ∀ j, j < l.length → j < k + 1 → P j := fun j hj hjk => by
  rcases Nat.lt_or_ge j k with h | h
  · exact h1 j hj h
  · have : j = k := by omega
    subst this
    exact h2 hj
theorem inn_skip {l t : List (List UInt8)} {k : Nat} {b : List UInt8} (h : Inn l t k b) (hk : k < l.length) (hc : ¬ Cand t l[k]) : Inn l t (k + 1) b := by
  rcases h with ⟨h1, h2⟩ | ⟨h1, h2, h3⟩
  · refine Or.inl ⟨h1, fun j hj hjk => ?_⟩
    rcases Nat.lt_or_ge j k with h4 | h4
    · exact h2 j hj h4
    · have : j = k := by omega
      subst this
      exact hc
  · refine Or.inr ⟨h1, h2, fun j hj hjk hcj => ?_⟩
    rcases Nat.lt_or_ge j k with h4 | h4
    · exact h3 j hj h4 hcj
    · have : j = k := by omega
      subst this
      exact absurd hcj hc
theorem inn_first {l t : List (List UInt8)} {k : Nat} (h : Inn l t k []) (hk : k < l.length) (hc : Cand t l[k]) : Inn l t (k + 1) l[k] := by
  rcases h with ⟨_, h2⟩ | ⟨h1, _, _⟩
  · refine Or.inr ⟨hc, List.getElem_mem hk, fun j hj hjk hcj => ?_⟩
    rcases Nat.lt_or_ge j k with h4 | h4
    · exact absurd hcj (h2 j hj h4)
    · have : j = k := by omega
      subst this
      rw [cmpL_same]
      exact Int.le_refl _
  · exact absurd rfl (cand_ne h1)
theorem inn_less {l t : List (List UInt8)} {k : Nat} {b : List UInt8} (h : Inn l t k b) (hb : b ≠ []) (hk : k < l.length) (hc : Cand t l[k]) (hl : cmpL l[k] b < 0) : Inn l t (k + 1) l[k] := by
  rcases h with ⟨h1, _⟩ | ⟨h1, h2, h3⟩
  · exact absurd h1 hb
  · refine Or.inr ⟨hc, List.getElem_mem hk, fun j hj hjk hcj => ?_⟩
    rcases Nat.lt_or_ge j k with h4 | h4
    · rcases Int.lt_or_eq_of_le (h3 j hj h4 hcj) with h5 | h5
      · exact Int.le_of_lt (cmpL_lt_trans hl h5)
      · rw [← cmpL_zero h5]
        exact Int.le_of_lt hl
    · have : j = k := by omega
      subst this
      rw [cmpL_same]
      exact Int.le_refl _
theorem inn_keep {l t : List (List UInt8)} {k : Nat} {b : List UInt8} (h : Inn l t k b) (hb : b ≠ []) (hk : k < l.length) (hl : ¬ cmpL l[k] b < 0) : Inn l t (k + 1) b := by
  rcases h with ⟨h1, _⟩ | ⟨h1, h2, h3⟩
  · exact absurd h1 hb
  · refine Or.inr ⟨h1, h2, fun j hj hjk hcj => ?_⟩
    rcases Nat.lt_or_ge j k with h4 | h4
    · exact h3 j hj h4 hcj
    · have : j = k := by omega
      subst this
      have := cmpL_turn b l[j]
      omega
end Go.Proofs.Ytpollebfehdnjaa
