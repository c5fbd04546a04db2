/-
  Strings sorted, cut to one each, the first 255: the table of them.
-/
import Derived.Test.YtpollebfehdnjaaSymM
import Derived.Test.YtpollebfehdnjaaSymO
import Derived.Lib.SlicesCompact
namespace Go.Proofs.Ytpollebfehdnjaa
set_option linter.unusedSimpArgs false
set_option linter.unusedVariables false
open Go.RowKit

theorem lt_cmp : ∀ (a b : List UInt8), a < b ↔ cmpL a b < 0
  | [], [] => by simp [cmpL]
  | [], _ :: _ => by simp [cmpL]
  | _ :: _, [] => by simp [cmpL]
  | x :: a, y :: b => by
    have ih := lt_cmp a b
    rw [List.cons_lt_cons_iff, cmpL]
    by_cases h1 : x.toNat < y.toNat
    · rw [if_pos h1]
      exact ⟨fun _ => by decide, fun _ => .inl h1⟩
    · rw [if_neg h1]
      by_cases h2 : y.toNat < x.toNat
      · rw [if_pos h2]
        refine ⟨fun h => ?_, fun h => absurd h (by decide)⟩
        rcases h with h | ⟨h, _⟩
        · exact absurd h h1
        · subst h; omega
      · rw [if_neg h2]
        refine ⟨fun h => ?_, fun h => .inr ⟨UInt8.toNat_inj.1 (by omega), ih.2 h⟩⟩
        rcases h with h | ⟨_, h⟩
        · exact absurd h h1
        · exact ih.1 h
theorem le_cmp (a b : List UInt8) : a ≤ b ↔ cmpL a b ≤ 0 := by
  show (¬ b < a) ↔ _
  rw [lt_cmp, cmpL_turn a b]
  omega
theorem cmpL_le_trans {a b c : List UInt8} (h1 : cmpL a b ≤ 0) (h2 : cmpL b c ≤ 0) : cmpL a c ≤ 0 := by
  by_cases e1 : cmpL a b = 0
  · rw [cmpL_zero e1]; exact h2
  · by_cases e2 : cmpL b c = 0
    · rw [← cmpL_zero e2]; exact h1
    · have := cmpL_lt_trans (a := a) (b := b) (c := c) (by omega) (by omega)
      omega

theorem compact_inv (d : Array (List UInt8)) (hs : ∀ i j, i < j → j < d.size → cmpL d[i]! d[j]! ≤ 0) : ∀ m, m ≤ d.size →
    risesL (Lib.compactUpTo d m) = true ∧ (∀ x ∈ Lib.compactUpTo d m, ∃ j, j < m ∧ x = d[j]!) ∧ ∀ j, j < m → d[j]! ∈ Lib.compactUpTo d m
  | 0, _ => ⟨rfl, fun x hx => (by cases hx), fun j hj => absurd hj (Nat.not_lt_zero j)⟩
  | m + 1, hm => by
    obtain ⟨h1, h2, h3⟩ := compact_inv d hs m (by omega)
    rw [Lib.compactUpTo_succ]
    by_cases hk : Lib.keeps d m = true
    · rw [if_pos hk]
      have hk2 : m = 0 ∨ d[m]! ≠ d[m - 1]! := by simpa [Lib.keeps] using hk
      refine ⟨rises_push h1 fun x hx => ?_, fun x hx => ?_, fun j hj => ?_⟩
      · obtain ⟨j, hj, rfl⟩ := h2 x hx
        have hne : d[m]! ≠ d[m - 1]! := by
          rcases hk2 with h | h
          · omega
          · exact h
        have ha : cmpL d[j]! d[m - 1]! ≤ 0 := by
          by_cases e : j = m - 1
          · rw [e, cmpL_same]; omega
          · exact hs j (m - 1) (by omega) (by omega)
        have hb : cmpL d[m - 1]! d[m]! < 0 := by
          have h4 := hs (m - 1) m (by omega) (by omega)
          have h5 : cmpL d[m - 1]! d[m]! ≠ 0 := fun e => hne (cmpL_zero e).symm
          omega
        by_cases e : cmpL d[j]! d[m - 1]! = 0
        · rw [cmpL_zero e]; exact hb
        · exact cmpL_lt_trans (by omega) hb
      · rcases List.mem_append.1 hx with hx | hx
        · obtain ⟨j, hj, rfl⟩ := h2 x hx
          exact ⟨j, by omega, rfl⟩
        · exact ⟨m, by omega, List.mem_singleton.1 hx⟩
      · by_cases e : j = m
        · subst e; exact List.mem_append_right _ (List.mem_singleton.2 rfl)
        · exact List.mem_append_left _ (h3 j (by omega))
    · rw [if_neg hk, List.append_nil]
      have hk2 : ¬ (m = 0 ∨ d[m]! ≠ d[m - 1]!) := by simpa [Lib.keeps] using hk
      have hm0 : m ≠ 0 := fun e => hk2 (.inl e)
      have hme : d[m]! = d[m - 1]! := Decidable.not_not.1 fun e => hk2 (.inr e)
      refine ⟨h1, fun x hx => ?_, fun j hj => ?_⟩
      · obtain ⟨j, hj, rfl⟩ := h2 x hx
        exact ⟨j, by omega, rfl⟩
      · by_cases e : j = m
        · subst e; rw [hme]; exact h3 _ (by omega)
        · exact h3 j (by omega)

/-- the strings that can be symbols, sorted -/
def sortL (l : List (List UInt8)) : List (List UInt8) := (l.filter okS).mergeSort fun x y => decide (x ≤ y)
theorem mem_sortL {l : List (List UInt8)} {s : List UInt8} : s ∈ sortL l ↔ s ∈ l ∧ okS s = true := by
  rw [sortL, List.mem_mergeSort, List.mem_filter]
theorem sortL_len (l : List (List UInt8)) : (sortL l).length ≤ l.length := by
  rw [sortL, List.length_mergeSort]; exact List.length_filter_le _ _
theorem sortL_rises (l : List (List UInt8)) : ∀ i j, i < j → j < (sortL l).toArray.size → cmpL (sortL l).toArray[i]! (sortL l).toArray[j]! ≤ 0 := by
  have h := List.pairwise_mergeSort (le := fun x y : List UInt8 => decide (x ≤ y)) (fun a b c h1 h2 => by
    rw [decide_eq_true_eq, le_cmp] at *
    exact cmpL_le_trans h1 h2) (fun a b => by
    rw [Bool.or_eq_true, decide_eq_true_eq, decide_eq_true_eq, le_cmp, le_cmp, cmpL_turn a b]
    omega) (l.filter okS)
  intro i j hij hj
  rw [List.pairwise_iff_getElem] at h
  have hj' : j < (sortL l).length := by simpa using hj
  have := h i j (by show i < (sortL l).length; omega) hj' hij
  rw [decide_eq_true_eq, le_cmp] at this
  rw [getElem!_pos _ i (by simpa using Nat.lt_trans hij hj'), getElem!_pos _ j hj]
  exact this
/-- the table of strings -/
def ordL (l : List (List UInt8)) : List (List UInt8) := (Lib.compact (sortL l)).take 255
theorem rises_take : ∀ {t : List (List UInt8)} (k : Nat), risesL t = true → risesL (t.take k) = true
  | [], k, _ => by simp [risesL]
  | a :: t, 0, _ => rfl
  | [a], k + 1, _ => by simp [risesL]
  | a :: b :: t, 1, _ => rfl
  | a :: b :: t, k + 2, h => by
    rw [List.take_succ_cons, List.take_succ_cons]
    have h2 := rises_take (k + 1) (rises_cons.1 h).2
    rw [List.take_succ_cons] at h2
    exact rises_cons.2 ⟨(rises_cons.1 h).1, h2⟩
theorem rises_parts : ∀ {p q : List (List UInt8)}, risesL (p ++ q) = true → ∀ x ∈ p, ∀ y ∈ q, cmpL x y < 0
  | [], _, _, x, hx, _, _ => by cases hx
  | a :: p, q, h, x, hx, y, hy => by
    rcases List.mem_cons.1 hx with rfl | hx
    · exact rises_head (t := p ++ q) h y (List.mem_append_right _ hy)
    · exact rises_parts (rises_tail (a := a) (t := p ++ q) h) x hx y hy
theorem ordL_is (l : List (List UInt8)) : IsOrder l (ordL l) := by
  obtain ⟨h1, h2, h3⟩ := compact_inv (sortL l).toArray (sortL_rises l) (sortL l).length (by simp)
  have hm : ∀ s, s ∈ Lib.compact (sortL l) ↔ s ∈ l ∧ okS s = true := fun s => by
    rw [← mem_sortL]
    constructor
    · intro h
      obtain ⟨j, hj, rfl⟩ := h2 s h
      rw [getElem!_pos _ j (by simpa using hj)]
      simp
    · intro h
      obtain ⟨j, hj, rfl⟩ := List.getElem_of_mem h
      have := h3 j hj
      rw [getElem!_pos _ j (by simpa using hj), List.getElem_toArray] at this
      exact this
  refine ⟨rises_take 255 h1, List.length_take_le _ _, fun x hx => (hm x).1 (List.mem_of_mem_take hx), fun s hs ho => ?_⟩
  have hin := (hm s).2 ⟨hs, ho⟩
  rw [← List.take_append_drop 255 (Lib.compact (sortL l))] at hin
  rcases List.mem_append.1 hin with h | h
  · exact .inl h
  · refine .inr ⟨?_, fun x hx => ?_⟩
    · have := List.length_pos_of_mem h
      rw [List.length_drop] at this
      show ((Lib.compact (sortL l)).take 255).length = 255
      rw [List.length_take]
      omega
    · refine rises_parts (p := (Lib.compact (sortL l)).take 255) (q := (Lib.compact (sortL l)).drop 255) ?_ x hx s h
      rw [List.take_append_drop]
      exact h1
end Go.Proofs.Ytpollebfehdnjaa
