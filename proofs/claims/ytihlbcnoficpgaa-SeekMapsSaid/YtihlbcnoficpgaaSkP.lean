/-
  Two dictionaries walked side by side, in plain: what is put together so far; how far the other one's bound is.
-/
import Derived.Test.YtihlbcnoficpgaaSkK
namespace Go.Proofs.Ytihlbcnoficpgaa
open Go.RowKit

theorem rises_end : ∀ {v : List (List UInt8)} {a : List UInt8}, risesL v = true → (∀ x ∈ v, cmpL x a < 0) → risesL (v ++ [a]) = true
  | [], _, _, _ => rfl
  | x :: v, a, h, k => by
    refine rises_cons' (t := v ++ [a]) (fun b q e => ?_) (rises_end (rises_tail h) fun y hy => k y (List.mem_cons_of_mem _ hy))
    cases v with
    | nil =>
      rw [List.nil_append] at e
      injection e with e _
      rw [← e]
      exact k x List.mem_cons_self
    | cons y v =>
      rw [List.cons_append] at e
      injection e with e _
      rw [← e]
      exact (rises_cons.1 h).1
/-- what is put together so far, of two dictionaries up to two places -/
structure Mrg (t u : List (List UInt8)) (i j : Nat) (v : List (List UInt8)) : Prop where
  rises : risesL v = true
  mem : ∀ x, x ∈ v ↔ x ∈ t.take i ∨ x ∈ u.take j
  len : v.length ≤ i + j
  lt1 : ∀ (hi : i < t.length), ∀ x ∈ v, cmpL x t[i] < 0
  lt2 : ∀ (hj : j < u.length), ∀ x ∈ v, cmpL x u[j] < 0
section
variable {t u v : List (List UInt8)} {i j : Nat}
theorem Mrg.nil (t u : List (List UInt8)) : Mrg t u 0 0 [] := ⟨rfl, by simp, by simp, by simp, by simp⟩
theorem Mrg.turn (h : Mrg t u i j v) : Mrg u t j i v := ⟨h.rises, fun x => by rw [h.mem, Or.comm], by have := h.len; omega, h.lt2, h.lt1⟩
theorem Mrg.left (h : Mrg t u i j v) (ht : risesL t = true) (hi : i < t.length) (h2 : ∀ hj : j < u.length, cmpL t[i] u[j] < 0) : Mrg t u (i + 1) j (v ++ [t[i]]) := by
  refine ⟨rises_end h.rises (h.lt1 hi), fun x => ?_, by have := h.len; rw [List.length_append, List.length_singleton]; omega, fun hi2 x hx => ?_, fun hj x hx => ?_⟩
  · rw [List.mem_append, h.mem, List.take_succ_eq_append_getElem hi, List.mem_append, or_right_comm]
  · have h3 := rises_adj ht hi2
    rcases List.mem_append.1 hx with hx | hx
    · exact cmpL_lt_trans (h.lt1 hi x hx) h3
    · rw [List.mem_singleton.1 hx]
      exact h3
  · rcases List.mem_append.1 hx with hx | hx
    · exact h.lt2 hj x hx
    · rw [List.mem_singleton.1 hx]
      exact h2 hj
theorem Mrg.right (h : Mrg t u i j v) (hu : risesL u = true) (hj : j < u.length) (h2 : ∀ hi : i < t.length, cmpL u[j] t[i] < 0) : Mrg t u i (j + 1) (v ++ [u[j]]) := (h.turn.left hu hj h2).turn
theorem Mrg.both (h : Mrg t u i j v) (ht : risesL t = true) (hu : risesL u = true) (hi : i < t.length) (hj : j < u.length) (e : t[i] = u[j]) : Mrg t u (i + 1) (j + 1) (v ++ [t[i]]) := by
  refine ⟨rises_end h.rises (h.lt1 hi), fun x => ?_, by have := h.len; rw [List.length_append, List.length_singleton]; omega, fun hi2 x hx => ?_, fun hj2 x hx => ?_⟩
  · rw [List.mem_append, h.mem, List.take_succ_eq_append_getElem hi, List.take_succ_eq_append_getElem hj, List.mem_append, List.mem_append, ← e]
    constructor
    · rintro ((h1 | h1) | h1)
      · exact Or.inl (Or.inl h1)
      · exact Or.inr (Or.inl h1)
      · exact Or.inl (Or.inr h1)
    · rintro ((h1 | h1) | (h1 | h1))
      · exact Or.inl (Or.inl h1)
      · exact Or.inr h1
      · exact Or.inl (Or.inr h1)
      · exact Or.inr h1
  · have h3 := rises_adj ht hi2
    rcases List.mem_append.1 hx with hx | hx
    · exact cmpL_lt_trans (h.lt1 hi x hx) h3
    · rw [List.mem_singleton.1 hx]
      exact h3
  · have h3 := rises_adj hu hj2
    rcases List.mem_append.1 hx with hx | hx
    · exact cmpL_lt_trans (h.lt2 hj x hx) h3
    · rw [List.mem_singleton.1 hx, e]
      exact h3
theorem Mrg.done (h : Mrg t u t.length u.length v) : SortOf (t ++ u) v :=
  ⟨h.rises, fun x => by rw [h.mem, List.take_length, List.take_length, List.mem_append]⟩
end
theorem low_mono {u : List (List UInt8)} (h : risesL u = true) {a b : List UInt8} (hab : cmpL a b ≤ 0) : lowN u a ≤ lowN u b := by
  refine Nat.le_of_not_lt fun hlt => ?_
  have h1 := lowN_le u a
  have h2 := (lowN_iff h a (i := lowN u b) (by omega)).2 hlt
  have h3 : cmpL (u[lowN u b]'(by omega)) b < 0 := by
    by_cases e : cmpL a b = 0
    · have e2 := cmpL_zero e
      subst e2
      omega
    · exact cmpL_lt_trans h2 (by omega)
  have := (lowN_iff h b (i := lowN u b) (by omega)).1 h3
  omega
end Go.Proofs.Ytihlbcnoficpgaa
