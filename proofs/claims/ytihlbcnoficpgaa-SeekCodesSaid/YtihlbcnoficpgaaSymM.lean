/-
  Tables of symbols in plain: rows that rise, what is a table in order, its bytes, the table of strings.
-/
import Derived.Test.YtihlbcnoficpgaaCmpM
namespace Go.Proofs.Ytihlbcnoficpgaa
set_option linter.unusedSimpArgs false
set_option linter.unusedVariables false

/-- one to eight bytes -/
def okS (s : List UInt8) : Bool := decide (1 ≤ s.length) && decide (s.length ≤ 8)
theorem okS_iff {s : List UInt8} : okS s = true ↔ 1 ≤ s.length ∧ s.length ≤ 8 := by simp [okS]
/-- does each stand ahead of the next? -/
def risesL : List (List UInt8) → Bool
  | [] => true
  | [_] => true
  | a :: b :: t => decide (cmpL a b < 0) && risesL (b :: t)
theorem rises_cons {a b : List UInt8} {t : List (List UInt8)} : risesL (a :: b :: t) = true ↔ cmpL a b < 0 ∧ risesL (b :: t) = true := by
  rw [risesL, Bool.and_eq_true, decide_eq_true_eq]
theorem rises_tail : ∀ {a : List UInt8} {t : List (List UInt8)}, risesL (a :: t) = true → risesL t = true
  | _, [], _ => rfl
  | _, _ :: _, h => (rises_cons.1 h).2
theorem cmpL_lt_trans : ∀ {a b c : List UInt8}, cmpL a b < 0 → cmpL b c < 0 → cmpL a c < 0
  | [], [], c, h1, _ => by simp [cmpL] at h1
  | [], y :: b, [], _, h2 => by simp [cmpL] at h2
  | [], y :: b, z :: c, _, _ => by simp [cmpL]
  | x :: a, [], c, h1, _ => by simp [cmpL] at h1
  | x :: a, y :: b, [], _, h2 => by simp [cmpL] at h2
  | x :: a, y :: b, z :: c, h1, h2 => by
    unfold cmpL at h1 h2 ⊢
    by_cases p1 : x.toNat < y.toNat
    · by_cases q1 : y.toNat < z.toNat
      · rw [if_pos (by omega)]; decide
      · rw [if_neg q1] at h2
        by_cases q2 : z.toNat < y.toNat
        · rw [if_pos q2] at h2; cases h2
        · rw [if_pos (by omega)]; decide
    · rw [if_neg p1] at h1
      by_cases p2 : y.toNat < x.toNat
      · rw [if_pos p2] at h1; cases h1
      · rw [if_neg p2] at h1
        by_cases q1 : y.toNat < z.toNat
        · rw [if_pos (by omega)]; decide
        · rw [if_neg q1] at h2
          by_cases q2 : z.toNat < y.toNat
          · rw [if_pos q2] at h2; cases h2
          · rw [if_neg q2] at h2
            rw [if_neg (by omega), if_neg (by omega)]
            exact cmpL_lt_trans h1 h2
theorem rises_head : ∀ {a : List UInt8} {t : List (List UInt8)}, risesL (a :: t) = true → ∀ x ∈ t, cmpL a x < 0
  | a, [], _, x, hx => by cases hx
  | a, b :: t, h, x, hx => by
    obtain ⟨h1, h2⟩ := rises_cons.1 h
    rcases List.mem_cons.1 hx with rfl | hx
    · exact h1
    · exact cmpL_lt_trans h1 (rises_head h2 x hx)
theorem cmpL_irrefl {a : List UInt8} : ¬ cmpL a a < 0 := by rw [cmpL_same]; omega
/-- rows that rise: what is all in another is a part of it -/
theorem rises_sub : ∀ {u t : List (List UInt8)}, risesL t = true → risesL u = true → (∀ x ∈ t, x ∈ u) → t.Sublist u
  | [], [], _, _, _ => List.Sublist.slnil
  | [], a :: t, _, _, h => by cases h a List.mem_cons_self
  | b :: u, [], _, _, _ => List.nil_sublist _
  | b :: u, a :: t, ht, hu, h => by
    have h1 := rises_head ht
    have h2 := rises_head hu
    rcases List.mem_cons.1 (h a List.mem_cons_self) with rfl | ha
    · refine List.Sublist.cons_cons _ (rises_sub (rises_tail ht) (rises_tail hu) fun x hx => ?_)
      rcases List.mem_cons.1 (h x (List.mem_cons_of_mem _ hx)) with rfl | h3
      · exact absurd (h1 _ hx) cmpL_irrefl
      · exact h3
    · refine List.Sublist.cons _ (rises_sub ht (rises_tail hu) fun x hx => ?_)
      rcases List.mem_cons.1 (h x hx) with rfl | h3
      · rcases List.mem_cons.1 hx with rfl | h4
        · exact ha
        · exact absurd (cmpL_lt_trans (h2 _ ha) (h1 _ h4)) cmpL_irrefl
      · exact h3
/-- a table in order -/
def rightT (t : List (List UInt8)) : Bool := decide (t.length ≤ 255) && t.all okS && risesL t
theorem rightT_iff {t : List (List UInt8)} : rightT t = true ↔ t.length ≤ 255 ∧ (∀ s ∈ t, okS s = true) ∧ risesL t = true := by
  unfold rightT
  rw [Bool.and_eq_true, Bool.and_eq_true, decide_eq_true_eq, List.all_eq_true, and_assoc]
/-- a table's bytes -/
def putT (t : List (List UInt8)) : List UInt8 := UInt8.ofNat t.length :: t.flatMap fun s => UInt8.ofNat s.length :: s
/-- the table of strings -/
structure IsOrder (l t : List (List UInt8)) : Prop where
  rises : risesL t = true
  few : t.length ≤ 255
  of : ∀ x ∈ t, x ∈ l ∧ okS x = true
  all : ∀ s ∈ l, okS s = true → s ∈ t ∨ (t.length = 255 ∧ ∀ x ∈ t, cmpL x s < 0)
theorem IsOrder.right {l t : List (List UInt8)} (h : IsOrder l t) : rightT t = true := rightT_iff.2 ⟨h.few, fun s hs => (h.of s hs).2, h.rises⟩
theorem IsOrder.sub {l t u : List (List UInt8)} (h : IsOrder l t) (k : IsOrder l u) : ∀ x ∈ u, x ∈ t := by
  intro x hx
  obtain ⟨hxl, hxo⟩ := k.of x hx
  rcases h.all x hxl hxo with h1 | ⟨h1, h2⟩
  · exact h1
  · exfalso
    have hn : x ∉ t := fun h3 => cmpL_irrefl (h2 x h3)
    have htu : ∀ y ∈ t, y ∈ u := fun y hy => by
      obtain ⟨hyl, hyo⟩ := h.of y hy
      rcases k.all y hyl hyo with h3 | ⟨_, h3⟩
      · exact h3
      · exact absurd (cmpL_lt_trans (h3 x hx) (h2 y hy)) cmpL_irrefl
    have hs := rises_sub h.rises k.rises htu
    have he := hs.eq_of_length_le (by rw [h1]; exact k.few)
    exact hn (he ▸ hx)
/-- there is just one -/
theorem IsOrder.one {l t u : List (List UInt8)} (h : IsOrder l t) (k : IsOrder l u) : t = u :=
  (rises_sub h.rises k.rises (k.sub h)).eq_of_length_le (rises_sub k.rises h.rises (h.sub k)).length_le
/-- a table's table is itself -/
theorem IsOrder.self {t : List (List UInt8)} (h : rightT t = true) : IsOrder t t := by
  obtain ⟨h1, h2, h3⟩ := rightT_iff.1 h
  exact ⟨h3, h1, fun x hx => ⟨hx, h2 x hx⟩, fun s hs _ => Or.inl hs⟩
end Go.Proofs.Ytihlbcnoficpgaa
