/-
  A round of training in plain: what is counted, and which are the best.
-/
import Derived.Test.YtpollebfehdnjaaTrM
import Derived.Test.YtpollebfehdnjaaFsM
namespace Go.Proofs.Ytpollebfehdnjaa
set_option linter.unusedSimpArgs false
set_option linter.unusedVariables false

/-- how long the next piece is -/
def stepP (T : List (List UInt8)) (l : List UInt8) : Nat := if (longP T l).2 = 0 then 1 else (longP T l).2
theorem stepP_pos (T : List (List UInt8)) (l : List UInt8) : 0 < stepP T l := by
  unfold stepP
  split <;> omega
theorem stepP_le {T : List (List UInt8)} {l : List UInt8} (h : l ≠ []) : stepP T l ≤ l.length := by
  have hl : 0 < l.length := List.length_pos_iff.2 h
  unfold stepP
  rcases longP_spec T l with h1 | ⟨j, s, _, h2, h3, h4⟩
  · rw [h1, if_pos rfl]; exact hl
  · have := h4.length_le
    rw [h2, if_neg (by show ¬ s.length = 0; omega)]
    exact this
theorem stepP_ok {T : List (List UInt8)} (hT : ∀ s ∈ T, okS s = true) (l : List UInt8) : stepP T l ≤ 8 := by
  unfold stepP
  rcases longP_spec T l with h1 | ⟨j, s, hj, h2, h3, h4⟩
  · rw [h1, if_pos rfl]; decide
  · rw [h2, if_neg (by show ¬ s.length = 0; omega)]
    exact (okS_iff.1 (hT s (List.mem_of_getElem? hj))).2
/-- what is counted of one string, behind a last piece -/
def piecesF (T : List (List UInt8)) : Nat → List UInt8 → List UInt8 → List (List UInt8)
  | 0, _, _ => []
  | _ + 1, _, [] => []
  | f + 1, last, x :: l => (x :: l).take (stepP T (x :: l)) :: ((if last ≠ [] ∧ last.length + stepP T (x :: l) ≤ 8 then [last ++ (x :: l).take (stepP T (x :: l))] else []) ++
      piecesF T f ((x :: l).take (stepP T (x :: l))) ((x :: l).drop (stepP T (x :: l))))
theorem pieces_fuel (T : List (List UInt8)) : ∀ (f g : Nat) (last l : List UInt8), l.length ≤ f → l.length ≤ g → piecesF T f last l = piecesF T g last l
  | 0, 0, _, _, _, _ => rfl
  | 0, g + 1, _, [], _, _ => rfl
  | f + 1, 0, _, [], _, _ => rfl
  | f + 1, g + 1, _, [], _, _ => rfl
  | f + 1, g + 1, last, x :: l, hf, hg => by
    rw [List.length_cons] at hf hg
    have h0 := stepP_pos T (x :: l)
    unfold piecesF
    rw [pieces_fuel T f g _ ((x :: l).drop (stepP T (x :: l))) (by simp; omega) (by simp; omega)]
def piecesL (T : List (List UInt8)) (last l : List UInt8) : List (List UInt8) := piecesF T l.length last l
theorem pieces_nil (T : List (List UInt8)) (last : List UInt8) : piecesL T last [] = [] := rfl
theorem pieces_cons (T : List (List UInt8)) (last : List UInt8) {l : List UInt8} (h : l ≠ []) : piecesL T last l = l.take (stepP T l) :: ((if last ≠ [] ∧ last.length + stepP T l ≤ 8 then [last ++ l.take (stepP T l)] else []) ++
    piecesL T (l.take (stepP T l)) (l.drop (stepP T l))) := by
  rcases l with _ | ⟨x, l⟩
  · exact absurd rfl h
  · have h0 := stepP_pos T (x :: l)
    show piecesF T (l.length + 1) last (x :: l) = _
    unfold piecesF
    rw [pieces_fuel T l.length ((x :: l).drop (stepP T (x :: l))).length _ _ (by simp; omega) (Nat.le_refl _)]
    rfl
theorem pieces_len (T : List (List UInt8)) (l : List UInt8) : ∀ last, (piecesL T last l).length ≤ 2 * l.length := by
  generalize hn : l.length = n
  induction n using Nat.strongRecOn generalizing l with
  | _ n ih =>
    intro last
    by_cases h : l = []
    · subst h
      simp [pieces_nil]
    · have h0 := stepP_pos T l
      have h1 := stepP_le (T := T) h
      rw [pieces_cons T last h, List.length_cons, List.length_append]
      have := ih (l.drop (stepP T l)).length (by simp; omega) (l.drop (stepP T l)) rfl (l.take (stepP T l))
      rw [List.length_drop] at this
      split
      · simp only [List.length_singleton]; omega
      · simp only [List.length_nil]; omega
/-- what is counted of a sample -/
def bagL (T : List (List UInt8)) (sample : List (List UInt8)) : List (List UInt8) := sample.flatMap (piecesL T [])

/-- the gain of a counted string, and which of two is the better -/
def gainL (P : List (List UInt8)) (x : List UInt8) : Nat := P.count x * x.length
def beats (P : List (List UInt8)) (x y : List UInt8) : Prop := gainL P y < gainL P x ∨ (gainL P x = gainL P y ∧ cmpL x y < 0)
theorem beats_asym {P : List (List UInt8)} {x y : List UInt8} (h : beats P x y) (k : beats P y x) : False := by
  rcases h with h | ⟨h, h2⟩
  · rcases k with k | ⟨k, _⟩ <;> omega
  · rcases k with k | ⟨_, k2⟩
    · omega
    · exact cmpL_irrefl (cmpL_lt_trans h2 k2)
theorem beats_trans {P : List (List UInt8)} {x y z : List UInt8} (h : beats P x y) (k : beats P y z) : beats P x z := by
  rcases h with h | ⟨h, h2⟩
  · rcases k with k | ⟨k, _⟩
    · exact Or.inl (by omega)
    · exact Or.inl (by omega)
  · rcases k with k | ⟨k, k2⟩
    · exact Or.inl (by omega)
    · exact Or.inr ⟨by omega, cmpL_lt_trans h2 k2⟩
/-- the best 255, in whatever order -/
structure TopOf (P best : List (List UInt8)) : Prop where
  once : best.Nodup
  few : best.length ≤ 255
  of : ∀ x ∈ best, x ∈ P
  top : ∀ y ∈ P, y ∉ best → best.length = 255 ∧ ∀ x ∈ best, beats P x y
theorem TopOf.sub {P b c : List (List UInt8)} (h : TopOf P b) (k : TopOf P c) : ∀ x ∈ b, x ∈ c := by
  intro x hx
  by_cases hc : x ∈ c
  · exact hc
  · exfalso
    obtain ⟨h1, h2⟩ := k.top x (h.of x hx) hc
    by_cases hs : ∃ y ∈ c, y ∉ b
    · obtain ⟨y, hy, hyb⟩ := hs
      exact beats_asym ((h.top y (k.of y hy) hyb).2 x hx) (h2 y hy)
    · have hsub : ∀ y ∈ x :: c, y ∈ b := fun y hy => by
        rcases List.mem_cons.1 hy with rfl | hy
        · exact hx
        · exact Classical.byContradiction fun hn => hs ⟨y, hy, hn⟩
      have hnd : (x :: c).Nodup := List.nodup_cons.2 ⟨hc, k.once⟩
      have := hnd.length_le_of_subset hsub
      have := h.few
      rw [List.length_cons] at *
      omega
/-- the new table of a bag -/
def IsRound (P t : List (List UInt8)) : Prop := ∃ best, TopOf P best ∧ IsOrder best t
theorem IsOrder.same {l m t : List (List UInt8)} (h : IsOrder l t) (hs : ∀ x, x ∈ l ↔ x ∈ m) : IsOrder m t :=
  ⟨h.rises, h.few, fun x hx => ⟨(hs x).1 (h.of x hx).1, (h.of x hx).2⟩, fun s hs2 ho => h.all s ((hs s).2 hs2) ho⟩
theorem IsRound.one {P t u : List (List UInt8)} (h : IsRound P t) (k : IsRound P u) : t = u := by
  obtain ⟨b, h1, h2⟩ := h
  obtain ⟨c, k1, k2⟩ := k
  exact (h2.same fun x => ⟨h1.sub k1 x, k1.sub h1 x⟩).one k2
/-- bags in which each stands m times as often have the same new table -/
theorem TopOf.times {P Q b : List (List UInt8)} (h : TopOf P b) {m : Nat} (hm : 0 < m) (hc : ∀ x, Q.count x = m * P.count x) : TopOf Q b := by
  have hmem : ∀ x, x ∈ Q ↔ x ∈ P := fun x => by
    rw [← List.count_pos_iff, ← List.count_pos_iff, hc]
    exact ⟨fun h => Nat.pos_of_mul_pos_left h, fun h => Nat.mul_pos hm h⟩
  have hg : ∀ x, gainL Q x = m * gainL P x := fun x => by rw [gainL, gainL, hc, Nat.mul_assoc]
  have hb : ∀ x y, beats P x y → beats Q x y := fun x y h => by
    unfold beats
    rw [hg, hg]
    rcases h with h | ⟨h, h2⟩
    · exact Or.inl (Nat.mul_lt_mul_of_pos_left h hm)
    · exact Or.inr ⟨by rw [h], h2⟩
  exact ⟨h.once, h.few, fun x hx => (hmem x).2 (h.of x hx), fun y hy hn => ⟨(h.top y ((hmem y).1 hy) hn).1, fun x hx => hb x y ((h.top y ((hmem y).1 hy) hn).2 x hx)⟩⟩
theorem IsRound.times {P Q t : List (List UInt8)} (h : IsRound P t) {m : Nat} (hm : 0 < m) (hc : ∀ x, Q.count x = m * P.count x) : IsRound Q t := by
  obtain ⟨b, h1, h2⟩ := h
  exact ⟨b, h1.times hm hc, h2⟩
theorem bag_turn (T a b : List (List UInt8)) (x : List UInt8) : (bagL T (b ++ a)).count x = (bagL T (a ++ b)).count x := by
  unfold bagL
  rw [List.flatMap_append, List.flatMap_append, List.count_append, List.count_append, Nat.add_comm]
theorem bag_twice (T a : List (List UInt8)) (x : List UInt8) : (bagL T (a ++ a)).count x = 2 * (bagL T a).count x := by
  unfold bagL
  rw [List.flatMap_append, List.count_append, Nat.two_mul]
end Go.Proofs.Ytpollebfehdnjaa
