/-
  Bounds of rising strings, in plain: how many are less, how many are less or alike, which begin so. No program is named here.
-/
import Derived.Test.YtihlbcnoficpgaaRisM
namespace Go.Proofs.Ytihlbcnoficpgaa
set_option linter.unusedSimpArgs false
set_option linter.unusedVariables false

/-- what holds of all ahead wherever it holds: it holds of the first ones, as many as there are -/
theorem count_first {α : Type} {p : α → Bool} : ∀ {t : List α}, (∀ i j (hi : i < t.length) (hj : j < t.length), i ≤ j → p t[j] = true → p t[i] = true) → ∀ i (hi : i < t.length), (p t[i] = true ↔ i < t.countP p)
  | [], _, i, hi => by simp at hi
  | a :: t, h, i, hi => by
    have ht : ∀ i j (hi : i < t.length) (hj : j < t.length), i ≤ j → p t[j] = true → p t[i] = true := fun i j hi hj hij hp => by
      have := h (i + 1) (j + 1) (by simpa using hi) (by simpa using hj) (by omega) (by simpa using hp)
      simpa using this
    cases ha : p a with
    | true =>
      rw [List.countP_cons_of_pos (by exact ha)]
      cases i with
      | zero => simp [ha]
      | succ i =>
        have := count_first ht i (by simpa using hi)
        simp only [List.getElem_cons_succ]
        rw [this]
        omega
    | false =>
      have hno : ∀ j (hj : j < t.length), p t[j] = false := fun j hj => by
        cases hp : p t[j] with
        | false => rfl
        | true =>
          have := h 0 (j + 1) (by simp) (by simpa using hj) (by omega) (by simpa using hp)
          rw [List.getElem_cons_zero, ha] at this
          cases this
      have h0 : t.countP p = 0 := by
        rw [List.countP_eq_zero]
        intro x hx
        obtain ⟨j, hj, rfl⟩ := List.getElem_of_mem hx
        rw [hno j hj]
        simp
      rw [List.countP_cons_of_neg (by rw [ha]; simp), h0]
      cases i with
      | zero => simp [ha]
      | succ i => simp [hno i (by simpa using hi)]
theorem cmpL_le_trans {a b c : List UInt8} (h1 : cmpL a b ≤ 0) (h2 : cmpL b c ≤ 0) : cmpL a c ≤ 0 := by
  by_cases e1 : cmpL a b = 0
  · rw [cmpL_zero e1]; exact h2
  · by_cases e2 : cmpL b c = 0
    · rw [← cmpL_zero e2]; exact h1
    · have := cmpL_lt_trans (a := a) (b := b) (c := c) (by omega) (by omega)
      omega
theorem rises_le {t : List (List UInt8)} (h : risesL t = true) {i j : Nat} (hij : i ≤ j) (hj : j < t.length) : cmpL (t[i]'(by omega)) t[j] ≤ 0 := by
  rcases Nat.lt_or_ge i j with h1 | h1
  · have := rises_at h h1 hj
    omega
  · have : i = j := by omega
    subst this
    rw [cmpL_same]
    omega
/-- how many are less -/
def lowN (t : List (List UInt8)) (s : List UInt8) : Nat := t.countP fun x => decide (cmpL x s < 0)
/-- how many are less, or it -/
def upN (t : List (List UInt8)) (s : List UInt8) : Nat := t.countP fun x => decide (cmpL x s ≤ 0)
theorem lowN_le (t : List (List UInt8)) (s : List UInt8) : lowN t s ≤ t.length := List.countP_le_length
theorem upN_le (t : List (List UInt8)) (s : List UInt8) : upN t s ≤ t.length := List.countP_le_length
theorem lowN_iff {t : List (List UInt8)} (h : risesL t = true) (s : List UInt8) {i : Nat} (hi : i < t.length) : cmpL t[i] s < 0 ↔ i < lowN t s := by
  have := count_first (p := fun x => decide (cmpL x s < 0)) (t := t) (fun i j hi hj hij hp => by
    rw [decide_eq_true_eq] at hp ⊢
    have h1 := rises_le h hij hj
    by_cases e : cmpL t[i] t[j] = 0
    · rw [cmpL_zero e]; exact hp
    · exact cmpL_lt_trans (by omega) hp) i hi
  rw [decide_eq_true_eq] at this
  exact this
theorem upN_iff {t : List (List UInt8)} (h : risesL t = true) (s : List UInt8) {i : Nat} (hi : i < t.length) : cmpL t[i] s ≤ 0 ↔ i < upN t s := by
  have := count_first (p := fun x => decide (cmpL x s ≤ 0)) (t := t) (fun i j hi hj hij hp => by
    rw [decide_eq_true_eq] at hp ⊢
    exact cmpL_le_trans (rises_le h hij hj) hp) i hi
  rw [decide_eq_true_eq] at this
  exact this
/-- a bound is told by what lies on its two sides -/
theorem lowN_is {t : List (List UInt8)} (h : risesL t = true) {s : List UInt8} {n : Nat} (hn : n ≤ t.length) (h1 : ∀ i (hi : i < t.length), i < n → cmpL t[i] s < 0) (h2 : ∀ i (hi : i < t.length), n ≤ i → ¬ cmpL t[i] s < 0) : lowN t s = n := by
  have h3 := lowN_le t s
  rcases Nat.lt_trichotomy (lowN t s) n with h4 | h4 | h4
  · have := (lowN_iff h s (i := lowN t s) (by omega)).1 (h1 _ (by omega) h4)
    omega
  · exact h4
  · exact absurd ((lowN_iff h s (i := n) (by omega)).2 h4) (h2 n (by omega) (Nat.le_refl _))
theorem upN_is {t : List (List UInt8)} (h : risesL t = true) {s : List UInt8} {n : Nat} (hn : n ≤ t.length) (h1 : ∀ i (hi : i < t.length), i < n → cmpL t[i] s ≤ 0) (h2 : ∀ i (hi : i < t.length), n ≤ i → ¬ cmpL t[i] s ≤ 0) : upN t s = n := by
  have h3 := upN_le t s
  rcases Nat.lt_trichotomy (upN t s) n with h4 | h4 | h4
  · have := (upN_iff h s (i := upN t s) (by omega)).1 (h1 _ (by omega) h4)
    omega
  · exact h4
  · exact absurd ((upN_iff h s (i := n) (by omega)).2 h4) (h2 n (by omega) (Nat.le_refl _))
theorem low_up {t : List (List UInt8)} (h : risesL t = true) (s : List UInt8) : lowN t s ≤ upN t s ∧ upN t s ≤ lowN t s + 1 := by
  have h1 := lowN_le t s
  have h2 := upN_le t s
  constructor
  · rcases Nat.lt_or_ge (upN t s) (lowN t s) with h3 | h3
    · have h4 := (lowN_iff h s (i := upN t s) (by omega)).2 h3
      have h5 := (upN_iff h s (i := upN t s) (by omega)).1 (by omega)
      omega
    · exact h3
  · rcases Nat.lt_or_ge (lowN t s + 1) (upN t s) with h3 | h3
    · have h4 := (upN_iff h s (i := lowN t s + 1) (by omega)).2 h3
      have h5 := rises_at h (i := lowN t s) (j := lowN t s + 1) (by omega) (by omega)
      have h6 := (lowN_iff h s (i := lowN t s) (by omega)).1 (by
        by_cases e : cmpL t[lowN t s + 1] s = 0
        · rw [cmpL_zero e] at h5; exact h5
        · exact cmpL_lt_trans h5 (by omega))
      omega
    · exact h3
/-- a string is there just where its bounds are unlike -/
theorem there_iff {t : List (List UInt8)} (h : risesL t = true) (s : List UInt8) {i : Nat} (hi : i < t.length) : t[i] = s ↔ i = lowN t s ∧ lowN t s < upN t s := by
  have h1 := lowN_iff h s hi
  have h2 := upN_iff h s hi
  obtain ⟨h3, h4⟩ := low_up h s
  constructor
  · intro e
    rw [e, cmpL_same] at h1 h2
    omega
  · rintro ⟨rfl, h5⟩
    exact cmpL_zero (by omega)
theorem mem_iff {t : List (List UInt8)} (h : risesL t = true) (s : List UInt8) : s ∈ t ↔ lowN t s < upN t s := by
  constructor
  · intro hs
    obtain ⟨i, hi, e⟩ := List.getElem_of_mem hs
    exact ((there_iff h s hi).1 e).2
  · intro h1
    have h2 := upN_le t s
    have := (there_iff h s (i := lowN t s) (by omega)).2 ⟨rfl, h1⟩
    rw [← this]
    exact List.getElem_mem _
/-- does it begin so? -/
def begL : List UInt8 → List UInt8 → Bool
  | [], _ => true
  | _ :: _, [] => false
  | x :: p, y :: s => decide (x = y) && begL p s
theorem begL_iff : ∀ {p s : List UInt8}, begL p s = true ↔ p = s.take p.length
  | [], s => by simp [begL]
  | x :: p, [] => by simp [begL]
  | x :: p, y :: s => by
    rw [begL, Bool.and_eq_true, decide_eq_true_eq, begL_iff, List.length_cons, List.take_succ_cons, List.cons.injEq]
theorem beg_nil (s : List UInt8) : begL [] s = true := by cases s <;> rfl
theorem beg_low : ∀ {p s : List UInt8}, begL p s = true → ¬ cmpL s p < 0
  | [], [], _ => by simp [cmpL]
  | [], _ :: _, _ => by simp [cmpL]
  | _ :: _, [], h => by simp [begL] at h
  | x :: p, y :: s, h => by
    rw [begL, Bool.and_eq_true, decide_eq_true_eq] at h
    obtain ⟨rfl, h⟩ := h
    unfold cmpL
    rw [if_neg (by omega), if_neg (by omega)]
    exact beg_low h
/-- what lies between a beginning and what begins so begins so -/
theorem beg_between : ∀ {p x y : List UInt8}, cmpL p x ≤ 0 → cmpL x y ≤ 0 → begL p y = true → begL p x = true
  | [], x, y, _, _, _ => beg_nil x
  | a :: p, [], y, h, _, _ => by simp [cmpL] at h
  | a :: p, b :: x, [], _, h, _ => by simp [cmpL] at h
  | a :: p, b :: x, c :: y, h1, h2, h3 => by
    rw [begL, Bool.and_eq_true, decide_eq_true_eq] at h3 ⊢
    obtain ⟨rfl, h3⟩ := h3
    unfold cmpL at h1 h2
    by_cases e1 : a.toNat < b.toNat
    · rw [if_neg (by omega), if_pos e1] at h2
      omega
    · rw [if_neg e1] at h1
      by_cases e2 : b.toNat < a.toNat
      · rw [if_pos e2] at h1
        omega
      · rw [if_neg e2] at h1
        rw [if_neg (by omega), if_neg (by omega)] at h2
        exact ⟨UInt8.toNat_inj.1 (by omega), beg_between h1 h2 h3⟩
/-- how many stand ahead of the end of those that begin so -/
def preN (t : List (List UInt8)) (p : List UInt8) : Nat := t.countP fun x => decide (cmpL x p < 0) || begL p x
theorem preN_le (t : List (List UInt8)) (p : List UInt8) : preN t p ≤ t.length := List.countP_le_length
theorem preN_iff {t : List (List UInt8)} (h : risesL t = true) (p : List UInt8) {i : Nat} (hi : i < t.length) : (cmpL t[i] p < 0 ∨ begL p t[i] = true) ↔ i < preN t p := by
  have := count_first (p := fun x => decide (cmpL x p < 0) || begL p x) (t := t) (fun i j hi hj hij hp => by
    rw [Bool.or_eq_true, decide_eq_true_eq] at hp ⊢
    have h1 := rises_le h hij hj
    by_cases e : cmpL t[i] p < 0
    · exact Or.inl e
    · refine Or.inr ?_
      have h2 : cmpL p t[i] ≤ 0 := by rw [cmpL_turn]; omega
      rcases hp with hp | hp
      · exact absurd (show cmpL t[i] p < 0 by
          by_cases e2 : cmpL t[i] t[j] = 0
          · rw [cmpL_zero e2]; exact hp
          · exact cmpL_lt_trans (by omega) hp) e
      · exact beg_between h2 h1 hp) i hi
  rw [Bool.or_eq_true, decide_eq_true_eq] at this
  exact this
theorem low_pre {t : List (List UInt8)} (h : risesL t = true) (p : List UInt8) : lowN t p ≤ preN t p := by
  have h1 := lowN_le t p
  rcases Nat.lt_or_ge (preN t p) (lowN t p) with h3 | h3
  · have := (preN_iff h p (i := preN t p) (by omega)).1 (Or.inl ((lowN_iff h p (by omega)).2 h3))
    omega
  · exact h3
/-- those that begin so are a range -/
theorem pre_iff {t : List (List UInt8)} (h : risesL t = true) (p : List UInt8) {i : Nat} (hi : i < t.length) : begL p t[i] = true ↔ lowN t p ≤ i ∧ i < preN t p := by
  have h1 := lowN_iff h p hi
  have h2 := preN_iff h p hi
  constructor
  · intro hb
    have := beg_low hb
    exact ⟨by omega, h2.1 (Or.inr hb)⟩
  · rintro ⟨h3, h4⟩
    rcases h2.2 h4 with h5 | h5
    · omega
    · exact h5
theorem preN_is {t : List (List UInt8)} (h : risesL t = true) {p : List UInt8} {n : Nat} (hn : n ≤ t.length) (h1 : ∀ i (hi : i < t.length), i < n → cmpL t[i] p < 0 ∨ begL p t[i] = true) (h2 : ∀ i (hi : i < t.length), n ≤ i → ¬ (cmpL t[i] p < 0 ∨ begL p t[i] = true)) : preN t p = n := by
  have h3 := preN_le t p
  rcases Nat.lt_trichotomy (preN t p) n with h4 | h4 | h4
  · have := (preN_iff h p (i := preN t p) (by omega)).1 (h1 _ (by omega) h4)
    omega
  · exact h4
  · exact absurd ((preN_iff h p (i := n) (by omega)).2 h4) (h2 n (by omega) (Nat.le_refl _))
/-- all begin with nothing -/
theorem pre_nil {t : List (List UInt8)} (h : risesL t = true) : lowN t [] = 0 ∧ preN t [] = t.length :=
  ⟨lowN_is h (by omega) (fun i hi h => by omega) (fun i hi _ => beg_low (beg_nil _)), preN_is h (Nat.le_refl _) (fun i hi _ => Or.inr (beg_nil _)) (fun i hi h2 => by omega)⟩
end Go.Proofs.Ytihlbcnoficpgaa
