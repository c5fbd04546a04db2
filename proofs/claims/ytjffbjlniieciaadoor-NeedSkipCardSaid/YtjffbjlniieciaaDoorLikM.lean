/-
  Patterns in plain: signs of a pattern, what matches them, runs of literals, quoted strings.
-/
import Derived.Test.YtjffbjlniieciaaDoorMem
namespace Go.Proofs.YtjffbjlniieciaaDoor
set_option linter.unusedSimpArgs false
set_option linter.unusedVariables false

/-- the sign of a byte that isn't escaped -/
def sgn (x : UInt8) : Nat := if x.toNat = 37 then 257 else if x.toNat = 95 then 256 else x.toNat
/-- a pattern's signs, or none -/
def parseL (esc : Int) : List UInt8 → Option (List Nat)
  | [] => some []
  | [x] => if (x.toNat : Int) = esc then none else some [sgn x]
  | x :: y :: t => if (x.toNat : Int) = esc then (parseL esc t).map (y.toNat :: ·) else (parseL esc (y :: t)).map (sgn x :: ·)
theorem parse_plain {esc : Int} {x : UInt8} (h : (x.toNat : Int) ≠ esc) : ∀ t, parseL esc (x :: t) = (parseL esc t).map (sgn x :: ·)
  | [] => by simp [parseL, h]
  | y :: t => by rw [parseL, if_neg h]
theorem parse_esc {esc : Int} {x : UInt8} (h : (x.toNat : Int) = esc) (y : UInt8) (t : List UInt8) : parseL esc (x :: y :: t) = (parseL esc t).map (y.toNat :: ·) := by rw [parseL, if_pos h]
theorem parse_last {esc : Int} {x : UInt8} (h : (x.toNat : Int) = esc) : parseL esc [x] = none := by rw [parseL, if_pos h]
/-- a string quoted -/
def quoteL (esc : UInt8) (l : List UInt8) : List UInt8 := l.flatMap fun x => if x.toNat = 37 ∨ x.toNat = 95 ∨ x = esc then [esc, x] else [x]
theorem quote_cons (esc x : UInt8) (t : List UInt8) : quoteL esc (x :: t) = (if x.toNat = 37 ∨ x.toNat = 95 ∨ x = esc then [esc, x] else [x]) ++ quoteL esc t := by simp [quoteL]
theorem parse_quote (esc : UInt8) : ∀ l, parseL esc.toNat (quoteL esc l) = some (l.map (·.toNat))
  | [] => rfl
  | x :: t => by
    have ih := parse_quote esc t
    rw [quote_cons]
    split
    · show parseL _ (esc :: x :: quoteL esc t) = _
      rw [parse_esc rfl, ih]
      rfl
    · rename_i h
      have hne : ¬ ((x.toNat : Int) = (esc.toNat : Int)) := fun e => h (Or.inr (Or.inr (UInt8.toNat_inj.1 (by omega))))
      show parseL _ (x :: quoteL esc t) = _
      rw [parse_plain hne, ih]
      have hs : sgn x = x.toNat := by
        unfold sgn
        rw [if_neg (fun e => h (Or.inl e)), if_neg (fun e => h (Or.inr (Or.inl e)))]
      simp [hs]

/-- is it so of what is left behind any bytes? -/
def anyT (f : List UInt8 → Bool) : List UInt8 → Bool
  | [] => f []
  | x :: t => f (x :: t) || anyT f t
theorem anyT_iff (f : List UInt8 → Bool) : ∀ l, anyT f l = true ↔ ∃ k, k ≤ l.length ∧ f (l.drop k) = true
  | [] => ⟨fun h => ⟨0, Nat.le_refl _, h⟩, fun ⟨k, _, h⟩ => by simpa [anyT] using h⟩
  | x :: t => by
    unfold anyT
    rw [Bool.or_eq_true, anyT_iff f t]
    constructor
    · rintro (h | ⟨k, hk, h⟩)
      · exact ⟨0, Nat.zero_le _, h⟩
      · exact ⟨k + 1, by simpa using hk, h⟩
    · rintro ⟨k, hk, h⟩
      cases k with
      | zero => exact Or.inl h
      | succ k => exact Or.inr ⟨k, by simpa using hk, h⟩
/-- does a byte match a sign of one byte? -/
def one (c : Nat) (x : UInt8) : Bool := c == 256 || c == x.toNat
/-- do bytes match the signs? -/
def mat : List Nat → List UInt8 → Bool
  | [], l => l.isEmpty
  | c :: p, l => if c = 257 then anyT (mat p) l else match l with
    | [] => false
    | x :: t => one c x && mat p t
theorem mat_nil (l : List UInt8) : mat [] l = l.isEmpty := rfl
theorem mat_any (p : List Nat) (l : List UInt8) : mat (257 :: p) l = true ↔ ∃ k, k ≤ l.length ∧ mat p (l.drop k) = true := by
  have : mat (257 :: p) l = anyT (mat p) l := by unfold mat; rw [if_pos rfl]
  rw [this]
  exact anyT_iff _ _
theorem mat_one {c : Nat} (h : c ≠ 257) (p : List Nat) (x : UInt8) (t : List UInt8) : mat (c :: p) (x :: t) = (one c x && mat p t) := by rw [mat, if_neg h]
theorem mat_none {c : Nat} (h : c ≠ 257) (p : List Nat) : mat (c :: p) [] = false := by rw [mat, if_neg h]
/-- more bytes ahead of any bytes -/
theorem mat_any_drop {p : List Nat} {l : List UInt8} {k : Nat} (h : mat (257 :: p) (l.drop k) = true) : mat (257 :: p) l = true := by
  rw [mat_any] at h ⊢
  obtain ⟨j, hj, hm⟩ := h
  rw [List.drop_drop] at hm
  by_cases hk : k + j ≤ l.length
  · exact ⟨k + j, hk, hm⟩
  · refine ⟨l.length, Nat.le_refl _, ?_⟩
    rw [List.drop_of_length_le (by omega)] at hm
    rw [List.drop_of_length_le (Nat.le_refl _)]
    exact hm
/-- two rows of signs, one behind the other -/
theorem mat_append : ∀ (p q : List Nat) (l : List UInt8), mat (p ++ q) l = true ↔ ∃ k, k ≤ l.length ∧ mat p (l.take k) = true ∧ mat q (l.drop k) = true
  | [], q, l => by
    constructor
    · intro h
      exact ⟨0, Nat.zero_le _, by simp [mat], h⟩
    · rintro ⟨k, hk, h1, h2⟩
      rw [mat_nil, List.isEmpty_iff, List.take_eq_nil_iff] at h1
      rcases h1 with rfl | rfl
      · exact h2
      · simpa using h2
  | c :: p, q, l => by
    rw [List.cons_append]
    by_cases hc : c = 257
    · subst hc
      rw [mat_any]
      constructor
      · rintro ⟨j, hj, h⟩
        obtain ⟨k, hk, h1, h2⟩ := (mat_append p q _).1 h
        rw [List.length_drop] at hk
        refine ⟨j + k, by omega, (mat_any _ _).2 ⟨j, by rw [List.length_take]; omega, ?_⟩, ?_⟩
        · rw [List.drop_take, Nat.add_sub_cancel_left]
          exact h1
        · rw [List.drop_drop] at h2
          exact h2
      · rintro ⟨k, hk, h1, h2⟩
        obtain ⟨j, hj, h3⟩ := (mat_any _ _).1 h1
        rw [List.length_take] at hj
        refine ⟨j, by omega, (mat_append p q _).2 ⟨k - j, by rw [List.length_drop]; omega, ?_, ?_⟩⟩
        · rw [List.drop_take] at h3
          exact h3
        · rw [List.drop_drop, show j + (k - j) = k by omega]
          exact h2
    · cases l with
      | nil =>
        rw [mat_none hc]
        constructor
        · intro h; cases h
        · rintro ⟨k, _, h1, _⟩
          rw [List.take_nil, mat_none hc] at h1
          cases h1
      | cons x t =>
        rw [mat_one hc, Bool.and_eq_true]
        constructor
        · rintro ⟨h1, h2⟩
          obtain ⟨k, hk, h3, h4⟩ := (mat_append p q t).1 h2
          exact ⟨k + 1, by simpa using hk, by rw [List.take_succ_cons, mat_one hc, h1, h3]; rfl, h4⟩
        · rintro ⟨k, hk, h1, h2⟩
          cases k with
          | zero =>
            rw [List.take_zero, mat_none hc] at h1
            cases h1
          | succ k =>
            rw [List.take_succ_cons, mat_one hc, Bool.and_eq_true] at h1
            exact ⟨h1.1, (mat_append p q t).2 ⟨k, by simpa using hk, h1.2, h2⟩⟩
end Go.Proofs.YtjffbjlniieciaaDoor
