/-
  How bytes compare, in plain: byte by byte; by what stands ahead first.
-/
import Derived.Test.YtjffbjlniieciaaDoorMem
namespace Go.Proofs.YtjffbjlniieciaaDoor
set_option linter.unusedSimpArgs false
set_option linter.unusedVariables false

/-- -1, 0, 1: byte by byte -/
def cmpL : List UInt8 → List UInt8 → Int
  | [], [] => 0
  | [], _ :: _ => -1
  | _ :: _, [] => 1
  | x :: a, y :: b => if x.toNat < y.toNat then -1 else if y.toNat < x.toNat then 1 else cmpL a b
theorem cmpL_same : ∀ (a : List UInt8), cmpL a a = 0
  | [] => rfl
  | x :: a => by simp [cmpL, cmpL_same a]
theorem cmpL_zero : ∀ {a b : List UInt8}, cmpL a b = 0 → a = b
  | [], [], _ => rfl
  | [], _ :: _, h => by simp [cmpL] at h
  | _ :: _, [], h => by simp [cmpL] at h
  | x :: a, y :: b, h => by
    unfold cmpL at h
    split at h
    · cases h
    · split at h
      · cases h
      · have hx : x = y := UInt8.toNat_inj.1 (by omega)
        rw [hx, cmpL_zero h]
theorem cmpL_zero_iff {a b : List UInt8} : cmpL a b = 0 ↔ a = b := ⟨cmpL_zero, fun h => by rw [h, cmpL_same]⟩
theorem cmpL_turn : ∀ (a b : List UInt8), cmpL b a = - cmpL a b
  | [], [] => rfl
  | [], _ :: _ => rfl
  | _ :: _, [] => rfl
  | x :: a, y :: b => by
    unfold cmpL
    by_cases h1 : x.toNat < y.toNat
    · rw [if_pos h1, if_neg (by omega), if_pos h1]; rfl
    · by_cases h2 : y.toNat < x.toNat
      · rw [if_pos h2, if_neg h1, if_pos h2]
      · rw [if_neg h1, if_neg h2, if_neg h2, if_neg h1, cmpL_turn a b]
theorem cmpL_three (a b : List UInt8) : cmpL a b = -1 ∨ cmpL a b = 0 ∨ cmpL a b = 1 := by
  induction a generalizing b with
  | nil => cases b <;> simp [cmpL]
  | cons x a ih =>
    cases b with
    | nil => simp [cmpL]
    | cons y b =>
      unfold cmpL
      split
      · simp
      · split
        · simp
        · exact ih b
/-- what stands ahead in both tells nothing -/
theorem cmpL_ahead : ∀ (p a b : List UInt8), cmpL (p ++ a) (p ++ b) = cmpL a b
  | [], a, b => rfl
  | x :: p, a, b => by simp [cmpL, cmpL_ahead p a b]
/-- beginnings of k bytes, if they aren't alike, tell all -/
theorem cmpL_take : ∀ (k : Nat) (a b : List UInt8), a.take k ≠ b.take k → cmpL (a.take k) (b.take k) = cmpL a b
  | 0, a, b, h => absurd (by simp) h
  | k + 1, [], [], h => absurd rfl h
  | k + 1, [], _ :: _, _ => by simp [cmpL]
  | k + 1, _ :: _, [], _ => by simp [cmpL]
  | k + 1, x :: a, y :: b, h => by
    simp only [List.take_succ_cons, cmpL]
    by_cases h1 : x.toNat < y.toNat
    · rw [if_pos h1, if_pos h1]
    · by_cases h2 : y.toNat < x.toNat
      · rw [if_neg h1, if_neg h1, if_pos h2, if_pos h2]
      · rw [if_neg h1, if_neg h1, if_neg h2, if_neg h2]
        have hx : x = y := UInt8.toNat_inj.1 (by omega)
        exact cmpL_take k a b (fun e => h (by simp [hx, e]))
/-- beginnings that are alike: the rest tells -/
theorem cmpL_drop {k : Nat} {a b : List UInt8} (h : a.take k = b.take k) : cmpL (a.drop k) (b.drop k) = cmpL a b := by
  have h1 := cmpL_ahead (a.take k) (a.drop k) (b.drop k)
  rw [List.take_append_drop] at h1
  rw [← h1, h, List.take_append_drop]
/-- the first k bytes are alike, the next aren't -/
theorem cmpL_at {k : Nat} {a b : List UInt8} (h : a.take k = b.take k) (ha : k < a.length) (hb : k < b.length) (hne : a[k] ≠ b[k]) : cmpL a b = if a[k].toNat < b[k].toNat then -1 else 1 := by
  rw [← cmpL_drop h, List.drop_eq_getElem_cons ha, List.drop_eq_getElem_cons hb]
  have hn : a[k].toNat ≠ b[k].toNat := fun e => hne (UInt8.toNat_inj.1 e)
  unfold cmpL
  by_cases h1 : a[k].toNat < b[k].toNat
  · rw [if_pos h1, if_pos h1]
  · rw [if_neg h1, if_neg h1, if_pos (by omega)]
/-- one is the other's beginning -/
theorem cmpL_end {k : Nat} {a b : List UInt8} (h : a.take k = b.take k) (hk : k = min a.length b.length) : cmpL a b = if a.length < b.length then -1 else if b.length < a.length then 1 else 0 := by
  rw [← cmpL_drop h]
  subst hk
  rcases Nat.lt_trichotomy a.length b.length with h1 | h1 | h1
  · rw [if_pos h1, Nat.min_eq_left (by omega), List.drop_length, List.drop_eq_getElem_cons h1]
    rfl
  · rw [if_neg (by omega), if_neg (by omega), Nat.min_eq_left (by omega), List.drop_length, List.drop_eq_nil_of_le (by omega)]
    rfl
  · rw [if_neg (by omega), if_pos h1, Nat.min_eq_right (by omega), List.drop_length, List.drop_eq_getElem_cons h1]
    rfl
end Go.Proofs.YtjffbjlniieciaaDoor
