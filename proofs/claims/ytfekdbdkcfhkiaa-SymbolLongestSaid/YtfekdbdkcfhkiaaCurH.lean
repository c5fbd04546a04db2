/-
  The cursor's Fail, whatever stands there; take in plain.
-/
import Derived.Test.YtfekdbdkcfhkiaaCurB
namespace Go.Proofs.Ytfekdbdkcfhkiaa
set_option linter.unusedSimpArgs false
set_option linter.unusedVariables false
open Go.RowKit

/-- Fail, whatever stands there -/
theorem fail_any {w : World} {lo g k : Nat} {bs : List UInt8} {e : Int} (x : Int) (h : Cur w lo g bs k e) :
    Calls Try.prog 30 #[cp g, .int .i64 x] w fun r w' => r = .returned (.tuple #[]) ∧ Cur w' lo g bs k (if e = 0 then x else e) ∧ w.grownBy w' (some g) := by
  by_cases he : e = 0
  · subst he
    rw [if_pos rfl]
    refine (fail_good x h).mono ?_
    rintro r w' ⟨rfl, rfl⟩
    exact ⟨rfl, h.setErr x, gb_setCell (gb_refl w _) (.inl rfl) _⟩
  · rw [if_neg he]
    refine (fail_bad x h he).mono ?_
    rintro r w' ⟨rfl, rfl⟩
    exact ⟨rfl, h, gb_refl w _⟩

theorem takeR_full (bs : List UInt8) (k : Nat) (e : Int) (s : Nat) (h : (takeR bs k e 0 (s : Int)).2.2 = 0) : (takeR bs k e 0 (s : Int)).1.length = s := by
  unfold takeR at h ⊢
  by_cases h1 : e ≠ 0
  · rw [if_pos h1] at h; exact absurd h h1
  · rw [if_neg h1] at h ⊢
    by_cases h2 : (s : Int) < 0
    · omega
    · rw [if_neg h2] at h ⊢
      by_cases h3 : (bs.length : Int) - k - ((0 : Nat) : Int) < s
      · rw [if_pos h3] at h; simp at h
      · rw [if_neg h3]
        simp only [List.length_take, List.length_drop, Int.toNat_natCast]
        omega
theorem gb_more {a w w' : World} {g x : Nat} (h : a.grownBy w (some g)) (h2 : w.grownBy w' (some x)) (hx : a.heap.size ≤ x) : a.grownBy w' (some g) :=
  ⟨h2.os.trans h.os, h2.tape.trans h.tape, h2.output.trans h.output, Nat.le_trans h.size h2.size, fun i hi hne =>
    (h2.block i (Nat.lt_of_lt_of_le hi h.size) (fun e => by injection e with e; omega)).trans (h.block i hi hne)⟩
theorem takeR_short (bs : List UInt8) (k n : Nat) (h : bs.length < k + n) : takeR bs k 0 0 (n : Int) = ([], k, 2) := by
  have h1 : ¬ ((n : Int) < 0) := by omega
  have h2 : (bs.length : Int) - k - ((0 : Nat) : Int) < n := by omega
  unfold takeR
  rw [if_neg (by simp), if_neg h1, if_pos h2]
theorem takeR_fit (bs : List UInt8) (k n : Nat) (h : k + n ≤ bs.length) : takeR bs k 0 0 (n : Int) = ((bs.drop k).take n, k + n, 0) := by
  have h1 : ¬ ((n : Int) < 0) := by omega
  have h2 : ¬ ((bs.length : Int) - k - ((0 : Nat) : Int) < n) := by omega
  unfold takeR
  rw [if_neg (by simp), if_neg h1, if_neg h2]
  simp

end Go.Proofs.Ytfekdbdkcfhkiaa
