/-
  Varints as lists: what is put is read as it was; each number has one form.
-/
import Derived.Test.YtepgkdmfoojppaaMgC
namespace Go.Proofs.Ytepgkdmfoojppaa
set_option linter.unusedSimpArgs false
set_option linter.unusedVariables false
open Go.RowKit

theorem toNat_ofNat_lt {n : Nat} (h : n < 256) : (UInt8.ofNat n).toNat = n := by rw [UInt8.toNat_ofNat']; omega

theorem putL_facts (n : Nat) : ∀ rest : List UInt8, lead (putL n ++ rest) + 1 = (putL n).length ∧ val ((putL n ++ rest).take (lead (putL n ++ rest) + 1)) = n ∧
    (0 < n → ((putL n ++ rest)[lead (putL n ++ rest)]?.getD 0).toNat ≠ 0) := by
  induction n using Nat.strongRecOn with
  | ind n ih =>
    intro rest
    by_cases h : n < 128
    · rw [putL_small h]
      have e := toNat_ofNat_lt (n := n) (by omega)
      have hl : lead ([UInt8.ofNat n] ++ rest) = 0 := by
        simp only [List.cons_append, lead]
        rw [if_neg (by omega)]
      rw [hl]
      refine ⟨rfl, ?_, fun hp => ?_⟩
      · simp only [List.cons_append, List.nil_append, Nat.zero_add, List.take_succ_cons, List.take_zero, val, e]
        omega
      · simp only [List.cons_append, List.getElem?_cons_zero, Option.getD_some, e]
        omega
    · rw [putL_big (by omega)]
      obtain ⟨i1, i2, i3⟩ := ih (n / 128) (by omega) rest
      have e := toNat_ofNat_lt (n := n % 128 + 128) (by omega)
      have hl : lead (UInt8.ofNat (n % 128 + 128) :: putL (n / 128) ++ rest) = lead (putL (n / 128) ++ rest) + 1 := by
        simp only [List.cons_append, lead]
        rw [if_pos (by omega)]
      rw [hl]
      refine ⟨by simp only [List.length_cons]; omega, ?_, fun hp => ?_⟩
      · simp only [List.cons_append, List.take_succ_cons, val, e, i2]
        omega
      · simp only [List.cons_append, List.getElem?_cons_succ]
        exact i3 (by omega)

theorem vnum_putL (n : Nat) (h : n ≤ 9223372036854775807) (rest : List UInt8) : vnum (putL n ++ rest) = (n, (putL n).length, 0) := by
  obtain ⟨h1, h2, h3⟩ := putL_facts n rest
  have h9 := putL_nine n h
  have hlen : (putL n ++ rest).length = (putL n).length + rest.length := List.length_append
  unfold vnum
  rw [if_neg (by omega), if_neg (by omega), if_neg, h2, h1]
  rintro ⟨hp, hz⟩
  refine h3 ?_ hz
  rcases Nat.eq_zero_or_pos n with h0 | h0
  · subst h0
    rw [putL_small (by omega)] at h1
    simp only [List.length_cons, List.length_nil] at h1
    rw [putL_small (by omega)] at hp
    omega
  · exact h0

theorem val_pos : ∀ b : List UInt8, lead b < b.length → (b[lead b]?.getD 0).toNat ≠ 0 → 0 < val (b.take (lead b + 1))
  | [], h, _ => by simp at h
  | y :: r, h, hz => by
    by_cases hy : 128 ≤ y.toNat
    · have hl : lead (y :: r) = lead r + 1 := by simp only [lead]; rw [if_pos hy]
      rw [hl] at h hz ⊢
      simp only [List.length_cons, List.getElem?_cons_succ] at h hz
      have := val_pos r (by omega) hz
      simp only [List.take_succ_cons, val]
      omega
    · have hl : lead (y :: r) = 0 := by simp only [lead]; rw [if_neg hy]
      rw [hl] at hz ⊢
      simp only [List.getElem?_cons_zero, Option.getD_some] at hz
      simp only [Nat.zero_add, List.take_succ_cons, List.take_zero, val]
      omega

theorem putL_val : ∀ b : List UInt8, lead b < b.length → ¬ (0 < lead b ∧ (b[lead b]?.getD 0).toNat = 0) → putL (val (b.take (lead b + 1))) = b.take (lead b + 1)
  | [], h, _ => by simp at h
  | y :: r, h, hz => by
    have hy256 : y.toNat < 256 := UInt8.toNat_lt y
    by_cases hy : 128 ≤ y.toNat
    · have hl : lead (y :: r) = lead r + 1 := by simp only [lead]; rw [if_pos hy]
      rw [hl] at h hz ⊢
      simp only [List.length_cons, List.getElem?_cons_succ] at h hz
      have hz' : (r[lead r]?.getD 0).toNat ≠ 0 := fun e => hz ⟨by omega, e⟩
      have hp := val_pos r (by omega) hz'
      have hi := putL_val r (by omega) (fun e => hz' e.2)
      simp only [List.take_succ_cons, val]
      rw [putL_big (by omega)]
      rw [show (y.toNat % 128 + 128 * val (r.take (lead r + 1))) % 128 + 128 = y.toNat from by omega, show (y.toNat % 128 + 128 * val (r.take (lead r + 1))) / 128 = val (r.take (lead r + 1)) from by omega, hi]
      simp
    · have hl : lead (y :: r) = 0 := by simp only [lead]; rw [if_neg hy]
      rw [hl]
      simp only [Nat.zero_add, List.take_succ_cons, List.take_zero, val]
      rw [putL_small (by omega), show y.toNat % 128 + 128 * 0 = y.toNat from by omega]
      simp

theorem vnum_form (b : List UInt8) (h : (vnum b).2.2 = 0) : putL (vnum b).1 = b.take (vnum b).2.1 ∧ 0 < (vnum b).2.1 ∧ (vnum b).1 ≤ 9223372036854775807 := by
  unfold vnum at h ⊢
  by_cases h9 : 9 ≤ lead b
  · rw [if_pos h9] at h
    simp only [] at h
    split at h <;> omega
  · rw [if_neg h9] at h ⊢
    by_cases hl : b.length ≤ lead b
    · rw [if_pos hl] at h
      simp only [] at h
      omega
    · rw [if_neg hl] at h ⊢
      by_cases hz : 0 < lead b ∧ (b[lead b]?.getD 0).toNat = 0
      · rw [if_pos hz] at h
        simp only [] at h
        omega
      · rw [if_neg hz]
        refine ⟨putL_val b (by omega) hz, Nat.succ_pos _, ?_⟩
        have h1 := val_lt (b.take (lead b + 1))
        have h2 : 128 ^ (b.take (lead b + 1)).length ≤ 128 ^ 9 := Nat.pow_le_pow_right (by omega) (by rw [List.length_take]; omega)
        simp only []
        omega
theorem vnum_errs (b : List UInt8) : (vnum b).2.2 = 0 ∨ (vnum b).2.2 = 2 ∨ (vnum b).2.2 = 3 := by
  unfold vnum
  repeat' split
  all_goals simp

/-- what Number answers at the beginning of bytes -/
theorem number_start (b : List UInt8) : mostR b 0 0 9223372036854775807 = vnum b := by
  have h0 : b.drop 0 = b := rfl
  by_cases h : (vnum b).2.2 = 0
  · have h1 := (vnum_form b h).2.2
    have h2 : ¬ ((9223372036854775807 : Int) < ((vnum b).1 : Int)) := by omega
    simp only [mostR, peekR, peekE, h0, h, h2]
    simp
    rw [← h]
  · have h3 := vnum_err b h
    simp only [mostR, peekR, peekE, h0, h]
    simp [h]
    exact Prod.ext h3.1.symm (Prod.ext h3.2.symm rfl)

theorem number_put (n : Nat) (h : n ≤ 9223372036854775807) (rest : List UInt8) : mostR (putL n ++ rest) 0 0 9223372036854775807 = (n, (putL n).length, 0) := by
  rw [number_start, vnum_putL n h]

end Go.Proofs.Ytepgkdmfoojppaa
