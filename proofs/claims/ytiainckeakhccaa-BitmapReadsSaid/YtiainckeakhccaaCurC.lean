/-
  varint, and the document's own Number: both are 'vnum'.
-/
import Derived.Test.YtiainckeakhccaaCurB
namespace Go.Proofs.Ytiainckeakhccaa
set_option linter.unusedSimpArgs false
set_option linter.unusedVariables false
open Go.RowKit

/-- the number of a row of digits of seven bits each, the lowest first -/
def val : List UInt8 → Nat
  | [] => 0
  | b :: r => b.toNat % 128 + 128 * val r
theorem val_snoc (l : List UInt8) (b : UInt8) : val (l ++ [b]) = val l + 128 ^ l.length * (b.toNat % 128) := by
  induction l with
  | nil => simp [val]
  | cons x r ih =>
    simp only [List.cons_append, val, ih, List.length_cons, Nat.pow_succ]
    rw [Nat.mul_add, Nat.mul_comm (128 ^ r.length) 128, ← Nat.mul_assoc, Nat.add_assoc]
theorem val_lt (l : List UInt8) : val l < 128 ^ l.length := by
  induction l with
  | nil => simp [val]
  | cons x r ih =>
    simp only [val, List.length_cons, Nat.pow_succ]
    have := Nat.mod_lt x.toNat (show 0 < 128 by omega)
    omega

def lead : List UInt8 → Nat
  | [] => 0
  | b :: r => if 128 ≤ b.toNat then lead r + 1 else 0
theorem lead_le (l : List UInt8) : lead l ≤ l.length := by
  induction l with
  | nil => simp [lead]
  | cons b r ih => simp only [lead, List.length_cons]; split <;> omega
theorem lead_at (l : List UInt8) (k : Nat) (hk : k ≤ lead l) (hl : k < l.length) : (128 ≤ l[k].toNat → k + 1 ≤ lead l) ∧ (l[k].toNat < 128 → lead l = k) := by
  induction l generalizing k with
  | nil => simp at hl
  | cons b r ih =>
    simp only [lead] at hk ⊢
    rcases k with _ | k
    · simp only [List.getElem_cons_zero]
      constructor
      · intro h; rw [if_pos h]; omega
      · intro h; rw [if_neg (by omega)]
    · simp only [List.getElem_cons_succ]
      by_cases hb : 128 ≤ b.toNat
      · rw [if_pos hb] at hk ⊢
        have := ih k (by omega) (by simpa using hl)
        constructor
        · intro h; have := this.1 h; omega
        · intro h; have := this.2 h; omega
      · rw [if_neg hb] at hk; omega

/-- what a varint says that stands at the beginning: its number, how many bytes, the error -/
def vnum (bs : List UInt8) : Nat × Nat × Int :=
  if 9 ≤ lead bs then (0, 0, if 9 < bs.length then 3 else 2)
  else if bs.length ≤ lead bs then (0, 0, 2)
  else if 0 < lead bs ∧ (bs[lead bs]?.getD 0).toNat = 0 then (0, 0, 3)
  else (val (bs.take (lead bs + 1)), lead bs + 1, 0)

theorem vnum_here (bs : List UInt8) (k : Nat) (hk : k ≤ lead bs) (hl : k < bs.length) (h9 : k < 9) (hx : bs[k].toNat < 128) :
    vnum bs = if 0 < k ∧ bs[k].toNat = 0 then (0, 0, 3) else (val (bs.take k) + 128 ^ k * (bs[k].toNat % 128), k + 1, 0) := by
  have e := (lead_at bs k hk hl).2 hx
  unfold vnum
  rw [e, if_neg (by omega), if_neg (by omega), List.getElem?_eq_getElem hl, Option.getD_some]
  split
  · rfl
  · rw [List.take_succ_eq_append_getElem hl, val_snoc, List.length_take, Nat.min_eq_left (by omega)]
theorem vnum_over (bs : List UInt8) (h : min bs.length 9 ≤ lead bs) : vnum bs = (0, 0, if 9 < bs.length then 3 else 2) := by
  have := lead_le bs
  unfold vnum
  by_cases h9 : 9 ≤ lead bs
  · rw [if_pos h9]
  · rw [if_neg h9, if_pos (by omega), if_neg (by omega)]

theorem or_i64 (a b : Nat) (ha : a < 9223372036854775808) (hb : b < 9223372036854775808) : bits .or .i64 (a : Int) (b : Int) = ((a ||| b : Nat) : Int) := by
  have e : ∀ n : Nat, n < 9223372036854775808 → (BitVec.ofInt 64 (n : Int)).toNat = n := fun n hn => by
    rw [BitVec.ofInt_natCast, BitVec.toNat_ofNat]; exact Nat.mod_eq_of_lt (by omega)
  have hx : a ||| b < 2 ^ 63 := Nat.or_lt_two_pow (by omega) (by omega)
  show IntKind.i64.wrap ((BitVec.ofInt 64 (a : Int) ||| BitVec.ofInt 64 (b : Int)).toNat : Int) = _
  rw [BitVec.toNat_or, e a ha, e b hb, IntKind.wrap_i64]
  omega
theorem and127 (x : Nat) : x &&& 127 = x % 128 := Nat.and_two_pow_sub_one_eq_mod x 7
theorem digit_in (V x k : Nat) (hV : V < 128 ^ k) (hx : x < 256) (hk : k < 9) :
    bits .or .i64 (V : Int) (wrap64 (wrap64 (bits .andNot .u8 (x : Int) 128) * 2 ^ (7 * k))) = ((V + 128 ^ k * (x % 128) : Nat) : Int) := by
  have e1 : bits .andNot .u8 (x : Int) 128 = ((x % 128 : Nat) : Int) := by
    have := u8_andNot_nat x 128 hx (by omega)
    rw [← and127]
    exact this
  have hd := Nat.mod_lt x (show 0 < 128 by omega)
  have e2 : (2 : Int) ^ (7 * k) = ((128 ^ k : Nat) : Int) := by
    rw [Int.pow_mul]; norm_cast
  have hp : 128 ^ k ≤ 128 ^ 8 := Nat.pow_le_pow_right (by omega) (by omega)
  have hb : x % 128 * 128 ^ k < 9223372036854775808 := by
    calc x % 128 * 128 ^ k ≤ 127 * 128 ^ 8 := Nat.mul_le_mul (by omega) hp
      _ < 9223372036854775808 := by decide
  have e4 : wrap64 ((x % 128 : Nat) : Int) = ((x % 128 : Nat) : Int) := IntWalk.wrap64_in _ (by omega)
  have e5 : wrap64 ((x % 128 * 128 ^ k : Nat) : Int) = ((x % 128 * 128 ^ k : Nat) : Int) := IntWalk.wrap64_in _ (by omega)
  rw [e1, e2, e4, ← Int.natCast_mul, e5, or_i64 V _ (by omega) hb]
  congr 1
  have e3 : 128 ^ k = 2 ^ (7 * k) := by rw [Nat.pow_mul]
  rw [e3] at hV ⊢
  rw [Nat.or_comm, ← Nat.shiftLeft_eq, ← Nat.shiftLeft_add_eq_or_of_lt hV, Nat.shiftLeft_eq]
  rw [Nat.add_comm, Nat.mul_comm]

set_option maxRecDepth 10000 in
theorem varint_any {w : World} {lo h' : Nat} {A : Option Addr} {c : Nat} (bs : List UInt8) (h : Rd w lo h' A c (bv bs)) :
    Calls Try.prog 40 #[.slice A bs.length c] w fun r w' => r = .returned (.tuple #[.int .i64 ((vnum bs).1 : Int), .int .i64 ((vnum bs).2.1 : Int), .int .i64 (vnum bs).2.2]) ∧ w = w' := by
  have hl := h.len
  have hc := h.cap
  rw [bv_length] at hl
  unfold maxLen at hc
  have H := Lib.hid h
  clear h
  by_cases h9 : bs.length ≤ 9
  all_goals
    go_enter Try.func40, Try.ntmps40
    go_wp2_with fail
    go_loop [2, 13] (fun n i => ∃ k : Nat, k ≤ min bs.length 9 ∧ i = .int .i64 k ∧ k ≤ lead bs ∧ n = .int .i64 (val (bs.take k))) (fun _ i => bs.length - (intOf i).toNat)
    case atStart => exact ⟨0, by omega, rfl, by omega, by simp [val]⟩
    case round =>
      obtain ⟨k, hk, rfl, hlead, rfl⟩ := hrel
      by_cases hlt : k < min bs.length 9
      · obtain ⟨b, off, rfl, _, _, hcell⟩ := H.out.get (k := k) (by rw [bv_length]; omega)
        have hv := bv_get bs k (by omega)
        rw [List.getElem?_eq_getElem (by rw [bv_length]; omega)] at hv
        injection hv with hv
        rw [hv] at hcell
        clear hv
        have hlast := Lib.hid (vnum_here bs k hlead (by omega) (by omega))
        have hnext := Lib.hid ((lead_at bs k hlead (by omega)).1)
        have hV := val_lt (bs.take k)
        have hx256 : bs[k].toNat < 256 := UInt8.toNat_lt _
        rw [List.length_take, Nat.min_eq_left (by omega)] at hV
        have HD := Lib.hid (digit_in (val (bs.take k)) bs[k].toNat k hV hx256 (by omega))
        have hS : val (bs.take (k + 1)) = val (bs.take k) + 128 ^ k * (bs[k].toNat % 128) := by
          rw [List.take_succ_eq_append_getElem (by omega), val_snoc, List.length_take, Nat.min_eq_left (by omega)]
        have HS := Lib.hid hS
        generalize bs[k].toNat = x at *
        generalize val (bs.take k) = V at *
        clear hV hS hlead
        go_wp2
        case roundEnd => 
          have hge : 128 ≤ x := by omega
          exact ⟨⟨k + 1, by omega, by go_num, hnext.out hge, by rw [HS.out, HD.out]⟩, by simp [intOf]; omega⟩
        all_goals
          go_ret3
          have hlt' : x < 128 := by omega
          rw [hlast.out hlt']
          first
          | (rw [if_pos (by omega)]; exact ⟨rfl, rfl⟩)
          | (rw [if_neg (by omega)]; exact ⟨by rw [← HD.out]; rfl, rfl⟩)
          | (rw [if_neg (by omega)]; have hx0 : x = 0 := by omega
             subst hx0; exact ⟨by rw [← HD.out]; rfl, rfl⟩)
      · have hv := Lib.hid (vnum_over bs (by omega))
        go_wp2
        all_goals
          go_ret3
          rw [hv.out]
          first
          | (rw [if_pos (by omega)]; exact ⟨rfl, rfl⟩)
          | (rw [if_neg (by omega)]; exact ⟨rfl, rfl⟩)
end Go.Proofs.Ytiainckeakhccaa
