/-
  Plain facts on the sum of layer 2: a step of eight shifts, that it is linear, and that nothing is lost by it. No program is named here.
-/
import Derived.WalkKit
namespace Go.Proofs.Ytbbclcokmmhkoaa
set_option linter.unusedSimpArgs false
set_option linter.unusedVariables false

def cdiv : BitVec 32 := 3988292384#32
def cstep (s : BitVec 32) : BitVec 32 := (s >>> 1) ^^^ (if s.getLsbD 0 then cdiv else 0#32)
def cstepN : Nat → BitVec 32 → BitVec 32
  | 0, s => s
  | n + 1, s => cstep (cstepN n s)
def cstep8 (s : BitVec 32) : BitVec 32 := cstepN 8 s
def cbyte (x : UInt8) : BitVec 32 := BitVec.ofNat 32 x.toNat
def cupd (s : BitVec 32) (x : UInt8) : BitVec 32 := cstep8 (s ^^^ cbyte x)
def cfold (s : BitVec 32) (l : List UInt8) : BitVec 32 := l.foldl cupd s
def call1 : BitVec 32 := 4294967295#32
/-- the sum -/
def crcL (l : List UInt8) : BitVec 32 := cfold call1 l ^^^ call1

theorem cstep_xor (a b : BitVec 32) : cstep (a ^^^ b) = cstep a ^^^ cstep b := by
  unfold cstep
  rw [BitVec.ushiftRight_xor_distrib, BitVec.getLsbD_xor]
  have e : ∀ p q r t : BitVec 32, (p ^^^ q) ^^^ (r ^^^ t) = (p ^^^ r) ^^^ (q ^^^ t) := by
    intro p q r t
    simp only [BitVec.xor_assoc]
    congr 1
    rw [← BitVec.xor_assoc, BitVec.xor_comm q r, BitVec.xor_assoc]
  rcases a.getLsbD 0 <;> rcases b.getLsbD 0 <;> simp only [Bool.xor_false, Bool.xor_true, Bool.not_false, Bool.not_true, if_true, if_false, Bool.false_eq_true] <;> rw [e] <;> simp
theorem cstepN_xor (n : Nat) (a b : BitVec 32) : cstepN n (a ^^^ b) = cstepN n a ^^^ cstepN n b := by
  induction n with
  | zero => rfl
  | succ n ih => simp only [cstepN, ih, cstep_xor]
theorem cstep8_xor (a b : BitVec 32) : cstep8 (a ^^^ b) = cstep8 a ^^^ cstep8 b := cstepN_xor 8 a b

theorem lsb_nat (s : BitVec 32) : s.getLsbD 0 = decide (s.toNat % 2 = 1) := by
  rw [← BitVec.testBit_toNat, Nat.testBit_zero]
theorem shr_nat (s : BitVec 32) : (s >>> 1).toNat = s.toNat / 2 := by
  rw [BitVec.toNat_ushiftRight, Nat.shiftRight_eq_div_pow]
theorem cstep_odd {s : BitVec 32} (h : s.toNat % 2 = 1) : (cstep s).toNat = (s.toNat / 2) ^^^ 3988292384 := by
  unfold cstep
  rw [lsb_nat, decide_eq_true h, if_pos rfl, BitVec.toNat_xor, shr_nat]
  rfl
theorem cstep_even {s : BitVec 32} (h : s.toNat % 2 = 0) : (cstep s).toNat = s.toNat / 2 := by
  unfold cstep
  rw [lsb_nat, decide_eq_false (by omega), if_neg (by simp), BitVec.xor_zero, shr_nat]
theorem cstepN_shift (n : Nat) : ∀ (m : Nat) (s : BitVec 32), s.toNat = 2 ^ n * m → (cstepN n s).toNat = m := by
  induction n with
  | zero => intro m s h; simpa [cstepN] using h
  | succ n ih =>
    intro m s h
    have h1 := ih (2 * m) s (by rw [h, Nat.pow_succ, Nat.mul_assoc])
    rw [cstepN, cstep_even (by omega), h1]
    omega
theorem cstep8_shift {m : Nat} {s : BitVec 32} (h : s.toNat = 256 * m) : (cstep8 s).toNat = m := cstepN_shift 8 m s h

theorem low_high (n : Nat) : (n % 256) ^^^ (256 * (n / 256)) = n := by
  apply Nat.eq_of_testBit_eq
  intro i
  have e1 : n % 256 = n % 2 ^ 8 := rfl
  have e2 : 256 * (n / 256) = (n >>> 8) <<< 8 := by rw [Nat.shiftLeft_eq, Nat.shiftRight_eq_div_pow, Nat.mul_comm]
  rw [e1, e2, Nat.testBit_xor, Nat.testBit_mod_two_pow, Nat.testBit_shiftLeft, Nat.testBit_shiftRight]
  by_cases h : i < 8
  · simp [h, Nat.not_le.2 h]
  · have h' : 8 ≤ i := by omega
    simp [h, h', show 8 + (i - 8) = i from by omega]
theorem split32 (s : BitVec 32) : s = BitVec.ofNat 32 (s.toNat % 256) ^^^ BitVec.ofNat 32 (256 * (s.toNat / 256)) := by
  apply BitVec.eq_of_toNat_eq
  have h := s.isLt
  rw [BitVec.toNat_xor, BitVec.toNat_ofNat, BitVec.toNat_ofNat, Nat.mod_eq_of_lt (show s.toNat % 256 < 2 ^ 32 from by omega), Nat.mod_eq_of_lt (show 256 * (s.toNat / 256) < 2 ^ 32 from by omega), low_high]
theorem ofNat_xor (a b : Nat) : BitVec.ofNat 32 (a ^^^ b) = BitVec.ofNat 32 a ^^^ BitVec.ofNat 32 b := by
  apply BitVec.eq_of_toNat_eq
  simp only [BitVec.toNat_xor, BitVec.toNat_ofNat, Nat.xor_mod_two_pow]
/-- eight shifts by the table -/
theorem cupd_table (s : BitVec 32) (x : UInt8) : cupd s x = cstep8 (BitVec.ofNat 32 ((s.toNat % 256) ^^^ x.toNat)) ^^^ (s >>> 8) := by
  have hs := s.isLt
  have h1 : s ^^^ cbyte x = BitVec.ofNat 32 ((s.toNat % 256) ^^^ x.toNat) ^^^ BitVec.ofNat 32 (256 * (s.toNat / 256)) := by
    conv => lhs; rw [split32 s]
    rw [ofNat_xor]
    unfold cbyte
    simp only [BitVec.xor_assoc]
    congr 1
    rw [BitVec.xor_comm]
  unfold cupd
  rw [h1, cstep8_xor]
  congr 1
  apply BitVec.eq_of_toNat_eq
  rw [cstep8_shift (m := s.toNat / 256) (by rw [BitVec.toNat_ofNat, Nat.mod_eq_of_lt]; omega), BitVec.toNat_ushiftRight, Nat.shiftRight_eq_div_pow]

/-! nothing is lost -/
theorem cstep_zero {c : BitVec 32} (h : cstep c = 0#32) : c = 0#32 := by
  apply BitVec.eq_of_toNat_eq
  by_cases h1 : c.toNat % 2 = 1
  · have h2 := cstep_odd h1
    rw [h] at h2
    have h3 : (0#32 : BitVec 32).toNat = 0 := rfl
    rw [h3] at h2
    have h4 : c.toNat / 2 = 3988292384 := by
      have := congrArg (· ^^^ 3988292384) h2
      simp only [Nat.zero_xor, Nat.xor_assoc, Nat.xor_self, Nat.xor_zero] at this
      exact this.symm
    have := c.isLt
    omega
  · have h2 := cstep_even (s := c) (by omega)
    rw [h] at h2
    have h3 : (0#32 : BitVec 32).toNat = 0 := rfl
    rw [h3] at h2 ⊢
    omega
theorem xor_zero_eq {a b : BitVec 32} (h : a ^^^ b = 0#32) : a = b := by
  have := congrArg (· ^^^ b) h
  simpa [BitVec.xor_assoc] using this
theorem cstep_inj {a b : BitVec 32} (h : cstep a = cstep b) : a = b :=
  xor_zero_eq (cstep_zero (by rw [cstep_xor, h, BitVec.xor_self]))
theorem cstepN_inj (n : Nat) {a b : BitVec 32} (h : cstepN n a = cstepN n b) : a = b := by
  induction n with
  | zero => exact h
  | succ n ih => exact ih (cstep_inj h)
theorem xor_right_inj {a b c : BitVec 32} (h : a ^^^ c = b ^^^ c) : a = b := by
  have := congrArg (· ^^^ c) h
  simpa [BitVec.xor_assoc] using this
theorem xor_left_inj {a b c : BitVec 32} (h : c ^^^ a = c ^^^ b) : a = b := by
  rw [BitVec.xor_comm c a, BitVec.xor_comm c b] at h
  exact xor_right_inj h
theorem cbyte_inj {x y : UInt8} (h : cbyte x = cbyte y) : x = y := by
  have h1 := congrArg BitVec.toNat h
  unfold cbyte at h1
  rw [BitVec.toNat_ofNat, BitVec.toNat_ofNat] at h1
  have hx := UInt8.toNat_lt x
  have hy := UInt8.toNat_lt y
  apply UInt8.toNat_inj.1
  omega
theorem cupd_inj_s {a b : BitVec 32} {x : UInt8} (h : cupd a x = cupd b x) : a = b := xor_right_inj (cstepN_inj 8 h)
theorem cupd_inj_x {s : BitVec 32} {x y : UInt8} (h : cupd s x = cupd s y) : x = y := cbyte_inj (xor_left_inj (cstepN_inj 8 h))
theorem cfold_inj (l : List UInt8) : ∀ {a b : BitVec 32}, cfold a l = cfold b l → a = b := by
  induction l with
  | nil => intro a b h; exact h
  | cons x l ih => intro a b h; exact cupd_inj_s (ih (a := cupd a x) (b := cupd b x) h)
theorem cfold_append (s : BitVec 32) (a b : List UInt8) : cfold s (a ++ b) = cfold (cfold s a) b := by
  unfold cfold
  rw [List.foldl_append]
theorem cfold_snoc (s : BitVec 32) (a : List UInt8) (x : UInt8) : cfold s (a ++ [x]) = cupd (cfold s a) x := by
  rw [cfold_append]; rfl
theorem crcL_inj_at (a b : List UInt8) (x y : UInt8) : crcL (a ++ [x] ++ b) = crcL (a ++ [y] ++ b) ↔ x = y := by
  refine ⟨fun h => ?_, fun h => by rw [h]⟩
  have h1 := xor_right_inj h
  rw [cfold_append, cfold_append _ (a ++ [y]), cfold_snoc, cfold_snoc] at h1
  exact cupd_inj_x (cfold_inj b h1)

/-! the sum as four bytes, the lowest first -/
def crcB (s : BitVec 32) : List UInt8 := [UInt8.ofNat (s.toNat % 256), UInt8.ofNat (s.toNat / 256 % 256), UInt8.ofNat (s.toNat / 65536 % 256), UInt8.ofNat (s.toNat / 16777216)]
theorem crcB_length (s : BitVec 32) : (crcB s).length = 4 := rfl
theorem u8_ofNat {n : Nat} (h : n < 256) : (UInt8.ofNat n).toNat = n := by rw [UInt8.toNat_ofNat']; omega
theorem crcB_inj {a b : BitVec 32} (h : crcB a = crcB b) : a = b := by
  have ha := a.isLt
  have hb := b.isLt
  unfold crcB at h
  injection h with h1 h
  injection h with h2 h
  injection h with h3 h
  injection h with h4 h
  have e1 := congrArg UInt8.toNat h1
  have e2 := congrArg UInt8.toNat h2
  have e3 := congrArg UInt8.toNat h3
  have e4 := congrArg UInt8.toNat h4
  rw [u8_ofNat (by omega), u8_ofNat (by omega)] at e1
  rw [u8_ofNat (by omega), u8_ofNat (by omega)] at e2
  rw [u8_ofNat (by omega), u8_ofNat (by omega)] at e3
  rw [u8_ofNat (by omega), u8_ofNat (by omega)] at e4
  apply BitVec.eq_of_toNat_eq
  omega
def sealL (l : List UInt8) : List UInt8 := l ++ crcB (crcL l)
theorem sealL_length (l : List UInt8) : (sealL l).length = l.length + 4 := by simp [sealL, crcB_length]
theorem sealL_take (l : List UInt8) : (sealL l).take l.length = l := by simp [sealL]
theorem sealL_drop (l : List UInt8) : (sealL l).drop l.length = crcB (crcL l) := by simp [sealL]

/-- whether bytes are sealed -/
def sealedB (l : List UInt8) : Bool := decide (4 ≤ l.length) && decide (l.drop (l.length - 4) = crcB (crcL (l.take (l.length - 4))))
theorem sealedB_seal (l : List UInt8) : sealedB (sealL l) = true := by
  have h := sealL_length l
  simp only [sealedB, h, Nat.add_sub_cancel, sealL_take, sealL_drop]
  simp
theorem sealedB_iff {l : List UInt8} (h : 4 ≤ l.length) : sealedB l = decide (sealL (l.take (l.length - 4)) = l) := by
  unfold sealedB
  rw [decide_eq_true h, Bool.true_and, decide_eq_decide]
  have e : l = l.take (l.length - 4) ++ l.drop (l.length - 4) := (List.take_append_drop _ _).symm
  constructor
  · intro h1
    unfold sealL
    rw [← h1]
    exact e.symm
  · intro h1
    have h2 : sealL (l.take (l.length - 4)) = l.take (l.length - 4) ++ l.drop (l.length - 4) := h1.trans e
    exact (List.append_cancel_left h2).symm

/-! the residue -/
theorem cstep8_shl {b : Nat} (h : b < 16777216) : cstep8 (BitVec.ofNat 32 (256 * b)) = BitVec.ofNat 32 b := by
  apply BitVec.eq_of_toNat_eq
  rw [cstep8_shift (m := b) (by rw [BitVec.toNat_ofNat]; omega), BitVec.toNat_ofNat]
  omega
theorem res1 (a : BitVec 32) {b : Nat} (h : b < 16777216) : cstep8 a ^^^ BitVec.ofNat 32 b = cstep8 (a ^^^ BitVec.ofNat 32 (256 * b)) := by
  rw [cstep8_xor, cstep8_shl h]
theorem cbyte_of {n : Nat} (h : n < 256) : cbyte (UInt8.ofNat n) = BitVec.ofNat 32 n := by
  unfold cbyte; rw [u8_ofNat h]
theorem xor_ofNat4 (f : Nat) (h : f < 4294967296) : (f % 256) ^^^ (256 * (f / 256 % 256)) ^^^ (65536 * (f / 65536 % 256)) ^^^ (16777216 * (f / 16777216)) = f := by
  have h1 := low_high f
  have h2 := low_high (f / 256)
  have h3 := low_high (f / 65536)
  have e2 : f / 256 / 256 = f / 65536 := by omega
  have e3 : f / 65536 / 256 = f / 16777216 := by omega
  rw [e2] at h2
  rw [e3] at h3
  have m : ∀ a b : Nat, 256 * (a ^^^ b) = (256 * a) ^^^ (256 * b) := by
    intro a b
    have := Nat.shiftLeft_xor_distrib (a := a) (b := b) (i := 8)
    simp only [Nat.shiftLeft_eq] at this
    rw [Nat.mul_comm 256, Nat.mul_comm 256, Nat.mul_comm 256]
    exact this
  have q3 : 65536 * (f / 65536) = (65536 * (f / 65536 % 256)) ^^^ (16777216 * (f / 16777216)) := by
    have e : 65536 * (f / 65536) = 256 * (256 * (f / 65536)) := by omega
    rw [e]
    conv => lhs; rw [← h3]
    rw [m, m]
    congr 1 <;> omega
  have q2 : 256 * (f / 256) = (256 * (f / 256 % 256)) ^^^ (65536 * (f / 65536)) := by
    conv => lhs; rw [← h2]
    rw [m]
    congr 1
    omega
  conv => rhs; rw [← h1, q2, q3]
  simp only [Nat.xor_assoc]
theorem word_bytes (f : BitVec 32) : f = BitVec.ofNat 32 (f.toNat % 256) ^^^ BitVec.ofNat 32 (256 * (f.toNat / 256 % 256)) ^^^ BitVec.ofNat 32 (65536 * (f.toNat / 65536 % 256)) ^^^ BitVec.ofNat 32 (16777216 * (f.toNat / 16777216)) := by
  rw [← ofNat_xor, ← ofNat_xor, ← ofNat_xor, xor_ofNat4 _ f.isLt]
  apply BitVec.eq_of_toNat_eq
  rw [BitVec.toNat_ofNat, Nat.mod_eq_of_lt f.isLt]
theorem cfold_four (s : BitVec 32) (f0 f1 f2 f3 : Nat) (h1 : f1 < 256) (h2 : f2 < 256) (h3 : f3 < 256) :
    cstep8 (cstep8 (cstep8 (cstep8 (s ^^^ BitVec.ofNat 32 f0) ^^^ BitVec.ofNat 32 f1) ^^^ BitVec.ofNat 32 f2) ^^^ BitVec.ofNat 32 f3) =
      cstep8 (cstep8 (cstep8 (cstep8 (s ^^^ (BitVec.ofNat 32 f0 ^^^ BitVec.ofNat 32 (256 * f1) ^^^ BitVec.ofNat 32 (65536 * f2) ^^^ BitVec.ofNat 32 (16777216 * f3)))))) := by
  rw [res1 (s ^^^ BitVec.ofNat 32 f0) (b := f1) (by omega)]
  rw [res1 (cstep8 _) (b := f2) (by omega), res1 _ (b := 256 * f2) (by omega)]
  rw [res1 (cstep8 (cstep8 _)) (b := f3) (by omega), res1 (cstep8 _) (b := 256 * f3) (by omega), res1 _ (b := 256 * (256 * f3)) (by omega)]
  have e2 : 256 * (256 * f2) = 65536 * f2 := by omega
  have e3 : 256 * (256 * (256 * f3)) = 16777216 * f3 := by omega
  rw [e2, e3]
  simp only [BitVec.xor_assoc]
theorem cfold_sum (s f : BitVec 32) : cfold s (crcB f) = cstep8 (cstep8 (cstep8 (cstep8 (s ^^^ f)))) := by
  have hf := f.isLt
  show cstep8 (cstep8 (cstep8 (cstep8 (s ^^^ cbyte _) ^^^ cbyte _) ^^^ cbyte _) ^^^ cbyte _) = _
  rw [cbyte_of (by omega), cbyte_of (by omega), cbyte_of (by omega), cbyte_of (by omega), cfold_four _ _ _ _ _ (by omega) (by omega) (by omega), ← word_bytes]
theorem crcL_seal (l : List UInt8) : crcL (sealL l) = cstep8 (cstep8 (cstep8 (cstep8 call1))) ^^^ call1 := by
  unfold sealL crcL
  rw [cfold_append, cfold_sum, ← BitVec.xor_assoc, BitVec.xor_self, BitVec.zero_xor]
theorem crcL_seal_eq (a b : List UInt8) : crcL (sealL a) = crcL (sealL b) := by rw [crcL_seal, crcL_seal]

/-! one byte turned -/
theorem set_parts {l : List UInt8} {k : Nat} (h : k < l.length) (y : UInt8) : l.set k y = l.take k ++ [y] ++ l.drop (k + 1) := by
  rw [List.set_eq_take_append_cons_drop, if_pos h]
  simp
theorem get_parts {l : List UInt8} {k : Nat} (h : k < l.length) : l = l.take k ++ [l[k]] ++ l.drop (k + 1) := by
  have := set_parts h l[k]
  rwa [List.set_getElem_self] at this
theorem crcL_set {l : List UInt8} {k : Nat} (h : k < l.length) (y : UInt8) : crcL (l.set k y) = crcL l ↔ y = l[k] := by
  rw [set_parts h]
  conv => lhs; rhs; rw [get_parts h]
  exact crcL_inj_at _ _ _ _
/-- a sealed text with one byte of it set is sealed just if the byte is as it was -/
theorem sealedB_set {l : List UInt8} {k : Nat} (h : k < (sealL l).length) (y : UInt8) : sealedB ((sealL l).set k y) = decide (y = (sealL l)[k]) := by
  have hl := sealL_length l
  have h4 : 4 ≤ ((sealL l).set k y).length := by rw [List.length_set]; omega
  unfold sealedB
  rw [decide_eq_true h4, Bool.true_and, decide_eq_decide, List.length_set, hl, Nat.add_sub_cancel]
  rcases Nat.lt_or_ge k l.length with hk | hk
  · have e1 : ((sealL l).set k y).drop l.length = crcB (crcL l) := by
      rw [List.drop_set, if_pos hk, sealL_drop]
    have e2 : ((sealL l).set k y).take l.length = l.set k y := by rw [List.take_set, sealL_take]
    have e3 : (sealL l)[k] = l[k] := by simp [sealL, List.getElem_append_left hk]
    rw [e1, e2, e3]
    constructor
    · intro q
      exact (crcL_set hk y).1 (crcB_inj q).symm
    · intro q
      rw [(crcL_set hk y).2 q]
  · have e1 : ((sealL l).set k y).drop l.length = (crcB (crcL l)).set (k - l.length) y := by
      rw [List.drop_set, if_neg (by omega), sealL_drop]
    have e2 : ((sealL l).set k y).take l.length = l := by
      rw [List.take_set, sealL_take, List.set_eq_of_length_le hk]
    have hk4 : k - l.length < (crcB (crcL l)).length := by rw [crcB_length]; omega
    have e3 : (sealL l)[k] = (crcB (crcL l))[k - l.length] := by simp [sealL, List.getElem_append_right hk]
    rw [e1, e2, e3]
    constructor
    · intro q
      have := congrArg (fun z => z[k - l.length]?) q
      simp only [List.getElem?_set_self hk4, List.getElem?_eq_getElem hk4] at this
      exact Option.some.inj this
    · intro q
      rw [q, List.set_getElem_self]
theorem u8_xor_self (x t : UInt8) : (x ^^^ t = x) ↔ t = 0 := by
  constructor
  · intro h
    have := congrArg (x ^^^ ·) h
    simpa [← UInt8.xor_assoc] using this
  · intro h; rw [h]; simp

/-! steps of the two programs, in numbers -/
theorem cstepN_succ (n : Nat) (s : BitVec 32) : cstep (cstepN n s) = cstepN (n + 1) s := rfl
theorem not_xor (s : BitVec 32) : (s ^^^ call1).toNat = 4294967295 - s.toNat := by
  have e : s ^^^ call1 = ~~~s := by
    apply BitVec.eq_of_getLsbD_eq
    intro i hi
    have h1 : call1 = BitVec.allOnes 32 := rfl
    rw [h1, BitVec.getLsbD_xor, BitVec.getLsbD_not, BitVec.getLsbD_allOnes]
    simp [hi]
  rw [e, BitVec.toNat_not]
/-- a word as the number that a cell holds -/
def bn (s : BitVec 32) : Int := (s.toNat : Int)
theorem bn_bd (s : BitVec 32) : 0 ≤ bn s ∧ bn s ≤ 4294967295 := by
  have := s.isLt
  unfold bn
  omega
theorem bn_inj {a b : BitVec 32} (h : bn a = bn b) : a = b := by
  apply BitVec.eq_of_toNat_eq
  unfold bn at h
  omega
theorem bn_not (s : BitVec 32) : 4294967295 - bn s = bn (s ^^^ call1) := by
  have := s.isLt
  unfold bn
  rw [not_xor]
  omega
theorem crcB_nums (s : BitVec 32) : (crcB s).map (fun c => (c.toNat : Int)) = [bn s % 256, bn s / 256 % 256, bn s / 65536 % 256, bn s / 16777216] := by
  have := s.isLt
  unfold crcB bn
  simp only [List.map_cons, List.map_nil]
  rw [u8_ofNat (by omega), u8_ofNat (by omega), u8_ofNat (by omega), u8_ofNat (by omega)]
  congr 1
theorem bn_even {s : BitVec 32} (h : bn s % 2 = 0) : bn s / 2 = bn (cstep s) := by
  unfold bn at *
  rw [cstep_even (by omega)]
  omega
end Go.Proofs.Ytbbclcokmmhkoaa
