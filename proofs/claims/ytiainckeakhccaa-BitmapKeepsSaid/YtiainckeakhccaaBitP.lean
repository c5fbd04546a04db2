/-
  Bits in plain: bytes that bits fill one by one. No program is named here.
-/
import Derived.Test.YtiainckeakhccaaPakM
namespace Go.Proofs.Ytiainckeakhccaa
set_option linter.unusedSimpArgs false
set_option linter.unusedVariables false

/-- n bits, the number that they make, and the bytes that they fill -/
def BitsAt (n V : Nat) (ys : List UInt8) : Prop := V < 2 ^ n ∧ ys = bytesN ((n + 7) / 8) V
/-- n bits, and the bytes with room for one more -/
def OpenAt (n V : Nat) (ys : List UInt8) : Prop := V < 2 ^ n ∧ ys = bytesN (n / 8 + 1) V
theorem bitsAt_zero : BitsAt 0 0 [] := ⟨by simp, rfl⟩
theorem bitsAt_len {n V : Nat} {ys : List UInt8} (h : BitsAt n V ys) : ys.length = (n + 7) / 8 := by rw [h.2, bytesN_length]
theorem openAt_len {n V : Nat} {ys : List UInt8} (h : OpenAt n V ys) : ys.length = n / 8 + 1 := by rw [h.2, bytesN_length]
theorem split256 (n : Nat) : 2 ^ n = 256 ^ (n / 8) * 2 ^ (n % 8) := by
  rw [← Nat.pow_mul 2 8 (n / 8), ← Nat.pow_add]
  congr 1
  omega
theorem openAt_same {n V : Nat} {ys : List UInt8} (h : BitsAt n V ys) (hn : n % 8 ≠ 0) : OpenAt n V ys := by
  obtain ⟨h1, rfl⟩ := h
  exact ⟨h1, by rw [show (n + 7) / 8 = n / 8 + 1 from by omega]⟩
theorem openAt_push {n V : Nat} {ys : List UInt8} (h : BitsAt n V ys) (hn : n % 8 = 0) : OpenAt n V (ys ++ [0]) := by
  obtain ⟨h1, rfl⟩ := h
  refine ⟨h1, ?_⟩
  rw [show (n + 7) / 8 = n / 8 from by omega, bytesN_snoc]
  rw [split256, hn, Nat.pow_zero, Nat.mul_one] at h1
  rw [Nat.div_eq_of_lt h1]
  rfl
theorem bitsAt_none {n V : Nat} {ys : List UInt8} (h : OpenAt n V ys) : BitsAt (n + 1) V ys := by
  obtain ⟨h1, rfl⟩ := h
  exact ⟨by rw [Nat.pow_succ]; omega, by rw [show (n + 1 + 7) / 8 = n / 8 + 1 from by omega]⟩
theorem bitsAt_one {n V : Nat} {ys : List UInt8} (h : OpenAt n V ys) (x : UInt8) (hx : ys[n / 8]? = some x) :
    x.toNat + 2 ^ (n % 8) < 256 ∧ BitsAt (n + 1) (V + 2 ^ n) (ys.set (n / 8) (UInt8.ofNat (x.toNat + 2 ^ (n % 8)))) := by
  obtain ⟨h1, rfl⟩ := h
  rw [bytesN_snoc, List.getElem?_append_right (by rw [bytesN_length]; exact Nat.le_refl _), bytesN_length, Nat.sub_self] at hx
  simp only [List.getElem?_cons_zero, Option.some.injEq] at hx
  have h2 := h1
  rw [split256] at h2
  have h3 := Nat.div_lt_of_lt_mul h2
  have h4 : 2 ^ (n % 8) ≤ 2 ^ 7 := Nat.pow_le_pow_right (by omega) (by omega)
  have hp : 0 < 256 ^ (n / 8) := Nat.pow_pos (by omega)
  have hxv : x.toNat = V / 256 ^ (n / 8) := by
    rw [← hx, byte_toNat, Nat.mod_eq_of_lt (by omega)]
  rw [hxv]
  refine ⟨by omega, by rw [Nat.pow_succ]; omega, ?_⟩
  rw [show (n + 1 + 7) / 8 = n / 8 + 1 from by omega, bytesN_snoc, bytesN_snoc, List.set_append_right _ _ (by rw [bytesN_length]; exact Nat.le_refl _), bytesN_length, Nat.sub_self]
  have e : (V + 2 ^ n) / 256 ^ (n / 8) = V / 256 ^ (n / 8) + 2 ^ (n % 8) := by rw [split256 n, Nat.add_mul_div_left _ _ hp]
  rw [e, Nat.mod_eq_of_lt (show V / 256 ^ (n / 8) + 2 ^ (n % 8) < 256 by omega)]
  congr 1
  rw [split256 n, bytesN_plus]

theorem bv_set (l : List UInt8) (j : Nat) (x : UInt8) : bv (l.set j x) = (bv l).set j (.int .u8 (x.toNat : Int)) := by simp [bv, List.map_set]

theorem bytesN_add (a b V : Nat) : bytesN (a + b) V = bytesN a V ++ bytesN b (V / 256 ^ a) := by
  induction a generalizing V with
  | zero => simp [bytesN]
  | succ a ih =>
    rw [Nat.add_right_comm, bytesN, ih (V / 256), bytesN, List.cons_append, Nat.div_div_eq_div_mul, Nat.pow_succ, Nat.mul_comm 256]

theorem last_get (bs : List UInt8) (h : 0 < bs.length) : bs[bs.length - 1] = bs.getLastD 0 := by
  rcases List.eq_nil_or_concat bs with rfl | ⟨r, x, rfl⟩
  · simp at h
  · simp

end Go.Proofs.Ytiainckeakhccaa
