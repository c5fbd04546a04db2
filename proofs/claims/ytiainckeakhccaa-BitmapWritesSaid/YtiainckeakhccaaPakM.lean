/-
  Numbers of one width in plain: their sum, its bytes, and back. No program is named here.
-/
import Derived.Test.YtiainckeakhccaaMem
namespace Go.Proofs.Ytiainckeakhccaa
set_option linter.unusedSimpArgs false
set_option linter.unusedVariables false

/-- the number that numbers of w bits make, one behind the other, the first one lowest -/
def vsum (w : Nat) : List Nat → Nat
  | [] => 0
  | x :: r => x + 2 ^ w * vsum w r
/-- the m lowest bytes of V, the lowest first -/
def bytesN : Nat → Nat → List UInt8
  | 0, _ => []
  | m + 1, V => UInt8.ofNat (V % 256) :: bytesN m (V / 256)
/-- the number that bytes make, the first one lowest -/
def bval : List UInt8 → Nat
  | [] => 0
  | b :: r => b.toNat + 256 * bval r

theorem byte_toNat (V : Nat) : (UInt8.ofNat (V % 256)).toNat = V % 256 := by rw [UInt8.toNat_ofNat']; omega

theorem vsum_snoc (w : Nat) (l : List Nat) (x : Nat) : vsum w (l ++ [x]) = vsum w l + 2 ^ (w * l.length) * x := by
  induction l with
  | nil => simp [vsum]
  | cons y r ih =>
    simp only [List.cons_append, vsum, ih, List.length_cons]
    rw [Nat.mul_add w, Nat.mul_one, Nat.add_comm (w * r.length), Nat.pow_add, Nat.mul_add, Nat.mul_assoc]
    omega
theorem vsum_lt (w : Nat) (l : List Nat) (h : ∀ x ∈ l, x < 2 ^ w) : vsum w l < 2 ^ (w * l.length) := by
  induction l with
  | nil => simp [vsum]
  | cons y r ih =>
    simp only [vsum, List.length_cons]
    rw [Nat.mul_add w, Nat.mul_one, Nat.add_comm (w * r.length), Nat.pow_add]
    have h1 := h y (by simp)
    have h2 := ih fun x hx => h x (by simp [hx])
    calc y + 2 ^ w * vsum w r < 2 ^ w + 2 ^ w * vsum w r := by omega
      _ = 2 ^ w * (vsum w r + 1) := by rw [Nat.mul_add, Nat.mul_one]; omega
      _ ≤ 2 ^ w * 2 ^ (w * r.length) := Nat.mul_le_mul_left _ h2
theorem vsum_get (w : Nat) (l : List Nat) (h : ∀ x ∈ l, x < 2 ^ w) (i : Nat) (hi : i < l.length) : vsum w l / 2 ^ (w * i) % 2 ^ w = l[i] := by
  induction l generalizing i with
  | nil => simp at hi
  | cons y r ih =>
    have h1 := h y (by simp)
    have hp : 0 < 2 ^ w := Nat.two_pow_pos w
    rcases i with _ | i
    · simp only [Nat.mul_zero, Nat.pow_zero, Nat.div_one, vsum, List.getElem_cons_zero, Nat.add_mul_mod_self_left]
      exact Nat.mod_eq_of_lt h1
    · rw [Nat.mul_add w, Nat.mul_one, Nat.add_comm (w * i), Nat.pow_add, ← Nat.div_div_eq_div_mul]
      have e : vsum w (y :: r) / 2 ^ w = vsum w r := by
        simp only [vsum]
        rw [Nat.add_mul_div_left _ _ hp, Nat.div_eq_of_lt h1]; omega
      rw [e]
      exact ih (fun x hx => h x (by simp [hx])) i (by simpa using hi)

theorem bytesN_length (m V : Nat) : (bytesN m V).length = m := by
  induction m generalizing V with
  | zero => rfl
  | succ m ih => simp only [bytesN, List.length_cons, ih]
theorem bytesN_snoc (m V : Nat) : bytesN (m + 1) V = bytesN m V ++ [UInt8.ofNat (V / 256 ^ m % 256)] := by
  induction m generalizing V with
  | zero => simp [bytesN]
  | succ m ih =>
    rw [bytesN, ih (V / 256), bytesN, List.cons_append, Nat.div_div_eq_div_mul, Nat.pow_succ, Nat.mul_comm 256]
theorem bytesN_mod (m V : Nat) : bytesN m (V % 256 ^ m) = bytesN m V := by
  induction m generalizing V with
  | zero => rfl
  | succ m ih =>
    simp only [bytesN]
    rw [Nat.pow_succ, Nat.mul_comm (256 ^ m), Nat.mod_mul_right_mod, Nat.mod_mul_right_div_self, ih]
theorem bytesN_plus (m V y : Nat) : bytesN m (V + 256 ^ m * y) = bytesN m V := by
  rw [← bytesN_mod, Nat.add_mul_mod_self_left, bytesN_mod]
theorem bval_lt (bs : List UInt8) : bval bs < 256 ^ bs.length := by
  induction bs with
  | nil => simp [bval]
  | cons b r ih =>
    have := UInt8.toNat_lt b
    simp only [bval, List.length_cons, Nat.pow_succ]
    omega
theorem bval_bytesN (m V : Nat) : bval (bytesN m V) = V % 256 ^ m := by
  induction m generalizing V with
  | zero => simp [bytesN, bval, Nat.mod_one]
  | succ m ih =>
    simp only [bytesN, bval, ih, byte_toNat]
    rw [Nat.pow_succ, Nat.mul_comm (256 ^ m), Nat.mod_mul]
theorem bytesN_bval (bs : List UInt8) : bytesN bs.length (bval bs) = bs := by
  induction bs with
  | nil => rfl
  | cons b r ih =>
    have := UInt8.toNat_lt b
    simp only [List.length_cons, bytesN, bval]
    rw [show (b.toNat + 256 * bval r) % 256 = b.toNat from by omega, show (b.toNat + 256 * bval r) / 256 = bval r from by omega, ih]
    simp
theorem bval_append (a b : List UInt8) : bval (a ++ b) = bval a + 256 ^ a.length * bval b := by
  induction a with
  | nil => simp [bval]
  | cons x r ih =>
    simp only [List.cons_append, bval, ih, List.length_cons, Nat.pow_succ]
    rw [Nat.mul_comm (256 ^ r.length) 256, Nat.mul_assoc]
    omega
theorem bval_at (bs : List UInt8) (j : Nat) (h : j < bs.length) : bval bs / 256 ^ j % 256 = bs[j].toNat := by
  induction bs generalizing j with
  | nil => simp at h
  | cons b r ih =>
    have := UInt8.toNat_lt b
    rcases j with _ | j
    · simp only [bval, Nat.pow_zero, Nat.div_one, List.getElem_cons_zero]
      omega
    · rw [Nat.pow_succ, Nat.mul_comm (256 ^ j), ← Nat.div_div_eq_div_mul]
      simp only [bval, List.getElem_cons_succ]
      rw [show (b.toNat + 256 * bval r) / 256 = bval r from by omega]
      exact ih j (by simpa using h)
theorem pow256 (n : Nat) : 256 ^ n = 2 ^ (8 * n) := by rw [Nat.pow_mul]
theorem bval_over (bs : List UInt8) (n : Nat) (h : 8 * bs.length ≤ n) : bval bs / 2 ^ n = 0 := by
  apply Nat.div_eq_of_lt
  have := bval_lt bs
  rw [pow256] at this
  exact Nat.lt_of_lt_of_le this (Nat.pow_le_pow_right (by omega) h)

/-- packed -/
def packL (w : Nat) (l : List Nat) : List UInt8 := bytesN ((l.length * w + 7) / 8) (vsum w l)
theorem packL_length (w : Nat) (l : List Nat) : (packL w l).length = (l.length * w + 7) / 8 := bytesN_length _ _
/-- the i-th number of packed bytes -/
def getN (bs : List UInt8) (w i : Nat) : Nat := bval bs / 2 ^ (w * i) % 2 ^ w
theorem getN_lt (bs : List UInt8) (w i : Nat) : getN bs w i < 2 ^ w := Nat.mod_lt _ (Nat.two_pow_pos w)

theorem bval_packL (w : Nat) (l : List Nat) (h : ∀ x ∈ l, x < 2 ^ w) : bval (packL w l) = vsum w l := by
  unfold packL
  rw [bval_bytesN]
  apply Nat.mod_eq_of_lt
  refine Nat.lt_of_lt_of_le (vsum_lt w l h) ?_
  rw [pow256]
  refine Nat.pow_le_pow_right (by omega) ?_
  rw [Nat.mul_comm w]
  generalize l.length * w = n
  omega
theorem get_pack (w : Nat) (l : List Nat) (h : ∀ x ∈ l, x < 2 ^ w) (i : Nat) (hi : i < l.length) : getN (packL w l) w i = l[i] := by
  unfold getN
  rw [bval_packL w l h, vsum_get w l h i hi]

/-- the first n numbers of packed bytes -/
def getsN (bs : List UInt8) (w n : Nat) : List Nat := (List.range n).map (getN bs w)
theorem getsN_length (bs : List UInt8) (w n : Nat) : (getsN bs w n).length = n := by simp [getsN]
theorem getsN_succ (bs : List UInt8) (w n : Nat) : getsN bs w (n + 1) = getsN bs w n ++ [getN bs w n] := by simp [getsN, List.range_succ]
theorem getsN_get (bs : List UInt8) (w n i : Nat) (h : i < n) : (getsN bs w n)[i]? = some (getN bs w i) := by simp [getsN, h]
theorem getsN_lt (bs : List UInt8) (w n : Nat) : ∀ x ∈ getsN bs w n, x < 2 ^ w := by
  intro x hx
  obtain ⟨i, _, rfl⟩ := List.mem_map.1 hx
  exact getN_lt _ _ _
theorem vsum_getsN (bs : List UInt8) (w n : Nat) : vsum w (getsN bs w n) = bval bs % 2 ^ (w * n) := by
  induction n with
  | zero => simp [getsN, vsum, Nat.mod_one]
  | succ n ih =>
    rw [getsN_succ, vsum_snoc, ih, getsN_length, Nat.mul_add w, Nat.mul_one, Nat.pow_add, Nat.mod_mul]
    rfl
theorem pack_gets (bs : List UInt8) (w n : Nat) (hl : bs.length = (n * w + 7) / 8) (hb : bval bs < 2 ^ (n * w)) : packL w (getsN bs w n) = bs := by
  unfold packL
  rw [getsN_length, ← hl, vsum_getsN, Nat.mul_comm w, Nat.mod_eq_of_lt hb, bytesN_bval]
theorem gets_pack (w : Nat) (l : List Nat) (h : ∀ x ∈ l, x < 2 ^ w) : getsN (packL w l) w l.length = l := by
  apply List.ext_getElem?
  intro i
  by_cases hi : i < l.length
  · rw [getsN_get _ _ _ _ hi, get_pack w l h i hi, List.getElem?_eq_getElem hi]
  · rw [List.getElem?_eq_none (by rw [getsN_length]; omega), List.getElem?_eq_none (by omega)]

/-- the bits of the last byte that are left are 0 -/
theorem filled_iff (bs : List UInt8) (n : Nat) (hl : bs.length = (n + 7) / 8) (hn : n % 8 ≠ 0) : (bs.getLastD 0).toNat / 2 ^ (n % 8) = 0 ↔ bval bs < 2 ^ n := by
  rcases List.eq_nil_or_concat bs with rfl | ⟨r, x, rfl⟩
  · simp at hl; omega
  · have hr : r.length = n / 8 := by simp at hl; omega
    have e2 : 2 ^ n = 256 ^ (n / 8) * 2 ^ (n % 8) := by
      rw [pow256, ← Nat.pow_add]
      congr 1
      omega
    have hp : 0 < 256 ^ (n / 8) := Nat.pow_pos (by omega)
    have hb := bval_lt r
    rw [hr] at hb
    rw [List.concat_eq_append, List.getLastD_concat, bval_append, hr, e2]
    have e1 : bval [x] = x.toNat := by simp [bval]
    rw [e1, Nat.div_eq_zero_iff_lt (Nat.two_pow_pos _)]
    constructor
    · intro h
      calc bval r + 256 ^ (n / 8) * x.toNat < 256 ^ (n / 8) + 256 ^ (n / 8) * x.toNat := by omega
        _ = 256 ^ (n / 8) * (x.toNat + 1) := by rw [Nat.mul_add, Nat.mul_one]; omega
        _ ≤ 256 ^ (n / 8) * 2 ^ (n % 8) := Nat.mul_le_mul_left _ h
    · intro h
      rcases Nat.lt_or_ge x.toNat (2 ^ (n % 8)) with h1 | h1
      · exact h1
      · have := Nat.mul_le_mul_left (256 ^ (n / 8)) h1
        omega
theorem filled_all (bs : List UInt8) (n : Nat) (hl : bs.length = (n + 7) / 8) (hn : n % 8 = 0) : bval bs < 2 ^ n := by
  have h := bval_lt bs
  rw [pow256, hl] at h
  rw [show 8 * ((n + 7) / 8) = n from by omega] at h
  exact h
end Go.Proofs.Ytiainckeakhccaa
