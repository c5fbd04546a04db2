/-
  Rows that are so or not, in plain: their bits, their bytes. No program is named here.
-/
import Derived.Test.YtepgkdmfoojppaaLvM
import Derived.Test.YtepgkdmfoojppaaMgP
import Derived.Test.YtepgkdmfoojppaaCurE
namespace Go.Proofs.Ytepgkdmfoojppaa
set_option linter.unusedSimpArgs false
set_option linter.unusedVariables false
open Go.RowKit

/-- rows as bits -/
def bitsN (l : List Bool) : List Nat := l.map Bool.toNat
theorem bitsN_length (l : List Bool) : (bitsN l).length = l.length := by simp [bitsN]
theorem bitsN_take (l : List Bool) (k : Nat) : bitsN (l.take k) = (bitsN l).take k := by simp [bitsN, List.map_take]
theorem bitsN_lt (l : List Bool) : ∀ x ∈ bitsN l, x < 2 ^ 1 := by
  intro x hx
  obtain ⟨b, _, rfl⟩ := List.mem_map.1 hx
  cases b <;> decide
/-- the number that the first k rows make -/
def bsum (l : List Bool) (k : Nat) : Nat := vsum 1 (bitsN (l.take k))
theorem bsum_zero (l : List Bool) : bsum l 0 = 0 := rfl
theorem bsum_succ (l : List Bool) (k : Nat) (h : k < l.length) : bsum l (k + 1) = bsum l k + 2 ^ k * (l[k]).toNat := by
  unfold bsum
  rw [List.take_succ_eq_append_getElem h]
  unfold bitsN
  rw [List.map_append, List.map_singleton, vsum_snoc, List.length_map, List.length_take, Nat.min_eq_left (Nat.le_of_lt h), Nat.one_mul]
theorem bsum_no (l : List Bool) (k : Nat) (h : k < l.length) (hb : l[k] = false) : bsum l (k + 1) = bsum l k := by rw [bsum_succ l k h, hb]; rfl
theorem bsum_yes (l : List Bool) (k : Nat) (h : k < l.length) (hb : l[k] = true) : bsum l (k + 1) = bsum l k + 2 ^ k := by rw [bsum_succ l k h, hb]; simp
theorem bsum_lt (l : List Bool) (k : Nat) (h : k ≤ l.length) : bsum l k < 2 ^ k := by
  have := vsum_lt 1 (bitsN (l.take k)) (bitsN_lt _)
  rwa [bitsN_length, List.length_take, Nat.min_eq_left h, Nat.one_mul] at this

/-- a bitmap's bytes -/
def packB (l : List Bool) : List UInt8 := bytesN ((l.length + 7) / 8) (bsum l l.length)
theorem packB_length (l : List Bool) : (packB l).length = (l.length + 7) / 8 := bytesN_length _ _
theorem packB_packL (l : List Bool) : packB l = packL 1 (bitsN l) := by
  unfold packB packL bsum
  rw [bitsN_length, Nat.mul_one, List.take_length]
/-- packed -/
def writeB (l : List Bool) : List UInt8 := putL l.length ++ packB l
theorem writeB_length (l : List Bool) (h : l.length ≤ 9223372036854775807) : (writeB l).length ≤ 9 + (l.length + 7) / 8 := by
  have := putL_nine l.length h
  unfold writeB
  rw [List.length_append, packB_length]
  omega

/-- the i-th row of bytes -/
def getB (bs : List UInt8) (i : Nat) : Bool := getN bs 1 i == 1
theorem getB_toNat (bs : List UInt8) (i : Nat) : (getB bs i).toNat = getN bs 1 i := by
  have h := getN_lt bs 1 i
  unfold getB
  rcases Nat.eq_zero_or_pos (getN bs 1 i) with h0 | h0
  · rw [h0]; rfl
  · rw [show getN bs 1 i = 1 by omega]; rfl
/-- the first n rows of bytes -/
def getsB (bs : List UInt8) (n : Nat) : List Bool := (List.range n).map (getB bs)
theorem getsB_length (bs : List UInt8) (n : Nat) : (getsB bs n).length = n := by simp [getsB]
theorem getsB_get (bs : List UInt8) (n i : Nat) (h : i < n) : (getsB bs n)[i]? = some (getB bs i) := by simp [getsB, h]
theorem bitsN_getsB (bs : List UInt8) (n : Nat) : bitsN (getsB bs n) = getsN bs 1 n := by
  unfold bitsN getsB getsN
  rw [List.map_map]
  exact List.map_congr_left fun i _ => getB_toNat bs i
theorem packB_getsB (bs : List UInt8) (n : Nat) (hl : bs.length = (n + 7) / 8) (hb : bval bs < 2 ^ n) : packB (getsB bs n) = bs := by
  rw [packB_packL, bitsN_getsB, pack_gets bs 1 n (by rw [Nat.mul_one]; exact hl) (by rw [Nat.mul_one]; exact hb)]
theorem getsB_packB (l : List Bool) : getsB (packB l) l.length = l := by
  apply List.ext_getElem?
  intro i
  by_cases hi : i < l.length
  · rw [getsB_get _ _ _ hi, List.getElem?_eq_getElem hi]
    have h := get_pack 1 (bitsN l) (bitsN_lt l) i (by rw [bitsN_length]; exact hi)
    rw [← packB_packL] at h
    unfold getB
    rw [h]
    simp only [bitsN, List.getElem_map]
    cases l[i] <;> rfl
  · rw [List.getElem?_eq_none (by rw [getsB_length]; omega), List.getElem?_eq_none (by omega)]
theorem bval_packB (l : List Bool) : bval (packB l) < 2 ^ l.length := by
  rw [packB_packL, bval_packL 1 _ (bitsN_lt l)]
  have := vsum_lt 1 (bitsN l) (bitsN_lt l)
  rwa [bitsN_length, Nat.one_mul] at this
/-- a row of bytes by its byte -/
theorem getN_byte (bs : List UInt8) (i : Nat) (h : i / 8 < bs.length) : getN bs 1 i = bs[i / 8].toNat / 2 ^ (i % 8) % 2 := by
  unfold getN
  rw [Nat.one_mul, Nat.pow_one, ← bval_at bs (i / 8) h, split256 i, ← Nat.div_div_eq_div_mul]
  generalize bval bs / 256 ^ (i / 8) = y
  have hr : i % 8 < 8 := Nat.mod_lt _ (by decide)
  rw [show (256 : Nat) = 2 ^ (i % 8) * (2 * 2 ^ (7 - i % 8)) by rw [← Nat.pow_succ', ← Nat.pow_add, show i % 8 + (7 - i % 8).succ = 8 by omega]]
  rw [Nat.mod_mul_right_div_self, Nat.mod_mul_right_mod]

/-- one bit more, in bytes that are all there -/
theorem bytesN_bit (s k V : Nat) (hs : k / 8 < s) (hV : V < 2 ^ k) (x : UInt8) (hx : (bytesN s V)[k / 8]? = some x) :
    x.toNat < 2 ^ (k % 8) ∧ x.toNat + 2 ^ (k % 8) < 256 ∧ bytesN s (V + 2 ^ k) = (bytesN s V).set (k / 8) (UInt8.ofNat (x.toNat + 2 ^ (k % 8))) := by
  have hsplit : ∀ U : Nat, bytesN s U = bytesN (k / 8 + 1) U ++ bytesN (s - (k / 8 + 1)) (U / 256 ^ (k / 8 + 1)) := fun U => by
    rw [← bytesN_add, show k / 8 + 1 + (s - (k / 8 + 1)) = s by omega]
  have hpow : 2 ^ (k + 1) ≤ 256 ^ (k / 8 + 1) := by rw [pow256]; exact Nat.pow_le_pow_right (by decide) (by omega)
  have hp2 : 2 ^ (k + 1) = 2 * 2 ^ k := by rw [Nat.pow_succ, Nat.mul_comm]
  have h0 : V / 256 ^ (k / 8 + 1) = 0 := Nat.div_eq_of_lt (by omega)
  have h1 : (V + 2 ^ k) / 256 ^ (k / 8 + 1) = 0 := Nat.div_eq_of_lt (by omega)
  have hlen : (bytesN (k / 8 + 1) V).length = k / 8 + 1 := bytesN_length _ _
  have hx' : (bytesN (k / 8 + 1) V)[k / 8]? = some x := by
    rw [hsplit V, List.getElem?_append_left (by omega)] at hx
    exact hx
  obtain ⟨h2, h3, h4⟩ := bitsAt_one (n := k) (V := V) (ys := bytesN (k / 8 + 1) V) ⟨hV, rfl⟩ x hx'
  refine ⟨?_, h2, ?_⟩
  · rw [bytesN_snoc, List.getElem?_append_right (by rw [bytesN_length]; exact Nat.le_refl _), bytesN_length, Nat.sub_self] at hx'
    simp only [List.getElem?_cons_zero, Option.some.injEq] at hx'
    rw [← hx', byte_toNat]
    have h5 := hV
    rw [split256] at h5
    have := Nat.div_lt_of_lt_mul h5
    exact Nat.lt_of_le_of_lt (Nat.mod_le _ _) this
  · rw [hsplit, hsplit V, h0, h1, List.set_append_left _ _ (by omega), h4, show (k + 1 + 7) / 8 = k / 8 + 1 by omega]

end Go.Proofs.Ytepgkdmfoojppaa
