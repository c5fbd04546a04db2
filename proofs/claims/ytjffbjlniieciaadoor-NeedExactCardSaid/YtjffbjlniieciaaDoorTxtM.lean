/-
  Points of a string, in plain: the first one and how many bytes it has; all of them; their bytes; what the model's own decoding says of it.
-/
import Derived.Test.YtjffbjlniieciaaDoorMem
import Derived.Test.YtjffbjlniieciaaDoorCmpM
import Derived.Lib.DecodeN
namespace Go.Proofs.YtjffbjlniieciaaDoor
set_option linter.unusedSimpArgs false
set_option linter.unusedVariables false

/-- is a byte 10xxxxxx? -/
def tailN (b : Nat) : Prop := 128 ≤ b ∧ b < 192
instance (b : Nat) : Decidable (tailN b) := by unfold tailN; infer_instance
/-- the first point of n bytes that begin so, and how many bytes it has -/
def ptN (n b0 b1 b2 b3 : Nat) : Nat × Nat :=
  if b0 < 128 then (b0, 1)
  else if 194 ≤ b0 ∧ b0 < 224 ∧ 1 < n ∧ tailN b1 then ((b0 - 192) * 64 + b1 - 128, 2)
  else if 224 ≤ b0 ∧ b0 < 240 ∧ 2 < n ∧ tailN b1 ∧ tailN b2 ∧ 2048 ≤ (b0 - 224) * 4096 + (b1 - 128) * 64 + b2 - 128 ∧ ((b0 - 224) * 4096 + (b1 - 128) * 64 + b2 - 128 < 55296 ∨ 57343 < (b0 - 224) * 4096 + (b1 - 128) * 64 + b2 - 128) then
    ((b0 - 224) * 4096 + (b1 - 128) * 64 + b2 - 128, 3)
  else if 240 ≤ b0 ∧ b0 < 245 ∧ 3 < n ∧ tailN b1 ∧ tailN b2 ∧ tailN b3 ∧ 65536 ≤ (b0 - 240) * 262144 + (b1 - 128) * 4096 + (b2 - 128) * 64 + b3 - 128 ∧ (b0 - 240) * 262144 + (b1 - 128) * 4096 + (b2 - 128) * 64 + b3 - 128 ≤ 1114111 then
    ((b0 - 240) * 262144 + (b1 - 128) * 4096 + (b2 - 128) * 64 + b3 - 128, 4)
  else (1114112 + b0, 1)
theorem ptN_size (n b0 b1 b2 b3 : Nat) : 1 ≤ (ptN n b0 b1 b2 b3).2 ∧ (ptN n b0 b1 b2 b3).2 ≤ 4 ∧ (1 ≤ n → (ptN n b0 b1 b2 b3).2 ≤ n) := by
  unfold ptN
  repeat' split
  all_goals (simp only; omega)
theorem ptN_le (n b0 b1 b2 b3 : Nat) (h0 : b0 < 256) : (ptN n b0 b1 b2 b3).1 ≤ 1114367 := by
  unfold ptN tailN
  repeat' split
  all_goals (simp only; omega)
/-- a shorter string with the whole point has the same one -/
theorem ptN_cut {n m b0 b1 b2 b3 c1 c2 c3 : Nat} (hm : m ≤ n) (hs : (ptN n b0 b1 b2 b3).2 ≤ m) (h1 : 1 < m → c1 = b1) (h2 : 2 < m → c2 = b2) (h3 : 3 < m → c3 = b3) : ptN m b0 c1 c2 c3 = ptN n b0 b1 b2 b3 := by
  rcases Nat.lt_or_ge 3 m with h | h
  · rw [h1 (by omega), h2 (by omega), h3 h]
    unfold ptN tailN
    repeat' split
    all_goals first | with_reducible rfl | (exfalso; omega)
  · rcases Nat.lt_or_ge 2 m with h' | h'
    · rw [h1 (by omega), h2 h']
      revert hs
      unfold ptN tailN
      repeat' split
      all_goals (intro hs; try simp only at hs)
      all_goals first | with_reducible rfl | (exfalso; omega)
    · rcases Nat.lt_or_ge 1 m with h'' | h''
      · rw [h1 h'']
        revert hs
        unfold ptN tailN
        repeat' split
        all_goals (intro hs; try simp only at hs)
        all_goals first | with_reducible rfl | (exfalso; omega)
      · revert hs
        unfold ptN tailN
        repeat' split
        all_goals (intro hs; try simp only at hs)
        all_goals first | with_reducible rfl | (exfalso; omega)
set_option maxHeartbeats 4000000 in
/-- the model's decoding: the point, or the error's rune and one byte -/
theorem decodeN_pt (n b0 b1 b2 b3 : Nat) (h0 : b0 < 256) (h1 : b1 < 256) (h2 : b2 < 256) (h3 : b3 < 256) : Lib.decodeN n b0 b1 b2 b3 = if (ptN n b0 b1 b2 b3).1 ≤ 1114111 then ptN n b0 b1 b2 b3 else (65533, 1) := by
  unfold ptN tailN
  split
  · unfold Lib.decodeN
    rw [if_pos (by assumption), if_pos (by simp only; omega)]
  · split
    · rw [if_pos (by simp only; omega)]
      unfold Lib.decodeN
      rw [if_neg (by omega), if_pos (by omega), if_pos (by omega)]
      apply Prod.ext <;> simp only <;> omega
    · split
      · rw [if_pos (by simp only; omega)]
        unfold Lib.decodeN
        rw [if_neg (by omega), if_neg (by omega), if_pos (by omega), if_pos (by omega)]
        apply Prod.ext <;> simp only <;> omega
      · split
        · rw [if_pos (by simp only; omega)]
          unfold Lib.decodeN
          rw [if_neg (by omega), if_neg (by omega), if_neg (by omega), if_pos (by omega), if_pos (by omega)]
          apply Prod.ext <;> simp only <;> omega
        · rw [if_neg (by simp only; omega)]
          unfold Lib.decodeN
          repeat' split
          all_goals first | rfl | (exfalso; omega)
/-- a point's bytes -/
def encL (p : Nat) : List UInt8 :=
  if p < 128 then [UInt8.ofNat p]
  else if p < 2048 then [UInt8.ofNat (192 + p / 64), UInt8.ofNat (128 + p % 64)]
  else if p < 65536 then [UInt8.ofNat (224 + p / 4096), UInt8.ofNat (128 + p / 64 % 64), UInt8.ofNat (128 + p % 64)]
  else if p < 1114112 then [UInt8.ofNat (240 + p / 262144), UInt8.ofNat (128 + p / 4096 % 64), UInt8.ofNat (128 + p / 64 % 64), UInt8.ofNat (128 + p % 64)]
  else [UInt8.ofNat (p - 1114112)]
end Go.Proofs.YtjffbjlniieciaaDoor
