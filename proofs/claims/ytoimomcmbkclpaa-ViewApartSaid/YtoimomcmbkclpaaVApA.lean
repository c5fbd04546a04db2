/-
  What ViewApart's parts want: what Make answers of strings that may be; beginnings of strings.
-/
import Derived.Test.YtoimomcmbkclpaaAwaV
namespace Go.Proofs.Ytoimomcmbkclpaa
set_option linter.unusedSimpArgs false
set_option linter.unusedVariables false
open Go.RowKit

theorem size_list (s : ByteArray) : s.data.toList.length = s.size := by rw [Array.length_toList]; rfl
theorem makeV_good (s : List UInt8) (x y : Nat) (hs : s.length ≤ 4096) (hx : x < 65536) (hy : y < 65536) : ∃ v, makeV s (x : Int) (y : Int) = (v, 0) ∧ v.length = 16 ∧ rightV v = true ∧ lenV v = s.length ∧ prefV v = s.take 4 ∧
    (s.length ≤ 12 → v = shortL s ∧ textV v = s ∧ bufV v = 0 ∧ atV v = 0) ∧ (12 < s.length → bufV v = x ∧ atV v = y) := by
  have hl := makeV_length s (x : Int) (y : Int)
  unfold makeV at hl ⊢
  rcases Nat.lt_or_ge 12 s.length with h | h
  · rw [if_neg (by omega), if_pos ⟨hs, by unfold mayL; omega⟩] at hl ⊢
    simp only [Int.toNat_natCast] at hl ⊢
    refine ⟨_, rfl, hl, rightV_long h hs (by omega) (by omega), lenV_long hs, prefV_long h hs, fun h2 => absurd h2 (by omega), fun _ => ⟨bufV_long h hs (by omega), atV_long h hs (by omega)⟩⟩
  · rw [if_pos h] at hl ⊢
    refine ⟨_, rfl, hl, rightV_short h, lenV_short h, prefV_short h, fun _ => ⟨rfl, textV_short h, ?_, ?_⟩, fun h2 => absurd h2 (by omega)⟩
    · unfold bufV; rw [if_pos (by rw [lenV_short h]; exact h)]
    · unfold atV; rw [if_pos (by rw [lenV_short h]; exact h)]

/-- the beginning of a string -/
theorem cut_list (a : ByteArray) (n : Nat) : a.extract 0 n = ⟨(a.data.toList.take n).toArray⟩ := by
  apply ByteArray.ext
  apply Array.ext'
  simp
theorem cut_min (a : ByteArray) : a.extract 0 (min 4 a.size) = ⟨(a.data.toList.take 4).toArray⟩ := by
  rw [cut_list]
  rcases Nat.le_total a.size 4 with h | h
  · rw [Nat.min_eq_right h, List.take_of_length_le (by rw [size_list]; exact Nat.le_refl _), List.take_of_length_le (by rw [size_list]; exact h)]
  · rw [Nat.min_eq_left h]
theorem toList_inj {a b : ByteArray} (h : a.toList = b.toList) : a = b := by
  rw [ByteArray.toList_eq, ByteArray.toList_eq] at h
  obtain ⟨⟨x⟩⟩ := a
  obtain ⟨⟨y⟩⟩ := b
  have h2 : x = y := h
  rw [h2]

end Go.Proofs.Ytoimomcmbkclpaa
