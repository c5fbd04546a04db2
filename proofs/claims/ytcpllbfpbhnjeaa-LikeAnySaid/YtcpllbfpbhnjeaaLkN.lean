/-
  Where the first of strings in order stands, and that it is there whole.
-/
import Derived.Test.YtcpllbfpbhnjeaaLikN
namespace Go.Proofs.Ytcpllbfpbhnjeaa
set_option linter.unusedSimpArgs false
set_option linter.unusedVariables false

theorem index_fits {l w : List UInt8} {i : Nat} (h : Lib.index l w = (i : Int)) : i + w.length ≤ l.length := by
  rcases index_spec l w with ⟨h1, _⟩ | ⟨j, hj, h1, ho, _⟩
  · omega
  · obtain rfl : i = j := by omega
    unfold Lib.occAt at ho
    have hp := (List.isPrefixOf_iff_prefix.1 ho).length_le
    rw [List.length_drop] at hp
    omega
theorem index_or (l w : List UInt8) : Lib.index l w = -1 ∨ ∃ i : Nat, Lib.index l w = (i : Int) ∧ i + w.length ≤ l.length := by
  rcases index_spec l w with ⟨h1, _⟩ | ⟨j, _, h1, _⟩
  · exact Or.inl h1
  · exact Or.inr ⟨j, h1, index_fits h1⟩
theorem has_first {w l : List UInt8} {ws : List (List UInt8)} (h : hasL (w :: ws) l = true) : ∃ i : Nat, Lib.index l w = (i : Int) ∧ i + w.length ≤ l.length ∧ hasL ws (l.drop (i + w.length)) = true := by
  rcases index_or l w with h1 | ⟨i, h1, h2⟩
  · rw [has_none h1] at h
    cases h
  · rw [has_some h1] at h
    exact ⟨i, h1, h2, h⟩
theorem tailB (s : ByteArray) (k : Nat) : (s.extract k s.size).data.toList = s.data.toList.drop k := by
  have e : s.data.toList.length = s.size := by rw [Array.length_toList]; rfl
  rw [ByteArray.data_extract, Array.toList_extract]
  rw [List.extract_eq_take_drop, List.take_of_length_le (by rw [List.length_drop, e]; omega)]
theorem tailB_size (s : ByteArray) (k : Nat) : (s.extract k s.size).size = s.size - k := by rw [ByteArray.size_extract]; omega
end Go.Proofs.Ytcpllbfpbhnjeaa
