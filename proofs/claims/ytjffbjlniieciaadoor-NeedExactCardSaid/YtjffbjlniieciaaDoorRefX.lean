/-
  The document's Point of layer 8: the first point of a string, and how many bytes it has.
-/
import Derived.Test.YtjffbjlniieciaaDoorRows
import Derived.Test.YtjffbjlniieciaaDoorTxtN
import Derived.Outline
import Derived.BigQuiet
import Derived.Deep.QuietTactic
namespace Go.Proofs.YtjffbjlniieciaaDoor
set_option linter.unusedSimpArgs false
set_option linter.unusedVariables false
open Go.RowKit

theorem tail_any {w : World} (x : Nat) (hx : x < 256) :
    Calls Tryd.prog 91 #[.int .u8 (x : Int)] w fun r w' => r = .returned (.bool (decide (tailN x))) ∧ w = w' := by
  by_cases h1 : 128 ≤ x
  · by_cases h2 : x < 192
    · rw [decide_eq_true (show tailN x from ⟨h1, h2⟩)]
      go_enter Tryd.func91, Tryd.ntmps91
      go_wp2
      go_ret
      exact ⟨ret_bool (by first | (simp; done) | (simp; omega)), rfl⟩
    · rw [decide_eq_false (fun h : tailN x => h2 h.2)]
      go_enter Tryd.func91, Tryd.ntmps91
      go_wp2
      go_ret
      exact ⟨ret_bool (by first | (simp; done) | (simp; omega)), rfl⟩
  · rw [decide_eq_false (fun h : tailN x => h1 h.1)]
    go_enter Tryd.func91, Tryd.ntmps91
    go_wp2
    go_ret
    exact ⟨ret_bool (by first | (simp; done) | (simp; omega)), rfl⟩

theorem pt_ret {n b0 b1 b2 b3 : Nat} {p k : Int} {q : Nat × Nat} (h : ptN n b0 b1 b2 b3 = q) (hp : p = (q.1 : Int)) (hk : k = (q.2 : Int)) :
    Ending.returned (.tuple #[.int .i64 p, .int .i64 k]) = .returned (.tuple #[.int .i64 ((ptN n b0 b1 b2 b3).1 : Int), .int .i64 ((ptN n b0 b1 b2 b3).2 : Int)]) := by
  rw [h, hp, hk]
section
variable {n b0 b1 b2 b3 : Nat}
theorem ptN_a (h : b0 < 128) : ptN n b0 b1 b2 b3 = (b0, 1) := by unfold ptN; rw [if_pos h]
theorem ptN_b (h : 194 ≤ b0 ∧ b0 < 224 ∧ 1 < n ∧ 128 ≤ b1 ∧ b1 < 192) : ptN n b0 b1 b2 b3 = ((b0 - 192) * 64 + b1 - 128, 2) := by
  unfold ptN tailN
  rw [if_neg (by omega), if_pos (by omega)]
theorem ptN_c (h : 224 ≤ b0 ∧ b0 < 240 ∧ 2 < n ∧ 128 ≤ b1 ∧ b1 < 192 ∧ 128 ≤ b2 ∧ b2 < 192 ∧ 2048 ≤ (b0 - 224) * 4096 + (b1 - 128) * 64 + b2 - 128 ∧ ((b0 - 224) * 4096 + (b1 - 128) * 64 + b2 - 128 < 55296 ∨ 57343 < (b0 - 224) * 4096 + (b1 - 128) * 64 + b2 - 128)) :
    ptN n b0 b1 b2 b3 = ((b0 - 224) * 4096 + (b1 - 128) * 64 + b2 - 128, 3) := by
  unfold ptN tailN
  rw [if_neg (by omega), if_neg (by omega), if_pos (by omega)]
theorem ptN_d (h : 240 ≤ b0 ∧ b0 < 245 ∧ 3 < n ∧ 128 ≤ b1 ∧ b1 < 192 ∧ 128 ≤ b2 ∧ b2 < 192 ∧ 128 ≤ b3 ∧ b3 < 192 ∧ 65536 ≤ (b0 - 240) * 262144 + (b1 - 128) * 4096 + (b2 - 128) * 64 + b3 - 128 ∧ (b0 - 240) * 262144 + (b1 - 128) * 4096 + (b2 - 128) * 64 + b3 - 128 ≤ 1114111) :
    ptN n b0 b1 b2 b3 = ((b0 - 240) * 262144 + (b1 - 128) * 4096 + (b2 - 128) * 64 + b3 - 128, 4) := by
  unfold ptN tailN
  rw [if_neg (by omega), if_neg (by omega), if_neg (by omega), if_pos (by omega)]
theorem ptN_e (hA : ¬ b0 < 128) (hB : ¬ (194 ≤ b0 ∧ b0 < 224 ∧ 1 < n ∧ 128 ≤ b1 ∧ b1 < 192))
    (hC : ¬ (224 ≤ b0 ∧ b0 < 240 ∧ 2 < n ∧ 128 ≤ b1 ∧ b1 < 192 ∧ 128 ≤ b2 ∧ b2 < 192 ∧ 2048 ≤ (b0 - 224) * 4096 + (b1 - 128) * 64 + b2 - 128 ∧ ((b0 - 224) * 4096 + (b1 - 128) * 64 + b2 - 128 < 55296 ∨ 57343 < (b0 - 224) * 4096 + (b1 - 128) * 64 + b2 - 128)))
    (hD : ¬ (240 ≤ b0 ∧ b0 < 245 ∧ 3 < n ∧ 128 ≤ b1 ∧ b1 < 192 ∧ 128 ≤ b2 ∧ b2 < 192 ∧ 128 ≤ b3 ∧ b3 < 192 ∧ 65536 ≤ (b0 - 240) * 262144 + (b1 - 128) * 4096 + (b2 - 128) * 64 + b3 - 128 ∧ (b0 - 240) * 262144 + (b1 - 128) * 4096 + (b2 - 128) * 64 + b3 - 128 ≤ 1114111)) :
    ptN n b0 b1 b2 b3 = (1114112 + b0, 1) := by
  unfold ptN tailN
  rw [if_neg hA, if_neg (by omega), if_neg (by omega), if_neg (by omega)]
end
theorem drew_none (w : World) : ∃ m, w = w.drewN m := ⟨0, rfl⟩

set_option maxRecDepth 20000 in
set_option maxHeartbeats 4000000 in
theorem point_one {w : World} (s : ByteArray) (h4 : s.size = 1) (hs : s.size ≤ 1000000) :
    Calls Tryd.prog 79 #[.string s] w fun r w' => r = .returned (.tuple #[.int .i64 ((ptL s.data.toList).1 : Int), .int .i64 ((ptL s.data.toList).2 : Int)]) ∧ ∃ m, w' = w.drewN m := by
  have p0 : 0 < s.size := by omega
  have hl : s.data.toList.length = s.size := by rw [Array.length_toList]; rfl
  have e0 : byt s.data.toList 0 = (s[0]'p0).toNat := byt_get (by omega)
  obtain ⟨z1, e1⟩ : ∃ z, byt s.data.toList 1 = z := ⟨_, rfl⟩
  obtain ⟨z2, e2⟩ : ∃ z, byt s.data.toList 2 = z := ⟨_, rfl⟩
  obtain ⟨z3, e3⟩ : ∃ z, byt s.data.toList 3 = z := ⟨_, rfl⟩
  unfold ptL
  rw [hl, e0, e1, e2, e3]
  have l0 : (s[0]'p0).toNat < 256 := UInt8.toNat_lt _
  have i0 : (0 : Int) < (s.size : Int) := by omega
  have i1 : ¬ (1 : Int) < (s.size : Int) := by omega
  have i2 : ¬ (2 : Int) < (s.size : Int) := by omega
  have i3 : ¬ (3 : Int) < (s.size : Int) := by omega
  have i9 : (s.size : Int) ≤ 1 := by omega
  clear hl e0 e1 e2 e3
  have H4 := Lib.hid h4
  clear h4
  go_enter Tryd.func79, Tryd.ntmps79
  go_wp2_with (go_at_call 91; refine (tail_any _ (by omega)).mono ?_; rintro e w' ⟨rfl, rfl⟩)
  all_goals go_ret2
  all_goals (try simp only [tailN] at *)
  all_goals (refine ⟨?_, by first | exact ⟨_, rfl⟩ | exact drew_none _⟩)
  all_goals first
    | exact pt_ret (ptN_a (by omega)) (by omega) rfl
    | exact pt_ret (ptN_b (by omega)) (by simp only; omega) rfl
    | exact pt_ret (ptN_c (by omega)) (by simp only; omega) rfl
    | exact pt_ret (ptN_d (by omega)) (by simp only; omega) rfl
    | exact pt_ret (ptN_e (by omega) (by omega) (by omega) (by omega)) (by simp only; omega) rfl

set_option maxRecDepth 20000 in
set_option maxHeartbeats 4000000 in
theorem point_two {w : World} (s : ByteArray) (h4 : s.size = 2) (hs : s.size ≤ 1000000) :
    Calls Tryd.prog 79 #[.string s] w fun r w' => r = .returned (.tuple #[.int .i64 ((ptL s.data.toList).1 : Int), .int .i64 ((ptL s.data.toList).2 : Int)]) ∧ ∃ m, w' = w.drewN m := by
  have p0 : 0 < s.size := by omega
  have p1 : 1 < s.size := by omega
  have hl : s.data.toList.length = s.size := by rw [Array.length_toList]; rfl
  have e0 : byt s.data.toList 0 = (s[0]'p0).toNat := byt_get (by omega)
  have e1 : byt s.data.toList 1 = (s[1]'p1).toNat := byt_get (by omega)
  obtain ⟨z2, e2⟩ : ∃ z, byt s.data.toList 2 = z := ⟨_, rfl⟩
  obtain ⟨z3, e3⟩ : ∃ z, byt s.data.toList 3 = z := ⟨_, rfl⟩
  unfold ptL
  rw [hl, e0, e1, e2, e3]
  have l0 : (s[0]'p0).toNat < 256 := UInt8.toNat_lt _
  have l1 : (s[1]'p1).toNat < 256 := UInt8.toNat_lt _
  have i0 : (0 : Int) < (s.size : Int) := by omega
  have i1 : (1 : Int) < (s.size : Int) := by omega
  have i2 : ¬ (2 : Int) < (s.size : Int) := by omega
  have i3 : ¬ (3 : Int) < (s.size : Int) := by omega
  have i9 : (s.size : Int) ≤ 2 := by omega
  clear hl e0 e1 e2 e3
  have H4 := Lib.hid h4
  clear h4
  go_enter Tryd.func79, Tryd.ntmps79
  go_wp2_with (go_at_call 91; refine (tail_any _ (by omega)).mono ?_; rintro e w' ⟨rfl, rfl⟩)
  all_goals go_ret2
  all_goals (try simp only [tailN] at *)
  all_goals (refine ⟨?_, by first | exact ⟨_, rfl⟩ | exact drew_none _⟩)
  all_goals first
    | exact pt_ret (ptN_a (by omega)) (by omega) rfl
    | exact pt_ret (ptN_b (by omega)) (by simp only; omega) rfl
    | exact pt_ret (ptN_c (by omega)) (by simp only; omega) rfl
    | exact pt_ret (ptN_d (by omega)) (by simp only; omega) rfl
    | exact pt_ret (ptN_e (by omega) (by omega) (by omega) (by omega)) (by simp only; omega) rfl

set_option maxRecDepth 20000 in
set_option maxHeartbeats 4000000 in
theorem point_three {w : World} (s : ByteArray) (h4 : s.size = 3) (hs : s.size ≤ 1000000) :
    Calls Tryd.prog 79 #[.string s] w fun r w' => r = .returned (.tuple #[.int .i64 ((ptL s.data.toList).1 : Int), .int .i64 ((ptL s.data.toList).2 : Int)]) ∧ ∃ m, w' = w.drewN m := by
  have p0 : 0 < s.size := by omega
  have p1 : 1 < s.size := by omega
  have p2 : 2 < s.size := by omega
  have hl : s.data.toList.length = s.size := by rw [Array.length_toList]; rfl
  have e0 : byt s.data.toList 0 = (s[0]'p0).toNat := byt_get (by omega)
  have e1 : byt s.data.toList 1 = (s[1]'p1).toNat := byt_get (by omega)
  have e2 : byt s.data.toList 2 = (s[2]'p2).toNat := byt_get (by omega)
  obtain ⟨z3, e3⟩ : ∃ z, byt s.data.toList 3 = z := ⟨_, rfl⟩
  unfold ptL
  rw [hl, e0, e1, e2, e3]
  have l0 : (s[0]'p0).toNat < 256 := UInt8.toNat_lt _
  have l1 : (s[1]'p1).toNat < 256 := UInt8.toNat_lt _
  have l2 : (s[2]'p2).toNat < 256 := UInt8.toNat_lt _
  have i0 : (0 : Int) < (s.size : Int) := by omega
  have i1 : (1 : Int) < (s.size : Int) := by omega
  have i2 : (2 : Int) < (s.size : Int) := by omega
  have i3 : ¬ (3 : Int) < (s.size : Int) := by omega
  have i9 : (s.size : Int) ≤ 3 := by omega
  clear hl e0 e1 e2 e3
  have H4 := Lib.hid h4
  clear h4
  go_enter Tryd.func79, Tryd.ntmps79
  go_wp2_with (go_at_call 91; refine (tail_any _ (by omega)).mono ?_; rintro e w' ⟨rfl, rfl⟩)
  all_goals (try (go_quiet (fail)))
  all_goals (try (go_wp2_with (go_at_call 91; refine (tail_any _ (by omega)).mono ?_; rintro e w' ⟨rfl, rfl⟩)))
  all_goals go_ret2
  all_goals (try simp only [tailN] at *)
  all_goals (refine ⟨?_, by first | exact ⟨_, rfl⟩ | exact drew_none _⟩)
  all_goals first
    | exact pt_ret (ptN_a (by omega)) (by omega) rfl
    | exact pt_ret (ptN_b (by omega)) (by simp only; omega) rfl
    | exact pt_ret (ptN_c (by omega)) (by simp only; omega) rfl
    | exact pt_ret (ptN_d (by omega)) (by simp only; omega) rfl
    | exact pt_ret (ptN_e (by omega) (by omega) (by omega) (by omega)) (by simp only; omega) rfl

set_option maxRecDepth 20000 in
set_option maxHeartbeats 4000000 in
theorem point_four {w : World} (s : ByteArray) (h4 : 3 < s.size) (hs : s.size ≤ 1000000) :
    Calls Tryd.prog 79 #[.string s] w fun r w' => r = .returned (.tuple #[.int .i64 ((ptL s.data.toList).1 : Int), .int .i64 ((ptL s.data.toList).2 : Int)]) ∧ ∃ m, w' = w.drewN m := by
  have p0 : 0 < s.size := by omega
  have p1 : 1 < s.size := by omega
  have p2 : 2 < s.size := by omega
  have p3 : 3 < s.size := by omega
  have hl : s.data.toList.length = s.size := by rw [Array.length_toList]; rfl
  have e0 : byt s.data.toList 0 = (s[0]'p0).toNat := byt_get (by omega)
  have e1 : byt s.data.toList 1 = (s[1]'p1).toNat := byt_get (by omega)
  have e2 : byt s.data.toList 2 = (s[2]'p2).toNat := byt_get (by omega)
  have e3 : byt s.data.toList 3 = (s[3]'p3).toNat := byt_get (by omega)
  unfold ptL
  rw [hl, e0, e1, e2, e3]
  have l0 : (s[0]'p0).toNat < 256 := UInt8.toNat_lt _
  have l1 : (s[1]'p1).toNat < 256 := UInt8.toNat_lt _
  have l2 : (s[2]'p2).toNat < 256 := UInt8.toNat_lt _
  have l3 : (s[3]'p3).toNat < 256 := UInt8.toNat_lt _
  have i0 : (0 : Int) < (s.size : Int) := by omega
  have i1 : (1 : Int) < (s.size : Int) := by omega
  have i2 : (2 : Int) < (s.size : Int) := by omega
  have i3 : (3 : Int) < (s.size : Int) := by omega
  clear hl e0 e1 e2 e3
  go_enter Tryd.func79, Tryd.ntmps79
  go_wp2_with (go_at_call 91; refine (tail_any _ (by omega)).mono ?_; rintro e w' ⟨rfl, rfl⟩)
  all_goals (try (go_quiet (fail)))
  all_goals (try (go_wp2_with (go_at_call 91; refine (tail_any _ (by omega)).mono ?_; rintro e w' ⟨rfl, rfl⟩)))
  all_goals go_ret2
  all_goals (try simp only [tailN] at *)
  all_goals (refine ⟨?_, by first | exact ⟨_, rfl⟩ | exact drew_none _⟩)
  all_goals first
    | exact pt_ret (ptN_a (by omega)) (by omega) rfl
    | exact pt_ret (ptN_b (by omega)) (by simp only; omega) rfl
    | exact pt_ret (ptN_c (by omega)) (by simp only; omega) rfl
    | exact pt_ret (ptN_d (by omega)) (by simp only; omega) rfl
    | exact pt_ret (ptN_e (by omega) (by omega) (by omega) (by omega)) (by simp only; omega) rfl

theorem point_any {w : World} (s : ByteArray) (h0 : 0 < s.size) (hs : s.size ≤ 1000000) :
    Calls Tryd.prog 79 #[.string s] w fun r w' => r = .returned (.tuple #[.int .i64 ((ptL s.data.toList).1 : Int), .int .i64 ((ptL s.data.toList).2 : Int)]) ∧ ∃ m, w' = w.drewN m := by
  rcases Nat.lt_or_ge 3 s.size with h | h
  · exact point_four s h hs
  · rcases Nat.lt_or_ge 2 s.size with h' | h'
    · exact point_three s (by omega) hs
    · rcases Nat.lt_or_ge 1 s.size with h'' | h''
      · exact point_two s (by omega) hs
      · exact point_one s (by omega) hs
end Go.Proofs.YtjffbjlniieciaaDoor
