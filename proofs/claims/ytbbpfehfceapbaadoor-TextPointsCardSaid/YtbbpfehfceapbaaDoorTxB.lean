/-
  The text package, strings gone through by their runes: how many points, where a point begins.
-/
import Derived.Test.YtbbpfehfceapbaaDoorTxA
import Derived.Test.YtbbpfehfceapbaaDoorRefY
import Derived.Lib.OthersKept
namespace Go.Proofs.YtbbpfehfceapbaaDoor
set_option linter.unusedSimpArgs false
set_option linter.unusedVariables false
open Go.RowKit

/-- a point that is none is one byte's -/
theorem ptN_bad {n b0 b1 b2 b3 : Nat} (h0 : b0 < 256) (h : 1114111 < (ptN n b0 b1 b2 b3).1) : ptN n b0 b1 b2 b3 = (1114112 + b0, 1) := by
  unfold ptN tailN at h ⊢
  repeat' split at h
  all_goals first
    | (simp only at h; omega)
    | (repeat' split
       all_goals first | rfl | (exfalso; omega))
theorem ptL_bad {l : List UInt8} (h : 1114111 < (ptL l).1) : ptL l = (1114112 + byt l 0, 1) := ptN_bad (byt_lt _ _) h
/-- the rune that stands for the first point -/
def runeL (l : List UInt8) : Nat := if (ptL l).1 ≤ 1114111 then (ptL l).1 else 65533
theorem runeL_le (l : List UInt8) : runeL l ≤ 1114111 := by unfold runeL; split <;> omega
theorem decode_run (s : ByteArray) (i : Nat) (hi : i < s.size) : Utf8.decode s i = (runeL (s.data.toList.drop i), (ptL (s.data.toList.drop i)).2) := by
  rw [decode_ptL s i hi]
  unfold runeL
  split
  · rfl
  · rw [ptL_bad (by omega)]
theorem drop_ne {s : ByteArray} {i : Nat} (h : i < s.size) : s.data.toList.drop i ≠ [] := fun e => by
  have := congrArg List.length e
  rw [List.length_drop, size_toL] at this
  simp at this
  omega
theorem pt_fits {s : ByteArray} {i : Nat} (h : i < s.size) : 1 ≤ (ptL (s.data.toList.drop i)).2 ∧ i + (ptL (s.data.toList.drop i)).2 ≤ s.size := by
  have h1 := ptL_pos (s.data.toList.drop i)
  have h2 := ptL_le (drop_ne h)
  rw [List.length_drop, size_toL] at h2
  omega
/-- a string's next rune, wherever its iterator stands -/
theorem next_any {w : World} {g : Nat} {s : ByteArray} {i : Nat} (hit : w.heap[g]? = some (.stringIter s i)) (h : i < s.size) (ty : TypeId) :
    (Instr.next (.pointer (some ⟨g, 0, none⟩)) true ty).run Tryd.prog w = .ok (.tuple #[.bool true, .int .i64 (i : Int), .int .i32 (runeL (s.data.toList.drop i) : Int)]) (w.iterAt g s (i + (ptL (s.data.toList.drop i)).2)) := by
  rw [Lib.run_next_any_at w g s i ty hit h, decode_run s i h]

set_option maxRecDepth 20000 in
set_option maxHeartbeats 1000000 in
theorem len_any {w : World} (s : ByteArray) (hs : s.size ≤ 1000000) :
    Calls Tryd.prog 13 #[.string s] w fun r w' => r = .returned (.int .i64 ((ptsL s.data.toList).length : Int)) ∧ Below w.heap.size w w' := by
  obtain ⟨v, hv⟩ : ∃ v, (ptsL s.data.toList).length = v := ⟨_, rfl⟩
  rw [hv]
  go_enter Tryd.func13, Tryd.ntmps13
  go_wp2_with fail
  go_loopw [3] (fun x3 wr => ∃ (i n : Nat), x3 = .int .i64 (n : Int) ∧ wr.heap[w.heap.size]? = some (.stringIter s i) ∧ i ≤ s.size ∧ n ≤ i ∧ n + (ptsL (s.data.toList.drop i)).length = v ∧ Below w.heap.size w wr) (fun _ wr => s.size - wr.iterPos w.heap.size)
  case atStart => exact ⟨0, 0, rfl, World.iter_heap w s 0, Nat.zero_le _, Nat.le_refl _, by rw [← hv]; simp, (Below.refl _ w).alloc (Nat.le_refl _) _⟩
  case round =>
    obtain ⟨i, n, rfl, hit, hi, hni, hinv, hb⟩ := hrel
    have HI := Lib.hid hinv
    clear hinv
    by_cases hp : i < s.size
    · have hnx := fun ty => next_any hit hp ty
      have hk := pt_fits hp
      have hit2 := Lib.iterAt_heap wr _ s i (i + (ptL (s.data.toList.drop i)).2) hit
      have hb2 := Lib.below_iterAt hb (Nat.le_refl _) s (i + (ptL (s.data.toList.drop i)).2)
      have HPC := Lib.hid (ptsL_cons (drop_ne hp))
      generalize wr.iterAt w.heap.size s (i + (ptL (s.data.toList.drop i)).2) = w2 at *
      generalize runeL (s.data.toList.drop i) = r at *
      have HIT := Lib.hid hit2
      have HB := Lib.hid hb2
      clear hit2 hb2
      obtain ⟨k, hke⟩ : ∃ k, (ptL (s.data.toList.drop i)).2 = k := ⟨_, rfl⟩
      rw [hke] at hk HPC HIT
      clear hke
      go_wp2_with fail
      go_roundw
      case rel =>
        refine ⟨i + k, n + 1, by go_num, HIT.out, by omega, by omega, ?_, HB.out⟩
        rw [← HI.out, HPC.out, List.length_cons, List.drop_drop]; omega
      case measure =>
        simp only [World.iterPos, HIT.out, hit]
        omega
    · have hnx : ∀ ty, (Instr.next (.pointer (some ⟨w.heap.size, 0, none⟩)) true ty).run Tryd.prog wr = _ := fun ty => Lib.run_next_end_at wr w.heap.size s i ty hit hp
      have hy : n = v := by
        have := HI.out
        rw [List.drop_of_length_le (by rw [size_toL]; omega)] at this
        simpa [ptsL_nil] using this
      have HY := Lib.hid hy
      clear hy
      go_wp2_with fail
      go_ret
      exact ⟨by rw [← HY.out]; rfl, hb⟩

set_option maxRecDepth 20000 in
set_option maxHeartbeats 1000000 in
theorem place_any {w : World} (s : ByteArray) (N : Int) (hs : s.size ≤ 1000000) (hN1 : -9223372036854775808 ≤ N) (hN2 : N ≤ 9223372036854775807) :
    Calls Tryd.prog 29 #[.string s, .int .i64 N] w fun r w' => r = .returned (.int .i64 (offL N.toNat s.data.toList : Int)) ∧ Below w.heap.size w w' := by
  obtain ⟨v, hv⟩ : ∃ v, offL N.toNat s.data.toList = v := ⟨_, rfl⟩
  rw [hv]
  go_enter Tryd.func29, Tryd.ntmps29
  go_wp2_with fail
  go_loopw [1] (fun x1 wr => ∃ (i : Nat) (n : Int), x1 = .int .i64 n ∧ wr.heap[w.heap.size]? = some (.stringIter s i) ∧ i ≤ s.size ∧ -9223372036854775808 ≤ n ∧ n ≤ 9223372036854775807 ∧ i + offL n.toNat (s.data.toList.drop i) = v ∧ Below w.heap.size w wr) (fun _ wr => s.size - wr.iterPos w.heap.size)
  case atStart => exact ⟨0, N, rfl, World.iter_heap w s 0, Nat.zero_le _, hN1, hN2, by rw [← hv]; simp, (Below.refl _ w).alloc (Nat.le_refl _) _⟩
  case round =>
    obtain ⟨i, n, rfl, hit, hi, hn1, hn2, hinv, hb⟩ := hrel
    have HI := Lib.hid hinv
    clear hinv
    by_cases hp : i < s.size
    · have hnx := fun ty => next_any hit hp ty
      have hk := pt_fits hp
      have hit2 := Lib.iterAt_heap wr _ s i (i + (ptL (s.data.toList.drop i)).2) hit
      have hb2 := Lib.below_iterAt hb (Nat.le_refl _) s (i + (ptL (s.data.toList.drop i)).2)
      have HPC : Hid (∀ m, offL (m + 1) (s.data.toList.drop i) = (ptL (s.data.toList.drop i)).2 + offL m ((s.data.toList.drop i).drop (ptL (s.data.toList.drop i)).2)) := fun m => off_succ (drop_ne hp) m
      generalize wr.iterAt w.heap.size s (i + (ptL (s.data.toList.drop i)).2) = w2 at *
      generalize runeL (s.data.toList.drop i) = r at *
      have HIT := Lib.hid hit2
      have HB := Lib.hid hb2
      clear hit2 hb2
      obtain ⟨k, hke⟩ : ∃ k, (ptL (s.data.toList.drop i)).2 = k := ⟨_, rfl⟩
      rw [hke] at hk HPC HIT
      clear hke
      by_cases h0 : n ≤ 0
      · have hz : i = v := by
          have := HI.out
          rw [show n.toNat = 0 by omega] at this
          simpa [offL] using this
        have HZ := Lib.hid hz
        clear hz
        go_wp2_with fail
        go_ret
        exact ⟨by rw [← HZ.out]; rfl, HB.out⟩
      · obtain ⟨m, hm⟩ : ∃ m : Nat, n.toNat = m + 1 := ⟨n.toNat - 1, by omega⟩
        have hm2 : (n - 1).toNat = m := by omega
        have HM := Lib.hid hm
        have HM2 := Lib.hid hm2
        clear hm hm2
        go_wp2_with fail
        go_roundw
        case rel =>
          refine ⟨i + k, n - 1, by go_num, HIT.out, by omega, by omega, by omega, ?_, HB.out⟩
          rw [HM2.out, ← HI.out, HM.out, HPC.out, List.drop_drop]; omega
        case measure =>
          simp only [World.iterPos, HIT.out, hit]
          omega
    · have hnx : ∀ ty, (Instr.next (.pointer (some ⟨w.heap.size, 0, none⟩)) true ty).run Tryd.prog wr = _ := fun ty => Lib.run_next_end_at wr w.heap.size s i ty hit hp
      have hy : s.size = v := by
        have := HI.out
        rw [List.drop_of_length_le (by rw [size_toL]; omega), off_nil] at this
        omega
      have HY := Lib.hid hy
      clear hy
      go_wp2_with fail
      go_ret
      exact ⟨by rw [← HY.out]; rfl, hb⟩
end Go.Proofs.YtbbpfehfceapbaaDoor
