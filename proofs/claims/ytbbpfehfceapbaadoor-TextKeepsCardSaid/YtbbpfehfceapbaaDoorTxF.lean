/-
  The text package: all points of a string; a string folded.
-/
import Derived.Test.YtbbpfehfceapbaaDoorTxE
import Derived.Laws.MakeOwn
namespace Go.Proofs.YtbbpfehfceapbaaDoor
set_option linter.unusedSimpArgs false
set_option linter.unusedVariables false
open Go.RowKit

theorem room {w : World} {B : Nat} (n : Nat) (hB : B ≤ w.heap.size) (h : n ≤ 1000000000000) : ∃ w1, (Instr.makeSlice 23 (.int .i64 0) (.int .i64 (n : Int))).run Tryd.prog w = .ok (.slice (some ⟨w.heap.size, 0, none⟩) 0 n) w1 ∧
    w1.ownsRow B 3 1 (.slice (some ⟨w.heap.size, 0, none⟩) 0 n) 0 [] ∧ w.grownBy w1 none := by
  obtain ⟨i0, hi0, hz0, hz1, hz2⟩ := info_parts Tryd.infoI64
  have := run_make_own (P := Tryd.prog) w B 23 3 i0 _ 1 Tryd.underlying23 hi0 hz0 hz1 .i64 .i64 n (by rw [hz2]; omega) (by simp only [maxLen]; omega) hB
  simpa using this
/-- a row's block is no iterator -/
theorem own_iter {w : World} {B n k : Nat} {e : TypeId} {v : Value} {xs : List Value} {s : ByteArray} {i : Nat} (h : w.ownsRow B e 1 v n xs) (hk : w.heap[k]? = some (.stringIter s i)) : some k ≠ v.ownBlock := by
  intro he
  rcases h.2 with ⟨rfl, _⟩ | ⟨g, cap, cur, rfl, _, hg, _⟩
  · simp [Value.ownBlock] at he
  · simp [Value.ownBlock] at he
    subst he
    rw [hg] at hk
    cases hk

set_option maxRecDepth 20000 in
set_option maxHeartbeats 2000000 in
theorem points_any {w : World} (s : ByteArray) (hs : s.size ≤ 1000000) :
    Calls Tryd.prog 10 #[.string s] w fun r w' => ∃ A c, r = .returned (.slice A (ptsL s.data.toList).length c) ∧ w'.ownsRow w.heap.size 3 1 (.slice A (ptsL s.data.toList).length c) (ptsL s.data.toList).length (iv (ints (ptsL s.data.toList))) ∧ Below w.heap.size w w' := by
  have HL := Lib.hid (fun w => len_any (w := w) s hs)
  have hle := pts_le s.data.toList
  rw [size_toL] at hle
  go_enter Tryd.func10, Tryd.ntmps10
  go_wp2_with fail
  refine (HL.out _).mono ?_
  rintro r w1 ⟨rfl, b1⟩
  obtain ⟨w2, hmake, ho2, hg2⟩ := room (w := w1) (B := w.heap.size) (ptsL s.data.toList).length b1.size (by omega)
  have hsz2 : w.heap.size ≤ w2.heap.size := Nat.le_trans b1.size hg2.size
  have HB2 := Lib.hid ((b1.grown hg2 b1.size (by simp)) : Below w.heap.size w w2)
  have HO2 := Lib.hid ho2
  clear ho2 hg2 b1
  go_wp2_with fail
  clear hmake
  go_loopw [3] (fun x3 wr => ∃ (i : Nat) (ys : List Int) (A : Option Addr) (c : Nat), x3 = .slice A ys.length c ∧ wr.heap[w2.heap.size]? = some (.stringIter s i) ∧ i ≤ s.size ∧ ys.length ≤ i ∧ ys ++ ints (ptsL (s.data.toList.drop i)) = ints (ptsL s.data.toList) ∧
    wr.ownsRow w.heap.size 3 1 (.slice A ys.length c) ys.length (iv ys) ∧ Below w.heap.size w wr) (fun _ wr => s.size - wr.iterPos w2.heap.size)
  case atStart => exact ⟨0, [], _, _, rfl, World.iter_heap w2 s 0, Nat.zero_le _, Nat.zero_le _, by simp, HO2.out.alloc _, HB2.out.alloc hsz2 _⟩
  case round =>
    obtain ⟨i, ys, A, c, rfl, hit, hi, hyi, hys, hown, hb⟩ := hrel
    have HYS := Lib.hid hys
    clear hys
    by_cases hp : i < s.size
    · have hnx := fun ty => next_any hit hp ty
      have hk := pt_fits hp
      have hit2 := Lib.iterAt_heap wr _ s i (i + (ptL (s.data.toList.drop i)).2) hit
      have hb2 := Lib.below_iterAt hb hsz2 s (i + (ptL (s.data.toList.drop i)).2)
      have ho2 : (wr.iterAt w2.heap.size s (i + (ptL (s.data.toList.drop i)).2)).ownsRow w.heap.size 3 1 (.slice A ys.length c) ys.length (iv ys) := own_keep hown (fun k hk => Lib.iterAt_other _ _ _ _ _ (fun e => own_iter hown hit (by rw [hk, e])))
      have hz2 : w.heap.size ≤ (wr.iterAt w2.heap.size s (i + (ptL (s.data.toList.drop i)).2)).heap.size := by rw [Lib.iterAt_size]; exact Nat.le_trans hb.size (Nat.le_refl _)
      have HPC := Lib.hid (ptsL_cons (drop_ne hp))
      have HPT := Lib.hid (fun w => rest_point (w := w) s i hp)
      generalize wr.iterAt w2.heap.size s (i + (ptL (s.data.toList.drop i)).2) = w3 at *
      generalize runeL (s.data.toList.drop i) = r at *
      generalize (ptL (s.data.toList.drop i)).1 = p at *
      generalize (ptL (s.data.toList.drop i)).2 = k at *
      have HIT := Lib.hid hit2
      have HB := Lib.hid hb2
      have HO := Lib.hid ho2
      have HIW := Lib.hid hit
      clear hit2 hb2 ho2 hit hown hb
      have ii : (i : Int) ≤ (s.size : Int) := by omega
      go_wp2_with fail
      refine (HPT.out _).mono ?_
      rintro r w4 ⟨rfl, rfl⟩
      go_wp2_with (at_builtin; refine wpList_push_num (v := .slice A ys.length c) w.heap.size ys (p : Int) rfl _ _ rfl rfl rfl rfl (by rw [World.cell?_alloc_at _ _ _ _ rfl]; rfl) (HO.out.alloc _) (by omega) (by simp; omega) ?_; intro A' c' w4 ho4 hg4)
      have hlt : w2.heap.size < w3.heap.size := (Array.getElem?_eq_some_iff.1 HIT.out).1
      have hit4 : w4.heap[w2.heap.size]? = some (.stringIter s (i + k)) := by
        rw [hg4.block _ (by simp; omega) (own_iter (HO.out) HIT.out), Below.heap_alloc _ _ _ hlt]
        exact HIT.out
      go_roundw
      case rel =>
        refine ⟨i + k, ys ++ [(p : Int)], A', c', by rw [List.length_append]; rfl, hit4, by omega, by rw [List.length_append, List.length_cons, List.length_nil]; omega, ?_, ho4, ?_⟩
        · rw [← HYS.out, HPC.out, List.append_assoc, List.drop_drop]; rfl
        · exact (HB.out.alloc (by omega) _).grown hg4 (by simp; omega) (fun i hi => (own_lt HO.out hi).1)
      case measure =>
        simp only [World.iterPos, hit4, HIW.out]
        omega
    · have hnx : ∀ ty, (Instr.next (.pointer (some ⟨w2.heap.size, 0, none⟩)) true ty).run Tryd.prog wr = _ := fun ty => Lib.run_next_end_at wr w2.heap.size s i ty hit hp
      have hy : ys = ints (ptsL s.data.toList) := by
        have := HYS.out
        rw [List.drop_of_length_le (by rw [size_toL]; omega), ptsL_nil] at this
        simpa [ints] using this
      have hyl : ys.length = (ptsL s.data.toList).length := by rw [hy, ints_length]
      have HY := Lib.hid hy
      have HYL := Lib.hid hyl
      clear hy hyl
      go_wp2_with fail
      go_ret
      exact ⟨A, c, by rw [← HYL.out]; rfl, by rw [← HYL.out, ← HY.out]; exact hown, hb⟩

set_option maxRecDepth 20000 in
set_option maxHeartbeats 2000000 in
theorem tfold_any {w : World} (s : ByteArray) (hs : s.size ≤ 1000000) :
    Calls Tryd.prog 17 #[.string s] w fun r w' => r = .returned (.string ⟨(foldL s.data.toList).toArray⟩) ∧ Below w.heap.size w w' := by
  have HSL := Lib.hid (size_toL s)
  have HF : Hid (∀ (w : World) (c : UInt8), Calls Tryd.prog 32 #[.int .u8 (c.toNat : Int)] w fun r w' => r = .returned (.int .u8 ((foldB c).toNat : Int)) ∧ w = w') := fun w c => fold_any c
  have HG := Lib.hid (grow_any (w := w.alloc (.cells #[.pointer none, .slice none 0 0] 42)) w.heap.size w.heap.size s.size (Nat.le_refl _) (heap_alloc_new w _) (by simp) (by omega))
  have HB0 : Hid (Below w.heap.size w (w.alloc (.cells #[.pointer none, .slice none 0 0] 42))) := (Below.refl _ w).alloc (Nat.le_refl _) _
  go_enter Tryd.func17, Tryd.ntmps17
  go_wp2_with fail
  refine HG.out.mono ?_
  rintro r w1 ⟨rfl, hbl, hb1⟩
  have HBL := Lib.hid hbl
  have HB1 := Lib.hid (HB0.out.trans hb1)
  clear hbl hb1
  go_wp2_with fail
  go_loopw [10] (fun x10 wr => ∃ (k : Nat) (ys : List UInt8), k ≤ s.size ∧ x10 = .int .i64 (k : Int) ∧ ys.length = k ∧ ys = foldL (s.data.toList.take k) ∧ Bld w.heap.size w.heap.size ys wr ∧ Below w.heap.size w wr) (fun i _ => s.size - (intOf i).toNat)
  case atStart => exact ⟨0, [], Nat.zero_le _, rfl, rfl, by simp [foldL], HBL.out, HB1.out⟩
  case round =>
    obtain ⟨k, ys, hk, rfl, hyl, hys, hbl, hb⟩ := hrel
    have HYS := Lib.hid hys
    have HYL := Lib.hid hyl
    have hyle : ys.length ≤ s.size := by omega
    have hsz := hb.size
    have HBL := Lib.hid hbl
    have HB := Lib.hid hb
    clear hys hyl hbl hb
    by_cases hlt : k < s.size
    · have ik : (k : Int) < (s.size : Int) := by omega
      have HFT : Hid (foldL (s.data.toList.take (k + 1)) = foldL (s.data.toList.take k) ++ [foldB s[k]]) := fold_take (by rw [HSL.out]; exact hlt)
      have HWB := Lib.hid (fun c => write_byte (w := wr) w.heap.size w.heap.size ys c HBL.out (by omega) hsz)
      go_wp2_with fail
      refine (HF.out _ _).mono ?_
      rintro r w2 ⟨rfl, rfl⟩
      go_wp2_with fail
      refine (HWB.out _).mono ?_
      rintro r w2 ⟨rfl, hbl2, hb2, _⟩
      go_wp2_with fail
      go_roundw
      case rel => exact ⟨k + 1, ys ++ [foldB s[k]], by omega, by go_num, by rw [List.length_append, HYL.out]; rfl, by rw [HFT.out, ← HYS.out], hbl2, HB.out.trans hb2⟩
      case measure => simp [intOf]; omega
    · obtain rfl : k = s.size := by omega
      have hfull : ys = foldL s.data.toList := by rw [HYS.out, List.take_of_length_le (by rw [HSL.out]; exact Nat.le_refl _)]
      have HFU := Lib.hid hfull
      clear hfull
      go_wp2_with fail
      refine (built w.heap.size w.heap.size ys HBL.out hsz).mono ?_
      rintro r w2 ⟨rfl, hb2⟩
      go_wp2_with fail
      go_ret
      exact ⟨by rw [← HFU.out]; rfl, HB.out.trans hb2⟩
end Go.Proofs.YtbbpfehfceapbaaDoor
