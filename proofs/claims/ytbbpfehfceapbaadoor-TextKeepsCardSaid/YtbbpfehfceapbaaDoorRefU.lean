/-
  The document's Sub of layer 8.
-/
import Derived.Test.YtbbpfehfceapbaaDoorRefY
namespace Go.Proofs.YtbbpfehfceapbaaDoor
set_option linter.unusedSimpArgs false
set_option linter.unusedVariables false
open Go.RowKit

theorem sub_nil (k n : Nat) : subL [] k n = [] := by simp [subL]
theorem sub_zero (l : List UInt8) (k : Nat) : subL l k 0 = [] := by simp [subL, offL]
theorem sub_skip {l : List UInt8} (h : l ≠ []) (k n : Nat) : subL l (k + 1) n = subL (l.drop (ptL l).2) k n := by
  unfold subL
  rw [off_succ h, ← List.drop_drop]
theorem sub_more {l : List UInt8} (h : l ≠ []) (n : Nat) : subL l 0 (n + 1) = l.take (ptL l).2 ++ subL (l.drop (ptL l).2) 0 n := by
  rw [sub_start, sub_start, off_succ h, List.take_add]
theorem app_toL (a b : ByteArray) : (a ++ b).data.toList = a.data.toList ++ b.data.toList := by
  rw [ByteArray.data_append, Array.toList_append]
theorem app_size (a b : ByteArray) : (a ++ b).size = a.size + b.size := by
  rw [← size_toL, app_toL, List.length_append, size_toL, size_toL]

set_option maxRecDepth 20000 in
set_option maxHeartbeats 1000000 in
theorem refSub_any {w : World} (s : ByteArray) (F N : Int) (hs : s.size ≤ 1000000) (hF1 : -9223372036854775808 ≤ F) (hF2 : F ≤ 9223372036854775807) (hN1 : -9223372036854775808 ≤ N) (hN2 : N ≤ 9223372036854775807) :
    Calls Tryd.prog 16 #[.string s, .int .i64 F, .int .i64 N] w fun r w' => r = .returned (.string ⟨(subL s.data.toList F.toNat N.toNat).toArray⟩) ∧ ∃ m, w' = w.drewN m := by
  obtain ⟨v, hv⟩ : ∃ v, subL s.data.toList F.toNat N.toNat = v := ⟨_, rfl⟩
  rw [hv]
  go_enter Tryd.func16, Tryd.ntmps16
  go_wp2_with fail
  go_loopw [0, 2, 7, 8] (fun x0 x2 x7 x8 wr => ∃ (t o : ByteArray) (n : Int) (a m : Nat), x0 = .string t ∧ x2 = .int .i64 n ∧ x7 = .string o ∧ x8 = .int .i64 (a : Int) ∧ o.size + t.size ≤ s.size ∧ a + t.size ≤ s.size ∧
    -9223372036854775808 ≤ n ∧ n ≤ 9223372036854775807 ∧ o.data.toList ++ subL t.data.toList (F.toNat - a) n.toNat = v ∧ wr = w.drewN m) (fun x0 _ _ _ _ => (match x0 with | .string t => t.size | _ => 0))
  case atStart => exact ⟨s, ⟨#[]⟩, N, 0, 0, rfl, rfl, rfl, rfl, Nat.le_of_eq (Nat.zero_add _), by omega, hN1, hN2, by rw [Nat.sub_zero, ← hv]; rfl, rfl⟩
  case round =>
    obtain ⟨t, o, n, a, m, rfl, rfl, rfl, rfl, hot, hat, hn1, hn2, hinv, rfl⟩ := hrel
    have HI := Lib.hid hinv
    clear hinv
    by_cases h0 : 0 < t.size
    · have hne := size_ne h0
      have hk1 := ptL_pos t.data.toList
      have hk2 := ptL_le hne
      rw [size_toL] at hk2
      have HSK : Hid (∀ j i, subL t.data.toList (j + 1) i = subL (t.data.toList.drop (ptL t.data.toList).2) j i) := sub_skip hne
      have HMO : Hid (∀ i, subL t.data.toList 0 (i + 1) = t.data.toList.take (ptL t.data.toList).2 ++ subL (t.data.toList.drop (ptL t.data.toList).2) 0 i) := sub_more hne
      have HEX := Lib.hid (ext_toL t (ptL t.data.toList).2)
      have HEH := Lib.hid (ext_head t (ptL t.data.toList).2)
      have hpt := fun w0 => point_any (w := w0) t h0 (by omega)
      have HPT := Lib.hid hpt
      clear hpt hne
      generalize (ptL t.data.toList).1 = p at *
      generalize (ptL t.data.toList).2 = k at *
      have hxs : (t.extract k t.size).size = t.size - k := by rw [← size_toL, HEX.out, List.length_drop, size_toL]
      have hxh : (t.extract 0 k).size = k := by rw [← size_toL, HEH.out, List.length_take, size_toL]; omega
      have HXS := Lib.hid hxs
      have HXH := Lib.hid hxh
      have ik : (k : Int) ≤ (t.size : Int) := by omega
      clear hxs hxh
      go_wp2_with fail
      refine (HPT.out _).mono ?_
      rintro r w1 ⟨rfl, m1, rfl⟩
      by_cases h1 : F ≤ (a : Int)
      · by_cases h2 : 0 < n
        · obtain ⟨i, hi⟩ : ∃ i : Nat, n.toNat = i + 1 := ⟨n.toNat - 1, by omega⟩
          have hi2 : (n - 1).toNat = i := by omega
          have HJ : Hid (F.toNat - a = 0 ∧ F.toNat - (a + 1) = 0) := ⟨by omega, by omega⟩
          have HII := Lib.hid hi
          have HI2 := Lib.hid hi2
          clear hi hi2
          have hle : (t.extract 0 k).size ≤ 1000000 := by rw [HXH.out]; omega
          go_wp2_with fail
          go_roundw
          case rel =>
            refine ⟨t.extract k t.size, o ++ t.extract 0 k, n - 1, a + 1, _, rfl, by go_num, rfl, by go_num, by rw [app_size, HXS.out, HXH.out]; omega, by rw [HXS.out]; omega, by omega, by omega, ?_, by first | rfl | rw [World.drewN_drewN]⟩
            rw [HJ.out.2, HI2.out, app_toL, HEX.out, HEH.out, List.append_assoc, ← HMO.out, ← HII.out, ← HJ.out.1]
            exact HI.out
          case measure =>
            show (t.extract k t.size).size < t.size
            rw [HXS.out]; omega
        · have HZ : Hid (n.toNat = 0) := by unfold Hid; omega
          go_wp2_with fail
          go_roundw
          case rel =>
            refine ⟨t.extract k t.size, o, n, a + 1, _, rfl, rfl, rfl, by go_num, by rw [HXS.out]; omega, by rw [HXS.out]; omega, by omega, by omega, ?_, by first | rfl | rw [World.drewN_drewN]⟩
            rw [HZ.out, sub_zero, ← HI.out, HZ.out, sub_zero]
          case measure =>
            show (t.extract k t.size).size < t.size
            rw [HXS.out]; omega
      · have HJ : Hid (F.toNat - a = F.toNat - (a + 1) + 1) := by unfold Hid; omega
        go_wp2_with fail
        go_roundw
        case rel =>
          refine ⟨t.extract k t.size, o, n, a + 1, _, rfl, rfl, rfl, by go_num, by rw [HXS.out]; omega, by rw [HXS.out]; omega, by omega, by omega, ?_, by first | rfl | rw [World.drewN_drewN]⟩
          rw [HEX.out, ← HSK.out, ← HJ.out]
          exact HI.out
        case measure =>
          show (t.extract k t.size).size < t.size
          rw [HXS.out]; omega
    · have ht0 : t.data.toList = [] := List.eq_nil_of_length_eq_zero (by rw [size_toL]; omega)
      have hy : o.data.toList = v := by
        have := HI.out
        rw [ht0, sub_nil, List.append_nil] at this
        exact this
      have HY := Lib.hid hy
      clear hy ht0
      go_wp2_with fail
      go_ret
      exact ⟨by rw [← HY.out]; rfl, m, rfl⟩
end Go.Proofs.YtbbpfehfceapbaaDoor
