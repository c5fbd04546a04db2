/-
  The walk of TextParts.
-/
import Derived.Test.YtbbpfehfceapbaaDoorLawT
import Derived.Test.YtbbpfehfceapbaaDoorRefU
namespace Go.Proofs.YtbbpfehfceapbaaDoor
set_option linter.unusedSimpArgs false
set_option linter.unusedVariables false
open Go.RowKit

theorem sub_named {w : World} (s A : ByteArray) (F N : Int) (k n : Nat) (hF : F.toNat = k) (hN : N.toNat = n) (hA : A.data.toList = subL s.data.toList k n) (hs : s.size ≤ 1000000) (hF1 : -9223372036854775808 ≤ F) (hF2 : F ≤ 9223372036854775807) (hN1 : -9223372036854775808 ≤ N) (hN2 : N ≤ 9223372036854775807) :
    Calls Tryd.prog 15 #[.string s, .int .i64 F, .int .i64 N] w fun r w' => r = .returned (.string A) ∧ Below w.heap.size w w' := by
  subst hF hN
  have := tsub_any (w := w) s F N hs hF1 hF2 hN1 hN2
  rw [← str_eq hA] at this
  exact this
theorem len_named {w : World} (s : ByteArray) (m : Nat) (h : (ptsL s.data.toList).length = m) (hs : s.size ≤ 1000000) :
    Calls Tryd.prog 13 #[.string s] w fun r w' => r = .returned (.int .i64 (m : Int)) ∧ Below w.heap.size w w' := by
  subst h
  exact len_any s hs
theorem subL_le (l : List UInt8) (k n : Nat) : (subL l k n).length ≤ l.length := by
  unfold subL
  rw [List.length_take, List.length_drop]
  omega

set_option maxRecDepth 20000 in
set_option maxHeartbeats 2000000 in
theorem textParts_walk {w : World} (s : ByteArray) (n : UInt8) (hT : Tabs w) :
    Calls Tryd.prog 6 #[.string s, .int .u8 (n.toNat : Int)] w fun r w' => r = .returned (.bool true) ∧ Below w.heap.size w w' := by
  have HT := Lib.hid hT
  have hn : n.toNat < 256 := UInt8.toNat_lt _
  clear hT
  by_cases hs : 2000 < s.size
  · have is : (2000 : Int) < (s.size : Int) := by omega
    go_enter Tryd.func6, Tryd.ntmps6
    go_wp2_with fail
    refine (awake8_any HT.out).mono ?_
    rintro r w1 ⟨rfl, b1⟩
    have HB1 := Lib.hid b1
    clear b1
    go_wp2_with fail
    refine (awake8_any (HT.out.on HB1.out)).mono ?_
    rintro r w2 ⟨rfl, b2⟩
    go_wp2_with fail
    go_ret
    exact ⟨rfl, below_on HB1.out b2⟩
  · have is : ¬ (2000 : Int) < (s.size : Int) := by omega
    have hs6 : s.size ≤ 1000000 := by omega
    generalize n.toNat = k at *
    obtain ⟨m, hm⟩ : ∃ m, (ptsL s.data.toList).length = m := ⟨_, rfl⟩
    obtain ⟨A, hA⟩ : ∃ A : ByteArray, A.data.toList = subL s.data.toList 0 k := ⟨⟨(subL s.data.toList 0 k).toArray⟩, rfl⟩
    obtain ⟨B, hB⟩ : ∃ B : ByteArray, B.data.toList = subL s.data.toList k s.size := ⟨⟨(subL s.data.toList k s.size).toArray⟩, rfl⟩
    have hab : A ++ B = s := by
      rw [str_eq (t := A ++ B) rfl, str_eq (t := s) rfl, app_toL, hA, hB, sub_parts _ _ (by rw [size_toL]; exact Nat.le_refl _)]
    have hAl := subL_le s.data.toList 0 k
    have hBl := subL_le s.data.toList k s.size
    rw [← hA, size_toL, size_toL] at hAl
    rw [← hB, size_toL, size_toL] at hBl
    have hA6 : A.size ≤ 1000000 := by omega
    have hB6 : B.size ≤ 1000000 := by omega
    have hpa : (ptsL A.data.toList).length = min k m := by rw [hA, pts_sub, List.drop_zero, List.length_take, hm]
    have hpb : (ptsL B.data.toList).length = m - k := by
      rw [hB, pts_sub, List.length_take, List.length_drop, hm]
      have := pts_le s.data.toList
      rw [size_toL, hm] at this
      omega
    have hkz : (k : Int).toNat = k := by omega
    have hm6 : m ≤ 1000000 := by
      have := pts_le s.data.toList
      rw [size_toL, hm] at this
      omega
    have HSA := Lib.hid (fun w => sub_named (w := w) s A 0 (k : Int) 0 k rfl hkz hA hs6 (by omega) (by omega) (by omega) (by omega))
    have HSB := Lib.hid (fun w => sub_named (w := w) s B (k : Int) (s.size : Int) k s.size hkz (by omega) hB hs6 (by omega) (by omega) (by omega) (by omega))
    have HLA := Lib.hid (fun w => len_named (w := w) A _ hpa hA6)
    have HLB := Lib.hid (fun w => len_named (w := w) B _ hpb hB6)
    have HLS := Lib.hid (fun w => len_named (w := w) s m hm hs6)
    have hsum : ((min k m : Nat) : Int) + ((m - k : Nat) : Int) = (m : Int) := by omega
    have hA3 : ∃ kk : Nat, min k m = kk ∧ kk ≤ 255 ∧ A.data.toList = subL s.data.toList 0 kk ∧ ((m < k ∧ kk = m) ∨ (k ≤ m ∧ kk = k)) := by
      rcases Nat.lt_or_ge m k with h | h
      · refine ⟨m, by omega, by omega, ?_, Or.inl ⟨h, rfl⟩⟩
        rw [hA, sub_start, sub_start, off_all k _ (by omega), off_all m _ (by omega)]
      · exact ⟨k, by omega, by omega, hA, Or.inr ⟨h, rfl⟩⟩
    obtain ⟨kk, hmin, hkk, hA3, hcase⟩ := hA3
    have HS3 := Lib.hid (fun w => sub_named (w := w) s A (-3) (kk : Int) 0 kk rfl (by omega) hA3 hs6 (by omega) (by omega) (by omega) (by omega))
    rw [hmin] at HLA hsum
    clear hpa hpb hA hB hA3 hm hmin hkz
    generalize m - k = kb at *
    have ikb : 0 ≤ (kb : Int) := by omega
    rcases hcase with ⟨hlt, rfl⟩ | ⟨hge, rfl⟩
    · have ilt : (kk : Int) < (k : Int) := by omega
      go_enter Tryd.func6, Tryd.ntmps6
      go_wp2_with fail
      refine (awake8_any HT.out).mono ?_
      rintro r w1 ⟨rfl, b1⟩
      have HB1 := Lib.hid b1
      clear b1
      go_wp2_with fail
      refine (HSA.out _).mono ?_
      rintro r w2 ⟨rfl, b2⟩
      have HB2 := Lib.hid (below_on HB1.out b2)
      clear b2
      go_wp2_with fail
      refine (HSB.out _).mono ?_
      rintro r w3 ⟨rfl, b3⟩
      have HB3 := Lib.hid (below_on HB2.out b3)
      clear b3
      go_wp2_with fail
      refine (HLA.out _).mono ?_
      rintro r w4 ⟨rfl, b4⟩
      have HB4 := Lib.hid (below_on HB3.out b4)
      clear b4
      go_wp2_with fail
      refine (HLB.out _).mono ?_
      rintro r w5 ⟨rfl, b5⟩
      have HB5 := Lib.hid (below_on HB4.out b5)
      clear b5
      go_wp2_with fail
      refine (HLS.out _).mono ?_
      rintro r w6 ⟨rfl, b6⟩
      have HB6 := Lib.hid (below_on HB5.out b6)
      clear b6
      go_wp2_with fail
      refine (HLS.out _).mono ?_
      rintro r w7 ⟨rfl, b7⟩
      have HB7 := Lib.hid (below_on HB6.out b7)
      clear b7
      go_wp2_with fail
      refine (HLS.out _).mono ?_
      rintro r w8 ⟨rfl, b8⟩
      have HB8 := Lib.hid (below_on HB7.out b8)
      clear b8
      go_wp2_with fail
      refine (HLA.out _).mono ?_
      rintro r w9 ⟨rfl, b9⟩
      have HB9 := Lib.hid (below_on HB8.out b9)
      clear b9
      go_wp2_with fail
      refine (HS3.out _).mono ?_
      rintro r w10 ⟨rfl, b10⟩
      have HB10 := Lib.hid (below_on HB9.out b10)
      clear b10
      go_wp2_with fail
      go_ret
      exact ⟨rfl, HB10.out⟩
    · have ilt : ¬ (m : Int) < (kk : Int) := by omega
      go_enter Tryd.func6, Tryd.ntmps6
      go_wp2_with fail
      refine (awake8_any HT.out).mono ?_
      rintro r w1 ⟨rfl, b1⟩
      have HB1 := Lib.hid b1
      clear b1
      go_wp2_with fail
      refine (HSA.out _).mono ?_
      rintro r w2 ⟨rfl, b2⟩
      have HB2 := Lib.hid (below_on HB1.out b2)
      clear b2
      go_wp2_with fail
      refine (HSB.out _).mono ?_
      rintro r w3 ⟨rfl, b3⟩
      have HB3 := Lib.hid (below_on HB2.out b3)
      clear b3
      go_wp2_with fail
      refine (HLA.out _).mono ?_
      rintro r w4 ⟨rfl, b4⟩
      have HB4 := Lib.hid (below_on HB3.out b4)
      clear b4
      go_wp2_with fail
      refine (HLB.out _).mono ?_
      rintro r w5 ⟨rfl, b5⟩
      have HB5 := Lib.hid (below_on HB4.out b5)
      clear b5
      go_wp2_with fail
      refine (HLS.out _).mono ?_
      rintro r w6 ⟨rfl, b6⟩
      have HB6 := Lib.hid (below_on HB5.out b6)
      clear b6
      go_wp2_with fail
      refine (HLS.out _).mono ?_
      rintro r w7 ⟨rfl, b7⟩
      have HB7 := Lib.hid (below_on HB6.out b7)
      clear b7
      go_wp2_with fail
      refine (HLA.out _).mono ?_
      rintro r w8 ⟨rfl, b8⟩
      have HB8 := Lib.hid (below_on HB7.out b8)
      clear b8
      go_wp2_with fail
      refine (HS3.out _).mono ?_
      rintro r w9 ⟨rfl, b9⟩
      have HB9 := Lib.hid (below_on HB8.out b9)
      clear b9
      go_wp2_with fail
      go_ret
      exact ⟨rfl, HB9.out⟩
end Go.Proofs.YtbbpfehfceapbaaDoor
