/-
  The text package: parts of strings; how strings compare, folded, and by points.
-/
import Derived.Test.YtbbpfehfceapbaaDoorTxC
namespace Go.Proofs.YtbbpfehfceapbaaDoor
set_option linter.unusedSimpArgs false
set_option linter.unusedVariables false
open Go.RowKit

theorem below_on {w w1 w2 : World} (h : Below w.heap.size w w1) (k : Below w1.heap.size w1 w2) : Below w.heap.size w w2 := h.trans (k.mono h.size)
theorem str_eq {t : ByteArray} {l : List UInt8} (h : t.data.toList = l) : t = ⟨l.toArray⟩ := by subst h; rfl

set_option maxRecDepth 20000 in
set_option maxHeartbeats 1000000 in
theorem tsub_any {w : World} (s : ByteArray) (F N : Int) (hs : s.size ≤ 1000000) (hF1 : -9223372036854775808 ≤ F) (hF2 : F ≤ 9223372036854775807) (hN1 : -9223372036854775808 ≤ N) (hN2 : N ≤ 9223372036854775807) :
    Calls Tryd.prog 15 #[.string s, .int .i64 F, .int .i64 N] w fun r w' => r = .returned (.string ⟨(subL s.data.toList F.toNat N.toNat).toArray⟩) ∧ Below w.heap.size w w' := by
  have hp := fun w => place_any (w := w) s F hs hF1 hF2
  have ho := off_le F.toNat s.data.toList
  rw [size_toL] at ho
  have ht := ext_toL s (offL F.toNat s.data.toList)
  unfold subL
  generalize offL F.toNat s.data.toList = o at *
  have io : (o : Int) ≤ (s.size : Int) := by omega
  have hts : (s.extract o s.size).size ≤ 1000000 := by rw [← size_toL, ht, List.length_drop, size_toL]; omega
  rw [← ht]
  have hq := fun w => place_any (w := w) (s.extract o s.size) N hts hN1 hN2
  have hu := off_le N.toNat (s.extract o s.size).data.toList
  rw [size_toL] at hu
  have hth := ext_head (s.extract o s.size) (offL N.toNat (s.extract o s.size).data.toList)
  have HP := Lib.hid hp
  have HQ := Lib.hid hq
  clear hp hq
  generalize offL N.toNat (s.extract o s.size).data.toList = u at *
  have iu : (u : Int) ≤ ((s.extract o s.size).size : Int) := by omega
  have hcs : ((s.extract o s.size).extract 0 u).size ≤ 281474976710656 := by rw [← size_toL, hth, List.length_take, size_toL]; omega
  have hc := fun w => clone_any (w := w) ((s.extract o s.size).extract 0 u) hcs
  have HC := Lib.hid hc
  have HE := Lib.hid (str_eq hth)
  clear hc hth ht hts hcs
  generalize hte : s.extract o s.size = t at *
  generalize hve : t.extract 0 u = v at *
  have HTE := Lib.hid hte
  have HVE := Lib.hid hve
  clear hte hve
  go_enter Tryd.func15, Tryd.ntmps15
  go_wp2_with fail
  refine (HP.out _).mono ?_
  rintro r w1 ⟨rfl, b1⟩
  go_wp2_with fail
  rw [HTE.out]
  refine (HQ.out _).mono ?_
  rintro r w2 ⟨rfl, b2⟩
  go_wp2_with fail
  rw [HVE.out]
  refine (HC.out _).mono ?_
  rintro r w3 ⟨rfl, b3⟩
  go_wp2_with fail
  go_ret
  exact ⟨by rw [← HE.out]; rfl, below_on (below_on b1 b2) b3⟩

theorem fold_at (l : List UInt8) (k : Nat) (h : k < l.length) : (foldL l)[k]'(by rw [foldL_length]; exact h) = foldB l[k] := by simp [foldL]
theorem cmpByte_lt {w : World} {x y : Int} (h : x < y) : Calls Tryd.prog 33 #[.int .u8 x, .int .u8 y] w fun r w' => r = .returned (.int .i64 (-1)) ∧ w = w' := by rw [← cmpI_lt h]; exact cmpByte_any x y
theorem cmpByte_gt {w : World} {x y : Int} (h : y < x) : Calls Tryd.prog 33 #[.int .u8 x, .int .u8 y] w fun r w' => r = .returned (.int .i64 1) ∧ w = w' := by rw [← cmpI_gt h]; exact cmpByte_any x y
theorem cmpByte_eq {w : World} {x y : Int} (h : x = y) : Calls Tryd.prog 33 #[.int .u8 x, .int .u8 y] w fun r w' => r = .returned (.int .i64 0) ∧ w = w' := by rw [← cmpI_eq h]; exact cmpByte_any x y

set_option maxRecDepth 20000 in
set_option maxHeartbeats 1000000 in
theorem byFold_any {w : World} (a b : ByteArray) (ha : a.size ≤ 1000000) (hb : b.size ≤ 1000000) :
    Calls Tryd.prog 19 #[.string a, .string b] w fun r w' => r = .returned (.int .i64 (cmpL (foldL a.data.toList) (foldL b.data.toList))) ∧ Below w.heap.size w w' := by
  obtain ⟨v, hv⟩ : ∃ v, cmpL (foldL a.data.toList) (foldL b.data.toList) = v := ⟨_, rfl⟩
  rw [hv]
  have hsa : (foldL a.data.toList).length = a.size := by rw [foldL_length, size_toL]
  have hsb : (foldL b.data.toList).length = b.size := by rw [foldL_length, size_toL]
  have fa : ∀ k (h : k < a.size), (foldL a.data.toList)[k]'(by rw [hsa]; exact h) = foldB a[k] := fun k h => fold_at _ k (by rw [size_toL]; exact h)
  have fb : ∀ k (h : k < b.size), (foldL b.data.toList)[k]'(by rw [hsb]; exact h) = foldB b[k] := fun k h => fold_at _ k (by rw [size_toL]; exact h)
  have HAT : Hid (∀ k (h1 : k < a.size) (h2 : k < b.size), (foldL a.data.toList).take k = (foldL b.data.toList).take k → foldB a[k] ≠ foldB b[k] → v = if (foldB a[k]).toNat < (foldB b[k]).toNat then -1 else 1) := fun k h1 h2 ht hne => by
    rw [← hv, cmpL_at ht (by omega) (by omega) (by rw [fa k h1, fb k h2]; exact hne), fa k h1, fb k h2]
  have HNX : Hid (∀ k (h1 : k < a.size) (h2 : k < b.size), (foldL a.data.toList).take k = (foldL b.data.toList).take k → foldB a[k] = foldB b[k] → (foldL a.data.toList).take (k + 1) = (foldL b.data.toList).take (k + 1)) := fun k h1 h2 ht he => by
    rw [List.take_succ_eq_append_getElem (by omega), List.take_succ_eq_append_getElem (by omega), ht, fa k h1, fb k h2, he]
  have HEND : Hid (∀ k, (foldL a.data.toList).take k = (foldL b.data.toList).take k → k = min a.size b.size → v = cmpI a.size b.size) := fun k ht hk => by
    rw [← hv, cmpL_end ht (by rw [hsa, hsb]; exact hk), hsa, hsb]
    unfold cmpI
    simp only [Int.ofNat_lt]
  clear hv hsa hsb fa fb
  rcases Nat.lt_or_ge b.size a.size with hlt | hlt
  all_goals
    go_enter Tryd.func19, Tryd.ntmps19
    go_wp2_with fail
    go_loopw [12] (fun x12 wr => ∃ k m : Nat, k ≤ a.size ∧ k ≤ b.size ∧ x12 = .int .i64 (k : Int) ∧ (foldL a.data.toList).take k = (foldL b.data.toList).take k ∧ wr = w.drewN m) (fun i _ => a.size - (intOf i).toNat)
    case atStart => exact ⟨0, 0, by omega, by omega, rfl, by simp, rfl⟩
    case round =>
      obtain ⟨k, m, hka, hkb, rfl, ht, rfl⟩ := hrel
      have HT := Lib.hid ht
      clear ht
      by_cases hl : k < a.size ∧ k < b.size
      · obtain ⟨h1, h2⟩ := hl
        have i1 : (k : Int) < (a.size : Int) := by omega
        have i2 : (k : Int) < (b.size : Int) := by omega
        have HA := Lib.hid (HAT.out k h1 h2 HT.out)
        have HN := Lib.hid (HNX.out k h1 h2 HT.out)
        clear HAT HNX
        have HF : Hid (∀ (w : World) (c : UInt8), Calls Tryd.prog 32 #[.int .u8 (c.toNat : Int)] w fun r w' => r = .returned (.int .u8 ((foldB c).toNat : Int)) ∧ w = w') := fun w c => fold_any c
        rcases Nat.lt_trichotomy (foldB a[k]).toNat (foldB b[k]).toNat with h3 | h3 | h3
        · have HC : Hid (∀ w, Calls Tryd.prog 33 #[.int .u8 ((foldB a[k]).toNat : Int), .int .u8 ((foldB b[k]).toNat : Int)] w fun r w' => r = .returned (.int .i64 (-1)) ∧ w = w') := fun w => cmpByte_lt (by omega)
          go_wp2_with fail
          go_quiet (first | (go_at_call 32; exact quiet_pure_on (HF.out _ _)) | (go_at_call 33; exact quiet_pure_on (HC.out _)))
          go_wp2_with fail
          go_ret
          exact ⟨ret_int' (by rw [HA.out (fun e => by rw [e] at h3; omega), if_pos h3]), below_drewN' (Below.refl _ _) _⟩
        · have he := UInt8.toNat_inj.1 h3
          have HC : Hid (∀ w, Calls Tryd.prog 33 #[.int .u8 ((foldB a[k]).toNat : Int), .int .u8 ((foldB b[k]).toNat : Int)] w fun r w' => r = .returned (.int .i64 0) ∧ w = w') := fun w => cmpByte_eq (by omega)
          have HE := Lib.hid he
          clear he h3
          go_wp2_with fail
          go_quiet (first | (go_at_call 32; exact quiet_pure_on (HF.out _ _)) | (go_at_call 33; exact quiet_pure_on (HC.out _)))
          go_wp2_with fail
          go_roundw
          case rel => exact ⟨k + 1, _, by omega, by omega, by go_num, HN.out HE.out, by first | rfl | (rw [World.drewN_drewN])⟩
          case measure => simp [intOf]; omega
        · have HC : Hid (∀ w, Calls Tryd.prog 33 #[.int .u8 ((foldB a[k]).toNat : Int), .int .u8 ((foldB b[k]).toNat : Int)] w fun r w' => r = .returned (.int .i64 1) ∧ w = w') := fun w => cmpByte_gt (by omega)
          go_wp2_with fail
          go_quiet (first | (go_at_call 32; exact quiet_pure_on (HF.out _ _)) | (go_at_call 33; exact quiet_pure_on (HC.out _)))
          go_wp2_with fail
          go_ret
          exact ⟨ret_int' (by rw [HA.out (fun e => by rw [e] at h3; omega), if_neg (by omega)]), below_drewN' (Below.refl _ _) _⟩
      · have hk : k = min a.size b.size := by omega
        have HV := Lib.hid (HEND.out k HT.out hk)
        have hnl : ¬ (k : Int) < min (a.size : Int) (b.size : Int) := by omega
        have hci := fun w => cmpInt_any (w := w) (a.size : Int) (b.size : Int)
        have HCI := Lib.hid hci
        clear hci
        go_wp2_with fail
        refine (HCI.out _).mono ?_
        rintro r w1 ⟨rfl, rfl⟩
        go_wp2_with fail
        go_ret
        exact ⟨ret_int' HV.out.symm, below_drewN' (Below.refl _ _) _⟩
end Go.Proofs.YtbbpfehfceapbaaDoor
