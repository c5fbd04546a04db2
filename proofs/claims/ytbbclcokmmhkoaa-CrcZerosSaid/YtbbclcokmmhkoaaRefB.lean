/-
  The document's own sum and seal of layer 2.
-/
import Derived.Test.YtbbclcokmmhkoaaCrcM
import Derived.Test.YtbbclcokmmhkoaaByt
import Derived.Laws.BitsAll
namespace Go.Proofs.Ytbbclcokmmhkoaa
set_option linter.unusedSimpArgs false
set_option linter.unusedVariables false
open Go.RowKit

theorem xor_byte (s : BitVec 32) (x : UInt8) : bits .xor .u32 (bn s) (x.toNat : Int) = bn (s ^^^ cbyte x) := by
  have hs := s.isLt
  have hx := UInt8.toNat_lt x
  unfold bn
  rw [u32_xor_nat _ _ hs (by omega), BitVec.toNat_xor]
  unfold cbyte
  rw [BitVec.toNat_ofNat, Nat.mod_eq_of_lt (by omega)]
theorem xor_cdiv {s : BitVec 32} (h : bn s % 2 = 1) : bits .xor .u32 (bn s / 2) 3988292384 = bn (cstep s) := by
  have hs := s.isLt
  unfold bn at *
  rw [show ((s.toNat : Int) / 2) = ((s.toNat / 2 : Nat) : Int) from by omega, show (3988292384 : Int) = ((3988292384 : Nat) : Int) from rfl, u32_xor_nat _ _ (by omega) (by omega), cstep_odd (by omega)]

set_option maxHeartbeats 400000 in
theorem refOf_any {w : World} (bs : List UInt8) {lo h' : Nat} {A : Option Addr} {c : Nat} (h : Rd w lo h' A c (bv bs)) :
    Calls Try.prog 10 #[.slice A bs.length c] w fun r w' => r = .returned (.int .u32 (bn (crcL bs))) ∧ w = w' := by
  have hl := h.len
  have hc := h.cap
  rw [bv_length] at hl
  unfold maxLen at hc
  have H := Lib.hid h
  clear h
  go_enter Try.func10, Try.ntmps10
  go_wp2_with fail
  go_loop [3, 4] (fun s i => ∃ k : Nat, k ≤ bs.length ∧ i = .int .i64 (k : Int) ∧ s = .int .u32 (bn (cfold call1 (bs.take k)))) (fun _ i => bs.length - (intOf i).toNat)
  case atStart => exact ⟨0, Nat.zero_le _, rfl, rfl⟩
  case round =>
    obtain ⟨k, hk, rfl, rfl⟩ := hrel
    by_cases hlt : k < bs.length
    · have hsn : Hid (cfold call1 (bs.take (k + 1)) = cupd (cfold call1 (bs.take k)) bs[k]) := by
        unfold Hid
        rw [List.take_succ_eq_append_getElem hlt, cfold_snoc]
      obtain ⟨b, off, rfl, _, _, hcell⟩ := H.out.byte hlt
      have hs := bn_bd (cfold call1 (bs.take k))
      have hx := UInt8.toNat_lt bs[k]
      have hxor := xor_byte (cfold call1 (bs.take k)) bs[k]
      generalize cfold call1 (bs.take k) = s at *
      generalize bs[k] = x at *
      go_wp2
      clear hxor hs hcell
      go_loop [5, 3] (fun j q => ∃ n : Nat, n ≤ 8 ∧ j = .int .i64 (n : Int) ∧ q = .int .u32 (bn (cstepN n (s ^^^ cbyte x)))) (fun j _ => 8 - (intOf j).toNat)
      case atStart => exact ⟨0, Nat.zero_le _, rfl, rfl⟩
      case round =>
        obtain ⟨n, hn, rfl, rfl⟩ := hrel
        by_cases hlt8 : n < 8
        · have hq := bn_bd (cstepN n (s ^^^ cbyte x))
          by_cases hodd : bn (cstepN n (s ^^^ cbyte x)) % 2 = 1
          · have hst := xor_cdiv hodd
            rw [cstepN_succ] at hst
            generalize cstepN n (s ^^^ cbyte x) = q at *
            generalize hq' : bn (cstepN (n + 1) (s ^^^ cbyte x)) = q' at hst
            have HQ := Lib.hid hq'
            clear hq'
            go_wp2
            go_round
            case rel => exact ⟨n + 1, by omega, by go_num, by rw [HQ.out]⟩
            case measure => simp [intOf]; omega
          · have hodd0 : bn (cstepN n (s ^^^ cbyte x)) % 2 = 0 := by omega
            have hst := bn_even hodd0
            rw [cstepN_succ] at hst
            have HQ := Lib.hid hst
            clear hodd hst
            generalize cstepN n (s ^^^ cbyte x) = q at *
            go_wp2
            go_round
            case rel => exact ⟨n + 1, by omega, by go_num, by rw [HQ.out]⟩
            case measure => simp [intOf]; omega
        · obtain rfl : n = 8 := by omega
          go_wp2
          go_round
          case rel => exact ⟨k + 1, by omega, by go_num, by rw [hsn.out]; rfl⟩
          case measure => simp [intOf]; omega
    · obtain rfl : k = bs.length := by omega
      have hs := bn_bd (cfold call1 (bs.take bs.length))
      have hnot := bn_not (cfold call1 (bs.take bs.length))
      have HE : Hid (cfold call1 (bs.take bs.length) ^^^ call1 = crcL bs) := by
        unfold Hid crcL
        rw [List.take_length]
      generalize cfold call1 (bs.take bs.length) = s at *
      go_wp2
      go_ret
      exact ⟨ret_int' (by rw [HE.out]), rfl⟩

theorem crcB_cells (s : BitVec 32) : bv (crcB s) = [.int .u8 (bn s % 256), .int .u8 (bn s / 256 % 256), .int .u8 (bn s / 65536 % 256), .int .u8 (bn s / 16777216)] := by
  have h := congrArg (List.map fun n => Value.int .u8 n) (crcB_nums s)
  rw [List.map_map] at h
  exact h

set_option maxHeartbeats 400000 in
theorem refSeal_any {w : World} (bs : List UInt8) {lo h' : Nat} {A : Option Addr} {c : Nat} (h : Rd w lo h' A c (bv bs)) (hh : h' ≤ w.heap.size) (hb : bs.length ≤ 100000) :
    Calls Try.prog 13 #[.slice A bs.length c] w fun r w' => ∃ A' c', r = .returned (.slice A' (sealL bs).length c') ∧
      w'.ownsRow w.heap.size 5 1 (.slice A' (sealL bs).length c') (sealL bs).length (bv (sealL bs)) ∧ Below w.heap.size w w' := by
  have hs := bn_bd (crcL bs)
  have H := Lib.hid h
  obtain ⟨A1, c1, w1, hrun, hown, hg1⟩ := append_bytes (w.alloc (.cells #[] 5)) w.heap.size (.slice (some ⟨w.heap.size, 0, none⟩) 0 0) [] bs (own_lit w [] #[] rfl (by simp)) (h.alloc hh _) (by simp; omega) (by simp)
  simp only [List.length_nil, Nat.zero_add, List.nil_append] at hrun hown
  clear h
  have k1 : Below w.heap.size w w1 := ((Below.refl _ _).alloc (Nat.le_refl _) _).grown hg1 (by simp) (by simp [Value.ownBlock])
  have HO := Lib.hid hown
  have HK1 := Lib.hid k1
  have s1 := k1.size
  clear hown hg1 k1
  have h4 := own_lit w1 (crcB (crcL bs)) #[.int .u8 (bn (crcL bs) % 256), .int .u8 (bn (crcL bs) / 256 % 256), .int .u8 (bn (crcL bs) / 65536 % 256), .int .u8 (bn (crcL bs) / 16777216)] (by rw [crcB_cells]) (by simp [crcB_length])
  obtain ⟨A2, c2, w2, hrun2, hown2, hg2⟩ := append_named (w1.alloc (.cells #[.int .u8 (bn (crcL bs) % 256), .int .u8 (bn (crcL bs) / 256 % 256), .int .u8 (bn (crcL bs) / 65536 % 256), .int .u8 (bn (crcL bs) / 16777216)] 5)) w.heap.size _ bs (crcB (crcL bs)) (sealL bs) rfl (HO.out.alloc _) (Rd.own h4) (by rw [crcB_length]; omega) (by simp; omega)
  have HO2 := Lib.hid hown2
  have HG2 := Lib.hid hg2
  clear hown2 hg2 h4
  rw [crcB_length] at hrun2
  go_enter Try.func13, Try.ntmps13
  go_wp2_with fail
  refine (refOf_any bs H.out).mono ?_
  rintro r w' ⟨rfl, rfl⟩
  go_wp2_with (at_builtin; refine wpList_append_run rfl _ _ _ _ rfl rfl rfl hrun ?_; refine held ?_)
  refine ⟨?_⟩
  clear hrun
  go_wp2_with (at_builtin; refine wpList_append_run rfl _ _ _ _ rfl rfl rfl hrun2 ?_)
  go_ret
  refine ⟨A2, c2, rfl, HO2.out, ?_⟩
  refine ((HK1.out).alloc s1 _).grown HG2.out (by simp; omega) (fun k hk => own_row HO.out k hk)

theorem refSeal_len {w : World} {n : Nat} (bs xs : List UInt8) {lo h' : Nat} {A : Option Addr} {c : Nat} (h : Rd w lo h' A c (bv bs)) (hh : h' ≤ w.heap.size) (hn : n ≤ bs.length) (hx : bs.take n = xs) (hb : bs.length ≤ 100000) :
    Calls Try.prog 13 #[.slice A n c] w fun r w' => ∃ A' c', r = .returned (.slice A' (sealL xs).length c') ∧
      w'.ownsRow w.heap.size 5 1 (.slice A' (sealL xs).length c') (sealL xs).length (bv (sealL xs)) ∧ Below w.heap.size w w' := by
  subst hx
  have h1 := refSeal_any (w := w) (bs.take n) (A := A) (c := c) (lo := lo) (h' := h') (by rw [bv_take]; exact h.take_ n) hh (by rw [List.length_take]; omega)
  rwa [List.length_take, Nat.min_eq_left hn] at h1
end Go.Proofs.Ytbbclcokmmhkoaa
