/-
  The pack's Get.
-/
import Derived.Test.YtfoadchengbedaaPakA
import Derived.Laws.BitsAll
namespace Go.Proofs.Ytfoadchengbedaa
set_option linter.unusedSimpArgs false
set_option linter.unusedVariables false
open Go.RowKit

theorem mod_shift (Y n r w : Nat) (h : r + w ≤ n) : Y % 2 ^ n / 2 ^ r % 2 ^ w = Y / 2 ^ r % 2 ^ w := by
  obtain ⟨d, rfl⟩ : ∃ d, n = r + (w + d) := ⟨n - r - w, by omega⟩
  rw [Nat.pow_add, Nat.mod_mul_right_div_self, Nat.pow_add, Nat.mod_mul_right_mod]
/-- what Get reads: at most five bytes -/
theorem get_word (bs : List UInt8) (p f M wd : Nat) (hf : p / 8 = f) (hM : min 5 (bs.length - f) = M) (hw : wd ≤ 32) :
    bval bs / 256 ^ f % 256 ^ M / 2 ^ (p % 8) % 2 ^ wd = bval bs / 2 ^ p % 2 ^ wd := by
  have e : bval bs / 2 ^ p = bval bs / 256 ^ f / 2 ^ (p % 8) := by
    rw [pow256, Nat.div_div_eq_div_mul, ← Nat.pow_add]
    congr 2
    omega
  rw [e]
  by_cases h5 : M = 5
  · subst h5
    rw [show (256 : Nat) ^ 5 = 2 ^ 40 from by decide]
    exact mod_shift _ 40 _ _ (by omega)
  · have hlt : bval bs / 256 ^ f < 256 ^ M := by
      by_cases hfl : f ≤ bs.length
      · apply Nat.div_lt_of_lt_mul
        rw [← Nat.pow_add, show f + M = bs.length from by omega]
        exact bval_lt bs
      · have h0 : bval bs / 256 ^ f = 0 := by rw [pow256]; exact bval_over bs _ (by omega)
        rw [h0]
        exact Nat.pow_pos (by omega)
    rw [Nat.mod_eq_of_lt hlt]
theorem get_next (bs : List UInt8) (f j : Nat) (h : f + j < bs.length) : bval bs / 256 ^ f % 256 ^ (j + 1) = bval bs / 256 ^ f % 256 ^ j + 2 ^ (8 * j) * bs[f + j].toNat := by
  rw [Nat.pow_succ, Nat.mod_mul, ← bval_at bs (f + j) h, pow256 j, Nat.pow_add, ← Nat.div_div_eq_div_mul, pow256 j]
theorem or_byte (W x j : Nat) (hW : W < 2 ^ (8 * j)) (hx : x < 256) (hj : j < 5) :
    bits .or .u64 (W : Int) (IntKind.u64.wrap ((x : Int) * 2 ^ (8 * j))) = ((W + 2 ^ (8 * j) * x : Nat) : Int) ∧ W + 2 ^ (8 * j) * x < 1099511627776 := by
  have hp : 2 ^ (8 * j) ≤ 2 ^ 32 := Nat.pow_le_pow_right (by omega) (by omega)
  have hb : 2 ^ (8 * j) * x ≤ 2 ^ 32 * 255 := Nat.mul_le_mul hp (by omega)
  have e2 : (2 : Int) ^ (8 * j) = ((2 ^ (8 * j) : Nat) : Int) := by norm_cast
  have e3 : IntKind.u64.wrap ((2 ^ (8 * j) * x : Nat) : Int) = ((2 ^ (8 * j) * x : Nat) : Int) := by rw [IntKind.wrap_u64]; omega
  refine ⟨?_, by omega⟩
  rw [e2, Int.mul_comm, ← Int.natCast_mul, e3, u64_or_nat _ _ (by omega) (by omega)]
  congr 1
  rw [Nat.or_comm, Nat.mul_comm, ← Nat.shiftLeft_eq, ← Nat.shiftLeft_add_eq_or_of_lt hW, Nat.add_comm]
theorem mask_at (W r wd : Nat) (hW : W < 1099511627776) (hw : wd ≤ 32) :
    wrap64 (bits .and .u64 ((W : Int) / 2 ^ r) (IntKind.u64.wrap (IntKind.u64.wrap ((2 : Int) ^ wd) - 1))) = ((W / 2 ^ r % 2 ^ wd : Nat) : Int) := by
  have hp : 2 ^ wd ≤ 2 ^ 32 := Nat.pow_le_pow_right (by omega) hw
  have hp0 : 0 < 2 ^ wd := Nat.two_pow_pos wd
  have e1 : (2 : Int) ^ wd = ((2 ^ wd : Nat) : Int) := by norm_cast
  have e2 : IntKind.u64.wrap ((2 ^ wd : Nat) : Int) = ((2 ^ wd : Nat) : Int) := by rw [IntKind.wrap_u64]; omega
  have e3 : IntKind.u64.wrap (((2 ^ wd : Nat) : Int) - 1) = ((2 ^ wd - 1 : Nat) : Int) := by rw [IntKind.wrap_u64]; omega
  have e4 : (W : Int) / 2 ^ r = ((W / 2 ^ r : Nat) : Int) := by push_cast; rfl
  have hq : W / 2 ^ r ≤ W := Nat.div_le_self _ _
  have hm := Nat.mod_lt (W / 2 ^ r) hp0
  rw [e1, e2, e3, e4, u64_and_nat _ _ (by omega) (by omega), Nat.and_two_pow_sub_one_eq_mod]
  exact IntWalk.wrap64_in _ (by omega)

def GetAt (bs : List UInt8) (f j W : Nat) : Prop := W = bval bs / 256 ^ f % 256 ^ j
theorem getAt_lt {bs : List UInt8} {f j W : Nat} (h : GetAt bs f j W) : W < 2 ^ (8 * j) := by
  rw [h, ← pow256]; exact Nat.mod_lt _ (Nat.pow_pos (by omega))

set_option maxRecDepth 20000 in
set_option maxHeartbeats 400000 in
theorem pget_any {w : World} (bs : List UInt8) (wd i : Nat) (hw : wd ≤ 32) (hi : i ≤ 1000000000000) (hb : bs.length ≤ 1000000000000) {lo h' : Nat} {A : Option Addr} {c : Nat} (h : Rd w lo h' A c (bv bs)) :
    Calls Try.prog 16 #[.slice A bs.length c, .int .i64 (wd : Int), .int .i64 (i : Int)] w fun r w' => r = .returned (.int .i64 (getN bs wd i : Int)) ∧ ∃ n, w.drewN n = w' := by
  have hl := h.len
  have hc := h.cap
  rw [bv_length] at hl
  unfold maxLen at hc
  have H := Lib.hid h
  clear h
  have HR : Hid (rightB (wd : Int) = true) := decide_eq_true (by omega)
  by_cases h0 : wd = 0
  · have HE : Hid (getN bs wd i = 0) := by unfold Hid getN; rw [h0, Nat.pow_zero, Nat.mod_one]
    have hb0 : ((wd : Int) == 0) = true := by rw [beq_iff_eq]; omega
    clear h0
    go_enter Try.func16, Try.ntmps16
    go_wp2_with fail
    refine (right_is _ true HR.out).mono ?_
    rintro r w' ⟨rfl, rfl⟩
    go_wp2
    go_ret
    exact ⟨ret_int' (by rw [HE.out]; rfl), 0, rfl⟩
  · have hb0 : ((wd : Int) == 0) = false := by rw [beq_eq_false_iff_ne]; omega
    have hwp : 1 ≤ (wd : Int) := by omega
    have hq : Hid (((bs.length : Int) * 8 / (wd : Int)) = ((bs.length * 8 / wd : Nat) : Int)) := by unfold Hid; push_cast; rfl
    by_cases hov : bs.length * 8 / wd < i
    · have hov' : (bs.length : Int) * 8 / (wd : Int) < (i : Int) := by rw [hq.out]; omega
      have HE : Hid (getN bs wd i = 0) := by
        unfold Hid getN
        rw [bval_over bs _ ?_, Nat.zero_mod]
        have := (Nat.div_lt_iff_lt_mul (show 0 < wd by omega)).1 hov
        rw [Nat.mul_comm wd]
        omega
      clear hov h0
      go_enter Try.func16, Try.ntmps16
      go_wp2_with fail
      refine (right_is _ true HR.out).mono ?_
      rintro r w' ⟨rfl, rfl⟩
      go_wp2
      go_ret
      exact ⟨ret_int' (by rw [HE.out]; rfl), 0, rfl⟩
    · have hov' : (i : Int) ≤ (bs.length : Int) * 8 / (wd : Int) := by rw [hq.out]; omega
      have hp8 : i * wd ≤ bs.length * 8 := (Nat.le_div_iff_mul_le (show 0 < wd by omega)).1 (by omega)
      have hp : (i : Int) * (wd : Int) = ((i * wd : Nat) : Int) := (Int.natCast_mul i wd).symm
      have hpe : Hid (wd * i = i * wd) := Nat.mul_comm _ _
      generalize i * wd = p at *
      have hf : (p : Int) / 8 = ((p / 8 : Nat) : Int) := by omega
      have hfb : p / 8 ≤ bs.length := by omega
      generalize hfq : p / 8 = f at *
      have HF := Lib.hid hfq
      clear hfq h0 hov
      have hM : min (5 : Int) ((bs.length : Int) - (f : Int)) = ((min 5 (bs.length - f) : Nat) : Int) := by omega
      generalize hMe : min 5 (bs.length - f) = M at *
      have hM5 : M ≤ 5 := by omega
      have hMl : f + M ≤ bs.length := by omega
      have HM := Lib.hid hMe
      clear hMe
      go_enter Try.func16, Try.ntmps16
      go_wp2_with fail
      refine (right_is _ true HR.out).mono ?_
      rintro r w' ⟨rfl, rfl⟩
      go_wp2_with fail
      go_loop [8, 39] (fun x i => ∃ j W : Nat, j ≤ M ∧ i = .int .i64 (j : Int) ∧ x = .int .u64 (W : Int) ∧ GetAt bs f j W) (fun _ i => M - (intOf i).toNat)
      case atStart => exact ⟨0, 0, Nat.zero_le _, rfl, rfl, by unfold GetAt; rw [Nat.pow_zero, Nat.mod_one]⟩
      case round =>
        obtain ⟨j, W, hj, rfl, rfl, hat⟩ := hrel
        by_cases hlt : j < M
        · obtain ⟨b, off, rfl, _, _, hcell⟩ := H.out.byte (k := f + j) (by omega)
          have hnext := get_next bs f j (by omega)
          rw [← hat] at hnext
          have hW := getAt_lt hat
          generalize bs[f + j] = x8 at *
          have hx := UInt8.toNat_lt x8
          generalize x8.toNat = x at *
          obtain ⟨hor, hT⟩ := or_byte W x j hW hx (by omega)
          have HX : Hid (GetAt bs f (j + 1) (W + 2 ^ (8 * j) * x)) := hnext.symm
          clear hnext hat hW
          generalize W + 2 ^ (8 * j) * x = T at *
          go_wp2
          go_round
          case rel => exact ⟨j + 1, T, by omega, by go_num, rfl, HX.out⟩
          case measure => simp [intOf]; omega
        · obtain rfl : j = M := by omega
          have hW := getAt_lt hat
          have hW40 : W < 1099511627776 := Nat.lt_of_lt_of_le hW (Nat.pow_le_pow_right (by omega) (show 8 * j ≤ 40 by omega))
          have HE : Hid (wrap64 (bits .and .u64 ((W : Int) / 2 ^ (p % 8)) (IntKind.u64.wrap (IntKind.u64.wrap ((2 : Int) ^ wd) - 1))) = (getN bs wd i : Int)) := by
            unfold Hid getN
            rw [mask_at W (p % 8) wd hW40 hw]
            rw [hpe.out, ← get_word bs p f j wd HF.out HM.out hw, ← hat]
          clear hat hW
          go_wp2_with fail
          go_quiet (fail)
          go_wp2
          go_ret
          exact ⟨ret_int' HE.out, _, rfl⟩
end Go.Proofs.Ytfoadchengbedaa
