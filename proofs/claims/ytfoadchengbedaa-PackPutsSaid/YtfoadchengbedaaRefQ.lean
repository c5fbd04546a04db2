/-
  The document's Get of layer 3.
-/
import Derived.Test.YtfoadchengbedaaRefP
import Derived.Test.YtfoadchengbedaaPakC
namespace Go.Proofs.Ytfoadchengbedaa
set_option linter.unusedSimpArgs false
set_option linter.unusedVariables false
open Go.RowKit

/-- the bits of a number that are read, but for the c lowest -/
def GetDown (bs : List UInt8) (p wd c X : Nat) : Prop := X = bval bs / 2 ^ (p + c) % 2 ^ (wd - c)
theorem getDown_start (bs : List UInt8) (p wd : Nat) : GetDown bs p wd wd 0 := by
  unfold GetDown
  rw [Nat.sub_self, Nat.pow_zero, Nat.mod_one]
theorem getDown_step {bs : List UInt8} {p wd c X : Nat} (h : GetDown bs p wd (c + 1) X) (hc : c < wd) (t : Nat) (ht : bval bs / 2 ^ (p + c) % 2 = t) : GetDown bs p wd c (2 * X + t) := by
  unfold GetDown at *
  rw [show wd - c = wd - (c + 1) + 1 from by omega, Nat.pow_succ, Nat.mul_comm _ 2, Nat.mod_mul, ht, h, ← Nat.add_assoc, Nat.pow_succ, Nat.div_div_eq_div_mul]
  omega
theorem getDown_le {bs : List UInt8} {p wd c X : Nat} (h : GetDown bs p wd c X) (hw : wd ≤ 32) : X < 4294967296 := by
  unfold GetDown at h
  have h1 := Nat.mod_lt (bval bs / 2 ^ (p + c)) (Nat.two_pow_pos (wd - c))
  have h2 : 2 ^ (wd - c) ≤ 2 ^ 32 := Nat.pow_le_pow_right (by omega) (by omega)
  omega
theorem bit_in (bs : List UInt8) (a : Nat) (h : a / 8 < bs.length) : bval bs / 2 ^ a % 2 = bs[a / 8].toNat / 2 ^ (a % 8) % 2 := by
  rw [← bval_at bs (a / 8) h, pow256]
  have e : bval bs / 2 ^ a = bval bs / 2 ^ (8 * (a / 8)) / 2 ^ (a % 8) := by
    rw [Nat.div_div_eq_div_mul, ← Nat.pow_add]
    congr 2
    omega
  rw [e]
  have := mod_shift (bval bs / 2 ^ (8 * (a / 8))) 8 (a % 8) 1 (by omega)
  rw [show (256 : Nat) = 2 ^ 8 from rfl]
  simpa using this.symm
theorem bit_out (bs : List UInt8) (a : Nat) (h : ¬ a / 8 < bs.length) : bval bs / 2 ^ a % 2 = 0 := by
  rw [bval_over bs a (by omega), Nat.zero_mod]

theorem bit_sum (X x pw : Nat) (hX : X < 4294967296) (hx : x < 2 ^ 8) : wrap64 (2 * (X : Int) + (wrap64 ((x : Int) / (pw : Int))).tmod 2) = ((2 * X + x / pw % 2 : Nat) : Int) := by
  have h1 : x / pw ≤ x := Nat.div_le_self _ _
  have e1 : (x : Int) / (pw : Int) = ((x / pw : Nat) : Int) := by push_cast; rfl
  rw [e1]
  generalize x / pw = y at *
  rw [IntWalk.wrap64_in (y : Int) (by omega), Int.tmod_eq_emod_of_nonneg (by omega)]
  rw [IntWalk.wrap64_in _ (by omega)]
  omega

set_option maxRecDepth 20000 in
set_option maxHeartbeats 400000 in
theorem rget_any {w : World} (bs : List UInt8) (wd i : Nat) (hw : wd ≤ 32) (hi : i ≤ 1000000000000) (hb : bs.length ≤ 1000000000000) {lo h' : Nat} {A : Option Addr} {c : Nat} (h : Rd w lo h' A c (bv bs)) :
    Calls Try.prog 17 #[.slice A bs.length c, .int .i64 (wd : Int), .int .i64 (i : Int)] w fun r w' => r = .returned (.int .i64 (getN bs wd i : Int)) ∧ ∃ n, w.drewN n = w' := by
  have hl := h.len
  have hc := h.cap
  rw [bv_length] at hl
  unfold maxLen at hc
  have H := Lib.hid h
  clear h
  have hp : (i : Int) * (wd : Int) = ((i * wd : Nat) : Int) := (Int.natCast_mul i wd).symm
  have hpb : i * wd ≤ 1000000000000 * 32 := Nat.mul_le_mul hi hw
  have hpe : Hid (wd * i = i * wd) := Nat.mul_comm _ _
  generalize i * wd = p at *
  go_enter Try.func17, Try.ntmps17
  go_wp2_with fail
  go_loopw [7, 8] (fun x k wr => ∃ (X n : Nat) (d : Int), -1 ≤ d ∧ d < wd ∧ k = .int .i64 d ∧ x = .int .i64 (X : Int) ∧ GetDown bs p wd (d + 1).toNat X ∧ w.drewN n = wr) (fun _ k _ => (intOf k + 1).toNat)
  case atStart => exact ⟨0, 0, (wd : Int) - 1, by omega, by omega, rfl, rfl, by rw [show ((wd : Int) - 1 + 1).toNat = wd from by omega]; exact getDown_start _ _ _, rfl⟩
  case round =>
    obtain ⟨X, n, d, hd1, hdw, rfl, rfl, hat, rfl⟩ := hrel
    by_cases hneg : d < 0
    · obtain rfl : d = -1 := by omega
      have HE : Hid ((X : Int) = (getN bs wd i : Int)) := by
        unfold Hid getN
        rw [hat, hpe.out]
        rfl
      clear hat
      go_wp2
      go_ret
      exact ⟨ret_int' HE.out, _, rfl⟩
    · obtain ⟨k, rfl⟩ := Int.eq_ofNat_of_zero_le (show 0 ≤ d by omega)
      rw [show ((k : Int) + 1).toNat = k + 1 from by omega] at hat
      have hX := getDown_le hat hw
      have HAT := Lib.hid hat
      clear hat
      have h8 : ((p : Int) + (k : Int)) / 8 = (((p + k) / 8 : Nat) : Int) := by omega
      by_cases hin : (p + k) / 8 < bs.length
      · obtain ⟨b, off, rfl, _, _, hcell⟩ := H.out.byte (k := (p + k) / 8) hin
        have hbit := bit_in bs (p + k) hin
        have hstep := fun t ht => getDown_step HAT.out (by omega : k < wd) t ht
        have HST := Lib.hid (hstep _ hbit)
        have HP := fun j : Nat => Lib.hid (power_any (w := w.drewN j) ((p + k) % 8) (by omega))
        have hpw : 0 < 2 ^ ((p + k) % 8) := Nat.two_pow_pos _
        clear hbit hstep
        generalize 2 ^ ((p + k) % 8) = pw at *
        have hr : ((p : Int) + (k : Int)) % 8 = (((p + k) % 8 : Nat) : Int) := by omega
        generalize (p + k) % 8 = r at *
        generalize bs[(p + k) / 8] = x8 at *
        have hx := UInt8.toNat_lt x8
        generalize x8.toNat = x at *
        generalize hq : (p + k) / 8 = q at *
        have HQ := Lib.hid hq
        clear hq
        go_wp2_with fail
        go_quiet ((go_at_call 27; exact quiet_pure_on (HP _).out))
        go_wp2
        go_roundw
        case rel => exact ⟨_, _, (k : Int) - 1, by omega, by omega, by go_num, by rw [bit_sum X x pw hX hx], by rw [show ((k : Int) - 1 + 1).toNat = k from by omega]; exact HST.out, rfl⟩
        case measure => simp [intOf] <;> omega
      · have hbit := bit_out bs (p + k) hin
        have HST := Lib.hid (getDown_step HAT.out (by omega : k < wd) 0 hbit)
        clear hbit
        generalize hq : (p + k) / 8 = q at *
        have HQ := Lib.hid hq
        clear hq
        go_wp2
        go_roundw
        case rel => exact ⟨_, _, (k : Int) - 1, by omega, by omega, by go_num, rfl, by rw [show ((k : Int) - 1 + 1).toNat = k from by omega]; exact HST.out, rfl⟩
        case measure => simp [intOf] <;> omega
end Go.Proofs.Ytfoadchengbedaa
