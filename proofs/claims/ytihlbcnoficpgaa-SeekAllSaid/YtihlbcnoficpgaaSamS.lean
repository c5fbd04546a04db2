/-
  How the document compares lists of strings (layer 7).
-/
import Derived.Test.YtihlbcnoficpgaaStrM
import Derived.Test.YtihlbcnoficpgaaRows
import Derived.Lib.Hide
import Derived.BigQuiet
import Derived.Deep.QuietTactic
import Derived.Lib.Strings
namespace Go.Proofs.Ytihlbcnoficpgaa
set_option linter.unusedSimpArgs false
set_option linter.unusedVariables false
open Go.RowKit

set_option maxRecDepth 20000 in
set_option maxHeartbeats 1000000 in
theorem same_strs {w : World} (xs ys : List ByteArray) {lo h' lo2 h2 : Nat} {A B : Option Addr} {c d : Nat} (hx : Rd w lo h' A c (sv xs)) (hy : Rd w lo2 h2 B d (sv ys)) :
    Calls Try.prog 17 #[.slice A xs.length c, .slice B ys.length d] w fun r w' => r = .returned (.bool (decide (xs = ys))) ∧ ∃ n, w.drewN n = w' := by
  have hl := hx.len
  have hc := hx.cap
  have hl2 := hy.len
  have hc2 := hy.cap
  rw [sv_length] at hl hl2
  unfold maxLen at hc hc2
  have HX := Lib.hid hx
  have HY := Lib.hid hy
  clear hx hy
  by_cases hlen : xs.length = ys.length
  · go_enter Try.func17, Try.ntmps17
    have HLEN := Lib.hid hlen
    have hle : ys.length ≤ xs.length := by omega
    have hge : xs.length ≤ ys.length := by omega
    have hne : ((xs.length : Int) != (ys.length : Int)) = false := by simp; omega
    clear hlen
    go_wp2_with fail
    go_loopw [5] (fun i wr => ∃ k n : Nat, k ≤ xs.length ∧ i = .int .i64 (k : Int) ∧ xs.take k = ys.take k ∧ w.drewN n = wr) (fun i _ => xs.length - (intOf i).toNat)
    case atStart => exact ⟨0, 0, Nat.zero_le _, rfl, rfl, rfl⟩
    case round =>
      obtain ⟨k, n, hk, rfl, hf, rfl⟩ := hrel
      have HF := Lib.hid hf
      clear hf
      by_cases hlt : k < xs.length
      · obtain ⟨b, off, rfl, _, _, hcell⟩ := HX.out.str hlt
        obtain ⟨b2, off2, rfl, _, _, hcell2⟩ := HY.out.str (k := k) (by omega)
        have hlt2 : k < ys.length := by omega
        have h1 : Hid (xs.take (k + 1) = xs.take k ++ [xs[k]]) := by unfold Hid; exact List.take_succ_eq_append_getElem hlt
        have h2 : Hid (ys.take (k + 1) = ys.take k ++ [ys[k]]) := by unfold Hid; exact List.take_succ_eq_append_getElem hlt2
        have h3 : Hid (xs = ys → xs[k] = ys[k]) := by unfold Hid; rintro rfl; rfl
        generalize xs[k] = x at *
        generalize ys[k] = y at *
        have hyx : (x.toList != y.toList) = !decide (x = y) := by rw [Lib.toList_data, Lib.toList_data, bne, Bool.not_inj_iff, Bool.eq_iff_iff, beq_iff_eq, decide_eq_true_eq]; exact ⟨fun h => by rw [← str_eta x, ← str_eta y, h], fun h => by rw [h]⟩
        by_cases hxy : x = y
        · subst hxy
          go_wp2_with fail
          go_quiet (fail)
          go_wp2
          go_roundw
          case rel => exact ⟨k + 1, _, by omega, by go_num, by rw [h1.out, h2.out, HF.out], rfl⟩
          case measure => simp [intOf]; omega
        · have hb2 : ¬ x.toList = y.toList := fun e => hxy (by rw [Lib.toList_data, Lib.toList_data] at e; rw [← str_eta x, ← str_eta y, e])
          have hb : (x.toList == y.toList) = false := beq_eq_false_iff_ne.2 hb2
          clear hyx
          go_wp2_with fail
          go_quiet (fail)
          go_wp2
          go_ret
          exact ⟨ret_bool (decide_eq_false fun h => hxy (h3.out h)).symm, _, (World.drewN_drewN ..).symm⟩
      · obtain rfl : k = xs.length := by omega
        go_wp2
        go_ret
        have e : xs = ys := by
          have := HF.out
          rw [List.take_length, List.take_of_length_le (by omega)] at this
          exact this
        exact ⟨ret_bool (decide_eq_true e).symm, _, rfl⟩
  · have hne : ((xs.length : Int) != (ys.length : Int)) = true := by simp; omega
    have hx : Hid (xs ≠ ys) := by unfold Hid; rintro rfl; exact hlen rfl
    clear hlen
    go_enter Try.func17, Try.ntmps17
    go_wp2
    go_ret
    exact ⟨ret_bool (decide_eq_false hx).symm, 0, rfl⟩
end Go.Proofs.Ytihlbcnoficpgaa
