/-
  The document's Ints of layer 3: the same numbers?
-/
import Derived.Test.YtepgkdmfoojppaaRows
import Derived.Test.YtepgkdmfoojppaaIvM
import Derived.Outline
import Derived.BigQuiet
import Derived.Deep.QuietTactic
namespace Go.Proofs.Ytepgkdmfoojppaa
set_option linter.unusedSimpArgs false
set_option linter.unusedVariables false
open Go.RowKit

theorem ints_any {w : World} (xs ys : List Int) {lo h' lo2 h2 : Nat} {A B : Option Addr} {c d : Nat} (hx : Rd w lo h' A c (iv xs)) (hy : Rd w lo2 h2 B d (iv ys)) :
    Calls Try.prog 13 #[.slice A xs.length c, .slice B ys.length d] w fun r w' => r = .returned (.bool (decide (xs = ys))) ∧ ∃ n, w.drewN n = w' := by
  have hl := hx.len
  have hc := hx.cap
  have hl2 := hy.len
  have hc2 := hy.cap
  rw [iv_length] at hl hl2
  unfold maxLen at hc hc2
  have HX := Lib.hid hx
  have HY := Lib.hid hy
  clear hx hy
  by_cases hlen : xs.length = ys.length
  · go_enter Try.func13, Try.ntmps13
    have HLEN := Lib.hid hlen
    have hle : ys.length ≤ xs.length := by omega
    have hge : xs.length ≤ ys.length := by omega
    have hne : ((xs.length : Int) != (ys.length : Int)) = false := by simp; omega
    clear hlen
    go_wp2_with fail
    go_loopw [5] (fun i wr => ∃ k n : Nat, k ≤ xs.length ∧ i = .int .i64 (k : Int) ∧ xs.take k = ys.take k ∧ w.drewN n = wr) (fun i _ => xs.length - (intOf i).toNat)
    case atStart => exact ⟨0, 0, Nat.zero_le _, rfl, rfl, rfl⟩
    case round =>
      obtain ⟨k, n, hk, rfl, hf, rfl⟩ := hrel
      have HF := Lib.hid hf
      clear hf
      by_cases hlt : k < xs.length
      · obtain ⟨b, off, rfl, _, _, hcell⟩ := HX.out.num hlt
        obtain ⟨b2, off2, rfl, _, _, hcell2⟩ := HY.out.num (k := k) (by omega)
        have hlt2 : k < ys.length := by omega
        have h1 : Hid (xs.take (k + 1) = xs.take k ++ [xs[k]]) := by unfold Hid; exact List.take_succ_eq_append_getElem hlt
        have h2 : Hid (ys.take (k + 1) = ys.take k ++ [ys[k]]) := by unfold Hid; exact List.take_succ_eq_append_getElem hlt2
        have h3 : Hid (xs = ys → xs[k] = ys[k]) := by unfold Hid; rintro rfl; rfl
        generalize xs[k] = x at *
        generalize ys[k] = y at *
        by_cases hxy : x = y
        · subst hxy
          go_wp2_with fail
          go_quiet (fail)
          go_wp2
          go_roundw
          case rel => exact ⟨k + 1, _, by omega, by go_num, by rw [h1.out, h2.out, HF.out], rfl⟩
          case measure => simp [intOf]; omega
        · have hb : (x != y) = true := by simpa using hxy
          go_wp2_with fail
          go_quiet (fail)
          go_wp2
          go_ret
          exact ⟨ret_bool (decide_eq_false fun h => hxy (h3.out h)).symm, _, (World.drewN_drewN ..).symm⟩
      · obtain rfl : k = xs.length := by omega
        go_wp2
        go_ret
        have e : xs = ys := by
          have := HF.out
          rw [List.take_length, List.take_of_length_le (by omega)] at this
          exact this
        exact ⟨ret_bool (decide_eq_true e).symm, _, rfl⟩
  · have hne : ((xs.length : Int) != (ys.length : Int)) = true := by simp; omega
    have hx : Hid (xs ≠ ys) := by unfold Hid; rintro rfl; exact hlen rfl
    clear hlen
    go_enter Try.func13, Try.ntmps13
    go_wp2
    go_ret
    exact ⟨ret_bool (decide_eq_false hx).symm, 0, rfl⟩
theorem ints_len {w : World} {lo h' lo2 h2 n m : Nat} {A B : Option Addr} {c d : Nat} (xs ys : List Int) (b : Bool) (hx : Rd w lo h' A c (iv xs)) (hy : Rd w lo2 h2 B d (iv ys)) (hn : xs.length = n) (hm : ys.length = m) (he : decide (xs = ys) = b) :
    Calls Try.prog 13 #[.slice A n c, .slice B m d] w fun r w' => r = .returned (.bool b) ∧ ∃ k, w.drewN k = w' := by
  subst hn hm he
  exact ints_any xs ys hx hy
end Go.Proofs.Ytepgkdmfoojppaa
