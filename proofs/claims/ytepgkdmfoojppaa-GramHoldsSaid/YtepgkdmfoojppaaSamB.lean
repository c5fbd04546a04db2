/-
  The document's Same of layer 4: the same rows?
-/
import Derived.Test.YtepgkdmfoojppaaRows
import Derived.Test.YtepgkdmfoojppaaLvM
import Derived.Outline
import Derived.BigQuiet
import Derived.Deep.QuietTactic
namespace Go.Proofs.Ytepgkdmfoojppaa
set_option linter.unusedSimpArgs false
set_option linter.unusedVariables false
open Go.RowKit

/-- the document's Same: the same rows? -/
theorem bsame_any {w : World} (xs ys : List Bool) {lo h' lo2 h2 : Nat} {A B : Option Addr} {c d : Nat} (hx : Rd w lo h' A c (lv xs)) (hy : Rd w lo2 h2 B d (lv ys)) :
    Calls Try.prog 31 #[.slice A xs.length c, .slice B ys.length d] w fun r w' => r = .returned (.bool (decide (xs = ys))) ∧ ∃ n, w.drewN n = w' := by
  have hl := hx.len
  have hc := hx.cap
  have hl2 := hy.len
  have hc2 := hy.cap
  rw [lv_length] at hl hl2
  unfold maxLen at hc hc2
  have HX := Lib.hid hx
  have HY := Lib.hid hy
  clear hx hy
  by_cases hlen : xs.length = ys.length
  · have hne : ((xs.length : Int) != (ys.length : Int)) = false := by rw [hlen]; simp
    have HL := Lib.hid hlen
    have hlen1 : xs.length ≤ ys.length := by omega
    have hlen2 : ys.length ≤ xs.length := by omega
    clear hlen
    go_enter Try.func31, Try.ntmps31
    go_wp2_with fail
    go_loopw [5] (fun i wr => ∃ (k n : Nat), k ≤ xs.length ∧ i = .int .i64 (k : Int) ∧ xs.take k = ys.take k ∧ w.drewN n = wr) (fun i _ => xs.length - (intOf i).toNat)
    case atStart => exact ⟨0, 0, Nat.zero_le _, rfl, rfl, rfl⟩
    case round =>
      obtain ⟨k, n, hk, rfl, heq, rfl⟩ := hrel
      have HE := Lib.hid heq
      clear heq
      by_cases hlt : k < xs.length
      · have hlt2 : k < ys.length := by omega
        obtain ⟨b1, o1, rfl, _, _, hcell1⟩ := HX.out.row hlt
        obtain ⟨b2, o2, rfl, _, _, hcell2⟩ := HY.out.row hlt2
        have ht1 : Hid (xs.take (k + 1) = xs.take k ++ [xs[k]]) := by unfold Hid; exact List.take_succ_eq_append_getElem hlt
        have ht2 : Hid (ys.take (k + 1) = ys.take k ++ [ys[k]]) := by unfold Hid; exact List.take_succ_eq_append_getElem hlt2
        have hq : Hid (xs = ys → xs[k] = ys[k]) := fun h => by subst h; rfl
        generalize xs[k] = x at *
        generalize ys[k] = y at *
        by_cases hxy : x = y
        · subst hxy
          go_wp2_with fail
          go_quiet (fail)
          go_wp2
          go_roundw
          case rel => exact ⟨k + 1, _, by omega, by go_num, by rw [ht1.out, ht2.out, HE.out], rfl⟩
          case measure => simp [intOf]; omega
        · have hb : (!x == y) = true := by simpa using hxy
          go_wp2_with fail
          go_quiet (fail)
          go_wp2
          go_ret
          exact ⟨ret_bool (decide_eq_false fun h => hxy (hq.out h)).symm, _, (World.drewN_drewN _ _ _).symm⟩
      · obtain rfl : k = xs.length := by omega
        have hall : Hid (xs = ys) := by
          have h := HE.out
          rw [List.take_length, HL.out, List.take_length] at h
          exact h
        go_wp2
        go_ret
        exact ⟨ret_bool (decide_eq_true hall.out).symm, _, rfl⟩
  · have hne : ((xs.length : Int) != (ys.length : Int)) = true := by rw [bne_iff_ne]; omega
    have HN : Hid (decide (xs = ys) = false) := decide_eq_false fun h => hlen (by rw [h])
    go_enter Try.func31, Try.ntmps31
    go_wp2
    go_ret
    exact ⟨ret_bool HN.out.symm, 0, rfl⟩
theorem bsame_len {w : World} {lo h' lo2 h2 n m : Nat} {A B : Option Addr} {c d : Nat} (xs ys : List Bool) (b : Bool) (hx : Rd w lo h' A c (lv xs)) (hy : Rd w lo2 h2 B d (lv ys)) (hn : xs.length = n) (hm : ys.length = m) (he : decide (xs = ys) = b) :
    Calls Try.prog 31 #[.slice A n c, .slice B m d] w fun r w' => r = .returned (.bool b) ∧ ∃ k, w.drewN k = w' := by
  subst hn hm he
  exact bsame_any xs ys hx hy
end Go.Proofs.Ytepgkdmfoojppaa
