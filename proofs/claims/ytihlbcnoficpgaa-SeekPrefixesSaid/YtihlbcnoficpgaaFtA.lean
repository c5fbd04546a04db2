/-
  The front package's small functions: fits, alike, follows, right.
-/
import Derived.Test.YtihlbcnoficpgaaFrP
import Derived.Test.YtihlbcnoficpgaaMgF
import Derived.Test.YtihlbcnoficpgaaCmpB
namespace Go.Proofs.Ytihlbcnoficpgaa
set_option linter.unusedSimpArgs false
set_option linter.unusedVariables false
open Go.RowKit

theorem ffits_any {w : World} (z : Int) : Calls Try.prog 35 #[.int .i64 z] w fun r w' => r = .returned (.bool (decide (1 ≤ z ∧ z ≤ 64))) ∧ w = w' := by
  by_cases h0 : z < 1
  · have hf : decide (1 ≤ z ∧ z ≤ 64) = false := decide_eq_false (by omega)
    have h1 : decide (1 ≤ z) = false := decide_eq_false (by omega)
    rw [hf]
    go_enter Try.func35, Try.ntmps35
    go_wp2
    go_ret
    exact ⟨rfl, rfl⟩
  · have h1 : decide (1 ≤ z) = true := decide_eq_true (by omega)
    by_cases h2 : z ≤ 64
    · have hf : decide (1 ≤ z ∧ z ≤ 64) = true := decide_eq_true (by omega)
      have h2 : decide (z ≤ 64) = true := decide_eq_true h2
      rw [hf]
      go_enter Try.func35, Try.ntmps35
      go_wp2
      go_ret
      exact ⟨rfl, rfl⟩
    · have hf : decide (1 ≤ z ∧ z ≤ 64) = false := decide_eq_false (by omega)
      have h2 : decide (z ≤ 64) = false := decide_eq_false h2
      rw [hf]
      go_enter Try.func35, Try.ntmps35
      go_wp2
      go_ret
      exact ⟨rfl, rfl⟩

set_option maxHeartbeats 1000000 in
theorem alike_any {w : World} (a b : ByteArray) (ha : a.size ≤ 1000000000) (hb : b.size ≤ 1000000000) :
    Calls Try.prog 63 #[.string a, .string b] w fun r w' => r = .returned (.int .i64 (shareN a.data.toList b.data.toList : Int)) ∧ ∃ m, w' = w.drewN m := by
  obtain ⟨v, hv⟩ : ∃ v, shareN a.data.toList b.data.toList = v := ⟨_, rfl⟩
  rw [hv]
  have hsa := lenD a
  have hsb := lenD b
  have HAT : Hid (∀ k (h1 : k < a.size) (h2 : k < b.size), a.data.toList.take k = b.data.toList.take k → a[k] ≠ b[k] → (k : Int) = (v : Int)) := fun k h1 h2 ht hne => by
    rw [← hv, share_is (n := k) (by omega) (by omega) ht (fun _ _ => hne)]
  have HNX : Hid (∀ k (h1 : k < a.size) (h2 : k < b.size), a.data.toList.take k = b.data.toList.take k → a[k] = b[k] → a.data.toList.take (k + 1) = b.data.toList.take (k + 1)) := fun k h1 h2 ht he => by
    rw [List.take_succ_eq_append_getElem (by omega), List.take_succ_eq_append_getElem (by omega), ht]
    have he' : a.data.toList[k]'(by omega) = b.data.toList[k]'(by omega) := he
    rw [he']
  obtain ⟨n, hn⟩ : ∃ n, min a.size b.size = n := ⟨_, rfl⟩
  have HEND : Hid (a.data.toList.take n = b.data.toList.take n → (n : Int) = (v : Int)) := fun ht => by
    rw [← hv, share_is (n := n) (by omega) (by omega) ht (fun _ _ => by omega)]
  have hna : n ≤ a.size := by omega
  have hnb : n ≤ b.size := by omega
  have hmin : min (a.size : Int) (b.size : Int) = (n : Int) := by omega
  clear hv hsa hsb hn
  go_enter Try.func63, Try.ntmps63
  go_wp2_with fail
  clear hmin
  go_loopw [13] (fun i wr => ∃ k m : Nat, k ≤ n ∧ i = .int .i64 (k : Int) ∧ a.data.toList.take k = b.data.toList.take k ∧ wr = w.drewN m) (fun i _ => n - (intOf i).toNat)
  case atStart => exact ⟨0, 0, by omega, rfl, by simp, rfl⟩
  case round =>
    obtain ⟨k, m, hkn, rfl, ht, rfl⟩ := hrel
    have HT := Lib.hid ht
    clear ht
    by_cases hl : k < n
    · have i0 : (k : Int) < (n : Int) := by omega
      have h1 : k < a.size := by omega
      have h2 : k < b.size := by omega
      have i1 : (k : Int) < (a.size : Int) := by omega
      have i2 : (k : Int) < (b.size : Int) := by omega
      have HA := Lib.hid (HAT.out k h1 h2 HT.out)
      have HN := Lib.hid (HNX.out k h1 h2 HT.out)
      clear HAT HNX
      by_cases h3 : a[k].toNat = b[k].toNat
      · have he := UInt8.toNat_inj.1 h3
        go_wp2_with fail
        go_quiet (fail)
        go_wp2_with fail
        go_roundw
        case rel => exact ⟨k + 1, _, by omega, by go_num, HN.out he, by first | rfl | (rw [World.drewN_drewN])⟩
        case measure => simp [intOf]; omega
      · have h4 : ¬ (a[k].toNat : Int) = (b[k].toNat : Int) := by omega
        have h5 : ((a[k].toNat : Int) == (b[k].toNat : Int)) = false := by rw [beq_eq_false_iff_ne]; exact h4
        go_wp2_with fail
        go_quiet (fail)
        go_wp2_with fail
        go_ret
        exact ⟨ret_int' (HA.out (fun e => h3 (by rw [e]))), m + nq, World.drewN_drewN _ _ _⟩
    · obtain rfl : k = n := by omega
      go_wp2_with fail
      go_ret
      exact ⟨ret_int' (HEND.out HT.out), _, rfl⟩

theorem foll_nil (s : List UInt8) : follL [] s = decide (s.length ≤ 4096) := by simp [follL]
theorem foll_at {l : List ByteArray} {j : Nat} (hj : l.length = j + 1) (s : ByteArray) : follL (bytL2 l) s.data.toList = (decide (s.size ≤ 4096) && decide (cmpL (l[j]'(by omega)).data.toList s.data.toList < 0)) := by
  unfold follL
  rw [lenD, bytL2_length, decide_eq_false (p := l.length = 0) (by omega), Bool.false_or]
  have h1 : (bytL2 l).getLastD [] = (l[j]'(by omega)).data.toList := by
    rw [List.getLastD_eq_getLast?, List.getLast?_eq_getElem?, bytL2_length, show l.length - 1 = j by omega, List.getElem?_eq_getElem (by rw [bytL2_length]; omega), bytL2_get l j (by omega)]
    rfl
  rw [h1]
set_option maxHeartbeats 1000000 in
theorem ffollows_any {w : World} (l : List ByteArray) (s : ByteArray) {n : Nat} (hn : l.length = n) {lo hi c : Nat} {A : Option Addr} (h : Rd w lo hi A c (sv l)) (hs : s.size ≤ 9223372036854775807) :
    Calls Try.prog 57 #[.slice A n c, .string s] w fun r w' => r = .returned (.bool (follL (bytL2 l) s.data.toList)) ∧ w = w' := by
  have hl := h.len
  have hm := h.cap
  rw [sv_length] at hl
  unfold maxLen at hm
  by_cases h4 : s.size ≤ 4096
  · have i4 : (s.size : Int) ≤ 4096 := by omega
    have d4 : decide ((s.size : Int) ≤ 4096) = true := decide_eq_true i4
    rcases Nat.eq_zero_or_pos n with rfl | hp
    · obtain rfl : l = [] := List.eq_nil_of_length_eq_zero hn
      have hv : follL (bytL2 []) s.data.toList = true := by
        rw [show bytL2 [] = [] from rfl, foll_nil, lenD]
        exact decide_eq_true h4
      rw [hv]
      clear hn
      go_enter Try.func57, Try.ntmps57
      go_wp2
      go_ret
      exact ⟨rfl, rfl⟩
    · obtain ⟨j, rfl⟩ : ∃ j, n = j + 1 := ⟨n - 1, by omega⟩
      obtain ⟨b, off, rfl, _, _, hcell⟩ := h.str (k := j) (by omega)
      rw [foll_at hn s, decide_eq_true h4, Bool.true_and]
      have hless := less_str (l[j]'(by omega)) s
      generalize decide (cmpL (l[j]'(by omega)).data.toList s.data.toList < 0) = v at *
      generalize l[j]'(by omega) = x at *
      have hw1 : IntKind.i64.wrap (j : Int) = (j : Int) := IntWalk.i64_in _ (by omega)
      have b0 : (((j : Int) + 1) == 0) = false := by rw [beq_eq_false_iff_ne]; omega
      have n0 : ¬ ((j : Int) + 1) = 0 := by omega
      clear h hn
      go_enter Try.func57, Try.ntmps57
      go_wp2
      go_ret
      exact ⟨rfl, rfl⟩
  · have hv : follL (bytL2 l) s.data.toList = false := by
      unfold follL
      rw [lenD, decide_eq_false h4, Bool.false_and]
    rw [hv]
    have i4 : ¬ (s.size : Int) ≤ 4096 := by omega
    have d4 : decide ((s.size : Int) ≤ 4096) = false := decide_eq_false i4
    clear hn
    go_enter Try.func57, Try.ntmps57
    go_wp2
    go_ret
    exact ⟨rfl, rfl⟩
end Go.Proofs.Ytihlbcnoficpgaa
