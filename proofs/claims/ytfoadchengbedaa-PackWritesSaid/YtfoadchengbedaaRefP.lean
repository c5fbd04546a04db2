/-
  The document's small functions of layer 3: Power, May, Width, Ints.
-/
import Derived.Test.YtfoadchengbedaaPakN
import Derived.Test.YtfoadchengbedaaByt
namespace Go.Proofs.Ytfoadchengbedaa
set_option linter.unusedSimpArgs false
set_option linter.unusedVariables false
open Go.RowKit

theorem pow_small {k n : Nat} (h : k ≤ n) (hn : n ≤ 62) : 2 ^ k ≤ 4611686018427387904 := Nat.le_trans (Nat.pow_le_pow_right (by omega) (Nat.le_trans h hn)) (by decide)
theorem power_any {w : World} (n : Nat) (hn : n ≤ 62) :
    Calls Try.prog 27 #[.int .i64 (n : Int)] w fun r w' => r = .returned (.int .i64 ((2 ^ n : Nat) : Int)) ∧ w = w' := by
  go_enter Try.func27, Try.ntmps27
  go_wp2_with fail
  go_loop [3, 4] (fun x i => ∃ k : Nat, k ≤ n ∧ i = .int .i64 (k : Int) ∧ x = .int .i64 ((2 ^ k : Nat) : Int)) (fun _ i => n - (intOf i).toNat)
  case atStart => exact ⟨0, Nat.zero_le _, rfl, rfl⟩
  case round =>
    obtain ⟨k, hk, rfl, rfl⟩ := hrel
    by_cases hlt : k < n
    · have hb := pow_small (k := k + 1) hlt hn
      have hs : Hid ((2 ^ (k + 1) : Nat) = 2 * 2 ^ k) := by unfold Hid; rw [Nat.pow_succ, Nat.mul_comm]
      rw [hs] at hb
      generalize 2 ^ k = p at *
      go_wp2
      go_round
      case rel => exact ⟨k + 1, by omega, by go_num, by rw [hs.out]; go_num⟩
      case measure => simp [intOf]; omega
    · obtain rfl : k = n := by omega
      go_wp2
      go_ret
      exact ⟨rfl, rfl⟩

theorem may_any {w : World} (zs : List Int) {lo h' : Nat} {A : Option Addr} {c : Nat} (h : Rd w lo h' A c (iv zs)) :
    Calls Try.prog 13 #[.slice A zs.length c] w fun r w' => r = .returned (.bool (mayB zs)) ∧ w = w' := by
  have hl := h.len
  have hc := h.cap
  rw [iv_length] at hl
  unfold maxLen at hc
  have H := Lib.hid h
  clear h
  go_enter Try.func13, Try.ntmps13
  go_wp2_with fail
  go_loop [3] (fun i => ∃ k : Nat, k ≤ zs.length ∧ i = .int .i64 (k : Int) ∧ ∀ z ∈ zs.take k, 0 ≤ z ∧ z ≤ 4294967295) (fun i => zs.length - (intOf i).toNat)
  case atStart => exact ⟨0, Nat.zero_le _, rfl, by simp⟩
  case round =>
    obtain ⟨k, hk, rfl, hf⟩ := hrel
    have HF := Lib.hid hf
    clear hf
    by_cases hlt : k < zs.length
    · obtain ⟨b, off, rfl, _, _, hcell⟩ := H.out.num hlt
      have hts : Hid (zs.take (k + 1) = zs.take k ++ [zs[k]]) := by unfold Hid; exact List.take_succ_eq_append_getElem hlt
      have hmem : Hid (zs[k] ∈ zs) := List.getElem_mem hlt
      generalize zs[k] = z at *
      by_cases h0 : z < 0
      · go_wp2
        go_ret
        exact ⟨ret_bool (decide_eq_false fun hf => by have := hf _ hmem; omega).symm, rfl⟩
      · by_cases h1 : z ≤ 4294967295
        · go_wp2
          go_round
          case rel =>
            refine ⟨k + 1, by omega, by go_num, ?_⟩
            intro y hy
            rw [hts.out] at hy
            rcases List.mem_append.1 hy with hy | hy
            · exact HF.out y hy
            · rw [List.mem_singleton.1 hy]; omega
          case measure => simp [intOf]; omega
        · go_wp2
          go_ret
          exact ⟨ret_bool (decide_eq_false fun hf => by have := hf _ hmem; omega).symm, rfl⟩
    · obtain rfl : k = zs.length := by omega
      go_wp2
      go_ret
      have ht : May zs := by intro z hz; rw [← List.take_length (l := zs)] at hz; exact HF.out z hz
      exact ⟨ret_bool (decide_eq_true ht).symm, rfl⟩

theorem rwidth_any {w : World} (zs : List Int) (hz : May zs) {lo h' : Nat} {A : Option Addr} {c : Nat} (h : Rd w lo h' A c (iv zs)) :
    Calls Try.prog 15 #[.slice A zs.length c] w fun r w' => r = .returned (.int .i64 (wide zs : Int)) ∧ ∃ n, w.drewN n = w' := by
  have hl := h.len
  have hc := h.cap
  rw [iv_length] at hl
  unfold maxLen at hc
  have H := Lib.hid h
  have HZ := Lib.hid hz
  clear h hz
  go_enter Try.func15, Try.ntmps15
  go_wp2_with fail
  go_loopw [3, 4] (fun v i wr => ∃ k n : Nat, k ≤ zs.length ∧ i = .int .i64 (k : Int) ∧ v = .int .i64 (wide (zs.take k) : Int) ∧ w.drewN n = wr) (fun _ i _ => zs.length - (intOf i).toNat)
  case atStart => exact ⟨0, 0, Nat.zero_le _, rfl, by rw [List.take_zero, wide_nil]; rfl, rfl⟩
  case round =>
    obtain ⟨k, n, hk, rfl, rfl, rfl⟩ := hrel
    by_cases hlt : k < zs.length
    · obtain ⟨b, off, rfl, _, _, hcell⟩ := H.out.num hlt
      have hts := Lib.hid (wide_take HZ.out.word k hlt)
      have hm := HZ.out _ (List.getElem_mem hlt)
      have hw32 : wide (zs.take k) ≤ 32 := wide_le _ 32 (by omega) fun z hz => by have := HZ.out z (List.mem_of_mem_take hz); omega
      have hb32 : Lib.bitLen zs[k].toNat ≤ 32 := Lib.bitLen_le _ 32 (by omega) (by omega)
      have hiff := fun m => len_iff zs[k].toNat m (by omega)
      have HI := Lib.hid hiff
      obtain ⟨hm0, hm1⟩ := hm
      clear hiff
      generalize zs[k] = z at *
      generalize wide (zs.take k) = v0 at *
      generalize Lib.bitLen z.toNat = v1 at *
      go_wp2_with fail
      go_loopw [3] (fun v wr => ∃ m n : Nat, v0 ≤ m ∧ m ≤ max v0 v1 ∧ v = .int .i64 (m : Int) ∧ w.drewN n = wr) (fun v _ => 64 - (intOf v).toNat)
      case atStart => exact ⟨v0, n, by omega, by omega, rfl, rfl⟩
      case round =>
        obtain ⟨m, n, h1, h2, rfl, rfl⟩ := hrel
        have HP := fun j : Nat => Lib.hid (power_any (w := w.drewN j) m (by omega))
        have hge := (HI.out m)
        by_cases hlv : m < v1
        · have hpz : ((2 ^ m : Nat) : Int) ≤ z := by have := hge.2 hlv; omega
          clear hge
          generalize 2 ^ m = p at *
          go_wp2_with fail
          go_quiet ((go_at_call 27; exact quiet_pure_on (HP _).out))
          go_wp2
          go_roundw
          case rel => exact ⟨m + 1, _, by omega, by omega, by go_num, rfl⟩
          case measure => simp [intOf]; omega
        · have hpz : z < ((2 ^ m : Nat) : Int) := by
            have h3 : ¬ 2 ^ m ≤ z.toNat := fun h => hlv (hge.1 h)
            omega
          clear hge
          generalize 2 ^ m = p at *
          go_wp2_with fail
          go_quiet ((go_at_call 27; exact quiet_pure_on (HP _).out))
          go_wp2
          go_roundw
          case rel => exact ⟨k + 1, _, by omega, by go_num, by rw [hts.out]; go_num, rfl⟩
          case measure => simp [intOf]; omega
    · obtain rfl : k = zs.length := by omega
      rw [List.take_length]
      go_wp2
      go_ret
      exact ⟨rfl, _, rfl⟩

theorem ints_any {w : World} (xs ys : List Int) {lo h' lo2 h2 : Nat} {A B : Option Addr} {c d : Nat} (hx : Rd w lo h' A c (iv xs)) (hy : Rd w lo2 h2 B d (iv ys)) :
    Calls Try.prog 24 #[.slice A xs.length c, .slice B ys.length d] w fun r w' => r = .returned (.bool (decide (xs = ys))) ∧ ∃ n, w.drewN n = w' := by
  have hl := hx.len
  have hc := hx.cap
  have hl2 := hy.len
  have hc2 := hy.cap
  rw [iv_length] at hl hl2
  unfold maxLen at hc hc2
  have HX := Lib.hid hx
  have HY := Lib.hid hy
  clear hx hy
  by_cases hlen : xs.length = ys.length
  · go_enter Try.func24, Try.ntmps24
    have HLEN := Lib.hid hlen
    have hle : ys.length ≤ xs.length := by omega
    have hge : xs.length ≤ ys.length := by omega
    have hne : ((xs.length : Int) != (ys.length : Int)) = false := by simp; omega
    clear hlen
    go_wp2_with fail
    go_loopw [5] (fun i wr => ∃ k n : Nat, k ≤ xs.length ∧ i = .int .i64 (k : Int) ∧ xs.take k = ys.take k ∧ w.drewN n = wr) (fun i _ => xs.length - (intOf i).toNat)
    case atStart => exact ⟨0, 0, Nat.zero_le _, rfl, rfl, rfl⟩
    case round =>
      obtain ⟨k, n, hk, rfl, hf, rfl⟩ := hrel
      have HF := Lib.hid hf
      clear hf
      by_cases hlt : k < xs.length
      · obtain ⟨b, off, rfl, _, _, hcell⟩ := HX.out.num hlt
        obtain ⟨b2, off2, rfl, _, _, hcell2⟩ := HY.out.num (k := k) (by omega)
        have hlt2 : k < ys.length := by omega
        have h1 : Hid (xs.take (k + 1) = xs.take k ++ [xs[k]]) := by unfold Hid; exact List.take_succ_eq_append_getElem hlt
        have h2 : Hid (ys.take (k + 1) = ys.take k ++ [ys[k]]) := by unfold Hid; exact List.take_succ_eq_append_getElem hlt2
        have h3 : Hid (xs = ys → xs[k] = ys[k]) := by unfold Hid; rintro rfl; rfl
        generalize xs[k] = x at *
        generalize ys[k] = y at *
        by_cases hxy : x = y
        · subst hxy
          go_wp2_with fail
          go_quiet (fail)
          go_wp2
          go_roundw
          case rel => exact ⟨k + 1, _, by omega, by go_num, by rw [h1.out, h2.out, HF.out], rfl⟩
          case measure => simp [intOf]; omega
        · have hb : (x != y) = true := by simpa using hxy
          go_wp2_with fail
          go_quiet (fail)
          go_wp2
          go_ret
          exact ⟨ret_bool (decide_eq_false fun h => hxy (h3.out h)).symm, _, (World.drewN_drewN ..).symm⟩
      · obtain rfl : k = xs.length := by omega
        go_wp2
        go_ret
        have e : xs = ys := by
          have := HF.out
          rw [List.take_length, List.take_of_length_le (by omega)] at this
          exact this
        exact ⟨ret_bool (decide_eq_true e).symm, _, rfl⟩
  · have hne : ((xs.length : Int) != (ys.length : Int)) = true := by simp; omega
    have hx : Hid (xs ≠ ys) := by unfold Hid; rintro rfl; exact hlen rfl
    clear hlen
    go_enter Try.func24, Try.ntmps24
    go_wp2
    go_ret
    exact ⟨ret_bool (decide_eq_false hx).symm, 0, rfl⟩
end Go.Proofs.Ytfoadchengbedaa
