/-
  The pack's small functions, and the document's: right, fit, size, Width; Power, May, Width, Ints.
-/
import Derived.Test.YtfoadchengbedaaLen
import Derived.Test.YtfoadchengbedaaByt
namespace Go.Proofs.Ytfoadchengbedaa
set_option linter.unusedSimpArgs false
set_option linter.unusedVariables false
open Go.RowKit

theorem right_any {w : World} (n : Int) :
    Calls Try.prog 29 #[.int .i64 n] w fun r w' => r = .returned (.bool (rightB n)) ∧ w = w' := by
  unfold rightB
  by_cases h0 : 0 ≤ n
  · by_cases h1 : n ≤ 32
    · rw [decide_eq_true (by omega)]
      go_enter Try.func29, Try.ntmps29
      go_wp2
      go_ret
      exact ⟨rfl, rfl⟩
    · rw [decide_eq_false (by omega)]
      go_enter Try.func29, Try.ntmps29
      go_wp2
      go_ret
      exact ⟨rfl, rfl⟩
  · rw [decide_eq_false (by omega)]
    go_enter Try.func29, Try.ntmps29
    go_wp2
    go_ret
    exact ⟨rfl, rfl⟩

theorem right_is {w : World} (n : Int) (b : Bool) (h : rightB n = b) :
    Calls Try.prog 29 #[.int .i64 n] w fun r w' => r = .returned (.bool b) ∧ w = w' := by
  subst h
  exact right_any n

theorem size_any {w : World} (n wd : Nat) (h : n * wd ≤ 1000000000000000) :
    Calls Try.prog 26 #[.int .i64 (n : Int), .int .i64 (wd : Int)] w fun r w' => r = .returned (.int .i64 (((n * wd + 7) / 8 : Nat) : Int)) ∧ w = w' := by
  have e0 : (n : Int) * (wd : Int) = ((n * wd : Nat) : Int) := (Int.natCast_mul n wd).symm
  have h1 : 0 ≤ (n : Int) * (wd : Int) := by omega
  have h2 : (n : Int) * (wd : Int) ≤ 1000000000000000 := by omega
  have E := Lib.hid e0
  clear e0 h
  go_enter Try.func26, Try.ntmps26
  go_wp2
  go_ret
  exact ⟨ret_int' (by rw [E.out]; omega), rfl⟩

theorem shr_no {z : Int} {n : Nat} (h : (z / 2 ^ n != 0) = true) : ¬ (0 ≤ z ∧ z < 2 ^ n) := by
  rintro ⟨h0, h1⟩
  rw [Int.ediv_eq_zero_of_lt h0 h1] at h
  cases h
theorem shr_yes {z : Int} {n : Nat} (h : (z / 2 ^ n != 0) = false) : 0 ≤ z ∧ z < 2 ^ n := by
  have hp : (0 : Int) < 2 ^ n := Int.pow_pos (by omega)
  have h0 : z / 2 ^ n = 0 := by simpa using h
  have h1 := Int.mul_ediv_add_emod z (2 ^ n)
  rw [h0, Int.mul_zero] at h1
  have h2 := Int.emod_nonneg z (show (2 : Int) ^ n ≠ 0 by omega)
  have h3 := Int.emod_lt_of_pos z hp
  omega

theorem fit_any {w : World} (zs : List Int) (wd : Int) {lo h' : Nat} {A : Option Addr} {c : Nat} (h : Rd w lo h' A c (iv zs)) :
    Calls Try.prog 25 #[.slice A zs.length c, .int .i64 wd] w fun r w' => r = .returned (.bool (fitB zs wd)) ∧ w = w' := by
  have hl := h.len
  have hc := h.cap
  rw [iv_length] at hl
  unfold maxLen at hc
  have H := Lib.hid h
  clear h
  by_cases hr : 0 ≤ wd ∧ wd ≤ 32
  · have hr' : rightB wd = true := decide_eq_true hr
    have HR := Lib.hid hr'
    obtain ⟨hr0, hr1⟩ := hr
    clear hr'
    go_enter Try.func25, Try.ntmps25
    go_wp2_with fail
    refine (right_is wd true HR.out).mono ?_
    rintro r w' ⟨rfl, rfl⟩
    go_wp2_with fail
    go_loop [12] (fun i => ∃ k : Nat, k ≤ zs.length ∧ i = .int .i64 (k : Int) ∧ ∀ z ∈ zs.take k, 0 ≤ z ∧ z < 2 ^ wd.toNat) (fun i => zs.length - (intOf i).toNat)
    case atStart => exact ⟨0, Nat.zero_le _, rfl, by simp⟩
    case round =>
      obtain ⟨k, hk, rfl, hf⟩ := hrel
      have HF := Lib.hid hf
      clear hf
      by_cases hlt : k < zs.length
      · obtain ⟨b, off, rfl, _, _, hcell⟩ := H.out.num hlt
        have hts : Hid (zs.take (k + 1) = zs.take k ++ [zs[k]]) := by unfold Hid; exact List.take_succ_eq_append_getElem hlt
        have hmem : Hid (zs[k] ∈ zs) := List.getElem_mem hlt
        generalize zs[k] = z at *
        go_wp2
        case roundEnd =>
          have hz := shr_yes (by assumption)
          refine ⟨⟨k + 1, by omega, by go_num, ?_⟩, by simp [intOf]; omega⟩
          intro y hy
          rw [hts.out] at hy
          rcases List.mem_append.1 hy with hy | hy
          · exact HF.out y hy
          · rw [List.mem_singleton.1 hy]; exact hz
        all_goals
          have hz := shr_no (by assumption)
          go_ret
          exact ⟨ret_bool (decide_eq_false fun hf => hz (hf.2.2 _ hmem)).symm, rfl⟩
      · obtain rfl : k = zs.length := by omega
        go_wp2
        go_ret
        exact ⟨ret_bool (decide_eq_true ⟨hr0, hr1, by rw [← List.take_length (l := zs)]; exact HF.out⟩).symm, rfl⟩
  · have hr' : rightB wd = false := decide_eq_false hr
    have HR := Lib.hid hr'
    have hn : Hid (fitB zs wd = false) := decide_eq_false fun hf => hr ⟨hf.1, hf.2.1⟩
    clear hr' hr
    go_enter Try.func25, Try.ntmps25
    go_wp2_with fail
    refine (right_is wd false HR.out).mono ?_
    rintro r w' ⟨rfl, rfl⟩
    go_wp2
    go_ret
    exact ⟨ret_bool hn.out.symm, rfl⟩

theorem greatest_u {g : Int} (h0 : 0 ≤ g) (h1 : g ≤ 9223372036854775807) : IntKind.u64.wrap g = g := by
  rw [IntKind.wrap_u64]; omega

/-- Width, of whatever numbers -/
theorem width_any {w : World} (zs : List Int) (hz : Word zs) {lo h' : Nat} {A : Option Addr} {c : Nat} (h : Rd w lo h' A c (iv zs)) :
    Calls Try.prog 14 #[.slice A zs.length c] w fun r w' => r = .returned (.int .i64 (wide zs : Int)) ∧ w = w' := by
  have hl := h.len
  have hc := h.cap
  rw [iv_length] at hl
  unfold maxLen at hc
  have H := Lib.hid h
  have HZ := Lib.hid hz
  clear h hz
  go_enter Try.func14, Try.ntmps14
  go_wp2_with fail
  go_loop [3, 8] (fun g i => ∃ k : Nat, k ≤ zs.length ∧ i = .int .i64 (k : Int) ∧ g = .int .i64 (grt (zs.take k))) (fun _ i => zs.length - (intOf i).toNat)
  case atStart => exact ⟨0, Nat.zero_le _, rfl, rfl⟩
  case round =>
    obtain ⟨k, hk, rfl, rfl⟩ := hrel
    by_cases hlt : k < zs.length
    · obtain ⟨b, off, rfl, _, _, hcell⟩ := H.out.num hlt
      have hts := Lib.hid (grt_take zs k hlt)
      generalize zs[k] = z at *
      generalize grt (zs.take k) = g at *
      go_wp2
      go_round
      case rel => exact ⟨k + 1, by omega, by go_num, by rw [hts.out]⟩
      case measure => simp [intOf]; omega
    · obtain rfl : k = zs.length := by omega
      have h0 := grt_ge zs
      have h1 := word_grt HZ.out
      have HU := Lib.hid (greatest_u h0 h1)
      have HL := Lib.hid (len_any (w := w) (grt zs) h0 (by omega))
      rw [List.take_length]
      have HE : Hid (wide zs = Lib.bitLen (grt zs).toNat) := rfl
      generalize grt zs = g at *
      go_wp2_with (go_at_call 28; refine HL.out.mono ?_; rintro r w' ⟨rfl, rfl⟩)
      go_ret
      exact ⟨ret_int' (by rw [HE.out]), rfl⟩
end Go.Proofs.Ytfoadchengbedaa
