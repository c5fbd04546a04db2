/-
  The helpers of layer 7's laws: whether strings are few; how strings compare, byte by byte.
-/
import Derived.Test.YtpainhgjiddpkaaRows
import Derived.Test.YtpainhgjiddpkaaStrM
import Derived.Test.YtpainhgjiddpkaaCmpM
import Derived.Outline
import Derived.BigQuiet
import Derived.Deep.QuietTactic
namespace Go.Proofs.Ytpainhgjiddpkaa
set_option linter.unusedSimpArgs false
set_option linter.unusedVariables false
open Go.RowKit

/-- all strings' bytes -/
def total : List ByteArray → Nat
  | [] => 0
  | s :: r => s.size + total r
theorem total_append : ∀ (a b : List ByteArray), total (a ++ b) = total a + total b
  | [], b => by simp [total]
  | s :: a, b => by simp only [List.cons_append, total, total_append a b]; omega
theorem total_take {l : List ByteArray} {k : Nat} (hk : k < l.length) : total (l.take (k + 1)) = total (l.take k) + l[k].size := by
  rw [List.take_succ_eq_append_getElem hk, total_append]
  simp [total]
theorem total_le (l : List ByteArray) (k : Nat) : total (l.take k) ≤ total l := by
  have := total_append (l.take k) (l.drop k)
  rw [List.take_append_drop] at this
  omega

/-- few strings, each of at most 5,000 bytes, at most 300,000 all together -/
def FewL (l : List ByteArray) : Prop := l.length ≤ 300 ∧ total l ≤ 300000 ∧ ∀ s ∈ l, s.size ≤ 5000
instance (l : List ByteArray) : Decidable (FewL l) := by unfold FewL; infer_instance
set_option maxRecDepth 20000 in
theorem few_any {w : World} {lo h' c : Nat} {A : Option Addr} (l : List ByteArray) (h : Rd w lo h' A c (sv l)) :
    Calls Try.prog 9 #[.slice A l.length c] w fun r w' => r = .returned (.bool (decide (FewL l))) ∧ w = w' := by
  have hl := h.len
  have hm := h.cap
  rw [sv_length] at hl
  unfold maxLen at hm
  obtain ⟨v, hv⟩ : ∃ v, decide (FewL l) = v := ⟨_, rfl⟩
  rw [hv]
  have HV1 : Hid (¬ FewL l → v = false) := fun h => by rw [← hv]; exact decide_eq_false h
  have HV2 : Hid (FewL l → v = true) := fun h => by rw [← hv]; exact decide_eq_true h
  have H := Lib.hid h
  clear h hv
  go_enter Try.func9, Try.ntmps9
  go_wp2_with fail
  go_loop [3, 4] (fun n i => ∃ k : Nat, k ≤ l.length ∧ k ≤ 400 ∧ i = .int .i64 (k : Int) ∧ n = .int .i64 (total (l.take k) : Int) ∧ total (l.take k) ≤ 5000 * k ∧ ∀ s ∈ l.take k, s.size ≤ 5000) (fun _ i => 400 - (intOf i).toNat)
  case atStart => exact ⟨0, by omega, by omega, rfl, rfl, by simp [total], by simp⟩
  case round =>
    obtain ⟨k, hk, hk4, rfl, rfl, ht, ha⟩ := hrel
    have HA := Lib.hid ha
    clear ha
    by_cases hlt : k < l.length
    · by_cases hlt4 : k < 400
      · obtain ⟨b, off, rfl, _, _, hcell⟩ := H.out.str hlt
        have HT := Lib.hid (total_take hlt)
        have HN : Hid (l[k].size ≤ 5000 → ∀ s ∈ l.take (k + 1), s.size ≤ 5000) := fun h5 s hs => by
          rw [List.take_succ_eq_append_getElem hlt] at hs
          rcases List.mem_append.1 hs with hs | hs
          · exact HA.out s hs
          · rw [List.mem_singleton.1 hs]; exact h5
        have HM : Hid (FewL l → l[k].size ≤ 5000) := fun h => h.2.2 _ (List.getElem_mem hlt)
        generalize l[k] = s at *
        generalize total (l.take k) = n at *
        have ht2 : n ≤ 2000000 := by omega
        have HTT := Lib.hid ht
        clear ht
        by_cases h5 : s.size ≤ 5000
        · go_wp2
          go_round
          case rel => exact ⟨k + 1, by omega, by omega, by go_num, by rw [HT.out]; go_num, by rw [HT.out]; have := HTT.out; omega, HN.out h5⟩
          case measure => simp [intOf]; omega
        · go_wp2
          go_ret
          exact ⟨ret_bool (HV1.out fun h => h5 (HM.out h)).symm, rfl⟩
      · have h3 : ¬ (l.length : Int) ≤ 300 := by omega
        generalize total (l.take k) = n at *
        have HTT := Lib.hid ht
        clear ht
        go_wp2
        go_ret
        exact ⟨ret_bool (HV1.out fun h => by have := h.1; omega).symm, rfl⟩
    · obtain rfl : k = l.length := by omega
      rw [List.take_length] at *
      have HF : Hid (l.length ≤ 300 → total l ≤ 300000 → FewL l) := fun h1 h2 => ⟨h1, h2, HA.out⟩
      have HG : Hid (FewL l → l.length ≤ 300 ∧ total l ≤ 300000) := fun h => ⟨h.1, h.2.1⟩
      generalize total l = n at *
      have HTT := Lib.hid ht
      clear ht
      by_cases h3 : (l.length : Int) ≤ 300
      · by_cases h4 : (n : Int) ≤ 300000
        · go_wp2
          go_ret
          exact ⟨ret_bool (by rw [HV2.out (HF.out (by omega) (by omega))]), rfl⟩
        · go_wp2
          go_ret
          exact ⟨ret_bool (by rw [HV1.out (fun h => by have := (HG.out h).2; omega)]), rfl⟩
      · go_wp2
        go_ret
        exact ⟨ret_bool (HV1.out fun h => by have := (HG.out h).1; omega).symm, rfl⟩

theorem refCompare_any {w : World} (a b : ByteArray) (ha : a.size ≤ 100000) (hb : b.size ≤ 100000) :
    Calls Try.prog 17 #[.string a, .string b] w fun r w' => r = .returned (.int .i64 (cmpL a.data.toList b.data.toList)) ∧ ∃ m, w' = w.drewN m := by
  obtain ⟨v, hv⟩ : ∃ v, cmpL a.data.toList b.data.toList = v := ⟨_, rfl⟩
  rw [hv]
  have hsa : a.data.toList.length = a.size := by rw [Array.length_toList]; rfl
  have hsb : b.data.toList.length = b.size := by rw [Array.length_toList]; rfl
  have HAT : Hid (∀ k (h1 : k < a.size) (h2 : k < b.size), a.data.toList.take k = b.data.toList.take k → a[k] ≠ b[k] → v = if a[k].toNat < b[k].toNat then -1 else 1) := fun k h1 h2 ht hne => by
    rw [← hv]
    exact cmpL_at ht (by omega) (by omega) hne
  have HNX : Hid (∀ k (h1 : k < a.size) (h2 : k < b.size), a.data.toList.take k = b.data.toList.take k → a[k] = b[k] → a.data.toList.take (k + 1) = b.data.toList.take (k + 1)) := fun k h1 h2 ht he => by
    rw [List.take_succ_eq_append_getElem (by omega), List.take_succ_eq_append_getElem (by omega), ht]
    have he' : a.data.toList[k]'(by omega) = b.data.toList[k]'(by omega) := he
    rw [he']
  have HEND : Hid (∀ k, a.data.toList.take k = b.data.toList.take k → k = min a.size b.size → v = if a.size < b.size then -1 else if b.size < a.size then 1 else 0) := fun k ht hk => by
    rw [← hv, ← hsa, ← hsb]
    exact cmpL_end ht (by rw [hsa, hsb]; exact hk)
  clear hv hsa hsb
  go_enter Try.func17, Try.ntmps17
  go_wp2_with fail
  go_loopw [5] (fun i wr => ∃ k m : Nat, k ≤ a.size ∧ k ≤ b.size ∧ i = .int .i64 (k : Int) ∧ a.data.toList.take k = b.data.toList.take k ∧ wr = w.drewN m) (fun i _ => a.size - (intOf i).toNat)
  case atStart => exact ⟨0, 0, by omega, by omega, rfl, by simp, rfl⟩
  case round =>
    obtain ⟨k, m, hka, hkb, rfl, ht, rfl⟩ := hrel
    have HT := Lib.hid ht
    clear ht
    by_cases hl : k < a.size ∧ k < b.size
    · obtain ⟨h1, h2⟩ := hl
      have i1 : (k : Int) < (a.size : Int) := by omega
      have i2 : (k : Int) < (b.size : Int) := by omega
      have HA := Lib.hid (HAT.out k h1 h2 HT.out)
      have HN := Lib.hid (HNX.out k h1 h2 HT.out)
      clear HAT HNX
      rcases Nat.lt_trichotomy a[k].toNat b[k].toNat with h3 | h3 | h3
      · go_wp2
        go_quiet (fail)
        go_wp2
        go_ret
        exact ⟨ret_int' (by rw [HA.out (fun e => by rw [e] at h3; omega), if_pos h3]), m + nq, World.drewN_drewN _ _ _⟩
      · have he := UInt8.toNat_inj.1 h3
        go_wp2
        go_quiet (fail)
        go_wp2
        go_quiet (fail)
        go_wp2
        go_roundw
        case rel => exact ⟨k + 1, _, by omega, by omega, by go_num, HN.out he, by first | rfl | (rw [World.drewN_drewN]) | (rw [World.drewN_drewN, World.drewN_drewN])⟩
        case measure => simp [intOf]; omega
      · go_wp2
        go_quiet (fail)
        go_wp2
        go_quiet (fail)
        go_wp2
        go_ret
        exact ⟨ret_int' (by rw [HA.out (fun e => by rw [e] at h3; omega), if_neg (by omega)]), _, by first | rfl | (rw [World.drewN_drewN, World.drewN_drewN])⟩
    · have HE := Lib.hid (HEND.out k HT.out)
      have HK : Hid (k = min a.size b.size) := by unfold Hid; omega
      rcases Nat.lt_trichotomy a.size b.size with h3 | h3 | h3
      · obtain rfl : k = a.size := by omega
        go_wp2
        go_ret
        exact ⟨ret_int' (by rw [HE.out HK.out, if_pos h3]), _, rfl⟩
      · obtain rfl : k = a.size := by omega
        go_wp2
        go_ret
        exact ⟨ret_int' (by rw [HE.out HK.out, if_neg (by omega), if_neg (by omega)]), _, rfl⟩
      · obtain rfl : k = b.size := by omega
        go_wp2
        go_ret
        exact ⟨ret_int' (by rw [HE.out HK.out, if_neg (by omega), if_pos h3]), _, rfl⟩
end Go.Proofs.Ytpainhgjiddpkaa
