/-
  How strings compare, byte by byte, of hopperref07.
-/
import Derived.Test.YtjffbjlniieciaaDoorRows
import Derived.Test.YtjffbjlniieciaaDoorCmpM
import Derived.Outline
import Derived.BigQuiet
import Derived.Deep.QuietTactic
namespace Go.Proofs.YtjffbjlniieciaaDoor
set_option linter.unusedSimpArgs false
set_option linter.unusedVariables false
open Go.RowKit

theorem refCompare_any {w : World} (a b : ByteArray) (ha : a.size ≤ 100000) (hb : b.size ≤ 100000) :
    Calls Tryd.prog 43 #[.string a, .string b] w fun r w' => r = .returned (.int .i64 (cmpL a.data.toList b.data.toList)) ∧ ∃ m, w' = w.drewN m := by
  obtain ⟨v, hv⟩ : ∃ v, cmpL a.data.toList b.data.toList = v := ⟨_, rfl⟩
  rw [hv]
  have hsa : a.data.toList.length = a.size := by rw [Array.length_toList]; rfl
  have hsb : b.data.toList.length = b.size := by rw [Array.length_toList]; rfl
  have HAT : Hid (∀ k (h1 : k < a.size) (h2 : k < b.size), a.data.toList.take k = b.data.toList.take k → a[k] ≠ b[k] → v = if a[k].toNat < b[k].toNat then -1 else 1) := fun k h1 h2 ht hne => by
    rw [← hv]
    exact cmpL_at ht (by omega) (by omega) hne
  have HNX : Hid (∀ k (h1 : k < a.size) (h2 : k < b.size), a.data.toList.take k = b.data.toList.take k → a[k] = b[k] → a.data.toList.take (k + 1) = b.data.toList.take (k + 1)) := fun k h1 h2 ht he => by
    rw [List.take_succ_eq_append_getElem (by omega), List.take_succ_eq_append_getElem (by omega), ht]
    have he' : a.data.toList[k]'(by omega) = b.data.toList[k]'(by omega) := he
    rw [he']
  have HEND : Hid (∀ k, a.data.toList.take k = b.data.toList.take k → k = min a.size b.size → v = if a.size < b.size then -1 else if b.size < a.size then 1 else 0) := fun k ht hk => by
    rw [← hv, ← hsa, ← hsb]
    exact cmpL_end ht (by rw [hsa, hsb]; exact hk)
  clear hv hsa hsb
  go_enter Tryd.func43, Tryd.ntmps43
  go_wp2_with fail
  go_loopw [5] (fun i wr => ∃ k m : Nat, k ≤ a.size ∧ k ≤ b.size ∧ i = .int .i64 (k : Int) ∧ a.data.toList.take k = b.data.toList.take k ∧ wr = w.drewN m) (fun i _ => a.size - (intOf i).toNat)
  case atStart => exact ⟨0, 0, by omega, by omega, rfl, by simp, rfl⟩
  case round =>
    obtain ⟨k, m, hka, hkb, rfl, ht, rfl⟩ := hrel
    have HT := Lib.hid ht
    clear ht
    by_cases hl : k < a.size ∧ k < b.size
    · obtain ⟨h1, h2⟩ := hl
      have i1 : (k : Int) < (a.size : Int) := by omega
      have i2 : (k : Int) < (b.size : Int) := by omega
      have HA := Lib.hid (HAT.out k h1 h2 HT.out)
      have HN := Lib.hid (HNX.out k h1 h2 HT.out)
      clear HAT HNX
      rcases Nat.lt_trichotomy a[k].toNat b[k].toNat with h3 | h3 | h3
      · go_wp2
        go_quiet (fail)
        go_wp2
        go_ret
        exact ⟨ret_int' (by rw [HA.out (fun e => by rw [e] at h3; omega), if_pos h3]), m + nq, World.drewN_drewN _ _ _⟩
      · have he := UInt8.toNat_inj.1 h3
        go_wp2
        go_quiet (fail)
        go_wp2
        go_quiet (fail)
        go_wp2
        go_roundw
        case rel => exact ⟨k + 1, _, by omega, by omega, by go_num, HN.out he, by first | rfl | (rw [World.drewN_drewN]) | (rw [World.drewN_drewN, World.drewN_drewN])⟩
        case measure => simp [intOf]; omega
      · go_wp2
        go_quiet (fail)
        go_wp2
        go_quiet (fail)
        go_wp2
        go_ret
        exact ⟨ret_int' (by rw [HA.out (fun e => by rw [e] at h3; omega), if_neg (by omega)]), _, by first | rfl | (rw [World.drewN_drewN, World.drewN_drewN])⟩
    · have HE := Lib.hid (HEND.out k HT.out)
      have HK : Hid (k = min a.size b.size) := by unfold Hid; omega
      rcases Nat.lt_trichotomy a.size b.size with h3 | h3 | h3
      · obtain rfl : k = a.size := by omega
        go_wp2
        go_ret
        exact ⟨ret_int' (by rw [HE.out HK.out, if_pos h3]), _, rfl⟩
      · obtain rfl : k = a.size := by omega
        go_wp2
        go_ret
        exact ⟨ret_int' (by rw [HE.out HK.out, if_neg (by omega), if_neg (by omega)]), _, rfl⟩
      · obtain rfl : k = b.size := by omega
        go_wp2
        go_ret
        exact ⟨ret_int' (by rw [HE.out HK.out, if_neg (by omega), if_pos h3]), _, rfl⟩
end Go.Proofs.YtjffbjlniieciaaDoor
