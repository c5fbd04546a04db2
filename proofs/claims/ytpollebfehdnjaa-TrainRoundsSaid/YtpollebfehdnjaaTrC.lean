/-
  The document's Few of layer 12, of strings whose lengths can be added.
-/
import Derived.Test.YtpollebfehdnjaaTrA
namespace Go.Proofs.Ytpollebfehdnjaa
set_option linter.unusedSimpArgs false
set_option linter.unusedVariables false
open Go.RowKit

/-- how many bytes strings have -/
def sumS (l : List ByteArray) : Nat := (l.map fun s => s.size).sum
def FewT (l : List ByteArray) : Prop := l.length ≤ 60 ∧ sumS l ≤ 600
instance (l : List ByteArray) : Decidable (FewT l) := inferInstanceAs (Decidable (_ ∧ _))
theorem sumS_take {l : List ByteArray} {k : Nat} (h : k < l.length) : sumS (l.take (k + 1)) = sumS (l.take k) + l[k].size := by
  unfold sumS
  rw [List.take_succ_eq_append_getElem h, List.map_append, List.sum_append]
  simp
theorem sumS_le (l : List ByteArray) (k : Nat) : sumS (l.take k) ≤ sumS l := by
  have : sumS l = sumS (l.take k) + sumS (l.drop k) := by
    unfold sumS
    rw [← List.sum_append, ← List.map_append, List.take_append_drop]
  omega

set_option maxRecDepth 20000 in
set_option maxHeartbeats 2000000 in
theorem refFewT_any {w : World} (l : List ByteArray) {lo hi c : Nat} {A : Option Addr} (h : Rd w lo hi A c (sv l)) (hs : ∀ s ∈ l, s.size ≤ 4611686018427387904) :
    Calls Try.prog 14 #[.slice A l.length c] w fun r w' => r = .returned (.bool (decide (FewT l))) ∧ ∃ m, w' = w.drewN m := by
  have hl := h.len
  have hc := h.cap
  rw [sv_length] at hl
  unfold maxLen at hc
  have H := Lib.hid h
  have HS : Hid (∀ k (hk : k < l.length), l[k].size ≤ 4611686018427387904) := fun k hk => hs _ (List.getElem_mem hk)
  clear h hs
  obtain ⟨v, hv⟩ : ∃ v, decide (FewT l) = v := ⟨_, rfl⟩
  rw [hv]
  have HNO : Hid (∀ k, 600 < sumS (l.take k) → v = false) := fun k hk => by
    rw [← hv]
    exact decide_eq_false fun e => by have := sumS_le l k; have := e.2; omega
  have HBIG : Hid (60 < l.length → v = false) := fun hk => by
    rw [← hv]
    exact decide_eq_false fun e => by have := e.1; omega
  have HYES : Hid (l.length ≤ 60 → sumS (l.take l.length) ≤ 600 → v = true) := fun h1 h2 => by
    rw [← hv]
    exact decide_eq_true ⟨h1, by rwa [List.take_length] at h2⟩
  clear hv
  go_enter Try.func14, Try.ntmps14
  go_wp2_with fail
  go_loopw [3, 4] (fun x3 x4 wr => ∃ k n m : Nat, k ≤ l.length ∧ k ≤ 100 ∧ x4 = .int .i64 (k : Int) ∧ x3 = .int .i64 (n : Int) ∧ n ≤ 600 ∧ sumS (l.take k) = n ∧ wr = w.drewN m) (fun _ i _ => l.length - (intOf i).toNat)
  case atStart => exact ⟨0, 0, 0, Nat.zero_le _, Nat.zero_le _, rfl, rfl, Nat.zero_le _, rfl, rfl⟩
  case round =>
    obtain ⟨k, n, m, hk, hk1, rfl, rfl, hn, hsum, rfl⟩ := hrel
    have HSM := Lib.hid hsum
    clear hsum
    by_cases hlt : k < l.length
    · have ik : (k : Int) < (l.length : Int) := by omega
      by_cases h100 : k < 100
      · have i1 : (k : Int) < 100 := by omega
        obtain ⟨b, off, rfl, _, _, hcell⟩ := H.out.str hlt
        have hsz := HS.out k hlt
        have HST : Hid (sumS (l.take (k + 1)) = n + l[k].size) := by
          unfold Hid
          rw [sumS_take hlt, HSM.out]
        generalize l[k] = s at *
        by_cases hbig : 600 < n + s.size
        · have i2 : (600 : Int) < (n : Int) + (s.size : Int) := by omega
          have HV := Lib.hid (HNO.out (k + 1) (by rw [HST.out]; exact hbig))
          go_wp2_with fail
          go_ret
          exact ⟨by rw [HV.out]; rfl, m, rfl⟩
        · have i2 : ¬ (600 : Int) < (n : Int) + (s.size : Int) := by omega
          go_wp2_with fail
          go_roundw
          case rel => exact ⟨k + 1, n + s.size, m, by omega, by omega, by go_num, by go_num, by omega, HST.out, rfl⟩
          case measure => simp [intOf] <;> omega
      · have i1 : ¬ (k : Int) < 100 := by omega
        have i3 : ¬ (l.length : Int) ≤ 60 := by omega
        have d3 : decide ((l.length : Int) ≤ 60) = false := decide_eq_false i3
        have HV := Lib.hid (HBIG.out (by omega))
        go_wp2_with fail
        go_ret
        exact ⟨by rw [HV.out]; first | rfl | simp [i3], m, rfl⟩
    · have ik : ¬ (k : Int) < (l.length : Int) := by omega
      have hke : k = l.length := by omega
      have hvv : v = decide ((l.length : Int) ≤ 60) := by
        by_cases h60 : l.length ≤ 60
        · rw [decide_eq_true (by omega : (l.length : Int) ≤ 60)]
          exact HYES.out h60 (by rw [← hke, HSM.out]; exact hn)
        · rw [decide_eq_false (by omega : ¬ (l.length : Int) ≤ 60)]
          exact HBIG.out (by omega)
      have HV := Lib.hid hvv
      clear hvv hke
      go_wp2_with fail
      go_ret
      exact ⟨by rw [HV.out]; rfl, m, rfl⟩
end Go.Proofs.Ytpollebfehdnjaa
