/-
  The helper of layer 7's laws: whether strings are few.
-/
import Derived.Test.YtihlbcnoficpgaaRows
import Derived.Test.YtihlbcnoficpgaaStrM
import Derived.Test.YtihlbcnoficpgaaCmpM
import Derived.Test.YtihlbcnoficpgaaRefW
import Derived.Outline
import Derived.BigQuiet
import Derived.Deep.QuietTactic
namespace Go.Proofs.Ytihlbcnoficpgaa
set_option linter.unusedSimpArgs false
set_option linter.unusedVariables false
open Go.RowKit

/-- all strings' bytes -/
def total : List ByteArray → Nat
  | [] => 0
  | s :: r => s.size + total r
theorem total_append : ∀ (a b : List ByteArray), total (a ++ b) = total a + total b
  | [], b => by simp [total]
  | s :: a, b => by simp only [List.cons_append, total, total_append a b]; omega
theorem total_take {l : List ByteArray} {k : Nat} (hk : k < l.length) : total (l.take (k + 1)) = total (l.take k) + l[k].size := by
  rw [List.take_succ_eq_append_getElem hk, total_append]
  simp [total]
theorem total_le (l : List ByteArray) (k : Nat) : total (l.take k) ≤ total l := by
  have := total_append (l.take k) (l.drop k)
  rw [List.take_append_drop] at this
  omega

/-- few strings, each of at most 5,000 bytes, at most 300,000 all together -/
def FewL (l : List ByteArray) : Prop := l.length ≤ 300 ∧ total l ≤ 300000 ∧ ∀ s ∈ l, s.size ≤ 5000
instance (l : List ByteArray) : Decidable (FewL l) := by unfold FewL; infer_instance
set_option maxRecDepth 20000 in
theorem few_any {w : World} {lo h' c : Nat} {A : Option Addr} (l : List ByteArray) (h : Rd w lo h' A c (sv l)) :
    Calls Try.prog 33 #[.slice A l.length c] w fun r w' => r = .returned (.bool (decide (FewL l))) ∧ w = w' := by
  have hl := h.len
  have hm := h.cap
  rw [sv_length] at hl
  unfold maxLen at hm
  obtain ⟨v, hv⟩ : ∃ v, decide (FewL l) = v := ⟨_, rfl⟩
  rw [hv]
  have HV1 : Hid (¬ FewL l → v = false) := fun h => by rw [← hv]; exact decide_eq_false h
  have HV2 : Hid (FewL l → v = true) := fun h => by rw [← hv]; exact decide_eq_true h
  have H := Lib.hid h
  clear h hv
  go_enter Try.func33, Try.ntmps33
  go_wp2_with fail
  go_loop [3, 4] (fun n i => ∃ k : Nat, k ≤ l.length ∧ k ≤ 400 ∧ i = .int .i64 (k : Int) ∧ n = .int .i64 (total (l.take k) : Int) ∧ total (l.take k) ≤ 5000 * k ∧ ∀ s ∈ l.take k, s.size ≤ 5000) (fun _ i => 400 - (intOf i).toNat)
  case atStart => exact ⟨0, by omega, by omega, rfl, rfl, by simp [total], by simp⟩
  case round =>
    obtain ⟨k, hk, hk4, rfl, rfl, ht, ha⟩ := hrel
    have HA := Lib.hid ha
    clear ha
    by_cases hlt : k < l.length
    · by_cases hlt4 : k < 400
      · obtain ⟨b, off, rfl, _, _, hcell⟩ := H.out.str hlt
        have HT := Lib.hid (total_take hlt)
        have HN : Hid (l[k].size ≤ 5000 → ∀ s ∈ l.take (k + 1), s.size ≤ 5000) := fun h5 s hs => by
          rw [List.take_succ_eq_append_getElem hlt] at hs
          rcases List.mem_append.1 hs with hs | hs
          · exact HA.out s hs
          · rw [List.mem_singleton.1 hs]; exact h5
        have HM : Hid (FewL l → l[k].size ≤ 5000) := fun h => h.2.2 _ (List.getElem_mem hlt)
        generalize l[k] = s at *
        generalize total (l.take k) = n at *
        have ht2 : n ≤ 2000000 := by omega
        have HTT := Lib.hid ht
        clear ht
        by_cases h5 : s.size ≤ 5000
        · go_wp2
          go_round
          case rel => exact ⟨k + 1, by omega, by omega, by go_num, by rw [HT.out]; go_num, by rw [HT.out]; have := HTT.out; omega, HN.out h5⟩
          case measure => simp [intOf]; omega
        · go_wp2
          go_ret
          exact ⟨ret_bool (HV1.out fun h => h5 (HM.out h)).symm, rfl⟩
      · have h3 : ¬ (l.length : Int) ≤ 300 := by omega
        generalize total (l.take k) = n at *
        have HTT := Lib.hid ht
        clear ht
        go_wp2
        go_ret
        exact ⟨ret_bool (HV1.out fun h => by have := h.1; omega).symm, rfl⟩
    · obtain rfl : k = l.length := by omega
      rw [List.take_length] at *
      have HF : Hid (l.length ≤ 300 → total l ≤ 300000 → FewL l) := fun h1 h2 => ⟨h1, h2, HA.out⟩
      have HG : Hid (FewL l → l.length ≤ 300 ∧ total l ≤ 300000) := fun h => ⟨h.1, h.2.1⟩
      generalize total l = n at *
      have HTT := Lib.hid ht
      clear ht
      by_cases h3 : (l.length : Int) ≤ 300
      · by_cases h4 : (n : Int) ≤ 300000
        · go_wp2
          go_ret
          exact ⟨ret_bool (by rw [HV2.out (HF.out (by omega) (by omega))]), rfl⟩
        · go_wp2
          go_ret
          exact ⟨ret_bool (by rw [HV1.out (fun h => by have := (HG.out h).2; omega)]), rfl⟩
      · go_wp2
        go_ret
        exact ⟨ret_bool (HV1.out fun h => by have := (HG.out h).1; omega).symm, rfl⟩
end Go.Proofs.Ytihlbcnoficpgaa
