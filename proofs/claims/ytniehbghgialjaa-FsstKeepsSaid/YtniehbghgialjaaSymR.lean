/-
  The document's Few and Put of layer 10.
-/
import Derived.Test.YtniehbghgialjaaRows
import Derived.Test.YtniehbghgialjaaRisM
import Derived.Test.YtniehbghgialjaaStrA
import Derived.Test.YtniehbghgialjaaOutM
namespace Go.Proofs.Ytniehbghgialjaa
set_option linter.unusedSimpArgs false
set_option linter.unusedVariables false
open Go.RowKit

/-- few strings, and short -/
def FewS (l : List ByteArray) : Prop := l.length ≤ 300 ∧ ∀ s ∈ l, s.size ≤ 1000
instance (l : List ByteArray) : Decidable (FewS l) := by unfold FewS; infer_instance
set_option maxRecDepth 20000 in
set_option maxHeartbeats 1000000 in
theorem fewS_any {w : World} {lo h' c : Nat} {A : Option Addr} (l : List ByteArray) (h : Rd w lo h' A c (sv l)) :
    Calls Try.prog 9 #[.slice A l.length c] w fun r w' => r = .returned (.bool (decide (FewS l))) ∧ w = w' := by
  have hl := h.len
  have hm := h.cap
  rw [sv_length] at hl
  unfold maxLen at hm
  obtain ⟨v, hv⟩ : ∃ v, decide (FewS l) = v := ⟨_, rfl⟩
  rw [hv]
  have HV1 : Hid (¬ FewS l → v = false) := fun h => by rw [← hv]; exact decide_eq_false h
  have HV2 : Hid (FewS l → v = true) := fun h => by rw [← hv]; exact decide_eq_true h
  have H := Lib.hid h
  clear h hv
  go_enter Try.func9, Try.ntmps9
  go_wp2_with fail
  go_loopw [3] (fun i wr => ∃ k : Nat, k ≤ l.length ∧ k ≤ 400 ∧ i = .int .i64 (k : Int) ∧ (∀ s ∈ l.take k, s.size ≤ 1000) ∧ w = wr) (fun i _ => 400 - (intOf i).toNat)
  case atStart => exact ⟨0, by omega, by omega, rfl, by simp, rfl⟩
  case round =>
    obtain ⟨k, hk, hk4, rfl, ha, rfl⟩ := hrel
    have HA := Lib.hid ha
    clear ha
    by_cases hlt : k < l.length
    · have ik : (k : Int) < (l.length : Int) := by omega
      by_cases hlt4 : k < 400
      · have ik4 : (k : Int) < 400 := by omega
        obtain ⟨b, off, rfl, _, _, hcell⟩ := H.out.str hlt
        have HN : Hid (l[k].size ≤ 1000 → ∀ s ∈ l.take (k + 1), s.size ≤ 1000) := fun h5 s hs => by
          rw [List.take_succ_eq_append_getElem hlt] at hs
          rcases List.mem_append.1 hs with hs | hs
          · exact HA.out s hs
          · rw [List.mem_singleton.1 hs]; exact h5
        have HM : Hid (FewS l → l[k].size ≤ 1000) := fun h => h.2 _ (List.getElem_mem hlt)
        generalize l[k] = s at *
        by_cases h5 : s.size ≤ 1000
        · have i5 : ¬ (1000 : Int) < (s.size : Int) := by omega
          go_wp2_with fail
          go_roundw
          case rel => exact ⟨k + 1, by omega, by omega, by go_num, HN.out h5, by first | rfl | trivial⟩
          case measure => simp [intOf] <;> omega
        · have i5 : (1000 : Int) < (s.size : Int) := by omega
          have hvf : v = false := HV1.out (fun h => h5 (HM.out h))
          have HVF := Lib.hid hvf
          clear hvf
          go_wp2_with fail
          go_ret
          exact ⟨ret_bool HVF.out.symm, by first | rfl | trivial⟩
      · have ik4 : ¬ (k : Int) < 400 := by omega
        have i3 : ¬ (l.length : Int) ≤ 300 := by omega
        have hvf : v = false := HV1.out (fun h => by have := h.1; omega)
        have HVF := Lib.hid hvf
        clear hvf
        go_wp2_with fail
        go_ret
        exact ⟨ret_bool HVF.out.symm, by first | rfl | trivial⟩
    · have ik : ¬ (k : Int) < (l.length : Int) := by omega
      have hvv : v = decide ((l.length : Int) ≤ 300) := by
        by_cases h3 : l.length ≤ 300
        · rw [HV2.out ⟨h3, fun s hs => HA.out s (by rw [List.take_of_length_le (by omega)]; exact hs)⟩]
          exact (decide_eq_true (by omega)).symm
        · rw [HV1.out (fun h => h3 h.1)]
          exact (decide_eq_false (by omega)).symm
      have HVV := Lib.hid hvv
      clear hvv
      go_wp2_with fail
      go_ret
      exact ⟨ret_bool HVV.out.symm, by first | rfl | trivial⟩

theorem put_take {l : List ByteArray} {k : Nat} (h : k < l.length) : ((bytL2 l).take (k + 1)).flatMap (fun s => UInt8.ofNat s.length :: s) = (((bytL2 l).take k).flatMap fun s => UInt8.ofNat s.length :: s) ++ UInt8.ofNat l[k].size :: l[k].data.toList := by
  have hk : k < (bytL2 l).length := by simpa [bytL2] using h
  rw [List.take_succ_eq_append_getElem hk, List.flatMap_append, List.flatMap_cons, List.flatMap_nil, List.append_nil]
  have he : (bytL2 l)[k] = l[k].data.toList := by simp [bytL2]
  rw [he, Array.length_toList]
  rfl
end Go.Proofs.Ytniehbghgialjaa
