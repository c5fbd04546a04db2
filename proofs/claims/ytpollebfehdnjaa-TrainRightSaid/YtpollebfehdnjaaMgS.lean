/-
  The document's Few and Put of layer 10.
  The document's Right of layer 10.
  The document's Longest of layer 10.
-/
import Derived.Test.YtpollebfehdnjaaRows
import Derived.Test.YtpollebfehdnjaaRisM
import Derived.Test.YtpollebfehdnjaaStrA
import Derived.Test.YtpollebfehdnjaaOutM
import Derived.Test.YtpollebfehdnjaaRefW
import Derived.Lib.Strings
namespace Go.Proofs.Ytpollebfehdnjaa
set_option linter.unusedSimpArgs false
set_option linter.unusedVariables false
open Go.RowKit

/-- few strings, and short -/
def FewS (l : List ByteArray) : Prop := l.length ≤ 300 ∧ ∀ s ∈ l, s.size ≤ 1000
instance (l : List ByteArray) : Decidable (FewS l) := by unfold FewS; infer_instance
set_option maxRecDepth 20000 in
set_option maxHeartbeats 1000000 in
theorem fewS_any {w : World} {lo h' c : Nat} {A : Option Addr} (l : List ByteArray) (h : Rd w lo h' A c (sv l)) :
    Calls Try.prog 10 #[.slice A l.length c] w fun r w' => r = .returned (.bool (decide (FewS l))) ∧ w = w' := by
  have hl := h.len
  have hm := h.cap
  rw [sv_length] at hl
  unfold maxLen at hm
  obtain ⟨v, hv⟩ : ∃ v, decide (FewS l) = v := ⟨_, rfl⟩
  rw [hv]
  have HV1 : Hid (¬ FewS l → v = false) := fun h => by rw [← hv]; exact decide_eq_false h
  have HV2 : Hid (FewS l → v = true) := fun h => by rw [← hv]; exact decide_eq_true h
  have H := Lib.hid h
  clear h hv
  go_enter Try.func10, Try.ntmps10
  go_wp2_with fail
  go_loopw [3] (fun i wr => ∃ k : Nat, k ≤ l.length ∧ k ≤ 400 ∧ i = .int .i64 (k : Int) ∧ (∀ s ∈ l.take k, s.size ≤ 1000) ∧ w = wr) (fun i _ => 400 - (intOf i).toNat)
  case atStart => exact ⟨0, by omega, by omega, rfl, by simp, rfl⟩
  case round =>
    obtain ⟨k, hk, hk4, rfl, ha, rfl⟩ := hrel
    have HA := Lib.hid ha
    clear ha
    by_cases hlt : k < l.length
    · have ik : (k : Int) < (l.length : Int) := by omega
      by_cases hlt4 : k < 400
      · have ik4 : (k : Int) < 400 := by omega
        obtain ⟨b, off, rfl, _, _, hcell⟩ := H.out.str hlt
        have HN : Hid (l[k].size ≤ 1000 → ∀ s ∈ l.take (k + 1), s.size ≤ 1000) := fun h5 s hs => by
          rw [List.take_succ_eq_append_getElem hlt] at hs
          rcases List.mem_append.1 hs with hs | hs
          · exact HA.out s hs
          · rw [List.mem_singleton.1 hs]; exact h5
        have HM : Hid (FewS l → l[k].size ≤ 1000) := fun h => h.2 _ (List.getElem_mem hlt)
        generalize l[k] = s at *
        by_cases h5 : s.size ≤ 1000
        · have i5 : ¬ (1000 : Int) < (s.size : Int) := by omega
          go_wp2_with fail
          go_roundw
          case rel => exact ⟨k + 1, by omega, by omega, by go_num, HN.out h5, by first | rfl | trivial⟩
          case measure => simp [intOf] <;> omega
        · have i5 : (1000 : Int) < (s.size : Int) := by omega
          have hvf : v = false := HV1.out (fun h => h5 (HM.out h))
          have HVF := Lib.hid hvf
          clear hvf
          go_wp2_with fail
          go_ret
          exact ⟨ret_bool HVF.out.symm, by first | rfl | trivial⟩
      · have ik4 : ¬ (k : Int) < 400 := by omega
        have i3 : ¬ (l.length : Int) ≤ 300 := by omega
        have hvf : v = false := HV1.out (fun h => by have := h.1; omega)
        have HVF := Lib.hid hvf
        clear hvf
        go_wp2_with fail
        go_ret
        exact ⟨ret_bool HVF.out.symm, by first | rfl | trivial⟩
    · have ik : ¬ (k : Int) < (l.length : Int) := by omega
      have hvv : v = decide ((l.length : Int) ≤ 300) := by
        by_cases h3 : l.length ≤ 300
        · rw [HV2.out ⟨h3, fun s hs => HA.out s (by rw [List.take_of_length_le (by omega)]; exact hs)⟩]
          exact (decide_eq_true (by omega)).symm
        · rw [HV1.out (fun h => h3 h.1)]
          exact (decide_eq_false (by omega)).symm
      have HVV := Lib.hid hvv
      clear hvv
      go_wp2_with fail
      go_ret
      exact ⟨ret_bool HVV.out.symm, by first | rfl | trivial⟩

theorem put_take {l : List ByteArray} {k : Nat} (h : k < l.length) : ((bytL2 l).take (k + 1)).flatMap (fun s => UInt8.ofNat s.length :: s) = (((bytL2 l).take k).flatMap fun s => UInt8.ofNat s.length :: s) ++ UInt8.ofNat l[k].size :: l[k].data.toList := by
  have hk : k < (bytL2 l).length := by simpa [bytL2] using h
  rw [List.take_succ_eq_append_getElem hk, List.flatMap_append, List.flatMap_cons, List.flatMap_nil, List.append_nil]
  have he : (bytL2 l)[k] = l[k].data.toList := by simp [bytL2]
  rw [he, Array.length_toList]
  rfl
end Go.Proofs.Ytpollebfehdnjaa
namespace Go.Proofs.Ytpollebfehdnjaa
set_option linter.unusedSimpArgs false
set_option linter.unusedVariables false
open Go.RowKit

theorem ok_size (s : ByteArray) : okS s.data.toList = (decide (1 ≤ s.size) && decide (s.size ≤ 8)) := by
  unfold okS
  rw [Array.length_toList]
  rfl
end Go.Proofs.Ytpollebfehdnjaa
namespace Go.Proofs.Ytpollebfehdnjaa
set_option linter.unusedSimpArgs false
set_option linter.unusedVariables false
open Go.RowKit

/-- the longest symbol at the beginning of bytes, from the i-th symbol on, the best so far -/
def longF : List (List UInt8) → Nat → Int → Nat → List UInt8 → Int × Nat
  | [], _, c, n, _ => (c, n)
  | t :: ts, i, c, n, l => if n < t.length ∧ t.isPrefixOf l = true then longF ts (i + 1) (i : Int) t.length l else longF ts (i + 1) c n l
theorem pre_iff {t l : List UInt8} (h : t.length ≤ l.length) : t.isPrefixOf l = true ↔ l.take t.length = t := by
  rw [List.isPrefixOf_iff_prefix]
  constructor
  · intro h2
    exact (List.prefix_iff_eq_take.1 h2).symm
  · intro h2
    rw [← h2]
    exact List.take_prefix _ _
theorem pre_no {t l : List UInt8} (h : l.length < t.length) : ¬ t.isPrefixOf l = true := fun h2 => by
  have := (List.isPrefixOf_iff_prefix.1 h2).length_le
  omega
theorem lenS (s : ByteArray) : s.data.toList.length = s.size := by rw [Array.length_toList]; rfl
theorem headS (s : ByteArray) (k : Nat) : (s.extract 0 k).data.toList = s.data.toList.take k := by
  rw [ByteArray.data_extract, Array.toList_extract]
  simp [List.extract_eq_take_drop]

set_option maxRecDepth 20000 in
set_option maxHeartbeats 2000000 in
theorem refLongest_any {w : World} (l : List ByteArray) (s : ByteArray) {lo hi c : Nat} {A : Option Addr} (h : Rd w lo hi A c (sv l)) (h1k : ∀ t ∈ l, t.size ≤ 100000) (hs : s.size ≤ 100000) (hln : l.length ≤ 100000) :
    Calls Try.prog 28 #[.slice A l.length c, .string s] w fun r w' => r = .returned (.tuple #[.int .i64 (longF (bytL2 l) 0 (-1) 0 s.data.toList).1, .int .i64 ((longF (bytL2 l) 0 (-1) 0 s.data.toList).2 : Int)]) ∧ ∃ m, w' = w.drewN m := by
  have hl := h.len
  have hm := h.cap
  rw [sv_length] at hl
  unfold maxLen at hm
  have H := Lib.hid h
  have H1 : Hid (∀ k (hk : k < l.length), l[k].size ≤ 100000) := fun k hk => h1k _ (List.getElem_mem hk)
  clear h h1k
  obtain ⟨v, hv⟩ : ∃ v, longF (bytL2 l) 0 (-1) 0 s.data.toList = v := ⟨_, rfl⟩
  rw [hv]
  have hsl := lenS s
  go_enter Try.func28, Try.ntmps28
  go_wp2_with fail
  go_loopw [6, 7, 8] (fun x6 x7 x8 wr => ∃ (k n m : Nat) (cc : Int), k ≤ l.length ∧ x8 = .int .i64 (k : Int) ∧ x7 = .int .i64 (n : Int) ∧ x6 = .int .i64 cc ∧ n ≤ 100000 ∧ longF ((bytL2 l).drop k) k cc n s.data.toList = v ∧ wr = w.drewN m) (fun _ _ i _ => l.length - (intOf i).toNat)
  case atStart => exact ⟨0, 0, 0, -1, Nat.zero_le _, rfl, rfl, rfl, by omega, by rw [List.drop_zero]; exact hv, rfl⟩
  case round =>
    obtain ⟨k, n, m, cc, hk, rfl, rfl, rfl, hn, hinv, rfl⟩ := hrel
    have HI := Lib.hid hinv
    clear hinv hv
    by_cases hlt : k < l.length
    · have ik : (k : Int) < (l.length : Int) := by omega
      obtain ⟨b, off, rfl, _, _, hcell⟩ := H.out.str hlt
      have hsz1 := H1.out k hlt
      have hdr : (bytL2 l).drop k = l[k].data.toList :: (bytL2 l).drop (k + 1) := by
        rw [List.drop_eq_getElem_cons (by rw [bytL2_length]; exact hlt), bytL2_get l k hlt]
      have hst := HI.out
      rw [hdr] at hst
      unfold longF at hst
      rw [lenS] at hst
      clear hdr HI
      have htl := lenS l[k]
      have hhd := headS s l[k].size
      generalize l[k] = t at *
      have HSK : Hid (¬ (n < t.size ∧ t.data.toList.isPrefixOf s.data.toList = true) → longF ((bytL2 l).drop (k + 1)) (k + 1) cc n s.data.toList = v) := fun h => by rw [if_neg h] at hst; exact hst
      have HTK : Hid (n < t.size ∧ t.data.toList.isPrefixOf s.data.toList = true → longF ((bytL2 l).drop (k + 1)) (k + 1) (k : Int) t.size s.data.toList = v) := fun h => by rw [if_pos h] at hst; exact hst
      clear hst
      by_cases h1 : n < t.size
      · have d1 : decide ((n : Int) < (t.size : Int)) = true := decide_eq_true (by omega)
        by_cases h2 : t.size ≤ s.size
        · have d2 : decide ((t.size : Int) ≤ (s.size : Int)) = true := decide_eq_true (by omega)
          have i2 : (t.size : Int) ≤ (s.size : Int) := by omega
          by_cases h3 : t.data.toList.isPrefixOf s.data.toList = true
          · have d3 : ((s.extract 0 t.size).toList == t.toList) = true := by
              rw [beq_iff_eq, Lib.toList_data, Lib.toList_data, hhd, ← htl]
              exact (pre_iff (by omega)).1 h3
            have HT := Lib.hid (HTK.out ⟨h1, h3⟩)
            clear h3 hhd htl hsl
            go_wp2_with fail
            go_quiet (fail)
            go_wp2_with fail
            go_roundw
            case rel => exact ⟨k + 1, t.size, _, (k : Int), by omega, by go_num, rfl, rfl, by omega, HT.out, by first | rfl | (rw [World.drewN_drewN])⟩
            case measure => simp [intOf] <;> omega
          · have d3 : ((s.extract 0 t.size).toList == t.toList) = false := by
              rw [beq_eq_false_iff_ne, ne_eq, Lib.toList_data, Lib.toList_data, hhd, ← htl]
              exact fun e => h3 ((pre_iff (by omega)).2 e)
            have HS := Lib.hid (HSK.out (fun e => h3 e.2))
            clear h3 hhd htl hsl
            go_wp2_with fail
            go_quiet (fail)
            go_wp2_with fail
            go_roundw
            case rel => exact ⟨k + 1, n, _, cc, by omega, by go_num, rfl, rfl, by omega, HS.out, by first | rfl | (rw [World.drewN_drewN])⟩
            case measure => simp [intOf] <;> omega
        · have d2 : decide ((t.size : Int) ≤ (s.size : Int)) = false := decide_eq_false (by omega)
          have HS := Lib.hid (HSK.out (fun e => pre_no (by omega) e.2))
          clear hhd htl hsl
          go_wp2_with fail
          go_quiet (fail)
          go_wp2_with fail
          go_roundw
          case rel => exact ⟨k + 1, n, _, cc, by omega, by go_num, rfl, rfl, by omega, HS.out, by first | rfl | (rw [World.drewN_drewN])⟩
          case measure => simp [intOf] <;> omega
      · have d1 : decide ((n : Int) < (t.size : Int)) = false := decide_eq_false (by omega)
        have HS := Lib.hid (HSK.out (fun e => h1 e.1))
        clear hhd htl hsl
        go_wp2_with fail
        go_quiet (fail)
        go_wp2_with fail
        go_roundw
        case rel => exact ⟨k + 1, n, _, cc, by omega, by go_num, rfl, rfl, by omega, HS.out, by first | rfl | (rw [World.drewN_drewN])⟩
        case measure => simp [intOf] <;> omega
    · have ik : ¬ (k : Int) < (l.length : Int) := by omega
      have hfin : (cc, n) = v := by
        have := HI.out
        rw [List.drop_of_length_le (by rw [bytL2_length]; omega)] at this
        exact this
      have HF := Lib.hid hfin
      clear hfin
      go_wp2_with fail
      go_ret2
      exact ⟨by rw [← HF.out]; rfl, m, rfl⟩
end Go.Proofs.Ytpollebfehdnjaa
