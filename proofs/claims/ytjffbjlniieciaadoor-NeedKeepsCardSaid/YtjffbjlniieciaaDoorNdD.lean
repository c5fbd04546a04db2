/-
  The document's bit, Begins, has and Compare of layer 16.
-/
import Derived.Test.YtjffbjlniieciaaDoorNdA
import Derived.Test.YtjffbjlniieciaaDoorRefZ
namespace Go.Proofs.YtjffbjlniieciaaDoor
set_option linter.unusedSimpArgs false
set_option linter.unusedVariables false
open Go.RowKit

theorem eqB (a b : ByteArray) : (a.toList == b.toList) = decide (a = b) := by
  rw [Bool.eq_iff_iff, beq_iff_eq, decide_eq_true_eq, Lib.toList_data, Lib.toList_data]
  refine ⟨fun h => ?_, fun h => by rw [h]⟩
  cases a
  cases b
  exact congrArg ByteArray.mk (Array.toList_inj.1 h)
/-- does a string begin with another one? -/
def begS (s p : ByteArray) : Bool := decide (p.size ≤ s.size ∧ s.extract 0 p.size = p)
/-- does it end with it? -/
def endS (s p : ByteArray) : Bool := decide (p.size ≤ s.size ∧ s.extract (s.size - p.size) s.size = p)
/-- has it it? -/
def hasS (s p : ByteArray) : Bool := (List.range (s.size + 1)).any fun i => decide (i + p.size ≤ s.size ∧ s.extract i (i + p.size) = p)
theorem hasS_true {s p : ByteArray} {i : Nat} (h : i + p.size ≤ s.size) (he : s.extract i (i + p.size) = p) : hasS s p = true :=
  List.any_eq_true.2 ⟨i, List.mem_range.2 (by omega), decide_eq_true ⟨h, he⟩⟩
theorem hasS_false {s p : ByteArray} (h : ∀ i, i + p.size ≤ s.size → s.extract i (i + p.size) ≠ p) : hasS s p = false :=
  Bool.eq_false_iff.2 fun h' => by
    obtain ⟨i, _, hi⟩ := List.any_eq_true.1 h'
    have := of_decide_eq_true hi
    exact h i this.1 this.2
/-- how strings compare -/
def cmpS (a b : ByteArray) (coll : Int) : Int :=
  if coll = 1 then cmpL (foldL a.data.toList) (foldL b.data.toList) else if coll = 2 then cmpP (ptsL a.data.toList) (ptsL b.data.toList) else cmpL a.data.toList b.data.toList

theorem ndbit_any {w : World} (b : Bool) : Calls Tryd.prog 25 #[.bool b] w fun r w' => r = .returned (.int .i64 (if b then 1 else 0)) ∧ w = w' := by
  cases b with
  | true =>
    go_enter Tryd.func25, Tryd.ntmps25
    go_wp2_with fail
    go_ret
    exact ⟨rfl, rfl⟩
  | false =>
    go_enter Tryd.func25, Tryd.ntmps25
    go_wp2_with fail
    go_ret
    exact ⟨rfl, rfl⟩

theorem ndbegins_any {w : World} (s p : ByteArray) (hs : s.size ≤ 100000000) (hp : p.size ≤ 100000000) :
    Calls Tryd.prog 26 #[.string s, .string p] w fun r w' => r = .returned (.bool (begS s p)) ∧ w = w' := by
  obtain ⟨V, hV⟩ : ∃ V, begS s p = V := ⟨_, rfl⟩
  rw [hV]
  by_cases h1 : p.size ≤ s.size
  · have i1 : (p.size : Int) ≤ (s.size : Int) := by omega
    obtain ⟨e, he⟩ : ∃ e, decide (s.extract 0 p.size = p) = e := ⟨_, rfl⟩
    have HV : Hid (e = V) := by
      unfold Hid
      rw [← hV, begS, Bool.eq_iff_iff, ← he, decide_eq_true_eq, decide_eq_true_eq]
      exact ⟨fun h => ⟨h1, h⟩, fun h => h.2⟩
    have he2 : ((s.extract 0 p.size).toList == p.toList) = e := by rw [← he, eqB]
    clear hV
    go_enter Tryd.func26, Tryd.ntmps26
    go_wp2_with fail
    go_ret
    exact ⟨ret_bool HV.out, rfl⟩
  · have i1 : ¬ (p.size : Int) ≤ (s.size : Int) := by omega
    have HV : Hid (V = false) := by
      unfold Hid
      rw [← hV, begS]
      exact decide_eq_false fun h => h1 h.1
    clear hV
    go_enter Tryd.func26, Tryd.ntmps26
    go_wp2_with fail
    go_ret
    exact ⟨ret_bool HV.out.symm, rfl⟩

set_option maxHeartbeats 4000000 in
theorem ndhas_any {w : World} (s p : ByteArray) (hs : s.size ≤ 100000000) (hp : p.size ≤ 100000000) :
    Calls Tryd.prog 27 #[.string s, .string p] w fun r w' => r = .returned (.bool (hasS s p)) ∧ w = w' := by
  obtain ⟨V, hV⟩ : ∃ V, hasS s p = V := ⟨_, rfl⟩
  rw [hV]
  have HV := Lib.hid hV
  clear hV
  go_enter Tryd.func27, Tryd.ntmps27
  go_wp2_with fail
  go_loopw [5] (fun x5 wr => ∃ k : Nat, k ≤ s.size + 1 ∧ x5 = .int .i64 (k : Int) ∧ (∀ i, i < k → i + p.size ≤ s.size → s.extract i (i + p.size) ≠ p) ∧ w = wr) (fun x5 _ => s.size + 1 - (intOf x5).toNat)
  case atStart => exact ⟨0, Nat.zero_le _, rfl, fun i h => absurd h (Nat.not_lt_zero i), rfl⟩
  case round =>
    obtain ⟨k, hk, rfl, ha, rfl⟩ := hrel
    have HA := Lib.hid ha
    clear ha
    have hw : IntKind.i64.wrap ((k : Int) + (p.size : Int)) = ((k + p.size : Nat) : Int) := by rw [IntWalk.i64_in _ (by omega)]; omega
    by_cases hlt : k + p.size ≤ s.size
    · have ik : ((k + p.size : Nat) : Int) ≤ (s.size : Int) := by omega
      have ik2 : (k : Int) ≤ ((k + p.size : Nat) : Int) := by omega
      by_cases he : s.extract k (k + p.size) = p
      · have he2 : ((s.extract k (k + p.size)).toList == p.toList) = true := by rw [eqB]; exact decide_eq_true he
        have HVV : Hid (V = true) := by unfold Hid; rw [← HV.out]; exact hasS_true hlt he
        clear he
        go_wp2_with fail
        go_ret
        exact ⟨ret_bool HVV.out.symm, rfl⟩
      · have he2 : ((s.extract k (k + p.size)).toList == p.toList) = false := by rw [eqB]; exact decide_eq_false he
        have HA2 : Hid (∀ i, i < k + 1 → i + p.size ≤ s.size → s.extract i (i + p.size) ≠ p) := fun i hi hi2 => by
          by_cases h : i = k
          · subst h; exact he
          · exact HA.out i (by omega) hi2
        clear he
        go_wp2_with fail
        go_roundw
        case rel => exact ⟨k + 1, by omega, by go_num, HA2.out, by first | rfl | trivial⟩
        case measure => simp [intOf] <;> omega
    · have ik : ¬ ((k + p.size : Nat) : Int) ≤ (s.size : Int) := by omega
      have HVV : Hid (V = false) := by unfold Hid; rw [← HV.out]; exact hasS_false fun i hi => HA.out i (by omega) hi
      go_wp2_with fail
      go_ret
      exact ⟨ret_bool HVV.out.symm, rfl⟩

theorem ndcmp_any {w : World} (a b : ByteArray) (coll : Int) (ha : a.size ≤ 100000) (hb : b.size ≤ 100000) :
    Calls Tryd.prog 29 #[.string a, .string b, .int .i64 coll] w fun r w' => r = .returned (.int .i64 (cmpS a b coll)) ∧ Below w.heap.size w w' := by
  have H1 := Lib.hid (refByFold_any (w := w) a b ha hb)
  have H2 := Lib.hid (refByPoints_any (w := w) a b (by omega) (by omega))
  have H3 := Lib.hid (refCompare_any (w := w) a b ha hb)
  by_cases h1 : coll = 1
  · subst h1
    have hc : cmpS a b 1 = cmpL (foldL a.data.toList) (foldL b.data.toList) := if_pos rfl
    rw [hc]
    generalize cmpL (foldL a.data.toList) (foldL b.data.toList) = z at *
    clear H2 H3 hc
    go_enter Tryd.func29, Tryd.ntmps29
    go_wp2_with fail
    refine H1.out.mono ?_
    rintro r w2 ⟨rfl, q2⟩
    go_wp2_with fail
    go_ret
    exact ⟨rfl, q2⟩
  · have e1 : (coll == 1) = false := by rw [beq_eq_false_iff_ne]; exact h1
    by_cases h2 : coll = 2
    · subst h2
      have hc : cmpS a b 2 = cmpP (ptsL a.data.toList) (ptsL b.data.toList) := by rw [cmpS, if_neg h1, if_pos rfl]
      rw [hc]
      generalize cmpP (ptsL a.data.toList) (ptsL b.data.toList) = z at *
      clear H1 H3 hc
      go_enter Tryd.func29, Tryd.ntmps29
      go_wp2_with fail
      refine H2.out.mono ?_
      rintro r w2 ⟨rfl, q2⟩
      go_wp2_with fail
      go_ret
      exact ⟨rfl, q2⟩
    · have e2 : (coll == 2) = false := by rw [beq_eq_false_iff_ne]; exact h2
      have hc : cmpS a b coll = cmpL a.data.toList b.data.toList := by rw [cmpS, if_neg h1, if_neg h2]
      rw [hc]
      generalize cmpL a.data.toList b.data.toList = z at *
      clear H1 H2 hc
      go_enter Tryd.func29, Tryd.ntmps29
      go_wp2_with fail
      refine H3.out.mono ?_
      rintro r w2 ⟨rfl, m, rfl⟩
      go_wp2_with fail
      go_ret
      exact ⟨rfl, below_drewN' (Below.refl _ _) m⟩
end Go.Proofs.YtjffbjlniieciaaDoor
