/-
  The text package: how strings compare by points.
-/
import Derived.Test.YtbbpfehfceapbaaDoorTxD
namespace Go.Proofs.YtbbpfehfceapbaaDoor
set_option linter.unusedSimpArgs false
set_option linter.unusedVariables false
open Go.RowKit

/-- a point tells how many bytes it has -/
theorem width_eq {a b : List UInt8} (ha : a ≠ []) (hb : b ≠ []) (h : (ptL a).1 = (ptL b).1) : (ptL a).2 = (ptL b).2 := by
  have h1 := congrArg List.length (enc_ptL ha)
  have h2 := congrArg List.length (enc_ptL hb)
  rw [List.length_take, Nat.min_eq_left (ptL_le ha)] at h1
  rw [List.length_take, Nat.min_eq_left (ptL_le hb), ← h] at h2
  omega
theorem ext_size (s : ByteArray) (k : Nat) : (s.extract k s.size).size = s.size - k := by rw [← size_toL, ext_toL, List.length_drop, size_toL]
theorem decodeGo_run (s : ByteArray) (h : 0 < s.size) : Lib.decodeGo s = (runeL s.data.toList, (ptL s.data.toList).2) := by
  unfold Lib.decodeGo
  rw [if_neg (by omega), decode_run s 0 h, List.drop_zero]
/-- the first rune of what is left of a string -/
theorem rest_rune {w : World} (s : ByteArray) (i : Nat) (h : i < s.size) (hT : Tabs w) :
    Calls Tryd.prog 36 #[.string (s.extract i s.size)] w fun e w' => e = .returned (.tuple #[.int .i32 (runeL (s.data.toList.drop i) : Int), .int .i64 ((ptL (s.data.toList.drop i)).2 : Int)]) ∧ Below w.heap.size w w' := by
  refine (decode_any (s.extract i s.size) hT).mono ?_
  rintro r w' ⟨rfl, hb⟩
  rw [decodeGo_run _ (by rw [ext_size]; omega), ext_toL]
  exact ⟨rfl, hb⟩
theorem rest_point {w : World} (s : ByteArray) (i : Nat) (h : i < s.size) :
    Calls Tryd.prog 23 #[.string (s.extract i s.size), .int .i32 (runeL (s.data.toList.drop i) : Int)] w fun r w' => r = .returned (.int .i64 ((ptL (s.data.toList.drop i)).1 : Int)) ∧ w = w' := by
  have := pnt_any (w := w) (s.extract i s.size) (by rw [ext_size]; omega)
  rw [ext_toL] at this
  exact this
theorem cmpP_nil_pts (l : List UInt8) : cmpP [] (ptsL l) = if l = [] then 0 else -1 := by
  by_cases h : l = []
  · subst h; rfl
  · rw [if_neg h, ptsL_cons h]; rfl
theorem cmpP_pts_nil {l : List UInt8} (h : l ≠ []) : cmpP (ptsL l) (ptsL []) = 1 := by rw [ptsL_cons h]; rfl
theorem cmpP_pts_cons {a b : List UInt8} (ha : a ≠ []) (hb : b ≠ []) : cmpP (ptsL a) (ptsL b) = if (ptL a).1 < (ptL b).1 then -1 else if (ptL b).1 < (ptL a).1 then 1 else cmpP (ptsL (a.drop (ptL a).2)) (ptsL (b.drop (ptL b).2)) := by
  rw [ptsL_cons ha, ptsL_cons hb]; rfl

set_option maxRecDepth 20000 in
set_option maxHeartbeats 2000000 in
theorem byPoints_any {w : World} (a b : ByteArray) (ha : a.size ≤ 1000000) (hb : b.size ≤ 1000000) (hT : Tabs w) :
    Calls Tryd.prog 21 #[.string a, .string b] w fun r w' => r = .returned (.int .i64 (cmpP (ptsL a.data.toList) (ptsL b.data.toList))) ∧ Below w.heap.size w w' := by
  obtain ⟨v, hv⟩ : ∃ v, cmpP (ptsL a.data.toList) (ptsL b.data.toList) = v := ⟨_, rfl⟩
  rw [hv]
  have hws := hT.size
  have HT := Lib.hid hT
  clear hT
  go_enter Tryd.func21, Tryd.ntmps21
  go_wp2_with fail
  go_loopw [] (fun wr => ∃ i : Nat, wr.heap[w.heap.size]? = some (.stringIter a i) ∧ i ≤ a.size ∧ i ≤ b.size ∧ cmpP (ptsL (a.data.toList.drop i)) (ptsL (b.data.toList.drop i)) = v ∧ Below w.heap.size w wr) (fun wr => a.size - wr.iterPos w.heap.size)
  case atStart => exact ⟨0, World.iter_heap w a 0, Nat.zero_le _, Nat.zero_le _, by rw [← hv]; simp, (Below.refl _ w).alloc (Nat.le_refl _) _⟩
  case round =>
    obtain ⟨i, hit, hia, hib, hinv, hbw⟩ := hrel
    have HI := Lib.hid hinv
    clear hinv
    by_cases hp : i < a.size
    · have hnx := fun ty => next_any hit hp ty
      have hk := pt_fits hp
      have hit2 := Lib.iterAt_heap wr _ a i (i + (ptL (a.data.toList.drop i)).2) hit
      have hb2 := Lib.below_iterAt hbw (Nat.le_refl _) a (i + (ptL (a.data.toList.drop i)).2)
      have hsz2 : w.heap.size < (wr.iterAt w.heap.size a (i + (ptL (a.data.toList.drop i)).2)).heap.size := by rw [Lib.iterAt_size]; exact (Array.getElem?_eq_some_iff.1 hit).1
      have hT2 : Tabs (wr.iterAt w.heap.size a (i + (ptL (a.data.toList.drop i)).2)) := HT.out.below hb2 hws
      generalize wr.iterAt w.heap.size a (i + (ptL (a.data.toList.drop i)).2) = w2 at *
      have HIT := Lib.hid hit2
      have HB := Lib.hid hb2
      have HT2 := Lib.hid hT2
      clear hit2 hb2 hT2
      have ia : (i : Int) ≤ (a.size : Int) := by omega
      have ib : (i : Int) ≤ (b.size : Int) := by omega
      by_cases hq : i < b.size
      · have HCC := Lib.hid (cmpP_pts_cons (drop_ne hp) (drop_ne hq))
        have hkb := pt_fits hq
        have HRB := Lib.hid (fun w hT => rest_rune (w := w) b i hq hT)
        have HPA := Lib.hid (fun w => rest_point (w := w) a i hp)
        have HPB := Lib.hid (fun w => rest_point (w := w) b i hq)
        have hwe := width_eq (drop_ne hp) (drop_ne hq)
        have hne : (b.extract i b.size).toList.isEmpty = false := by rw [Lib.toList_data, ext_toL]; exact List.isEmpty_eq_false_iff.2 (drop_ne hq)
        generalize runeL (a.data.toList.drop i) = ra at *
        generalize runeL (b.data.toList.drop i) = rb at *
        generalize (ptL (a.data.toList.drop i)).1 = p at *
        generalize (ptL (b.data.toList.drop i)).1 = q at *
        generalize (ptL (a.data.toList.drop i)).2 = ka at *
        generalize (ptL (b.data.toList.drop i)).2 = kb at *
        have HWE := Lib.hid hwe
        clear hwe
        go_wp2_with fail
        refine (HRB.out w2 HT2.out).mono ?_
        rintro r w3 ⟨rfl, b3⟩
        have hit3 : w3.heap[w.heap.size]? = some (.stringIter a (i + ka)) := (b3.block _ hsz2).trans HIT.out
        have HIT3 := Lib.hid hit3
        have HB3 := Lib.hid (HB.out.trans (b3.mono (Nat.le_of_lt hsz2)))
        clear hit3 b3
        rcases Nat.lt_trichotomy p q with h3 | h3 | h3
        · have hcv : v = -1 := by rw [← HI.out, HCC.out, if_pos h3]
          have HCV := Lib.hid hcv
          clear hcv
          have HC : Hid (∀ w, Calls Tryd.prog 34 #[.int .i64 (p : Int), .int .i64 (q : Int)] w fun r w' => r = .returned (.int .i64 (-1)) ∧ w = w') := fun w => by rw [← cmpI_lt (x := (p : Int)) (y := (q : Int)) (by omega)]; exact cmpInt_any _ _
          go_wp2_with fail
          refine (HPA.out _).mono ?_
          rintro r w4 ⟨rfl, rfl⟩
          go_wp2_with fail
          refine (HPB.out _).mono ?_
          rintro r w4 ⟨rfl, rfl⟩
          go_wp2_with fail
          refine (HC.out _).mono ?_
          rintro r w4 ⟨rfl, rfl⟩
          go_wp2_with fail
          go_ret
          exact ⟨ret_int' HCV.out.symm, HB3.out⟩
        · have HPQ := Lib.hid h3
          have HC : Hid (∀ w, Calls Tryd.prog 34 #[.int .i64 (p : Int), .int .i64 (q : Int)] w fun r w' => r = .returned (.int .i64 0) ∧ w = w') := fun w => by rw [← cmpI_eq (x := (p : Int)) (y := (q : Int)) (by omega)]; exact cmpInt_any _ _
          clear h3
          go_wp2_with fail
          refine (HPA.out _).mono ?_
          rintro r w4 ⟨rfl, rfl⟩
          go_wp2_with fail
          refine (HPB.out _).mono ?_
          rintro r w4 ⟨rfl, rfl⟩
          go_wp2_with fail
          refine (HC.out _).mono ?_
          rintro r w4 ⟨rfl, rfl⟩
          go_wp2_with fail
          go_roundw
          case rel =>
            have hkk := HWE.out HPQ.out
            refine ⟨i + ka, HIT3.out, by omega, by omega, ?_, HB3.out⟩
            have h5 := HCC.out
            have h6 := HPQ.out
            rw [if_neg (by omega), if_neg (by omega), List.drop_drop, List.drop_drop, ← hkk] at h5
            rw [← h5]
            exact HI.out
          case measure =>
            simp only [World.iterPos, HIT3.out, hit]
            omega
        · have hcv : v = 1 := by rw [← HI.out, HCC.out, if_neg (by omega), if_pos h3]
          have HCV := Lib.hid hcv
          clear hcv
          have HC : Hid (∀ w, Calls Tryd.prog 34 #[.int .i64 (p : Int), .int .i64 (q : Int)] w fun r w' => r = .returned (.int .i64 1) ∧ w = w') := fun w => by rw [← cmpI_gt (x := (p : Int)) (y := (q : Int)) (by omega)]; exact cmpInt_any _ _
          go_wp2_with fail
          refine (HPA.out _).mono ?_
          rintro r w4 ⟨rfl, rfl⟩
          go_wp2_with fail
          refine (HPB.out _).mono ?_
          rintro r w4 ⟨rfl, rfl⟩
          go_wp2_with fail
          refine (HC.out _).mono ?_
          rintro r w4 ⟨rfl, rfl⟩
          go_wp2_with fail
          go_ret
          exact ⟨ret_int' HCV.out.symm, HB3.out⟩
      · have hbn : b.data.toList.drop i = [] := List.drop_of_length_le (by rw [size_toL]; omega)
        have hv1 : v = 1 := by rw [← HI.out, hbn]; exact cmpP_pts_nil (drop_ne hp)
        have he : (b.extract i b.size).toList.isEmpty = true := by rw [Lib.toList_data, ext_toL, hbn]; rfl
        have HV := Lib.hid hv1
        clear hv1
        go_wp2_with fail
        go_ret
        exact ⟨ret_int' HV.out.symm, HB.out⟩
    · have hnx : ∀ ty, (Instr.next (.pointer (some ⟨w.heap.size, 0, none⟩)) true ty).run Tryd.prog wr = _ := fun ty => Lib.run_next_end_at wr w.heap.size a i ty hit hp
      have hi : i = a.size := by omega
      have hy : v = cmpI a.size b.size := by
        rw [← HI.out, List.drop_of_length_le (by rw [size_toL]; omega), ptsL_nil, cmpP_nil_pts]
        by_cases hbe : b.data.toList.drop i = []
        · rw [if_pos hbe]
          have := congrArg List.length hbe
          rw [List.length_drop, size_toL] at this
          simp at this
          exact (cmpI_eq (by omega)).symm
        · rw [if_neg hbe]
          have := List.length_pos_iff.2 hbe
          rw [List.length_drop, size_toL] at this
          exact (cmpI_lt (by omega)).symm
      have HV := Lib.hid hy
      clear hy
      have HCI := Lib.hid (fun w => cmpInt_any (w := w) (a.size : Int) (b.size : Int))
      go_wp2_with fail
      refine (HCI.out _).mono ?_
      rintro r w1 ⟨rfl, rfl⟩
      go_wp2_with fail
      go_ret
      exact ⟨ret_int' HV.out.symm, hbw⟩
end Go.Proofs.YtbbpfehfceapbaaDoor
