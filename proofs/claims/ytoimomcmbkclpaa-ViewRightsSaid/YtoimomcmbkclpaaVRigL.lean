/-
  ViewRights where the length is that of a long string.
-/
import Derived.Test.YtoimomcmbkclpaaVRigM
namespace Go.Proofs.Ytoimomcmbkclpaa
set_option linter.unusedSimpArgs false
set_option linter.unusedVariables false
open Go.RowKit

set_option maxRecDepth 20000 in
set_option maxHeartbeats 4000000 in
theorem viewRights_l1 {w : World} (l : List UInt8) (hl : l.length = 16) (hn : 12 < lenV l) (h4 : 4096 < lenV l) :
    Calls Try.prog 4 #[.agg (vb l)] w fun e w' => e = .returned (.bool true) ∧ Below w.heap.size w w' := by
  have hb8 : bufV l = numAt l 8 := by unfold bufV; rw [if_neg (by omega)]
  have hb12 : atV l = numAt l 12 := by unfold atV; rw [if_neg (by omega)]
  have hrv : rightV l = false := by
    unfold rightV
    rw [if_neg (by omega), hb8, hb12]
    simp <;> omega
  have h1 := fun w0 => lnumber_any (w := w0) l hl 0 (by omega)
  rw [lenV_at] at h1
  have h8 := fun w0 => lnumber_any (w := w0) l hl 8 (by omega)
  have h12 := fun w0 => lnumber_any (w := w0) l hl 12 (by omega)
  have h2 := fun w0 => vright_any (w := w0) l hl
  rw [hrv] at h2
  obtain ⟨n, hn'⟩ : ∃ n, lenV l = n := ⟨_, rfl⟩
  obtain ⟨x8, hx8⟩ : ∃ x, numAt l 8 = x := ⟨_, rfl⟩
  obtain ⟨x12, hx12⟩ : ∃ x, numAt l 12 = x := ⟨_, rfl⟩
  have hlt := lenV_lt l
  simp only [hn', hx8, hx12] at *
  have H1 := Lib.hid h1
  have H2 := Lib.hid h2
  have HN8 := Lib.hid h8
  have HN12 := Lib.hid h12
  clear h1 h2 h8 h12 hn' hx8 hx12 hb8 hb12 hrv
  go_enter Try.func4, Try.ntmps4
  go_wp2_with fail
  refine (awake6_any _).mono ?_
  rintro r w1 ⟨rfl, hb1⟩
  have X1 := Lib.hid ((Blk.new w 23 (vb l)).below hb1 (by simp))
  have K1 := Lib.hid (below_below ((Below.refl w.heap.size w).alloc (Nat.le_refl _) (.cells (vb l) 23)) hb1 (by simp))
  clear hb1
  go_wp2_with (refine wpList_loadG X1.out hl (by first | rfl | (go_simp; done) | (go_simp; omega)) _ rfl rfl ?_)
  refine (H1.out _).mono ?_
  rintro r w2 ⟨rfl, hb0⟩
  have X2 := Lib.hid (X1.out.below hb0 X1.out.lt)
  have K2 := Lib.hid (below_below K1.out hb0 K1.out.size)
  clear hb0
  go_wp2_with (refine wpList_loadG X2.out hl (by first | rfl | (go_simp; done) | (go_simp; omega)) _ rfl rfl ?_)
  refine (H2.out _).mono ?_
  rintro r w3 ⟨rfl, hb0⟩
  have X3 := Lib.hid (X2.out.below hb0 X2.out.lt)
  have K3 := Lib.hid (below_below K2.out hb0 K2.out.size)
  clear hb0
  go_wp2_with fail
  go_ret
  exact ⟨rfl, K3.out⟩

set_option maxRecDepth 20000 in
set_option maxHeartbeats 4000000 in
theorem viewRights_l2 {w : World} (l : List UInt8) (hl : l.length = 16) (hn : 12 < lenV l) (h4 : lenV l ≤ 4096) (h5 : 65535 < numAt l 8) :
    Calls Try.prog 4 #[.agg (vb l)] w fun e w' => e = .returned (.bool true) ∧ Below w.heap.size w w' := by
  have hb8 : bufV l = numAt l 8 := by unfold bufV; rw [if_neg (by omega)]
  have hb12 : atV l = numAt l 12 := by unfold atV; rw [if_neg (by omega)]
  have hrv : rightV l = false := by
    unfold rightV
    rw [if_neg (by omega), hb8, hb12]
    simp <;> omega
  have h1 := fun w0 => lnumber_any (w := w0) l hl 0 (by omega)
  rw [lenV_at] at h1
  have h8 := fun w0 => lnumber_any (w := w0) l hl 8 (by omega)
  have h12 := fun w0 => lnumber_any (w := w0) l hl 12 (by omega)
  have h2 := fun w0 => vright_any (w := w0) l hl
  rw [hrv] at h2
  obtain ⟨n, hn'⟩ : ∃ n, lenV l = n := ⟨_, rfl⟩
  obtain ⟨x8, hx8⟩ : ∃ x, numAt l 8 = x := ⟨_, rfl⟩
  obtain ⟨x12, hx12⟩ : ∃ x, numAt l 12 = x := ⟨_, rfl⟩
  have hlt := lenV_lt l
  simp only [hn', hx8, hx12] at *
  have H1 := Lib.hid h1
  have H2 := Lib.hid h2
  have HN8 := Lib.hid h8
  have HN12 := Lib.hid h12
  clear h1 h2 h8 h12 hn' hx8 hx12 hb8 hb12 hrv
  go_enter Try.func4, Try.ntmps4
  go_wp2_with fail
  refine (awake6_any _).mono ?_
  rintro r w1 ⟨rfl, hb1⟩
  have X1 := Lib.hid ((Blk.new w 23 (vb l)).below hb1 (by simp))
  have K1 := Lib.hid (below_below ((Below.refl w.heap.size w).alloc (Nat.le_refl _) (.cells (vb l) 23)) hb1 (by simp))
  clear hb1
  go_wp2_with (refine wpList_loadG X1.out hl (by first | rfl | (go_simp; done) | (go_simp; omega)) _ rfl rfl ?_)
  refine (H1.out _).mono ?_
  rintro r w2 ⟨rfl, hb0⟩
  have X2 := Lib.hid (X1.out.below hb0 X1.out.lt)
  have K2 := Lib.hid (below_below K1.out hb0 K1.out.size)
  clear hb0
  go_wp2_with (refine wpList_loadG X2.out hl (by first | rfl | (go_simp; done) | (go_simp; omega)) _ rfl rfl ?_)
  refine (HN8.out _).mono ?_
  rintro r w3 ⟨rfl, hb0⟩
  have X3 := Lib.hid (X2.out.below hb0 X2.out.lt)
  have K3 := Lib.hid (below_below K2.out hb0 K2.out.size)
  clear hb0
  go_wp2_with (refine wpList_loadG X3.out hl (by first | rfl | (go_simp; done) | (go_simp; omega)) _ rfl rfl ?_)
  refine (H2.out _).mono ?_
  rintro r w4 ⟨rfl, hb0⟩
  have X4 := Lib.hid (X3.out.below hb0 X3.out.lt)
  have K4 := Lib.hid (below_below K3.out hb0 K3.out.size)
  clear hb0
  go_wp2_with fail
  go_ret
  exact ⟨rfl, K4.out⟩

set_option maxRecDepth 20000 in
set_option maxHeartbeats 4000000 in
theorem viewRights_l3 {w : World} (l : List UInt8) (hl : l.length = 16) (hn : 12 < lenV l) (h4 : lenV l ≤ 4096) (h5 : numAt l 8 ≤ 65535) (h6 : 65536 < numAt l 12) :
    Calls Try.prog 4 #[.agg (vb l)] w fun e w' => e = .returned (.bool true) ∧ Below w.heap.size w w' := by
  have hb8 : bufV l = numAt l 8 := by unfold bufV; rw [if_neg (by omega)]
  have hb12 : atV l = numAt l 12 := by unfold atV; rw [if_neg (by omega)]
  have hrv : rightV l = false := by
    unfold rightV
    rw [if_neg (by omega), hb8, hb12]
    simp <;> omega
  have h1 := fun w0 => lnumber_any (w := w0) l hl 0 (by omega)
  rw [lenV_at] at h1
  have h8 := fun w0 => lnumber_any (w := w0) l hl 8 (by omega)
  have h12 := fun w0 => lnumber_any (w := w0) l hl 12 (by omega)
  have h2 := fun w0 => vright_any (w := w0) l hl
  rw [hrv] at h2
  obtain ⟨n, hn'⟩ : ∃ n, lenV l = n := ⟨_, rfl⟩
  obtain ⟨x8, hx8⟩ : ∃ x, numAt l 8 = x := ⟨_, rfl⟩
  obtain ⟨x12, hx12⟩ : ∃ x, numAt l 12 = x := ⟨_, rfl⟩
  have hlt := lenV_lt l
  simp only [hn', hx8, hx12] at *
  have H1 := Lib.hid h1
  have H2 := Lib.hid h2
  have HN8 := Lib.hid h8
  have HN12 := Lib.hid h12
  clear h1 h2 h8 h12 hn' hx8 hx12 hb8 hb12 hrv
  go_enter Try.func4, Try.ntmps4
  go_wp2_with fail
  refine (awake6_any _).mono ?_
  rintro r w1 ⟨rfl, hb1⟩
  have X1 := Lib.hid ((Blk.new w 23 (vb l)).below hb1 (by simp))
  have K1 := Lib.hid (below_below ((Below.refl w.heap.size w).alloc (Nat.le_refl _) (.cells (vb l) 23)) hb1 (by simp))
  clear hb1
  go_wp2_with (refine wpList_loadG X1.out hl (by first | rfl | (go_simp; done) | (go_simp; omega)) _ rfl rfl ?_)
  refine (H1.out _).mono ?_
  rintro r w2 ⟨rfl, hb0⟩
  have X2 := Lib.hid (X1.out.below hb0 X1.out.lt)
  have K2 := Lib.hid (below_below K1.out hb0 K1.out.size)
  clear hb0
  go_wp2_with (refine wpList_loadG X2.out hl (by first | rfl | (go_simp; done) | (go_simp; omega)) _ rfl rfl ?_)
  refine (HN8.out _).mono ?_
  rintro r w3 ⟨rfl, hb0⟩
  have X3 := Lib.hid (X2.out.below hb0 X2.out.lt)
  have K3 := Lib.hid (below_below K2.out hb0 K2.out.size)
  clear hb0
  go_wp2_with (refine wpList_loadG X3.out hl (by first | rfl | (go_simp; done) | (go_simp; omega)) _ rfl rfl ?_)
  refine (HN12.out _).mono ?_
  rintro r w4 ⟨rfl, hb0⟩
  have X4 := Lib.hid (X3.out.below hb0 X3.out.lt)
  have K4 := Lib.hid (below_below K3.out hb0 K3.out.size)
  clear hb0
  go_wp2_with (refine wpList_loadG X4.out hl (by first | rfl | (go_simp; done) | (go_simp; omega)) _ rfl rfl ?_)
  refine (H2.out _).mono ?_
  rintro r w5 ⟨rfl, hb0⟩
  have X5 := Lib.hid (X4.out.below hb0 X4.out.lt)
  have K5 := Lib.hid (below_below K4.out hb0 K4.out.size)
  clear hb0
  have hd : decide ((x12 : Int) ≤ 65536) = false := by rw [decide_eq_false_iff_not]; omega
  go_wp2_with fail
  go_ret
  exact ⟨rfl, K5.out⟩

set_option maxRecDepth 20000 in
set_option maxHeartbeats 4000000 in
theorem viewRights_long {w : World} (l : List UInt8) (hl : l.length = 16) (hn : 12 < lenV l) (h4 : lenV l ≤ 4096) (h5 : numAt l 8 ≤ 65535) (h6 : numAt l 12 ≤ 65536) :
    Calls Try.prog 4 #[.agg (vb l)] w fun e w' => e = .returned (.bool true) ∧ Below w.heap.size w w' := by
  have hb8 : bufV l = numAt l 8 := by unfold bufV; rw [if_neg (by omega)]
  have hb12 : atV l = numAt l 12 := by unfold atV; rw [if_neg (by omega)]
  have hrv : rightV l = true := by
    unfold rightV
    rw [if_neg (by omega), hb8, hb12]
    simp <;> omega
  have h1 := fun w0 => lnumber_any (w := w0) l hl 0 (by omega)
  rw [lenV_at] at h1
  have h8 := fun w0 => lnumber_any (w := w0) l hl 8 (by omega)
  have h12 := fun w0 => lnumber_any (w := w0) l hl 12 (by omega)
  have h2 := fun w0 => vright_any (w := w0) l hl
  rw [hrv] at h2
  have h3 := fun w0 => vplace_any (w := w0) l hl
  rw [hb8, hb12] at h3
  have h9 := fun w0 => vlen_any (w := w0) l hl
  have h10 := fun w0 => vshort_any (w := w0) l hl
  rw [decide_eq_false (by omega)] at h10
  have h11 := fun w0 => vtext_any (w := w0) l hl
  rw [show textV l = [] from by unfold textV; rw [if_neg (by omega)]] at h11
  have h13 := fun w0 => vprefix_any (w := w0) l hl
  rw [show prefV l = (l.drop 4).take 4 from by unfold prefV; rw [Nat.min_eq_left (by omega)]] at h13
  have hcv := fun (g : Nat) (W : World) (hr : W.rangeAt g 0 (bv l)) => conv_range hr hl 4 4 12 (by omega) rfl
  obtain ⟨px, hpx⟩ : ∃ px : ByteArray, ⟨((l.drop 4).take 4).toArray⟩ = px := ⟨_, rfl⟩
  rw [hpx] at h13 hcv
  obtain ⟨n, hn'⟩ : ∃ n, lenV l = n := ⟨_, rfl⟩
  obtain ⟨x8, hx8⟩ : ∃ x, numAt l 8 = x := ⟨_, rfl⟩
  obtain ⟨x12, hx12⟩ : ∃ x, numAt l 12 = x := ⟨_, rfl⟩
  have hlt := lenV_lt l
  simp only [hn', hx8, hx12] at *
  have H1 := Lib.hid h1
  have H2 := Lib.hid h2
  have HN8 := Lib.hid h8
  have HN12 := Lib.hid h12
  have H3 := Lib.hid h3
  have H9 := Lib.hid h9
  have H10 := Lib.hid h10
  have H11 := Lib.hid h11
  have H13 := Lib.hid h13
  have HCV := Lib.hid hcv
  clear h1 h2 h8 h12 hn' hx8 hx12 hb8 hb12 hrv h3 h9 h10 h11 h13 hcv hpx
  go_enter Try.func4, Try.ntmps4
  go_wp2_with fail
  refine (awake6_any _).mono ?_
  rintro r w1 ⟨rfl, hb1⟩
  have X1 := Lib.hid ((Blk.new w 23 (vb l)).below hb1 (by simp))
  have K1 := Lib.hid (below_below ((Below.refl w.heap.size w).alloc (Nat.le_refl _) (.cells (vb l) 23)) hb1 (by simp))
  clear hb1
  go_wp2_with (refine wpList_loadG X1.out hl (by first | rfl | (go_simp; done) | (go_simp; omega)) _ rfl rfl ?_)
  refine (H1.out _).mono ?_
  rintro r w2 ⟨rfl, hb0⟩
  have X2 := Lib.hid (X1.out.below hb0 X1.out.lt)
  have K2 := Lib.hid (below_below K1.out hb0 K1.out.size)
  clear hb0
  go_wp2_with (refine wpList_loadG X2.out hl (by first | rfl | (go_simp; done) | (go_simp; omega)) _ rfl rfl ?_)
  refine (HN8.out _).mono ?_
  rintro r w3 ⟨rfl, hb0⟩
  have X3 := Lib.hid (X2.out.below hb0 X2.out.lt)
  have K3 := Lib.hid (below_below K2.out hb0 K2.out.size)
  clear hb0
  go_wp2_with (refine wpList_loadG X3.out hl (by first | rfl | (go_simp; done) | (go_simp; omega)) _ rfl rfl ?_)
  refine (HN12.out _).mono ?_
  rintro r w4 ⟨rfl, hb0⟩
  have X4 := Lib.hid (X3.out.below hb0 X3.out.lt)
  have K4 := Lib.hid (below_below K3.out hb0 K3.out.size)
  clear hb0
  have hd : decide ((x12 : Int) ≤ 65536) = true := by rw [decide_eq_true_iff]; omega
  go_wp2_with (refine wpList_loadG X4.out hl (by first | rfl | (go_simp; done) | (go_simp; omega)) _ rfl rfl ?_)
  refine (H2.out _).mono ?_
  rintro r w5 ⟨rfl, hb0⟩
  have X5 := Lib.hid (X4.out.below hb0 X4.out.lt)
  have K5 := Lib.hid (below_below K4.out hb0 K4.out.size)
  clear hb0
  go_wp2_with (refine wpList_loadG X5.out hl (by first | rfl | (go_simp; done) | (go_simp; omega)) _ rfl rfl ?_)
  refine (H3.out _).mono ?_
  rintro r w6 ⟨rfl, hb0⟩
  have X6 := Lib.hid (X5.out.below hb0 X5.out.lt)
  have K6 := Lib.hid (below_below K5.out hb0 K5.out.size)
  clear hb0
  go_wp2_with (refine wpList_loadG X6.out hl (by first | rfl | (go_simp; done) | (go_simp; omega)) _ rfl rfl ?_)
  refine (H9.out _).mono ?_
  rintro r w7 ⟨rfl, hb0⟩
  have X7 := Lib.hid (X6.out.below hb0 X6.out.lt)
  have K7 := Lib.hid (below_below K6.out hb0 K6.out.size)
  clear hb0
  go_wp2_with (refine wpList_loadG X7.out hl (by first | rfl | (go_simp; done) | (go_simp; omega)) _ rfl rfl ?_)
  refine (H10.out _).mono ?_
  rintro r w8 ⟨rfl, hb0⟩
  have X8 := Lib.hid (X7.out.below hb0 X7.out.lt)
  have K8 := Lib.hid (below_below K7.out hb0 K7.out.size)
  clear hb0
  go_wp2_with fail
  have hu16 := Try.underlying23
  have hi16 : (Try.prog.info? 23).map (·.size) = some (bv l).length := sizeV (by rw [bv_length]; exact hl)
  have hS0 : w8.drew.rangeAt w.heap.size 0 (bv l) ∧ w.heap.size < w8.drew.heap.size ∧ Below w.heap.size w w8.drew := ⟨rangeV X8.out.drew, X8.out.lt, Below.drew K8.out⟩
  refine wp_region_held_drew (S := (fun w' => w'.rangeAt w.heap.size 0 (bv l) ∧ w.heap.size < w'.heap.size ∧ Below w.heap.size w w')) (by kernel_rfl) hS0 (fun hHeld => ?_)
  have hsl4 := fun w0 => run_slice48 w0 w.heap.size
  refine wpAnyH_take (i := 0) (oi := _) (v := _) rfl (by kernel_rfl) (by kernel_rfl) (by kernel_rfl) (fun _ _ _ h => h) (yieldsIf_load_mid (by rfl) _ _ rfl _ _ rfl (bv l) _ (fun _ h => h.1) hu16 rfl hi16) hHeld ?_
  try simp only [List.getElem_toArray, List.getElem_cons_zero, List.getElem_cons_succ, Act.put, List.setIfInBounds_toArray, List.set_cons_zero, List.set_cons_succ]
  refine wpAnyH_ready (rs := [1]) (by kernel_rfl) (by simp) ?_
  refine AllReadyH.cons (o := _) rfl (fun K hK => ?_) AllReadyH.nil
  go_simp
  refine (H11.out _).mono ?_
  rintro r w9 ⟨rfl, hb0⟩
  refine hK.out _ _ (rangeV_below hb0 hHeld) (fun hHeld => ?_)
  clear hK K hb0
  try simp only [List.getElem_toArray, List.getElem_cons_zero, List.getElem_cons_succ, Act.put, List.setIfInBounds_toArray, List.set_cons_zero, List.set_cons_succ]
  refine wpAnyH_take (i := 2) (oi := _) (v := ?_) rfl (by kernel_rfl) (by kernel_rfl) (by kernel_rfl) (fun _ _ _ h => h) (Or.inl ⟨by rfl, ?_⟩) hHeld ?_
  rotate_left
  focus (intro W hSw; go_simp; try with_reducible rfl)
  try simp only [List.getElem_toArray, List.getElem_cons_zero, List.getElem_cons_succ, Act.put, List.setIfInBounds_toArray, List.set_cons_zero, List.set_cons_succ]
  refine wpAnyH_take (i := 3) (oi := _) (v := ?_) rfl (by kernel_rfl) (by kernel_rfl) (by kernel_rfl) (fun _ _ _ h => h) (Or.inl ⟨by rfl, ?_⟩) hHeld ?_
  rotate_left
  focus (intro W hSw; go_simp; try with_reducible rfl)
  try simp only [List.getElem_toArray, List.getElem_cons_zero, List.getElem_cons_succ, Act.put, List.setIfInBounds_toArray, List.set_cons_zero, List.set_cons_succ]
  refine wpAnyH_take (i := 4) (oi := _) (v := _) rfl (by kernel_rfl) (by kernel_rfl) (by kernel_rfl) (fun _ _ _ h => h) (yieldsIf_load_mid (by rfl) _ _ rfl _ _ rfl (bv l) _ (fun _ h => h.1) hu16 rfl hi16) hHeld ?_
  try simp only [List.getElem_toArray, List.getElem_cons_zero, List.getElem_cons_succ, Act.put, List.setIfInBounds_toArray, List.set_cons_zero, List.set_cons_succ]
  refine wpAnyH_take (i := 6) (oi := _) (v := ?_) rfl (by kernel_rfl) (by kernel_rfl) (by kernel_rfl) (fun _ _ _ h => h) (Or.inl ⟨by rfl, ?_⟩) hHeld ?_
  rotate_left
  focus (intro W hSw; go_simp; try with_reducible rfl)
  try simp only [List.getElem_toArray, List.getElem_cons_zero, List.getElem_cons_succ, Act.put, List.setIfInBounds_toArray, List.set_cons_zero, List.set_cons_succ]
  refine wpAnyH_take (i := 7) (oi := _) (v := ?_) rfl (by kernel_rfl) (by kernel_rfl) (by kernel_rfl) (fun _ _ _ h => h) (Or.inl ⟨by rfl, ?_⟩) hHeld ?_
  rotate_left
  focus (intro W hSw; have hc := HCV.out w.heap.size W hSw.1; go_simp; try with_reducible rfl)
  try simp only [List.getElem_toArray, List.getElem_cons_zero, List.getElem_cons_succ, Act.put, List.setIfInBounds_toArray, List.set_cons_zero, List.set_cons_succ]
  refine wpAnyH_ready (rs := [5]) (by kernel_rfl) (by simp) ?_
  refine AllReadyH.cons (o := _) rfl (fun K hK => ?_) AllReadyH.nil
  go_simp
  refine (H13.out _).mono ?_
  rintro r w9 ⟨rfl, hb0⟩
  refine hK.out _ _ (rangeV_below hb0 hHeld) (fun hHeld => ?_)
  clear hK K hb0
  try simp only [List.getElem_toArray, List.getElem_cons_zero, List.getElem_cons_succ, Act.put, List.setIfInBounds_toArray, List.set_cons_zero, List.set_cons_succ]
  refine wpAnyH_take (i := 8) (oi := _) (v := ?_) rfl (by kernel_rfl) (by kernel_rfl) (by kernel_rfl) (fun _ _ _ h => h) (Or.inl ⟨by rfl, ?_⟩) hHeld ?_
  rotate_left
  focus (intro W hSw; go_simp; try with_reducible rfl)
  try simp only [List.getElem_toArray, List.getElem_cons_zero, List.getElem_cons_succ, Act.put, List.setIfInBounds_toArray, List.set_cons_zero, List.set_cons_succ]
  refine wpAnyH_take (i := 9) (oi := _) (v := ?_) rfl (by kernel_rfl) (by kernel_rfl) (by kernel_rfl) (fun _ _ _ h => h) (Or.inl ⟨by rfl, ?_⟩) hHeld ?_
  rotate_left
  focus (intro W hSw; go_simp; try with_reducible rfl)
  try simp only [List.getElem_toArray, List.getElem_cons_zero, List.getElem_cons_succ, Act.put, List.setIfInBounds_toArray, List.set_cons_zero, List.set_cons_succ]
  refine wpAnyH_take (i := 10) (oi := _) (v := ?_) rfl (by kernel_rfl) (by kernel_rfl) (by kernel_rfl) (fun _ _ _ h => h) (Or.inl ⟨by rfl, ?_⟩) hHeld ?_
  rotate_left
  focus (intro W hSw; go_simp; try with_reducible rfl)
  try simp only [List.getElem_toArray, List.getElem_cons_zero, List.getElem_cons_succ, Act.put, List.setIfInBounds_toArray, List.set_cons_zero, List.set_cons_succ]
  refine wpAnyH_take (i := 11) (oi := _) (v := ?_) rfl (by kernel_rfl) (by kernel_rfl) (by kernel_rfl) (fun _ _ _ h => h) (Or.inl ⟨by rfl, ?_⟩) hHeld ?_
  rotate_left
  focus (intro W hSw; go_simp; try with_reducible rfl)
  try simp only [List.getElem_toArray, List.getElem_cons_zero, List.getElem_cons_succ, Act.put, List.setIfInBounds_toArray, List.set_cons_zero, List.set_cons_succ]
  refine wpAnyH_take (i := 12) (oi := _) (v := _) rfl (by kernel_rfl) (by kernel_rfl) (by kernel_rfl) (fun _ _ _ h => h) (yieldsIf_load_mid (by rfl) _ _ rfl _ _ rfl (bv l) _ (fun _ h => h.1) hu16 rfl hi16) hHeld ?_
  try simp only [List.getElem_toArray, List.getElem_cons_zero, List.getElem_cons_succ, Act.put, List.setIfInBounds_toArray, List.set_cons_zero, List.set_cons_succ]
  refine wpAnyH_ready (rs := [13]) (by kernel_rfl) (by simp) ?_
  refine AllReadyH.cons (o := _) rfl (fun K hK => ?_) AllReadyH.nil
  go_simp
  refine (HN8.out _).mono ?_
  rintro r w9 ⟨rfl, hb0⟩
  refine hK.out _ _ (rangeV_below hb0 hHeld) (fun hHeld => ?_)
  clear hK K hb0
  try simp only [List.getElem_toArray, List.getElem_cons_zero, List.getElem_cons_succ, Act.put, List.setIfInBounds_toArray, List.set_cons_zero, List.set_cons_succ]
  refine wpAnyH_take (i := 14) (oi := _) (v := ?_) rfl (by kernel_rfl) (by kernel_rfl) (by kernel_rfl) (fun _ _ _ h => h) (Or.inl ⟨by rfl, ?_⟩) hHeld ?_
  rotate_left
  focus (intro W hSw; go_simp; try with_reducible rfl)
  try simp only [List.getElem_toArray, List.getElem_cons_zero, List.getElem_cons_succ, Act.put, List.setIfInBounds_toArray, List.set_cons_zero, List.set_cons_succ]
  refine wpAnyH_take (i := 15) (oi := _) (v := ?_) rfl (by kernel_rfl) (by kernel_rfl) (by kernel_rfl) (fun _ _ _ h => h) (Or.inl ⟨by rfl, ?_⟩) hHeld ?_
  rotate_left
  focus (intro W hSw; go_simp; try with_reducible rfl)
  try simp only [List.getElem_toArray, List.getElem_cons_zero, List.getElem_cons_succ, Act.put, List.setIfInBounds_toArray, List.set_cons_zero, List.set_cons_succ]
  refine wpAnyH_take (i := 16) (oi := _) (v := ?_) rfl (by kernel_rfl) (by kernel_rfl) (by kernel_rfl) (fun _ _ _ h => h) (Or.inl ⟨by rfl, ?_⟩) hHeld ?_
  rotate_left
  focus (intro W hSw; go_simp; try with_reducible rfl)
  try simp only [List.getElem_toArray, List.getElem_cons_zero, List.getElem_cons_succ, Act.put, List.setIfInBounds_toArray, List.set_cons_zero, List.set_cons_succ]
  refine wpAnyH_take (i := 17) (oi := _) (v := ?_) rfl (by kernel_rfl) (by kernel_rfl) (by kernel_rfl) (fun _ _ _ h => h) (Or.inl ⟨by rfl, ?_⟩) hHeld ?_
  rotate_left
  focus (intro W hSw; go_simp; try with_reducible rfl)
  try simp only [List.getElem_toArray, List.getElem_cons_zero, List.getElem_cons_succ, Act.put, List.setIfInBounds_toArray, List.set_cons_zero, List.set_cons_succ]
  refine wpAnyH_take (i := 18) (oi := _) (v := _) rfl (by kernel_rfl) (by kernel_rfl) (by kernel_rfl) (fun _ _ _ h => h) (yieldsIf_load_mid (by rfl) _ _ rfl _ _ rfl (bv l) _ (fun _ h => h.1) hu16 rfl hi16) hHeld ?_
  try simp only [List.getElem_toArray, List.getElem_cons_zero, List.getElem_cons_succ, Act.put, List.setIfInBounds_toArray, List.set_cons_zero, List.set_cons_succ]
  refine wpAnyH_ready (rs := [19]) (by kernel_rfl) (by simp) ?_
  refine AllReadyH.cons (o := _) rfl (fun K hK => ?_) AllReadyH.nil
  go_simp
  refine (HN12.out _).mono ?_
  rintro r w9 ⟨rfl, hb0⟩
  refine hK.out _ _ (rangeV_below hb0 hHeld) (fun hHeld => ?_)
  clear hK K hb0
  try simp only [List.getElem_toArray, List.getElem_cons_zero, List.getElem_cons_succ, Act.put, List.setIfInBounds_toArray, List.set_cons_zero, List.set_cons_succ]
  refine wpAnyH_take (i := 20) (oi := _) (v := ?_) rfl (by kernel_rfl) (by kernel_rfl) (by kernel_rfl) (fun _ _ _ h => h) (Or.inl ⟨by rfl, ?_⟩) hHeld ?_
  rotate_left
  focus (intro W hSw; go_simp; try with_reducible rfl)
  try simp only [List.getElem_toArray, List.getElem_cons_zero, List.getElem_cons_succ, Act.put, List.setIfInBounds_toArray, List.set_cons_zero, List.set_cons_succ]
  refine wpAnyH_take (i := 21) (oi := _) (v := ?_) rfl (by kernel_rfl) (by kernel_rfl) (by kernel_rfl) (fun _ _ _ h => h) (Or.inl ⟨by rfl, ?_⟩) hHeld ?_
  rotate_left
  focus (intro W hSw; go_simp; try with_reducible rfl)
  try simp only [List.getElem_toArray, List.getElem_cons_zero, List.getElem_cons_succ, Act.put, List.setIfInBounds_toArray, List.set_cons_zero, List.set_cons_succ]
  refine wpAnyH_take (i := 22) (oi := _) (v := ?_) rfl (by kernel_rfl) (by kernel_rfl) (by kernel_rfl) (fun _ _ _ h => h) (Or.inl ⟨by rfl, ?_⟩) hHeld ?_
  rotate_left
  focus (intro W hSw; go_simp; try with_reducible rfl)
  try simp only [List.getElem_toArray, List.getElem_cons_zero, List.getElem_cons_succ, Act.put, List.setIfInBounds_toArray, List.set_cons_zero, List.set_cons_succ]
  refine wpAnyH_done (by kernel_rfl) ?_ _
  have KE := Lib.hid hHeld.2.2
  clear hHeld hS0
  go_wp2
  go_ret
  exact ⟨rfl, KE.out⟩

end Go.Proofs.Ytoimomcmbkclpaa
