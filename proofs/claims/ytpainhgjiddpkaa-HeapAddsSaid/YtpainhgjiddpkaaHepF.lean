/-
  Heaps: a view that is the heap's, or that of nothing; how views compare. (Printed by wip/tools/gencmp.py.)
-/
import Derived.Test.YtpainhgjiddpkaaHepE
import Derived.Test.YtpainhgjiddpkaaVewC
import Derived.Deep.RegionHeld3
namespace Go.Proofs.Ytpainhgjiddpkaa
set_option linter.unusedSimpArgs false
set_option linter.unusedVariables false
open Go.RowKit

theorem rangeB {w w' : World} {g : Nat} {t : TypeId} {l : List UInt8} (h : Blk w g t (vb l)) (hb : Below w.heap.size w w') : w'.rangeAt g 0 (bv l) := rangeV (h.below hb h.lt)
section
variable {w : World} {lo g : Nat} {most : Int} {bs : List UInt8} {es : List Nat} {M : Nat → Prop}
set_option maxHeartbeats 1000000 in
theorem own_any (h : Hp w lo g most bs es M) (l : List UInt8) (hl : l.length = 16) :
    Calls Try.prog 33 #[hp g, .agg (vb l)] w fun r w' => r = .returned (.agg (vb (ownL bs es l))) ∧ Below w.heap.size w w' := by
  obtain ⟨hz, _⟩ := zero_of_info Try.infoV
  have hbuild := build_zero
  have hk0 : Below w.heap.size w ((w.alloc (.cells (vb l) 28)).alloc (.cells (vb zero16) 28)) := ((Below.refl _ _).alloc (Nat.le_refl _) _).alloc (by simp) _
  have hv0 : Blk ((w.alloc (.cells (vb l) 28)).alloc (.cells (vb zero16) 28)) w.heap.size 28 (vb l) := (Blk.new w _ _).alloc _
  have hr0 : Blk ((w.alloc (.cells (vb l) 28)).alloc (.cells (vb zero16) 28)) (w.heap.size + 1) 28 (vb zero16) := by
    have := Blk.new (w.alloc (.cells (vb l) 28)) 28 (vb zero16)
    simpa using this
  have h1 := find_any (h.below hk0 (Nat.le_refl _)) l hl
  have ho : ownL bs es l = if (findL bs es l).isSome then l else zero16 := rfl
  rw [ho]
  generalize gotL bs es l = x at *
  generalize (findL bs es l).isSome = ok at *
  have H1 := Lib.hid h1
  have HK0 := Lib.hid hk0
  have HV0 := Lib.hid hv0
  have HR0 := Lib.hid hr0
  clear h1 hk0 hv0 hr0 ho h
  unfold hp at H1 ⊢
  cases ok
  · rw [if_neg (by simp)]
    go_enter Try.func33, Try.ntmps33
    go_wp2_with (refine wpList_loadV HV0.out hl rfl _ rfl rfl ?_)
    refine H1.out.mono ?_
    rintro r w1 ⟨A, c, rfl, hrd, hb1⟩
    have HB1 := Lib.hid (below_below HK0.out hb1 HK0.out.size)
    have HR1 := Lib.hid (HR0.out.below hb1 HR0.out.lt)
    clear hrd hb1
    go_wp2_with (refine wpList_storeV HR1.out zero16_length zero16_length rfl _ _ rfl rfl rfl ?_)
    refine bodyPost_ret (v := .agg (vb zero16)) ?_ rfl ⟨rfl, setRowV_below HB1.out HB1.out.size (by omega) _⟩
    exact results_cell_row rfl _ _ (w.heap.size + 1) 28 (vb zero16) (0, 0) _ rfl (setRowV_blk HR1.out _) Try.underlying28 rfl (sizeV (by rw [vb_size]; rfl))
  · rw [if_pos rfl]
    go_enter Try.func33, Try.ntmps33
    go_wp2_with (refine wpList_loadV HV0.out hl rfl _ rfl rfl ?_)
    refine H1.out.mono ?_
    rintro r w1 ⟨A, c, rfl, hrd, hb1⟩
    have HB1 := Lib.hid (below_below HK0.out hb1 HK0.out.size)
    have HR1 := Lib.hid (HR0.out.below hb1 HR0.out.lt)
    have HV1 := Lib.hid (HV0.out.below hb1 HV0.out.lt)
    clear hrd hb1
    go_wp2_with (first | (refine wpList_loadV HV1.out hl rfl _ rfl rfl ?_) | (refine wpList_storeV HR1.out zero16_length hl rfl _ _ rfl rfl rfl ?_))
    refine bodyPost_ret (v := .agg (vb l)) ?_ rfl ⟨rfl, setRowV_below HB1.out HB1.out.size (by omega) _⟩
    exact results_cell_row rfl _ _ (w.heap.size + 1) 28 (vb l) (0, 0) _ rfl (setRowV_blk HR1.out _) Try.underlying28 rfl (sizeV (by rw [vb_size]; exact hl))

set_option maxRecDepth 20000 in
set_option maxHeartbeats 2000000 in
theorem compare_any (h : Hp w lo g most bs es M) (a b : List UInt8) (ha : a.length = 16) (hb : b.length = 16) :
    Calls Try.prog 32 #[hp g, .agg (vb a), .agg (vb b)] w fun r w' => r = .returned (.int .i64 (cmpV bs es a b)) ∧ Below w.heap.size w w' := by
  obtain ⟨hz, _⟩ := zero_of_info Try.infoV
  have hu16 := Try.underlying28
  have hia : (Try.prog.info? 28).map (·.size) = some (bv a).length := sizeV (by rw [bv_length]; exact ha)
  have hib : (Try.prog.info? 28).map (·.size) = some (bv b).length := sizeV (by rw [bv_length]; exact hb)
  have hk0 : Below w.heap.size w ((w.alloc (.cells (vb a) 28)).alloc (.cells (vb b) 28)) := ((Below.refl _ _).alloc (Nat.le_refl _) _).alloc (by simp) _
  have hxa : Blk ((w.alloc (.cells (vb a) 28)).alloc (.cells (vb b) 28)) w.heap.size 28 (vb a) := (Blk.new w _ _).alloc _
  have hxb : Blk ((w.alloc (.cells (vb a) 28)).alloc (.cells (vb b) 28)) (w.heap.size + 1) 28 (vb b) := by
    have := Blk.new (w.alloc (.cells (vb a) 28)) 28 (vb b)
    simpa using this
  have h1 := fun w0 => vprefix_any (w := w0) a ha
  have h2 := fun w0 => vprefix_any (w := w0) b hb
  have h3 := fun w0 => scompare_any ⟨(prefV a).toArray⟩ ⟨(prefV b).toArray⟩ w0
  change ∀ w0, Calls _ _ _ w0 (fun r w' => r = .returned (.int .i64 (cmpL (prefV a) (prefV b))) ∧ w0 = w') at h3
  have h4 := fun w0 (h0 : Below w.heap.size w w0) => find_any (h.below h0 (Nat.le_refl _)) a ha
  have h5 := fun w0 (h0 : Below w.heap.size w w0) => find_any (h.below h0 (Nat.le_refl _)) b hb
  unfold cmpV
  generalize cmpL (prefV a) (prefV b) = z at *
  generalize (⟨(prefV a).toArray⟩ : ByteArray) = s1 at *
  generalize (⟨(prefV b).toArray⟩ : ByteArray) = s2 at *
  generalize gotL bs es a = x at *
  generalize gotL bs es b = y at *
  generalize (findL bs es a).isSome = ok1 at *
  generalize (findL bs es b).isSome = ok2 at *
  obtain ⟨v, hv⟩ : ∃ v, (if z ≠ 0 then z else cmpL x y) = v := ⟨_, rfl⟩
  rw [hv]
  have HV := Lib.hid hv
  clear hv
  have H1 := Lib.hid h1
  have H2 := Lib.hid h2
  have H3 := Lib.hid h3
  have H4 := Lib.hid h4
  have H5 := Lib.hid h5
  have HK0 := Lib.hid hk0
  have Ha := Lib.hid hxa
  have Hb := Lib.hid hxb
  clear h1 h2 h3 h4 h5 hk0 hxa hxb h
  unfold hp at H4 H5 ⊢
  go_enter Try.func32, Try.ntmps32
  go_wp2_with fail
  generalize (w.alloc (.cells (vb a) 28)).alloc (.cells (vb b) 28) = w0 at *
  refine wp_region_held_drew (S := fun w' => Below w0.heap.size w0 w') (by kernel_rfl) (Below.drew (Below.refl _ _)) (fun hHeld => ?_)
  refine wpAnyH_take (i := 0) (oi := _) (v := _) rfl (by kernel_rfl) (by kernel_rfl) (by kernel_rfl) (fun _ _ _ h => h) (yieldsIf_load_mid (by rfl) _ _ rfl _ _ rfl (bv a) _ (fun _ h => rangeB Ha.out h) hu16 rfl hia) hHeld ?_
  try simp only [List.getElem_toArray, List.getElem_cons_zero, List.getElem_cons_succ, Act.put, List.setIfInBounds_toArray, List.set_cons_zero, List.set_cons_succ]
  refine wpAnyH_take (i := 2) (oi := _) (v := _) rfl (by kernel_rfl) (by kernel_rfl) (by kernel_rfl) (fun _ _ _ h => h) (yieldsIf_load_mid (by rfl) _ _ rfl _ _ rfl (bv b) _ (fun _ h => rangeB Hb.out h) hu16 rfl hib) hHeld ?_
  try simp only [List.getElem_toArray, List.getElem_cons_zero, List.getElem_cons_succ, Act.put, List.setIfInBounds_toArray, List.set_cons_zero, List.set_cons_succ]
  refine wpAnyH_ready (rs := [1]) (by kernel_rfl) (by simp) ?_
  refine AllReadyH.cons (o := _) rfl (fun K hK => ?_) AllReadyH.nil
  go_simp
  refine (H1.out _).mono ?_
  rintro r w1 ⟨rfl, hb0⟩
  refine hK.out _ _ (below_below hHeld hb0 (by exact hHeld.size)) (fun hHeld => ?_)
  clear hK K
  try simp only [List.getElem_toArray, List.getElem_cons_zero, List.getElem_cons_succ, Act.put, List.setIfInBounds_toArray, List.set_cons_zero, List.set_cons_succ]
  refine wpAnyH_ready (rs := [3]) (by kernel_rfl) (by simp) ?_
  refine AllReadyH.cons (o := _) rfl (fun K hK => ?_) AllReadyH.nil
  go_simp
  refine (H2.out _).mono ?_
  rintro r w2 ⟨rfl, hb0⟩
  refine hK.out _ _ (below_below hHeld hb0 (by exact hHeld.size)) (fun hHeld => ?_)
  clear hK K
  try simp only [List.getElem_toArray, List.getElem_cons_zero, List.getElem_cons_succ, Act.put, List.setIfInBounds_toArray, List.set_cons_zero, List.set_cons_succ]
  refine wpAnyH_ready (rs := [4]) (by kernel_rfl) (by simp) ?_
  refine AllReadyH.cons (o := _) rfl (fun K hK => ?_) AllReadyH.nil
  go_simp
  refine (H3.out _).mono ?_
  rintro r w3 ⟨rfl, rfl⟩
  refine hK.out _ _ hHeld (fun hHeld => ?_)
  clear hK K
  try simp only [List.getElem_toArray, List.getElem_cons_zero, List.getElem_cons_succ, Act.put, List.setIfInBounds_toArray, List.set_cons_zero, List.set_cons_succ]
  refine wpAnyH_take (i := 5) (oi := _) (v := ?_) rfl (by kernel_rfl) (by kernel_rfl) (by kernel_rfl) (fun _ _ _ h => h) (Or.inl ⟨by rfl, ?_⟩) hHeld ?_
  rotate_left
  focus (intro W hSw; go_simp; try with_reducible rfl)
  try simp only [List.getElem_toArray, List.getElem_cons_zero, List.getElem_cons_succ, Act.put, List.setIfInBounds_toArray, List.set_cons_zero, List.set_cons_succ]
  refine wpAnyH_done (by kernel_rfl) ?_ _
  have HB2 := Lib.hid (below_below HK0.out hHeld HK0.out.size)
  have Ha2 := Lib.hid (Ha.out.below hHeld Ha.out.lt)
  have Hb2 := Lib.hid (Hb.out.below hHeld Hb.out.lt)
  clear hHeld
  by_cases hz0 : z = 0
  · go_wp2_with (refine wpList_loadV Ha2.out ha rfl _ rfl rfl ?_)
    refine (H4.out _ HB2.out).mono ?_
    rintro r w4 ⟨A, c, rfl, hrd, hb0⟩
    have HB4 := Lib.hid (below_below HB2.out hb0 HB2.out.size)
    have Hb4 := Lib.hid (Hb2.out.below hb0 Hb2.out.lt)
    have HR4 := Lib.hid hrd
    clear hb0 hrd
    go_wp2_with (refine wpList_loadV Hb4.out hb rfl _ rfl rfl ?_)
    refine (H5.out _ HB4.out).mono ?_
    rintro r w5 ⟨A2, c2, rfl, hrd, hb0⟩
    have HB5 := Lib.hid (below_below HB4.out hb0 HB4.out.size)
    have HR5 := Lib.hid (HR4.out.below hb0 (Nat.le_refl _))
    have HQ5 := Lib.hid hrd
    clear hb0 hrd
    go_wp2_with fail
    refine (bcompare_any HR5.out HQ5.out).mono ?_
    rintro r w6 ⟨rfl, rfl⟩
    go_wp2_with fail
    go_ret
    refine ⟨ret_int' ?_, HB5.out⟩
    rw [← HV.out, if_neg (fun h => h hz0)]
  · go_wp2_with fail
    go_ret
    refine ⟨ret_int' ?_, HB2.out⟩
    rw [← HV.out, if_pos hz0]

set_option maxRecDepth 20000 in
set_option maxHeartbeats 2000000 in
theorem Compare_any (h : Hp w lo g most bs es M) (a b : List UInt8) (ha : a.length = 16) (hb : b.length = 16) :
    Calls Try.prog 16 #[hp g, .agg (vb a), .agg (vb b)] w fun r w' => r = .returned (.int .i64 (cmpL (gotL bs es a) (gotL bs es b))) ∧ Below w.heap.size w w' := by
  obtain ⟨hz, _⟩ := zero_of_info Try.infoV
  have hu16 := Try.underlying28
  have hia : (Try.prog.info? 28).map (·.size) = some (bv a).length := sizeV (by rw [bv_length]; exact ha)
  have hib : (Try.prog.info? 28).map (·.size) = some (bv b).length := sizeV (by rw [bv_length]; exact hb)
  have hk0 : Below w.heap.size w ((w.alloc (.cells (vb a) 28)).alloc (.cells (vb b) 28)) := ((Below.refl _ _).alloc (Nat.le_refl _) _).alloc (by simp) _
  have hxa : Blk ((w.alloc (.cells (vb a) 28)).alloc (.cells (vb b) 28)) w.heap.size 28 (vb a) := (Blk.new w _ _).alloc _
  have hxb : Blk ((w.alloc (.cells (vb a) 28)).alloc (.cells (vb b) 28)) (w.heap.size + 1) 28 (vb b) := by
    have := Blk.new (w.alloc (.cells (vb a) 28)) 28 (vb b)
    simpa using this
  have h1 := fun w0 (h0 : Below w.heap.size w w0) => own_any (h.below h0 (Nat.le_refl _)) a ha
  have h2 := fun w0 (h0 : Below w.heap.size w w0) => own_any (h.below h0 (Nat.le_refl _)) b hb
  have h3 := fun w0 (h0 : Below w.heap.size w w0) => compare_any (h.below h0 (Nat.le_refl _)) (ownL bs es a) (ownL bs es b) (ownL_length ha) (ownL_length hb)
  rw [cmpV_own ha hb] at h3
  generalize cmpL (gotL bs es a) (gotL bs es b) = z at *
  generalize ownL bs es a = a' at *
  generalize ownL bs es b = b' at *
  have H1 := Lib.hid h1
  have H2 := Lib.hid h2
  have H3 := Lib.hid h3
  have HK0 := Lib.hid hk0
  have Ha := Lib.hid hxa
  have Hb := Lib.hid hxb
  clear h1 h2 h3 hk0 hxa hxb h
  unfold hp at H1 H2 H3 ⊢
  go_enter Try.func16, Try.ntmps16
  go_wp2_with fail
  generalize (w.alloc (.cells (vb a) 28)).alloc (.cells (vb b) 28) = w0 at *
  refine wp_region_held_drew (S := fun w' => Below w0.heap.size w0 w') (by kernel_rfl) (Below.drew (Below.refl _ _)) (fun hHeld => ?_)
  refine wpAnyH_take (i := 0) (oi := _) (v := ?_) rfl (by kernel_rfl) (by kernel_rfl) (by kernel_rfl) (fun _ _ _ h => h) (Or.inl ⟨by rfl, ?_⟩) hHeld ?_
  rotate_left
  focus (intro W hSw; go_simp; try with_reducible rfl)
  try simp only [List.getElem_toArray, List.getElem_cons_zero, List.getElem_cons_succ, Act.put, List.setIfInBounds_toArray, List.set_cons_zero, List.set_cons_succ]
  refine wpAnyH_take (i := 1) (oi := _) (v := ?_) rfl (by kernel_rfl) (by kernel_rfl) (by kernel_rfl) (fun _ _ _ h => h) (Or.inl ⟨by rfl, ?_⟩) hHeld ?_
  rotate_left
  focus (intro W hSw; go_simp; try with_reducible rfl)
  try simp only [List.getElem_toArray, List.getElem_cons_zero, List.getElem_cons_succ, Act.put, List.setIfInBounds_toArray, List.set_cons_zero, List.set_cons_succ]
  refine wpAnyH_take (i := 2) (oi := _) (v := _) rfl (by kernel_rfl) (by kernel_rfl) (by kernel_rfl) (fun _ _ _ h => h) (yieldsIf_load_mid (by rfl) _ _ rfl _ _ rfl (bv a) _ (fun _ h => rangeB Ha.out h) hu16 rfl hia) hHeld ?_
  try simp only [List.getElem_toArray, List.getElem_cons_zero, List.getElem_cons_succ, Act.put, List.setIfInBounds_toArray, List.set_cons_zero, List.set_cons_succ]
  refine wpAnyH_take (i := 4) (oi := _) (v := ?_) rfl (by kernel_rfl) (by kernel_rfl) (by kernel_rfl) (fun _ _ _ h => h) (Or.inl ⟨by rfl, ?_⟩) hHeld ?_
  rotate_left
  focus (intro W hSw; go_simp; try with_reducible rfl)
  try simp only [List.getElem_toArray, List.getElem_cons_zero, List.getElem_cons_succ, Act.put, List.setIfInBounds_toArray, List.set_cons_zero, List.set_cons_succ]
  refine wpAnyH_take (i := 5) (oi := _) (v := _) rfl (by kernel_rfl) (by kernel_rfl) (by kernel_rfl) (fun _ _ _ h => h) (yieldsIf_load_mid (by rfl) _ _ rfl _ _ rfl (bv b) _ (fun _ h => rangeB Hb.out h) hu16 rfl hib) hHeld ?_
  try simp only [List.getElem_toArray, List.getElem_cons_zero, List.getElem_cons_succ, Act.put, List.setIfInBounds_toArray, List.set_cons_zero, List.set_cons_succ]
  refine wpAnyH_ready (rs := [3]) (by kernel_rfl) (by simp) ?_
  refine AllReadyH.cons (o := _) rfl (fun K hK => ?_) AllReadyH.nil
  go_simp
  refine (H1.out _ (below_below HK0.out hHeld HK0.out.size)).mono ?_
  rintro r w1 ⟨rfl, hb0⟩
  refine hK.out _ _ (below_below hHeld hb0 (by exact hHeld.size)) (fun hHeld => ?_)
  clear hK K
  try simp only [List.getElem_toArray, List.getElem_cons_zero, List.getElem_cons_succ, Act.put, List.setIfInBounds_toArray, List.set_cons_zero, List.set_cons_succ]
  refine wpAnyH_ready (rs := [6]) (by kernel_rfl) (by simp) ?_
  refine AllReadyH.cons (o := _) rfl (fun K hK => ?_) AllReadyH.nil
  go_simp
  refine (H2.out _ (below_below HK0.out hHeld HK0.out.size)).mono ?_
  rintro r w2 ⟨rfl, hb0⟩
  refine hK.out _ _ (below_below hHeld hb0 (by exact hHeld.size)) (fun hHeld => ?_)
  clear hK K
  try simp only [List.getElem_toArray, List.getElem_cons_zero, List.getElem_cons_succ, Act.put, List.setIfInBounds_toArray, List.set_cons_zero, List.set_cons_succ]
  refine wpAnyH_ready (rs := [7]) (by kernel_rfl) (by simp) ?_
  refine AllReadyH.cons (o := _) rfl (fun K hK => ?_) AllReadyH.nil
  go_simp
  refine (H3.out _ (below_below HK0.out hHeld HK0.out.size)).mono ?_
  rintro r w3 ⟨rfl, hb0⟩
  refine hK.out _ _ (below_below hHeld hb0 (by exact hHeld.size)) (fun hHeld => ?_)
  clear hK K
  try simp only [List.getElem_toArray, List.getElem_cons_zero, List.getElem_cons_succ, Act.put, List.setIfInBounds_toArray, List.set_cons_zero, List.set_cons_succ]
  refine wpAnyH_take (i := 8) (oi := _) (v := ?_) rfl (by kernel_rfl) (by kernel_rfl) (by kernel_rfl) (fun _ _ _ h => h) (Or.inl ⟨by rfl, ?_⟩) hHeld ?_
  rotate_left
  focus (intro W hSw; go_simp; try with_reducible rfl)
  try simp only [List.getElem_toArray, List.getElem_cons_zero, List.getElem_cons_succ, Act.put, List.setIfInBounds_toArray, List.set_cons_zero, List.set_cons_succ]
  refine wpAnyH_done (by kernel_rfl) ?_ _
  have HB3 := Lib.hid (below_below HK0.out hHeld HK0.out.size)
  clear hHeld
  go_wp2_with fail
  go_ret
  exact ⟨rfl, HB3.out⟩
end
end Go.Proofs.Ytpainhgjiddpkaa
