/-
  Views: Right, of whatever sixteen bytes.
-/
import Derived.Test.YtpainhgjiddpkaaVewD
import Derived.Deep.RegionHeld3
namespace Go.Proofs.Ytpainhgjiddpkaa
set_option linter.unusedSimpArgs false
set_option linter.unusedVariables false
open Go.RowKit

/-- what every world of a region that draws must say: the view stands in its block still -/
def InV (w : World) (g : Nat) (l : List UInt8) (w1 : World) : Prop := w1.rangeAt g 0 (bv l) ∧ g < w1.heap.size ∧ Below w.heap.size w w1
theorem rangeV {w : World} {g : Nat} {t : TypeId} {l : List UInt8} (h : Blk w g t (vb l)) : w.rangeAt g 0 (bv l) := fun j v hv => by
  rw [Nat.zero_add, h.cell]
  unfold vb
  rwa [List.getElem?_toArray]
theorem rangeV_below {w w1 w2 : World} {g : Nat} {l : List UInt8} (hb : Below w1.heap.size w1 w2) (h : w1.rangeAt g 0 (bv l) ∧ g < w1.heap.size ∧ Below w.heap.size w w1) : w2.rangeAt g 0 (bv l) ∧ g < w2.heap.size ∧ Below w.heap.size w w2 :=
  ⟨fun j v hv => (hb.cell (p := ⟨g, 0 + j, none⟩) h.2.1).trans (h.1 j v hv), Nat.lt_of_lt_of_le h.2.1 hb.size, below_below h.2.2 hb h.2.2.size⟩

theorem vright_short {w : World} (l : List UInt8) (hl : l.length = 16) (hn : lenV l ≤ 12) :
    Calls Try.prog 20 #[.agg (vb l)] w fun r w' => r = .returned (.bool (decide (l = shortL (textV l)))) ∧ Below w.heap.size w w' := by
  have h1 := vshort_any (w := w.alloc (.cells (vb l) 28)) l hl
  rw [decide_eq_true hn] at h1
  have h2 := fun w0 => vtext_any (w := w0) l hl
  have htl := textV_length hl
  obtain ⟨x, hx⟩ : ∃ x, textV l = x := ⟨_, rfl⟩
  rw [hx] at h2 htl ⊢
  have h3 := fun w0 => vshortOf_any (w := w0) ⟨x.toArray⟩ (by show x.toArray.size ≤ 12; simpa using htl)
  have e3 : (⟨x.toArray⟩ : ByteArray).data.toList = x := rfl
  rw [e3] at h3
  have hl2 := shortL_length htl
  obtain ⟨y, hy⟩ : ∃ y, shortL x = y := ⟨_, rfl⟩
  rw [hy] at h3 hl2 ⊢
  have heq := fun w0 => run_equalIn_vb (P := Try.prog) w0 9998 28 16 Try.underlying5 (by obtain ⟨i0, hi0, hz0, hz1, hz2⟩ := info_parts Try.infoU8; rw [hi0]; simp [hz1]) Try.underlying28 l y hl hl2
  change ∀ w0, Sem.run _ (Op.equalIn 10000 28 (.agg (bv l).toArray) (.agg (vb y))) w0 = _ at heq
  have hguard : Try.prog.eqGuardType Try.prog.depth 28 = false := by kernel_rfl
  have hb := (Below.refl w.heap.size w).alloc (Nat.le_refl _) (.cells (vb l) 28)
  have HV0 := Lib.hid (Blk.new w 28 (vb l))
  have H1 := Lib.hid h1
  have H2 := Lib.hid h2
  have H3 := Lib.hid h3
  have HB := Lib.hid hb
  clear h1 h2 h3 hb hn hx htl hl2 hy e3
  go_enter Try.func20, Try.ntmps20
  go_wp2_with (refine wpList_loadV (Blk.new _ _ _) hl rfl _ rfl rfl ?_)
  refine H1.out.mono ?_
  rintro r w1 ⟨rfl, hb1⟩
  have HB1 := Lib.hid (below_below HB.out hb1 (by simp))
  have HV1 := Lib.hid (HV0.out.below hb1 (by simp))
  clear hb1
  go_wp2_with fail
  have hS0 : w1.drew.rangeAt w.heap.size 0 (bv l) ∧ w.heap.size < w1.drew.heap.size ∧ Below w.heap.size w w1.drew := ⟨rangeV HV1.out.drew, HV1.out.lt, Below.drew HB1.out⟩
  have hu16 := Try.underlying28
  have hi16 : (Try.prog.info? 28).map (·.size) = some (bv l).length := sizeV (by rw [bv_length]; exact hl)
  refine wp_region_held_drew (S := fun w' => w'.rangeAt w.heap.size 0 (bv l) ∧ w.heap.size < w'.heap.size ∧ Below w.heap.size w w') (by kernel_rfl) hS0 (fun hHeld => ?_)
  refine wpAnyH_take (i := 0) (oi := _) (v := _) rfl (by kernel_rfl) (by kernel_rfl) (by kernel_rfl) (fun _ _ _ h => h) (yieldsIf_load_mid (by rfl) _ _ rfl _ _ rfl (bv l) _ (fun _ h => h.1) hu16 rfl hi16) hHeld ?_
  simp only [List.getElem_toArray, List.getElem_cons_zero, List.getElem_cons_succ, Act.put, List.setIfInBounds_toArray, List.set_cons_zero, List.set_cons_succ]
  refine wpAnyH_take (i := 1) (oi := _) (v := _) rfl (by kernel_rfl) (by kernel_rfl) (by kernel_rfl) (fun _ _ _ h => h) (yieldsIf_load_mid (by rfl) _ _ rfl _ _ rfl (bv l) _ (fun _ h => h.1) hu16 rfl hi16) hHeld ?_
  simp only [List.getElem_toArray, List.getElem_cons_zero, List.getElem_cons_succ, Act.put, List.setIfInBounds_toArray, List.set_cons_zero, List.set_cons_succ]
  refine wpAnyH_ready (rs := [2]) (by kernel_rfl) (by simp) ?_
  refine AllReadyH.cons (o := _) rfl (fun K hK => ?_) AllReadyH.nil
  go_simp
  refine (H2.out _).mono ?_
  rintro r w2 ⟨rfl, hb2⟩
  refine hK.out _ _ (rangeV_below hb2 hHeld) (fun hHeld => ?_)
  clear hK K hb2
  refine wpAnyH_ready (rs := [3]) (by kernel_rfl) (by simp) ?_
  refine AllReadyH.cons (o := _) rfl (fun K hK => ?_) AllReadyH.nil
  go_simp
  refine (H3.out _).mono ?_
  rintro r w3 ⟨rfl, hb3⟩
  refine hK.out _ _ (rangeV_below hb3 hHeld) (fun hHeld => ?_)
  clear hK K hb3
  refine wpAnyH_take (i := 4) (oi := _) (v := .bool (decide (l = y))) rfl (by kernel_rfl) (by kernel_rfl) (by kernel_rfl) (fun _ _ _ h => h) (Or.inl ⟨by rfl, ?_⟩) hHeld ?_
  · intro W hSw
    go_simp
  simp only [List.getElem_toArray, List.getElem_cons_zero, List.getElem_cons_succ, Act.put, List.setIfInBounds_toArray, List.set_cons_zero, List.set_cons_succ]
  refine wpAnyH_take (i := 5) (oi := _) (v := .bool (decide (l = y))) rfl (by kernel_rfl) (by kernel_rfl) (by kernel_rfl) (fun _ _ _ h => h) (Or.inl ⟨by rfl, ?_⟩) hHeld ?_
  · intro W hSw
    go_simp
  simp only [List.getElem_toArray, List.getElem_cons_zero, List.getElem_cons_succ, Act.put, List.setIfInBounds_toArray, List.set_cons_zero, List.set_cons_succ]
  refine wpAnyH_done (by kernel_rfl) ?_ _
  have HE := Lib.hid hHeld.2.2
  clear hHeld
  go_wp2
  go_ret
  exact ⟨rfl, HE.out⟩

theorem vright_great {w : World} (l : List UInt8) (hl : l.length = 16) (hn : 4096 < lenV l) :
    Calls Try.prog 20 #[.agg (vb l)] w fun r w' => r = .returned (.bool false) ∧ Below w.heap.size w w' := by
  have h1 := vshort_any (w := w.alloc (.cells (vb l) 28)) l hl
  rw [decide_eq_false (by omega)] at h1
  have h2 := fun w0 => vlength_any (w := w0) l hl
  have hn2 := lenV_lt l
  obtain ⟨n, hn'⟩ : ∃ n, lenV l = n := ⟨_, rfl⟩
  rw [hn'] at h2 hn hn2
  have hb := (Below.refl w.heap.size w).alloc (Nat.le_refl _) (.cells (vb l) 28)
  have HV0 := Lib.hid (Blk.new w 28 (vb l))
  have H1 := Lib.hid h1
  have H2 := Lib.hid h2
  have HB := Lib.hid hb
  clear h1 h2 hb hn'
  go_enter Try.func20, Try.ntmps20
  go_wp2_with (refine wpList_loadV (Blk.new _ _ _) hl rfl _ rfl rfl ?_)
  refine H1.out.mono ?_
  rintro r w1 ⟨rfl, hb1⟩
  have HB1 := Lib.hid (below_below HB.out hb1 (by simp))
  have HV1 := Lib.hid (HV0.out.below hb1 (by simp))
  clear hb1
  go_wp2_with (refine wpList_loadV HV1.out hl rfl _ rfl rfl ?_)
  refine (H2.out _).mono ?_
  rintro r w2 ⟨rfl, hb2⟩
  have HB2 := Lib.hid (below_below HB1.out hb2 HB1.out.size)
  clear hb2
  go_wp2_with fail
  go_ret
  exact ⟨rfl, HB2.out⟩

theorem vright_long {w : World} (l : List UInt8) (hl : l.length = 16) (hn : 12 < lenV l) (h4 : lenV l ≤ 4096) :
    Calls Try.prog 20 #[.agg (vb l)] w fun r w' => r = .returned (.bool (decide (mayL (bufV l : Int) (atV l : Int)))) ∧ Below w.heap.size w w' := by
  have h1 := vshort_any (w := w.alloc (.cells (vb l) 28)) l hl
  rw [decide_eq_false (by omega)] at h1
  have h2 := fun w0 => vlength_any (w := w0) l hl
  have h3 := fun w0 => vplace_long (w := w0) l hl hn
  obtain ⟨x, hx⟩ : ∃ x, bufV l = x := ⟨_, rfl⟩
  obtain ⟨y, hy⟩ : ∃ y, atV l = y := ⟨_, rfl⟩
  obtain ⟨n, hn'⟩ : ∃ n, lenV l = n := ⟨_, rfl⟩
  rw [hx, hy] at h3 ⊢
  rw [hn'] at h2 hn h4
  have hb := (Below.refl w.heap.size w).alloc (Nat.le_refl _) (.cells (vb l) 28)
  have HV0 := Lib.hid (Blk.new w 28 (vb l))
  have H1 := Lib.hid h1
  have H2 := Lib.hid h2
  have H3 := Lib.hid h3
  have HB := Lib.hid hb
  clear h1 h2 h3 hb hn' hx hy
  go_enter Try.func20, Try.ntmps20
  go_wp2_with (refine wpList_loadV (Blk.new _ _ _) hl rfl _ rfl rfl ?_)
  refine H1.out.mono ?_
  rintro r w1 ⟨rfl, hb1⟩
  have HB1 := Lib.hid (below_below HB.out hb1 (by simp))
  have HV1 := Lib.hid (HV0.out.below hb1 (by simp))
  clear hb1
  go_wp2_with (refine wpList_loadV HV1.out hl rfl _ rfl rfl ?_)
  refine (H2.out _).mono ?_
  rintro r w2 ⟨rfl, hb2⟩
  have HB2 := Lib.hid (below_below HB1.out hb2 HB1.out.size)
  have HV2 := Lib.hid (HV1.out.below hb2 HV1.out.lt)
  clear hb2
  go_wp2_with (refine wpList_loadG HV2.out hl (by first | rfl | (go_simp; done) | (go_simp; omega)) _ rfl rfl ?_)
  refine (H3.out _).mono ?_
  rintro r w3 ⟨rfl, hb3⟩
  have HB3 := Lib.hid (below_below HB2.out hb3 HB2.out.size)
  clear hb3
  go_wp2_with fail
  refine (maystand_any _ _).mono ?_
  rintro r w4 ⟨rfl, rfl⟩
  go_wp2_with fail
  go_ret
  exact ⟨rfl, HB3.out⟩

theorem vright_any {w : World} (l : List UInt8) (hl : l.length = 16) :
    Calls Try.prog 20 #[.agg (vb l)] w fun r w' => r = .returned (.bool (rightV l)) ∧ Below w.heap.size w w' := by
  unfold rightV
  split
  · exact vright_short l hl (by assumption)
  · rename_i h
    by_cases h4 : lenV l ≤ 4096
    · have h1 := vright_long (w := w) l hl (by omega) h4
      have e : decide (mayL (bufV l : Int) (atV l : Int)) = decide (lenV l ≤ 4096 ∧ bufV l ≤ 65535 ∧ atV l ≤ 65536) := by
        rw [decide_eq_decide]
        unfold mayL
        omega
      rwa [e] at h1
    · rw [decide_eq_false (fun h => h4 h.1)]
      exact vright_great l hl (by omega)

end Go.Proofs.Ytpainhgjiddpkaa
