/-
  The laws of layer 15: awake.
-/
import Derived.Test.YtepgkdmfoojppaaGqL
namespace Go.Proofs.Ytepgkdmfoojppaa
set_option linter.unusedSimpArgs false
set_option linter.unusedVariables false
open Go.RowKit

set_option maxRecDepth 20000 in
set_option maxHeartbeats 4000000 in
theorem awake15_any {w : World} : Calls Try.prog 8 #[] w fun r w' => r = .returned (.bool true) ∧ Below w.heap.size w w' := by
  obtain ⟨w1, hw_w1⟩ : ∃ q, w.alloc (.cells #[.string ⟨#[97, 98, 99, 100]⟩] 9) = q := ⟨_, rfl⟩
  have b_w1 : Below w.heap.size w w1 := by rw [← hw_w1]; exact (Below.refl _ _).alloc (Nat.le_refl _) _
  have HX : Hid (Rd w1 0 w1.heap.size (some ⟨w.heap.size, 0, none⟩) 1 (sv [⟨#[97, 98, 99, 100]⟩])) := by unfold Hid; rw [← hw_w1]; exact one_str _ _ _
  have HB_w1 := Lib.hid b_w1
  have S_w1 := HB_w1.out.size
  clear b_w1
  have Hs_w1 := Lib.hid HX.out
  clear HX
  go_enter Try.func8, Try.ntmps8
  go_wp2_with fail
  clear hw_w1
  refine (gmake_zero [⟨#[97, 98, 99, 100]⟩] Hs_w1.out (by decide) (by decide) (by decide)).mono ?_
  rintro r w2 ⟨t, A, c, rfl, hr, ho, b_w2⟩
  have ht : t = [6382179, 6447972] := hr.one rise_abcd
  subst ht
  have HOX := Lib.hid ho
  clear hr ho
  have Hs_w2 := Lib.hid ((Hs_w1.out.below b_w2 (Nat.le_refl _)).wide (Nat.zero_le _) b_w2.size)
  have HB_w2 := Lib.hid (below_below HB_w1.out b_w2 S_w1)
  have S_w2 := HB_w2.out.size
  clear b_w2 Hs_w1 HB_w1   
  have HFX : Hid (Flt w2 0 w2.heap.size (.agg #[.int .i64 0, .slice A 2 c, .slice none 0 0]) 0 [6382179, 6447972] []) := flt_mk (own_rd HOX.out) (Rd.nil _ _ _) rfl rfl rfl
  clear HOX
  have HFf_w2 : Hid (Flt w2 0 w2.heap.size (.agg #[.int .i64 0, .slice A 2 c, .slice none 0 0]) 0 [6382179, 6447972] []) := HFX.out
  go_wp2_with fail
  obtain ⟨w3, hw_w3⟩ : ∃ q, w2.alloc (.cells #[.int .i64 0, .slice A 2 c, .slice none 0 0] 28) = q := ⟨_, rfl⟩
  have b_w3 : Below w2.heap.size w2 w3 := by rw [← hw_w3]; exact (Below.refl _ _).alloc (Nat.le_refl _) _
  rw [hw_w3]
  have HVxf : Hid (Blk w3 w2.heap.size 28 #[.int .i64 0, .slice A 2 c, .slice none 0 0]) := by unfold Hid; rw [← hw_w3]; exact Blk.new _ _ _
  have hz_w3 : w3.heap.size = w2.heap.size + 1 := by rw [← hw_w3]; simp
  have HFf_w3 := Lib.hid ((HFf_w2.out.below b_w3 (Nat.le_refl _)).wide (Nat.zero_le _) b_w3.size)
  have HB_w3 := Lib.hid (below_below HB_w2.out b_w3 S_w2)
  have S_w3 := HB_w3.out.size
  clear b_w3 HB_w2  HFf_w2 
  have HVf_w3 := Lib.hid HVxf.out
  clear HVxf hw_w3
  clear HFX
  obtain ⟨w4, hw_w4⟩ : ∃ q, w3.alloc (.cells #[.string ⟨#[97, 98, 99, 100]⟩] 9) = q := ⟨_, rfl⟩
  have b_w4 : Below w3.heap.size w3 w4 := by rw [← hw_w4]; exact (Below.refl _ _).alloc (Nat.le_refl _) _
  have HX : Hid (Rd w4 0 w4.heap.size (some ⟨w3.heap.size, 0, none⟩) 1 (sv [⟨#[97, 98, 99, 100]⟩])) := by unfold Hid; rw [← hw_w4]; exact one_str _ _ _
  have HVf_w4 := Lib.hid (HVf_w3.out.below b_w4 HVf_w3.out.lt)
  have HFf_w4 := Lib.hid ((HFf_w3.out.below b_w4 (Nat.le_refl _)).wide (Nat.zero_le _) b_w4.size)
  have HB_w4 := Lib.hid (below_below HB_w3.out b_w4 S_w3)
  have S_w4 := HB_w4.out.size
  clear b_w4 HB_w3  HVf_w3 HFf_w3 
  have Hs_w4 := Lib.hid HX.out
  clear HX
  rw [hw_w4]
  rw [hz_w3] at Hs_w4
  clear hw_w4
  refine (gmake_bits [⟨#[97, 98, 99, 100]⟩] Hs_w4.out (by decide) (by decide) (by decide) 8 (by decide) (by decide)).mono ?_
  rintro r w5 ⟨t, B, d, rfl, hr, ho, b_w5⟩
  have ht : t = [6382179, 6447972] := hr.one rise_abcd
  subst ht
  have HOX := Lib.hid ho
  clear hr ho
  have HVf_w5 := Lib.hid (HVf_w4.out.below b_w5 HVf_w4.out.lt)
  have HFf_w5 := Lib.hid ((HFf_w4.out.below b_w5 (Nat.le_refl _)).wide (Nat.zero_le _) b_w5.size)
  have HB_w5 := Lib.hid (below_below HB_w4.out b_w5 S_w4)
  have S_w5 := HB_w5.out.size
  clear b_w5 HB_w4  HVf_w4 HFf_w4 
  have HFe_w5 : Hid (Flt w5 0 w5.heap.size (.agg #[.int .i64 8, .slice none 0 0, .slice B 8 d]) 8 [] (setB 8 [6382179, 6447972])) := (flt_mk (b := 8) (gs := []) (rs := (setB 8 [6382179, 6447972])) (Rd.nil _ _ _) (own_rd HOX.out) rfl rfl (setB_length _ _))
  go_wp2_with fail
  obtain ⟨w6, hw_w6⟩ : ∃ q, w5.alloc (.cells #[.int .i64 8, .slice none 0 0, .slice B 8 d] 28) = q := ⟨_, rfl⟩
  have b_w6 : Below w5.heap.size w5 w6 := by rw [← hw_w6]; exact (Below.refl _ _).alloc (Nat.le_refl _) _
  rw [hw_w6]
  have HVxe : Hid (Blk w6 w5.heap.size 28 #[.int .i64 8, .slice none 0 0, .slice B 8 d]) := by unfold Hid; rw [← hw_w6]; exact Blk.new _ _ _
  have HVf_w6 := Lib.hid (HVf_w5.out.below b_w6 HVf_w5.out.lt)
  have HFf_w6 := Lib.hid ((HFf_w5.out.below b_w6 (Nat.le_refl _)).wide (Nat.zero_le _) b_w6.size)
  have HFe_w6 := Lib.hid ((HFe_w5.out.below b_w6 (Nat.le_refl _)).wide (Nat.zero_le _) b_w6.size)
  have HB_w6 := Lib.hid (below_below HB_w5.out b_w6 S_w5)
  have S_w6 := HB_w6.out.size
  clear b_w6 HB_w5  HVf_w5 HFf_w5 HFe_w5 
  have HVe_w6 := Lib.hid HVxe.out
  clear HVxe hw_w6
  clear HOX
  have HFE : Hid (FilG 0 [6382179, 6447972] []) := FilG.list (l := bytG [⟨#[97, 98, 99, 100]⟩]) rise_abcd (by decide)
  have HFE2 : Hid (FilG 8 [] (setB 8 [6382179, 6447972])) := FilG.set _ (by decide)
  refine (ggrams_any ⟨#[97, 98, 99, 100]⟩ (by decide)).mono ?_
  rintro r w7 ⟨t, A7, c7, rfl, hr, ho, b_w7⟩
  have ht : t = [6382179, 6447972] := hr.one rise_abcd2
  subst ht
  have HOX := Lib.hid ho
  clear hr ho
  have HVf_w7 := Lib.hid (HVf_w6.out.below b_w7 HVf_w6.out.lt)
  have HVe_w7 := Lib.hid (HVe_w6.out.below b_w7 HVe_w6.out.lt)
  have HFf_w7 := Lib.hid ((HFf_w6.out.below b_w7 (Nat.le_refl _)).wide (Nat.zero_le _) b_w7.size)
  have HFe_w7 := Lib.hid ((HFe_w6.out.below b_w7 (Nat.le_refl _)).wide (Nat.zero_le _) b_w7.size)
  have HB_w7 := Lib.hid (below_below HB_w6.out b_w7 S_w6)
  have S_w7 := HB_w7.out.size
  clear b_w7 HB_w6  HVf_w6 HVe_w6 HFf_w6 HFe_w6 
  have Ht_w7 := Lib.hid (own_rd HOX.out)
  clear HOX
  go_wp2_with fail
  obtain ⟨w8, hw_w8⟩ : ∃ q, w7.alloc (.cells #[.int .i64 6382179, .int .i64 6447972] 3) = q := ⟨_, rfl⟩
  have b_w8 : Below w7.heap.size w7 w8 := by rw [← hw_w8]; exact (Below.refl _ _).alloc (Nat.le_refl _) _
  have HX : Hid (Rd w8 0 w8.heap.size (some ⟨w7.heap.size, 0, none⟩) 2 (iv [6382179, 6447972])) := by unfold Hid; rw [← hw_w8]; exact (rd_ints _ _ [6382179, 6447972] _ rfl (by decide)).wide (Nat.le_refl _) (by simp)
  rw [hw_w8]
  have HVf_w8 := Lib.hid (HVf_w7.out.below b_w8 HVf_w7.out.lt)
  have HVe_w8 := Lib.hid (HVe_w7.out.below b_w8 HVe_w7.out.lt)
  have HFf_w8 := Lib.hid ((HFf_w7.out.below b_w8 (Nat.le_refl _)).wide (Nat.zero_le _) b_w8.size)
  have HFe_w8 := Lib.hid ((HFe_w7.out.below b_w8 (Nat.le_refl _)).wide (Nat.zero_le _) b_w8.size)
  have Ht_w8 := Lib.hid ((Ht_w7.out.below b_w8 (Nat.le_refl _)).wide (Nat.zero_le _) b_w8.size)
  have HB_w8 := Lib.hid (below_below HB_w7.out b_w8 S_w7)
  have S_w8 := HB_w8.out.size
  clear b_w8 Ht_w7 HB_w7  HVf_w7 HVe_w7 HFf_w7 HFe_w7 
  clear hw_w8
  refine (ints_is [6382179, 6447972] [6382179, 6447972] true Ht_w8.out HX.out rfl rfl (by decide)).mono ?_
  rintro r wq ⟨rfl, m_w8d, rfl⟩
  have HVf_w8d : Hid (Blk (w8.drewN m_w8d) (w2.heap.size) 28 #[.int .i64 0, .slice A 2 c, .slice none 0 0]) := HVf_w8.out.drewN m_w8d
  have HVe_w8d : Hid (Blk (w8.drewN m_w8d) (w5.heap.size) 28 #[.int .i64 8, .slice none 0 0, .slice B 8 d]) := HVe_w8.out.drewN m_w8d
  have HFf_w8d : Hid (Flt (w8.drewN m_w8d) 0 (w8.drewN m_w8d).heap.size (.agg #[.int .i64 0, .slice A 2 c, .slice none 0 0]) 0 [6382179, 6447972] []) := HFf_w8.out.drewN m_w8d
  have HFe_w8d : Hid (Flt (w8.drewN m_w8d) 0 (w8.drewN m_w8d).heap.size (.agg #[.int .i64 8, .slice none 0 0, .slice B 8 d]) 8 [] (setB 8 [6382179, 6447972])) := HFe_w8.out.drewN m_w8d
  obtain ⟨w8d, hw_w8d⟩ : ∃ q, w8.drewN m_w8d = q := ⟨_, rfl⟩
  have Ht_w8d : Hid (Rd w8d 0 w8d.heap.size A7 c7 (iv (ints [6382179, 6447972]))) := by unfold Hid; rw [← hw_w8d]; exact Ht_w8.out.drewN m_w8d
  have HB_w8d : Hid (Below w.heap.size w w8d) := by unfold Hid; rw [← hw_w8d]; exact below_drewN' HB_w8.out m_w8d
  have S_w8d := HB_w8d.out.size
  rw [hw_w8d] at HVf_w8d HVe_w8d HFf_w8d HFe_w8d
  rw [hw_w8d]
  clear hw_w8d Ht_w8 HB_w8
  clear HVf_w8 HVe_w8 HFf_w8 HFe_w8
  clear HX
  have cf0 : w8d.cell? ⟨w2.heap.size, 0, none⟩ = some (.int .i64 0) := HVf_w8d.out.cell 0
  have cf1 : w8d.cell? ⟨w2.heap.size, 1, none⟩ = some (.slice A 2 c) := HVf_w8d.out.cell 1
  have cf2 : w8d.cell? ⟨w2.heap.size, 2, none⟩ = some (.slice none 0 0) := HVf_w8d.out.cell 2
  have zf0 := HVf_w8d.out.frozen 0
  have zf1 := HVf_w8d.out.frozen 1
  have zf2 := HVf_w8d.out.frozen 2
  go_wp2_with fail
  clear cf0 zf0 cf1 zf1 cf2 zf2
  refine (may_is HFf_w8d.out (Nat.le_refl _) HFE.out ⟨#[97, 98, 99]⟩ (by decide) true (by decide)).mono ?_
  rintro r w9 ⟨rfl, b_w9⟩
  have HVf_w9 := Lib.hid (HVf_w8d.out.below b_w9 HVf_w8d.out.lt)
  have HVe_w9 := Lib.hid (HVe_w8d.out.below b_w9 HVe_w8d.out.lt)
  have HFf_w9 := Lib.hid ((HFf_w8d.out.below b_w9 (Nat.le_refl _)).wide (Nat.zero_le _) b_w9.size)
  have HFe_w9 := Lib.hid ((HFe_w8d.out.below b_w9 (Nat.le_refl _)).wide (Nat.zero_le _) b_w9.size)
  have HB_w9 := Lib.hid (below_below HB_w8d.out b_w9 S_w8d)
  have S_w9 := HB_w9.out.size
  clear b_w9 HB_w8d  HVf_w8d HVe_w8d HFf_w8d HFe_w8d 
  have cf0 : w9.cell? ⟨w2.heap.size, 0, none⟩ = some (.int .i64 0) := HVf_w9.out.cell 0
  have cf1 : w9.cell? ⟨w2.heap.size, 1, none⟩ = some (.slice A 2 c) := HVf_w9.out.cell 1
  have cf2 : w9.cell? ⟨w2.heap.size, 2, none⟩ = some (.slice none 0 0) := HVf_w9.out.cell 2
  have zf0 := HVf_w9.out.frozen 0
  have zf1 := HVf_w9.out.frozen 1
  have zf2 := HVf_w9.out.frozen 2
  go_wp2_with fail
  clear cf0 zf0 cf1 zf1 cf2 zf2
  refine (may_is HFf_w9.out (Nat.le_refl _) HFE.out ⟨#[97, 99, 100]⟩ (by decide) false (by decide)).mono ?_
  rintro r wa ⟨rfl, b_wa⟩
  have HVf_wa := Lib.hid (HVf_w9.out.below b_wa HVf_w9.out.lt)
  have HVe_wa := Lib.hid (HVe_w9.out.below b_wa HVe_w9.out.lt)
  have HFf_wa := Lib.hid ((HFf_w9.out.below b_wa (Nat.le_refl _)).wide (Nat.zero_le _) b_wa.size)
  have HFe_wa := Lib.hid ((HFe_w9.out.below b_wa (Nat.le_refl _)).wide (Nat.zero_le _) b_wa.size)
  have HB_wa := Lib.hid (below_below HB_w9.out b_wa S_w9)
  have S_wa := HB_wa.out.size
  clear b_wa HB_w9  HVf_w9 HVe_w9 HFf_w9 HFe_w9 
  have ce0 : wa.cell? ⟨w5.heap.size, 0, none⟩ = some (.int .i64 8) := HVe_wa.out.cell 0
  have ce1 : wa.cell? ⟨w5.heap.size, 1, none⟩ = some (.slice none 0 0) := HVe_wa.out.cell 1
  have ce2 : wa.cell? ⟨w5.heap.size, 2, none⟩ = some (.slice B 8 d) := HVe_wa.out.cell 2
  have ze0 := HVe_wa.out.frozen 0
  have ze1 := HVe_wa.out.frozen 1
  have ze2 := HVe_wa.out.frozen 2
  go_wp2_with fail
  clear ce0 ze0 ce1 ze1 ce2 ze2
  refine (may_is HFe_wa.out (Nat.le_refl _) HFE2.out ⟨#[98, 99, 100]⟩ (by decide) true (by decide)).mono ?_
  rintro r wb ⟨rfl, b_wb⟩
  have HVf_wb := Lib.hid (HVf_wa.out.below b_wb HVf_wa.out.lt)
  have HVe_wb := Lib.hid (HVe_wa.out.below b_wb HVe_wa.out.lt)
  have HFf_wb := Lib.hid ((HFf_wa.out.below b_wb (Nat.le_refl _)).wide (Nat.zero_le _) b_wb.size)
  have HFe_wb := Lib.hid ((HFe_wa.out.below b_wb (Nat.le_refl _)).wide (Nat.zero_le _) b_wb.size)
  have HB_wb := Lib.hid (below_below HB_wa.out b_wb S_wa)
  have S_wb := HB_wb.out.size
  clear b_wb HB_wa  HVf_wa HVe_wa HFf_wa HFe_wa 
  have cf0 : wb.cell? ⟨w2.heap.size, 0, none⟩ = some (.int .i64 0) := HVf_wb.out.cell 0
  have cf1 : wb.cell? ⟨w2.heap.size, 1, none⟩ = some (.slice A 2 c) := HVf_wb.out.cell 1
  have cf2 : wb.cell? ⟨w2.heap.size, 2, none⟩ = some (.slice none 0 0) := HVf_wb.out.cell 2
  have zf0 := HVf_wb.out.frozen 0
  have zf1 := HVf_wb.out.frozen 1
  have zf2 := HVf_wb.out.frozen 2
  go_wp2_with fail
  clear cf0 zf0 cf1 zf1 cf2 zf2
  refine (gwrite_any HFf_wb.out (Nat.le_refl _) HFE.out).mono ?_
  rintro r wc ⟨A9, c9, rfl, ho, b_wc⟩
  have hl : (writeG 0 [6382179, 6447972] []).length = 6 + 3 := by rw [write_abcd]
  rw [hl]
  clear ho hl
  have HVf_wc := Lib.hid (HVf_wb.out.below b_wc HVf_wb.out.lt)
  have HVe_wc := Lib.hid (HVe_wb.out.below b_wc HVe_wb.out.lt)
  have HFf_wc := Lib.hid ((HFf_wb.out.below b_wc (Nat.le_refl _)).wide (Nat.zero_le _) b_wc.size)
  have HFe_wc := Lib.hid ((HFe_wb.out.below b_wc (Nat.le_refl _)).wide (Nat.zero_le _) b_wc.size)
  have HB_wc := Lib.hid (below_below HB_wb.out b_wc S_wb)
  have S_wc := HB_wc.out.size
  clear b_wc HB_wb  HVf_wb HVe_wb HFf_wb HFe_wb 
  go_wp2_with fail
  go_ret
  exact ⟨rfl, HB_wc.out⟩
end Go.Proofs.Ytepgkdmfoojppaa
