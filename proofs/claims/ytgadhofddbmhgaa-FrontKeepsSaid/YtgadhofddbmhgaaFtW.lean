/-
  The laws of layer 13: awake.
-/
import Derived.Test.YtgadhofddbmhgaaFtL
namespace Go.Proofs.Ytgadhofddbmhgaa
set_option linter.unusedSimpArgs false
set_option linter.unusedVariables false
open Go.RowKit

set_option maxRecDepth 20000 in
set_option maxHeartbeats 4000000 in
theorem awake13_any {w : World} : Calls Try.prog 8 #[] w fun r w' => r = .returned (.bool true) ∧ Below w.heap.size w w' := by
  have HF : Hid (frontL 2 (bytL2 [⟨#[97, 98]⟩, ⟨#[97, 98, 99]⟩]) = [2, 2, 1, 3, 6, 2, 97, 98, 2, 1, 99]) := front_ab
  have hO : openR [2, 2, 1, 3, 6, 2, 97, 98, 2, 1, 99] 0 0 = ([[97, 98], [97, 98, 99]], 11, 0) := openR_there (rest := []) (K := 2) (l := [[97, 98], [97, 98, 99]]) (by decide) (by decide) (by decide) (by decide) (by rw [front_ab]; rfl) |>.trans (by rw [front_ab]; rfl)
  have HO := Lib.hid hO
  clear hO
  obtain ⟨w1, hw_w1⟩ : ∃ q, w.alloc (.cells #[.string ⟨#[97, 98]⟩, .string ⟨#[97, 98, 99]⟩] 9) = q := ⟨_, rfl⟩
  have Hs_w1 : Hid (Rd w1 0 w1.heap.size (some ⟨w.heap.size, 0, none⟩) 2 (sv [⟨#[97, 98]⟩, ⟨#[97, 98, 99]⟩])) := by unfold Hid; rw [← hw_w1]; exact rd_cells w 9 _ _ rfl rfl (by decide)
  have HB_w1 : Hid (Below w.heap.size w w1) := by unfold Hid; rw [← hw_w1]; exact (Below.refl _ w).alloc (Nat.le_refl _) _
  have S_w1 := HB_w1.out.size
  go_enter Try.func8, Try.ntmps8
  go_wp2_with fail
  refine (fbuild_is [⟨#[97, 98]⟩, ⟨#[97, 98, 99]⟩] 2 2 [2, 2, 1, 3, 6, 2, 97, 98, 2, 1, 99] Hs_w1.out (by decide) rfl HF.out rfl).mono ?_
  rintro r w2 ⟨A_w2, c_w2, rfl, ho_w2, b_w2⟩
  have Hs_w2 := Lib.hid ((Hs_w1.out.below b_w2 (Nat.le_refl _)).wide (Nat.zero_le _) b_w2.size)
  have HB_w2 := Lib.hid (below_below HB_w1.out b_w2 S_w1)
  have S_w2 := HB_w2.out.size
  have Hb_w2 := Lib.hid ((Rd.of_own ho_w2).wide (Nat.zero_le _) (Nat.le_refl _))
  clear b_w2 Hs_w1 HB_w1 ho_w2  
  go_wp2_with fail
  refine (fnew_is [2, 2, 1, 3, 6, 2, 97, 98, 2, 1, 99] Hb_w2.out (by decide) rfl).mono ?_
  rintro r wn ⟨g, rfl, hcn, hbn⟩
  have HCN := Lib.hid hcn
  have HBN := Lib.hid hbn
  clear hcn hbn
  go_wp2_with fail
  refine (fopen_is (wo := w2) HCN.out (by decide) HBN.out [[97, 98], [97, 98, 99]] 11 0 HO.out).mono ?_
  rintro r w3 ⟨d, rfl, hdc, hcu, b_w3⟩
  clear HCN HBN
  have Hs_w3 := Lib.hid ((Hs_w2.out.below b_w3 (Nat.le_refl _)).wide (Nat.zero_le _) b_w3.size)
  have Hb_w3 := Lib.hid ((Hb_w2.out.below b_w3 (Nat.le_refl _)).wide (Nat.zero_le _) b_w3.size)
  have HB_w3 := Lib.hid (below_below HB_w2.out b_w3 S_w2)
  have S_w3 := HB_w3.out.size
  clear b_w3 Hs_w2 Hb_w2 HB_w2  
  have HC_w3 := Lib.hid hcu
  have HD_w3 := Lib.hid hdc
  clear hcu hdc
  have hst : (convert 25 9 (.slice A_w2 11 c_w2)).run Try.prog w3 = .ok (.string ⟨#[2, 2, 1, 3, 6, 2, 97, 98, 2, 1, 99]⟩) w3 := run_string_rd (P := Try.prog) w3 25 9 5 Try.underlying25 Try.underlying5 Try.underlying9 _ _ A_w2 c_w2 [2, 2, 1, 3, 6, 2, 97, 98, 2, 1, 99] Hb_w3.out
  go_wp2_with fail
  refine (flen_is HD_w3.out (n := 2) rfl).mono ?_
  rintro r wq ⟨rfl, rfl⟩
  go_wp2_with fail
  refine (fat_is (k := 1) ⟨#[97, 98, 99]⟩ HD_w3.out (by decide) (by decide) rfl rfl).mono ?_
  rintro r w4 ⟨rfl, b_w4⟩
  have HC_w4 := Lib.hid (HC_w3.out.behind b_w4 HC_w3.out.lt)
  have HD_w4 := Lib.hid (HD_w3.out.below b_w4 (Nat.le_refl _))
  have Hs_w4 := Lib.hid ((Hs_w3.out.below b_w4 (Nat.le_refl _)).wide (Nat.zero_le _) b_w4.size)
  have Hb_w4 := Lib.hid ((Hb_w3.out.below b_w4 (Nat.le_refl _)).wide (Nat.zero_le _) b_w4.size)
  have HB_w4 := Lib.hid (below_below HB_w3.out b_w4 S_w3)
  have S_w4 := HB_w4.out.size
  clear b_w4 Hs_w3 Hb_w3 HB_w3  HC_w3 HD_w3
  go_wp2_with fail
  refine (fend_is HC_w4.out (x := 0) (by decide)).mono ?_
  rintro r w5 ⟨rfl, m_w5, rfl⟩
  have HC_w5 : Hid (Cur (w4.drewN m_w5) w2.heap.size g [2, 2, 1, 3, 6, 2, 97, 98, 2, 1, 99] 11 0) := HC_w4.out.drewN m_w5
  have HD_w5 : Hid (Dc (w4.drewN m_w5) d (strsL [[97, 98], [97, 98, 99]])) := HD_w4.out.drewN m_w5
  obtain ⟨w5, hw_w5⟩ : ∃ q, w4.drewN m_w5 = q := ⟨_, rfl⟩
  have Hs_w5 : Hid (Rd w5 0 w5.heap.size (some ⟨w.heap.size, 0, none⟩) 2 (sv [⟨#[97, 98]⟩, ⟨#[97, 98, 99]⟩])) := by unfold Hid; rw [← hw_w5]; exact Hs_w4.out.drewN m_w5
  have Hb_w5 : Hid (Rd w5 0 w5.heap.size A_w2 c_w2 (bv [2, 2, 1, 3, 6, 2, 97, 98, 2, 1, 99])) := by unfold Hid; rw [← hw_w5]; exact Hb_w4.out.drewN m_w5
  have HB_w5 : Hid (Below w.heap.size w w5) := by unfold Hid; rw [← hw_w5]; exact below_drewN' HB_w4.out m_w5
  have S_w5 := HB_w5.out.size
  rw [hw_w5] at HC_w5 HD_w5
  rw [hw_w5]
  clear hw_w5 Hs_w4 Hb_w4 HB_w4
  clear HC_w4 HD_w4
  go_wp2_with fail
  refine (fall_is HD_w5.out (n := 2) (by decide) (by decide) rfl).mono ?_
  rintro r w6 ⟨A6, c6, rfl, ho_w6, b_w6⟩
  have HC_w6 := Lib.hid (HC_w5.out.behind b_w6 HC_w5.out.lt)
  have HD_w6 := Lib.hid (HD_w5.out.below b_w6 (Nat.le_refl _))
  have Hs_w6 := Lib.hid ((Hs_w5.out.below b_w6 (Nat.le_refl _)).wide (Nat.zero_le _) b_w6.size)
  have Hb_w6 := Lib.hid ((Hb_w5.out.below b_w6 (Nat.le_refl _)).wide (Nat.zero_le _) b_w6.size)
  have HB_w6 := Lib.hid (below_below HB_w5.out b_w6 S_w5)
  have S_w6 := HB_w6.out.size
  clear b_w6 Hs_w5 Hb_w5 HB_w5  HC_w5 HD_w5
  clear ho_w6
  go_wp2_with fail
  go_ret
  exact ⟨rfl, HB_w6.out⟩
end Go.Proofs.Ytgadhofddbmhgaa
