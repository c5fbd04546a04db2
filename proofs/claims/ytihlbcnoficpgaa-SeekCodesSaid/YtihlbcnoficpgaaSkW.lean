/-
  The laws of layer 14: awake.
-/
import Derived.Test.YtihlbcnoficpgaaSkL
import Derived.Test.YtihlbcnoficpgaaMgF
namespace Go.Proofs.Ytihlbcnoficpgaa
set_option linter.unusedSimpArgs false
set_option linter.unusedVariables false
open Go.RowKit

theorem rd_lits (w : World) (t : TypeId) (xs : List Value) (cs : Array Value) {n : Nat} (h : cs.toList = xs) (hn : xs.length = n) (hm : n ≤ 1000) : Rd (w.alloc (.cells cs t)) 0 (w.alloc (.cells cs t)).heap.size (some ⟨w.heap.size, 0, none⟩) n xs := by
  subst h hn
  refine ⟨Nat.le_refl _, by unfold maxLen; omega, fun _ => ⟨w.heap.size, 0, rfl, Nat.zero_le _, by simp, fun j u hu => ?_⟩⟩
  rw [Nat.zero_add, cell_of_row _ w.heap.size j cs t (0, 0) (heap_alloc_new w _)]
  simpa using hu
/-- those three in order -/
theorem sort_aab : SortOf (bytL2 [⟨#[98]⟩, ⟨#[97, 98]⟩, ⟨#[97]⟩]) [[97], [97, 98], [98]] := by
  refine ⟨by decide, fun x => ?_⟩
  simp [bytL2]
  constructor
  · rintro (h | h | h)
    · exact Or.inr (Or.inr h)
    · exact Or.inr (Or.inl h)
    · exact Or.inl h
  · rintro (h | h | h)
    · exact Or.inr (Or.inr h)
    · exact Or.inr (Or.inl h)
    · exact Or.inl h
set_option maxRecDepth 20000 in
set_option maxHeartbeats 4000000 in
theorem awake14_any {w : World} : Calls Try.prog 9 #[] w fun r w' => r = .returned (.bool true) ∧ Below w.heap.size w w' := by
  obtain ⟨w1, hw_w1⟩ : ∃ q, w.alloc (.cells #[.string ⟨#[98]⟩, .string ⟨#[97, 98]⟩, .string ⟨#[97]⟩] 9) = q := ⟨_, rfl⟩
  have Hs_w1 : Hid (Rd w1 0 w1.heap.size (some ⟨w.heap.size, 0, none⟩) 3 (sv [⟨#[98]⟩, ⟨#[97, 98]⟩, ⟨#[97]⟩])) := by unfold Hid; rw [← hw_w1]; exact rd_lits w 9 _ _ rfl rfl (by decide)
  have HB_w1 : Hid (Below w.heap.size w w1) := by unfold Hid; rw [← hw_w1]; exact (Below.refl _ w).alloc (Nat.le_refl _) _
  have S_w1 := HB_w1.out.size
  go_enter Try.func9, Try.ntmps9
  go_wp2_with fail
  refine (dict_any [⟨#[98]⟩, ⟨#[97, 98]⟩, ⟨#[97]⟩] Hs_w1.out).mono ?_
  rintro r w2 ⟨b_w2, (⟨rfl, hno⟩ | ⟨d, t, A, c, rfl, hM⟩)⟩
  · have h1 := hno (by decide) [⟨#[97]⟩, ⟨#[97, 98]⟩, ⟨#[98]⟩] (by exact sort_aab)
    exact absurd h1 (by decide)
  have ht : t = [⟨#[97]⟩, ⟨#[97, 98]⟩, ⟨#[98]⟩] := by
    have h1 : bytL2 t = [[97], [97, 98], [98]] := hM.sort.one sort_aab
    rw [← strsL_bytL2' t, h1]
    rfl
  subst ht
  have HMN := Lib.hid hM
  clear hM
  have Hs_w2 := Lib.hid ((Hs_w1.out.below b_w2 (Nat.le_refl _)).wide (Nat.zero_le _) b_w2.size)
  have HB_w2 := Lib.hid (below_below HB_w1.out b_w2 S_w1)
  have S_w2 := HB_w2.out.size
  clear b_w2 Hs_w1 HB_w1   
  have HMm_w2 := Lib.hid HMN.out
  clear HMN
  go_wp2_with fail
  refine (spre_is HMm_w2.out.dk ⟨#[97]⟩ 0 2 (by decide) (by decide) (by decide)).mono ?_
  rintro r w3 ⟨rfl, b_w3⟩
  have HMm_w3 := Lib.hid (HMm_w2.out.below b_w3)
  have Hs_w3 := Lib.hid ((Hs_w2.out.below b_w3 (Nat.le_refl _)).wide (Nat.zero_le _) b_w3.size)
  have HB_w3 := Lib.hid (below_below HB_w2.out b_w3 S_w2)
  have S_w3 := HB_w3.out.size
  clear b_w3 Hs_w2 HB_w2  HMm_w2 
  go_wp2_with fail
  refine (scode_is HMm_w3.out.dk ⟨#[98]⟩ 2 true (by decide) (by decide) (by decide)).mono ?_
  rintro r w4 ⟨rfl, b_w4⟩
  have HMm_w4 := Lib.hid (HMm_w3.out.below b_w4)
  have Hs_w4 := Lib.hid ((Hs_w3.out.below b_w4 (Nat.le_refl _)).wide (Nat.zero_le _) b_w4.size)
  have HB_w4 := Lib.hid (below_below HB_w3.out b_w4 S_w3)
  have S_w4 := HB_w4.out.size
  clear b_w4 Hs_w3 HB_w3  HMm_w3 
  go_wp2_with fail
  refine (slow_is HMm_w4.out.dk ⟨#[97, 98]⟩ 1 (by decide) (by decide)).mono ?_
  rintro r w5 ⟨rfl, b_w5⟩
  have HMm_w5 := Lib.hid (HMm_w4.out.below b_w5)
  have Hs_w5 := Lib.hid ((Hs_w4.out.below b_w5 (Nat.le_refl _)).wide (Nat.zero_le _) b_w5.size)
  have HB_w5 := Lib.hid (below_below HB_w4.out b_w5 S_w4)
  have S_w5 := HB_w5.out.size
  clear b_w5 Hs_w4 HB_w4  HMm_w4 
  go_wp2_with fail
  refine (sup_is HMm_w5.out.dk ⟨#[97, 98]⟩ 2 (by decide) (by decide)).mono ?_
  rintro r w6 ⟨rfl, b_w6⟩
  have HMm_w6 := Lib.hid (HMm_w5.out.below b_w6)
  have Hs_w6 := Lib.hid ((Hs_w5.out.below b_w6 (Nat.le_refl _)).wide (Nat.zero_le _) b_w6.size)
  have HB_w6 := Lib.hid (below_below HB_w5.out b_w6 S_w5)
  have S_w6 := HB_w6.out.size
  clear b_w6 Hs_w5 HB_w5  HMm_w5 
  go_wp2_with fail
  refine (smap_is (n := 3) HMm_w6.out.dk HMm_w6.out.dk _ rfl rfl).mono ?_
  rintro r w7 ⟨A7, c7, rfl, ho7, b_w7⟩
  have HMm_w7 := Lib.hid (HMm_w6.out.below b_w7)
  have Hs_w7 := Lib.hid ((Hs_w6.out.below b_w7 (Nat.le_refl _)).wide (Nat.zero_le _) b_w7.size)
  have HB_w7 := Lib.hid (below_below HB_w6.out b_w7 S_w6)
  have S_w7 := HB_w7.out.size
  clear b_w7 Hs_w6 HB_w6  HMm_w6 
  clear ho7
  go_wp2_with fail
  refine (smerge_is (n := 3) HMm_w7.out.dk HMm_w7.out.dk [⟨#[97]⟩, ⟨#[97, 98]⟩, ⟨#[98]⟩] ⟨by decide, fun x => by simp⟩ rfl).mono ?_
  rintro r w8 ⟨A8, c8, rfl, ho8, b_w8⟩
  have HMm_w8 := Lib.hid (HMm_w7.out.below b_w8)
  have Hs_w8 := Lib.hid ((Hs_w7.out.below b_w8 (Nat.le_refl _)).wide (Nat.zero_le _) b_w8.size)
  have HB_w8 := Lib.hid (below_below HB_w7.out b_w8 S_w7)
  have S_w8 := HB_w8.out.size
  clear b_w8 Hs_w7 HB_w7  HMm_w7 
  clear ho8
  go_wp2_with fail
  go_ret
  exact ⟨rfl, HB_w8.out⟩
end Go.Proofs.Ytihlbcnoficpgaa
