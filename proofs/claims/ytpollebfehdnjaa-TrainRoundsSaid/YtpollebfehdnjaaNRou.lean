/-
  Proved: TrainRounds of layer 12: of whatever few strings' table and sample, Round answers the document's new table; what came in reads as it did. Conditions: none of our own.
-/
import Derived.Test.YtpollebfehdnjaaTnL
import Derived.Test.YtpollebfehdnjaaMgH
namespace Go.Proofs.Ytpollebfehdnjaa
set_option linter.unusedSimpArgs false
set_option linter.unusedVariables false
open Go.ChangeShapes Go.WideShapes Go.ChangeAt Go.RowKit
open Go.ChangeMaps (open_string shut_string)

set_option maxRecDepth 20000 in
set_option maxHeartbeats 4000000 in
theorem trainRounds_walk {w : World} {A : Option Addr} {l : List ByteArray} {c : Nat} (h : Rd w 0 w.heap.size A c (sv l) ∧ (∀ s ∈ l, s.size ≤ 140737488351232) ∧ l.length ≤ 8796093021952) {B : Option Addr} {S : List ByteArray} {d : Nat} (hS : Rd w 0 w.heap.size B d (sv S) ∧ (∀ s ∈ S, s.size ≤ 140737488351232) ∧ S.length ≤ 8796093021952) :
    Calls Try.prog 4 #[.slice A l.length c, .slice B S.length d] w fun e w' => e = .returned (.bool true) ∧ Below w.heap.size w w' := by
  obtain ⟨h, hz, hn⟩ := h
  have Hl_w := Lib.hid h
  have hl := h.len
  have hm := h.cap
  rw [sv_length] at hl
  unfold maxLen at hm
  have HZl := Lib.hid hz
  clear h hz
  obtain ⟨hS, hSz, hSn⟩ := hS
  have HS_w := Lib.hid hS
  have hSl := hS.len
  have hSm := hS.cap
  rw [sv_length] at hSl
  unfold maxLen at hSm
  have HZS := Lib.hid hSz
  clear hS hSz
  by_cases hf : FewS l
  · obtain ⟨hl3, hl1, hl4, hz1, hz2⟩ := few_sizes hf
    have HFW : Hid (decide (FewS l) = true) := decide_eq_true hf
    have HZ1 := Lib.hid hz1
    clear hz1 hz2 hf
    by_cases ht : FewT S
    · obtain ⟨hs60, hsb, hbag⟩ := fewT_facts ht
      have HFT : Hid (decide (FewT S) = true) := decide_eq_true ht
      have HSB := Lib.hid hsb
      have HBG := Lib.hid hbag
      clear ht hsb hbag
      obtain ⟨t, ht⟩ : ∃ t, ordL (bytL2 l) = t := ⟨_, rfl⟩
      obtain ⟨hr, htl, ht5, ht8, hto⟩ := ord_facts l ht
      have HT := Lib.hid ht
      have HR := Lib.hid hr
      have HTL := Lib.hid htl
      clear ht hr htl ht8 hto
      go_enter Try.func4, Try.ntmps4
      go_wp2_with fail
      refine (awake12_any (w := _)).mono ?_
      rintro r w1 ⟨rfl, b_w1⟩
      have Hl_w1 := Lib.hid ((Hl_w.out.below b_w1 (Nat.le_refl _)).wide (Nat.zero_le _) b_w1.size)
      have HS_w1 := Lib.hid ((HS_w.out.below b_w1 (Nat.le_refl _)).wide (Nat.zero_le _) b_w1.size)
      have HB_w1 := Lib.hid b_w1
      have S_w1 := HB_w1.out.size
      clear b_w1 Hl_w HS_w 
      go_wp2_with fail
      refine (few_is l true Hl_w1.out HFW.out).mono ?_
      rintro r wq ⟨rfl, rfl⟩
      go_wp2_with fail
      refine (fewT_is S true HS_w1.out HZS.out HFT.out).mono ?_
      rintro r w2 ⟨rfl, m_w2, rfl⟩
      obtain ⟨w2, hw_w2⟩ : ∃ q, w1.drewN m_w2 = q := ⟨_, rfl⟩
      have Hl_w2 : Hid (Rd w2 0 w2.heap.size A c (sv l)) := by unfold Hid; rw [← hw_w2]; exact Hl_w1.out.drewN m_w2
      have HS_w2 : Hid (Rd w2 0 w2.heap.size B d (sv S)) := by unfold Hid; rw [← hw_w2]; exact HS_w1.out.drewN m_w2
      have HB_w2 : Hid (Below w.heap.size w w2) := by unfold Hid; rw [← hw_w2]; exact below_drewN' HB_w1.out m_w2
      have S_w2 := HB_w2.out.size
      rw [hw_w2]
      clear hw_w2 Hl_w1 HS_w1 HB_w1
      go_wp2_with fail
      refine (reforder_is l t Hl_w2.out HZ1.out hl1 HT.out rfl).mono ?_
      rintro r w3 ⟨A3, c3, rfl, ho_w3, b_w3⟩
      have Hl_w3 := Lib.hid ((Hl_w2.out.below b_w3 (Nat.le_refl _)).wide (Nat.zero_le _) b_w3.size)
      have HS_w3 := Lib.hid ((HS_w2.out.below b_w3 (Nat.le_refl _)).wide (Nat.zero_le _) b_w3.size)
      have HB_w3 := Lib.hid (below_below HB_w2.out b_w3 S_w2)
      have S_w3 := HB_w3.out.size
      have Ht_w3 := Lib.hid ((Rd.of_own ho_w3).wide (Nat.zero_le _) (Nat.le_refl _))
      clear b_w3 Hl_w2 HS_w2 HB_w2 ho_w3 
      go_wp2_with fail
      refine (round_some (strsL t) S Ht_w3.out HS_w3.out HR.out (by omega) HSB.out HTL.out rfl).mono ?_
      rintro r w4 ⟨u, A4, c4, rfl, hu, ho_w4, b_w4⟩
      have HU := Lib.hid hu
      have HUL := Lib.hid (strsL_length u)
      clear hu
      have Hl_w4 := Lib.hid ((Hl_w3.out.below b_w4 (Nat.le_refl _)).wide (Nat.zero_le _) b_w4.size)
      have HS_w4 := Lib.hid ((HS_w3.out.below b_w4 (Nat.le_refl _)).wide (Nat.zero_le _) b_w4.size)
      have Ht_w4 := Lib.hid ((Ht_w3.out.below b_w4 (Nat.le_refl _)).wide (Nat.zero_le _) b_w4.size)
      have HB_w4 := Lib.hid (below_below HB_w3.out b_w4 S_w3)
      have S_w4 := HB_w4.out.size
      have Hx_w4 := Lib.hid ((Rd.of_own ho_w4).wide (Nat.zero_le _) (Nat.le_refl _))
      clear b_w4 Hl_w3 HS_w3 Ht_w3 HB_w3 ho_w4 
      go_wp2_with fail
      refine (refround_is (strsL t) S u Ht_w4.out HS_w4.out HR.out (by omega) HSB.out (HBG.out _) HU.out HTL.out rfl).mono ?_
      rintro r w5 ⟨A5, c5, rfl, ho_w5, b_w5⟩
      have Hl_w5 := Lib.hid ((Hl_w4.out.below b_w5 (Nat.le_refl _)).wide (Nat.zero_le _) b_w5.size)
      have HS_w5 := Lib.hid ((HS_w4.out.below b_w5 (Nat.le_refl _)).wide (Nat.zero_le _) b_w5.size)
      have Ht_w5 := Lib.hid ((Ht_w4.out.below b_w5 (Nat.le_refl _)).wide (Nat.zero_le _) b_w5.size)
      have Hx_w5 := Lib.hid ((Hx_w4.out.below b_w5 (Nat.le_refl _)).wide (Nat.zero_le _) b_w5.size)
      have HB_w5 := Lib.hid (below_below HB_w4.out b_w5 S_w4)
      have S_w5 := HB_w5.out.size
      have Hy_w5 := Lib.hid ((Rd.of_own ho_w5).wide (Nat.zero_le _) (Nat.le_refl _))
      clear b_w5 Hl_w4 HS_w4 Ht_w4 Hx_w4 HB_w4 ho_w5 
      go_wp2_with fail
      refine (nsame_is (strsL u) (strsL u) true Hx_w5.out Hy_w5.out HUL.out HUL.out (decide_eq_true rfl)).mono ?_
      rintro r w6 ⟨rfl, m_w6, rfl⟩
      obtain ⟨w6, hw_w6⟩ : ∃ q, w5.drewN m_w6 = q := ⟨_, rfl⟩
      have Hl_w6 : Hid (Rd w6 0 w6.heap.size A c (sv l)) := by unfold Hid; rw [← hw_w6]; exact Hl_w5.out.drewN m_w6
      have HS_w6 : Hid (Rd w6 0 w6.heap.size B d (sv S)) := by unfold Hid; rw [← hw_w6]; exact HS_w5.out.drewN m_w6
      have Ht_w6 : Hid (Rd w6 0 w6.heap.size A3 c3 (sv (strsL t))) := by unfold Hid; rw [← hw_w6]; exact Ht_w5.out.drewN m_w6
      have Hx_w6 : Hid (Rd w6 0 w6.heap.size A4 c4 (sv (strsL u))) := by unfold Hid; rw [← hw_w6]; exact Hx_w5.out.drewN m_w6
      have Hy_w6 : Hid (Rd w6 0 w6.heap.size A5 c5 (sv (strsL u))) := by unfold Hid; rw [← hw_w6]; exact Hy_w5.out.drewN m_w6
      have HB_w6 : Hid (Below w.heap.size w w6) := by unfold Hid; rw [← hw_w6]; exact below_drewN' HB_w5.out m_w6
      have S_w6 := HB_w6.out.size
      rw [hw_w6]
      clear hw_w6 Hl_w5 HS_w5 Ht_w5 Hx_w5 Hy_w5 HB_w5
      go_wp2_with fail
      go_ret
      exact ⟨rfl, HB_w6.out⟩
    · have HNT : Hid (decide (FewT S) = false) := decide_eq_false ht
      clear ht
      go_enter Try.func4, Try.ntmps4
      go_wp2_with fail
      refine (awake12_any (w := _)).mono ?_
      rintro r w1 ⟨rfl, b_w1⟩
      have Hl_w1 := Lib.hid ((Hl_w.out.below b_w1 (Nat.le_refl _)).wide (Nat.zero_le _) b_w1.size)
      have HS_w1 := Lib.hid ((HS_w.out.below b_w1 (Nat.le_refl _)).wide (Nat.zero_le _) b_w1.size)
      have HB_w1 := Lib.hid b_w1
      have S_w1 := HB_w1.out.size
      clear b_w1 Hl_w HS_w 
      go_wp2_with fail
      refine (few_is l true Hl_w1.out HFW.out).mono ?_
      rintro r wq ⟨rfl, rfl⟩
      go_wp2_with fail
      refine (fewT_is S false HS_w1.out HZS.out HNT.out).mono ?_
      rintro r w2 ⟨rfl, m_w2, rfl⟩
      obtain ⟨w2, hw_w2⟩ : ∃ q, w1.drewN m_w2 = q := ⟨_, rfl⟩
      have Hl_w2 : Hid (Rd w2 0 w2.heap.size A c (sv l)) := by unfold Hid; rw [← hw_w2]; exact Hl_w1.out.drewN m_w2
      have HS_w2 : Hid (Rd w2 0 w2.heap.size B d (sv S)) := by unfold Hid; rw [← hw_w2]; exact HS_w1.out.drewN m_w2
      have HB_w2 : Hid (Below w.heap.size w w2) := by unfold Hid; rw [← hw_w2]; exact below_drewN' HB_w1.out m_w2
      have S_w2 := HB_w2.out.size
      rw [hw_w2]
      clear hw_w2 Hl_w1 HS_w1 HB_w1
      go_wp2_with fail
      refine (awake12_any (w := _)).mono ?_
      rintro r w3 ⟨rfl, b_w3⟩
      have Hl_w3 := Lib.hid ((Hl_w2.out.below b_w3 (Nat.le_refl _)).wide (Nat.zero_le _) b_w3.size)
      have HS_w3 := Lib.hid ((HS_w2.out.below b_w3 (Nat.le_refl _)).wide (Nat.zero_le _) b_w3.size)
      have HB_w3 := Lib.hid (below_below HB_w2.out b_w3 S_w2)
      have S_w3 := HB_w3.out.size
      clear b_w3 Hl_w2 HS_w2 HB_w2 
      go_wp2_with fail
      go_ret
      exact ⟨rfl, HB_w3.out⟩
  · have HNF : Hid (decide (FewS l) = false) := decide_eq_false hf
    clear hf
    go_enter Try.func4, Try.ntmps4
    go_wp2_with fail
    refine (awake12_any (w := _)).mono ?_
    rintro r w1 ⟨rfl, b_w1⟩
    have Hl_w1 := Lib.hid ((Hl_w.out.below b_w1 (Nat.le_refl _)).wide (Nat.zero_le _) b_w1.size)
    have HS_w1 := Lib.hid ((HS_w.out.below b_w1 (Nat.le_refl _)).wide (Nat.zero_le _) b_w1.size)
    have HB_w1 := Lib.hid b_w1
    have S_w1 := HB_w1.out.size
    clear b_w1 Hl_w HS_w 
    go_wp2_with fail
    refine (few_is l false Hl_w1.out HNF.out).mono ?_
    rintro r wq ⟨rfl, rfl⟩
    go_wp2_with fail
    refine (awake12_any (w := _)).mono ?_
    rintro r w2 ⟨rfl, b_w2⟩
    have Hl_w2 := Lib.hid ((Hl_w1.out.below b_w2 (Nat.le_refl _)).wide (Nat.zero_le _) b_w2.size)
    have HS_w2 := Lib.hid ((HS_w1.out.below b_w2 (Nat.le_refl _)).wide (Nat.zero_le _) b_w2.size)
    have HB_w2 := Lib.hid (below_below HB_w1.out b_w2 S_w1)
    have S_w2 := HB_w2.out.size
    clear b_w2 Hl_w1 HS_w1 HB_w1 
    go_wp2_with fail
    go_ret
    exact ⟨rfl, HB_w2.out⟩

set_option maxRecDepth 100000 in
theorem trainRounds_lifted (os : Os) (started : os.Started) (H : Type) (enc : TypeId × Value → H) :
    ReturnsInHanded {} Try.checked os 4 .any (Rows.trainRoundsSpec.pre6 enc Try.prog Try.f4 Rows.trainRoundsRow.domain false) (Rows.trainRoundsSpec.post enc Try.prog Try.f4 false true false false) := by
  refine returnsInHanded_of_change_sized (C := Try.checked) own started (by kernel_rfl) Try.func4
    (ChangeSpec.witness6 (enc := enc) (C := Try.checked) false ⟨#[], #[.slice none 0 0, .slice none 0 0], []⟩ 8 (by kernel_rfl) (by kernel_rfl) (by kernel_rfl) (by kernel_rfl)) ?_
  intro W base args ds gs before hval0 hW hcnd hsz0 _
  have hsz : (DataW.weightsEach Try.prog (Try.f4.params.toList ++ Rows.trainRoundsSpec.plain.varTypes Try.prog) (ds ++ gs)).all (· ≤ reachBytes) = true := hsz0
  have hval : ∀ (j : Nat) t v, Try.f4.params[j]? = some t → args[j]? = some v → Value.okWide Try.prog W .any base t v := hval0
  have hW' := hW
  obtain ⟨p, q, hA0, hV, rfl, hfz, hnd⟩ := hW
  have hA : DataW.TrodAll enc Try.prog W 0 (fun _ => true) true Try.f4.params.toList args.toList ds p := hA0
  have hA1 : DataW.TrodAll enc Try.prog W 0 (fun _ => true) true Try.f4.params.toList args.toList ds p := hA0
  rw [Try.params4] at hA hval hsz
  obtain ⟨v0, vs0, d0, ds0, p0, q0, hargs, rfl, rfl, h0, r0⟩ := trodAll_cons hA
  obtain ⟨v1, vs1, d1, ds1, p1, q1, rfl, rfl, rfl, h1, r1⟩ := trodAll_cons r0
  obtain ⟨rfl, rfl, rfl⟩ := trodAll_nil r1
  obtain rfl : args = #[v0, v1] := by cases args; simp_all
  obtain ⟨rfl, rfl⟩ := trodVars_none hV
  obtain ⟨A0, a0, c0, rfl, w0⟩ := open_strs_sized Try.underlying22 Try.underlying9 (by kernel_rfl) (by kernel_rfl) (hval 0 22 v0 rfl rfl) h0 (fun n hn => by have := List.all_eq_true.1 hsz n (DataW.weights_mem_each (j := 0) (t := 22) rfl rfl n hn); simpa using this)
  obtain ⟨A1, a1, c1, rfl, w1⟩ := open_strs_sized Try.underlying22 Try.underlying9 (by kernel_rfl) (by kernel_rfl) (hval 1 22 v1 rfl rfl) h1 (fun n hn => by have := List.all_eq_true.1 hsz n (DataW.weights_mem_each (j := 1) (t := 22) rfl rfl n hn); simpa using this)
  clear hA0 hval0
  refine (trainRounds_walk (w := W) w0 w1).mono fun e W' ⟨he, bel⟩ => ?_
  subst he
  exact ⟨_, rfl, _, _, _, [], _, [], hW', trodAll_mk1 (shut_bool Try.underlying4 _), trodAll_below laidOut bel _ _ _ _ (by kernel_rfl) hA1, rfl, bel.frame _, fun h => by cases h⟩

theorem trainRounds_over : Rows.trainRoundsRow.holds Try.pinned (OpenSpec.ofChange Rows.trainRoundsSpec) :=
  OpenClaim.holds_of_wide 4 Try.f4 rfl rfl rfl rfl rfl rfl rfl ⟨rfl, rfl, rfl, rfl, rfl⟩ rfl rfl rfl rfl rfl (by kernel_rfl) Try.func4 (by kernel_rfl)
    (of_decide_eq_true (by kernel_rfl)) (by unfold Func.isWrapper; first | (rw [if_pos (by decide +kernel)]; kernel_rfl) | (rw [if_neg (by decide +kernel)]; exact ⟨rfl, rfl⟩))
    (fun os started H enc _ => trainRounds_lifted os started H enc)

/-- The statement. -/
theorem trainRounds_proved : Rows.TrainRoundsSaid := trainRounds_over


end Go.Proofs.Ytpollebfehdnjaa
