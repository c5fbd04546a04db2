/-
  Proved: TrainSamples of layer 12: of whatever few strings and draws, Sample answers the document's sample; what came in reads as it did. Conditions: none of our own.
-/
import Derived.Test.YtpollebfehdnjaaTnL
import Derived.Test.YtpollebfehdnjaaMgH
namespace Go.Proofs.Ytpollebfehdnjaa
set_option linter.unusedSimpArgs false
set_option linter.unusedVariables false
open Go.ChangeShapes Go.WideShapes Go.ChangeAt Go.RowKit
open Go.ChangeMaps (open_string shut_string)

set_option maxRecDepth 20000 in
set_option maxHeartbeats 4000000 in
theorem trainSamples_walk {w : World} {A : Option Addr} {l : List ByteArray} {c : Nat} (h : Rd w 0 w.heap.size A c (sv l) ∧ ∀ s ∈ l, s.size ≤ maxLen) {B : Option Addr} {ds : List Int} {d : Nat} (hd : Rd w 0 w.heap.size B d (iv ds) ∧ Word ds) :
    Calls Try.prog 3 #[.slice A l.length c, .slice B ds.length d] w fun e w' => e = .returned (.bool true) ∧ Below w.heap.size w w' := by
  obtain ⟨h, -⟩ := h
  obtain ⟨hd, hW⟩ := hd
  have Hl_w := Lib.hid h
  have Hd_w := Lib.hid hd
  have HW := Lib.hid hW
  have hl := h.len
  have hm := h.cap
  rw [sv_length] at hl
  unfold maxLen at hm
  have hl2 := hd.len
  have hm2 := hd.cap
  rw [iv_length] at hl2
  unfold maxLen at hm2
  clear h hd hW
  by_cases hf : FewS l
  · obtain ⟨hl3, hl1, hl4, hz1, hz2⟩ := few_sizes hf
    have HFW : Hid (decide (FewS l) = true) := decide_eq_true hf
    have HZ1 := Lib.hid hz1
    clear hz1 hz2 hf
    by_cases hs1 : ds.length ≤ 300
    · have i10 : ¬ (300 : Int) < (ds.length : Int) := by omega
      obtain ⟨X, hX⟩ : ∃ X, sampleL l ds = X := ⟨_, rfl⟩
      have HX := Lib.hid hX
      clear hX
      go_enter Try.func3, Try.ntmps3
      go_wp2_with fail
      refine (awake12_any (w := _)).mono ?_
      rintro r w1 ⟨rfl, b_w1⟩
      have Hl_w1 := Lib.hid ((Hl_w.out.below b_w1 (Nat.le_refl _)).wide (Nat.zero_le _) b_w1.size)
      have Hd_w1 := Lib.hid ((Hd_w.out.below b_w1 (Nat.le_refl _)).wide (Nat.zero_le _) b_w1.size)
      have HB_w1 := Lib.hid b_w1
      have S_w1 := HB_w1.out.size
      clear b_w1 Hl_w Hd_w 
      go_wp2_with fail
      refine (few_is l true Hl_w1.out HFW.out).mono ?_
      rintro r wq ⟨rfl, rfl⟩
      go_wp2_with fail
      refine (tsample_is l ds X Hl_w1.out Hd_w1.out hl4 (by omega) HZ1.out HW.out HX.out rfl rfl).mono ?_
      rintro r w2 ⟨A2, c2, rfl, ho_w2, b_w2⟩
      have Hl_w2 := Lib.hid ((Hl_w1.out.below b_w2 (Nat.le_refl _)).wide (Nat.zero_le _) b_w2.size)
      have Hd_w2 := Lib.hid ((Hd_w1.out.below b_w2 (Nat.le_refl _)).wide (Nat.zero_le _) b_w2.size)
      have HB_w2 := Lib.hid (below_below HB_w1.out b_w2 S_w1)
      have S_w2 := HB_w2.out.size
      have Hx_w2 := Lib.hid ((Rd.of_own ho_w2).wide (Nat.zero_le _) (Nat.le_refl _))
      clear b_w2 Hl_w1 Hd_w1 HB_w1 ho_w2 
      go_wp2_with fail
      refine (refsample_is l ds X Hl_w2.out Hd_w2.out hl4 (by omega) HX.out rfl rfl).mono ?_
      rintro r w3 ⟨A3, c3, rfl, ho_w3, b_w3⟩
      have Hl_w3 := Lib.hid ((Hl_w2.out.below b_w3 (Nat.le_refl _)).wide (Nat.zero_le _) b_w3.size)
      have Hd_w3 := Lib.hid ((Hd_w2.out.below b_w3 (Nat.le_refl _)).wide (Nat.zero_le _) b_w3.size)
      have Hx_w3 := Lib.hid ((Hx_w2.out.below b_w3 (Nat.le_refl _)).wide (Nat.zero_le _) b_w3.size)
      have HB_w3 := Lib.hid (below_below HB_w2.out b_w3 S_w2)
      have S_w3 := HB_w3.out.size
      have Hy_w3 := Lib.hid ((Rd.of_own ho_w3).wide (Nat.zero_le _) (Nat.le_refl _))
      clear b_w3 Hl_w2 Hd_w2 Hx_w2 HB_w2 ho_w3 
      go_wp2_with fail
      refine (nsame_is X X true Hx_w3.out Hy_w3.out rfl rfl (decide_eq_true rfl)).mono ?_
      rintro r w4 ⟨rfl, m_w4, rfl⟩
      obtain ⟨w4, hw_w4⟩ : ∃ q, w3.drewN m_w4 = q := ⟨_, rfl⟩
      have Hl_w4 : Hid (Rd w4 0 w4.heap.size A c (sv l)) := by unfold Hid; rw [← hw_w4]; exact Hl_w3.out.drewN m_w4
      have Hd_w4 : Hid (Rd w4 0 w4.heap.size B d (iv ds)) := by unfold Hid; rw [← hw_w4]; exact Hd_w3.out.drewN m_w4
      have Hx_w4 : Hid (Rd w4 0 w4.heap.size A2 c2 (sv X)) := by unfold Hid; rw [← hw_w4]; exact Hx_w3.out.drewN m_w4
      have Hy_w4 : Hid (Rd w4 0 w4.heap.size A3 c3 (sv X)) := by unfold Hid; rw [← hw_w4]; exact Hy_w3.out.drewN m_w4
      have HB_w4 : Hid (Below w.heap.size w w4) := by unfold Hid; rw [← hw_w4]; exact below_drewN' HB_w3.out m_w4
      have S_w4 := HB_w4.out.size
      rw [hw_w4]
      clear hw_w4 Hl_w3 Hd_w3 Hx_w3 Hy_w3 HB_w3
      go_wp2_with fail
      go_ret
      exact ⟨rfl, HB_w4.out⟩
    · have i10 : (300 : Int) < (ds.length : Int) := by omega
      go_enter Try.func3, Try.ntmps3
      go_wp2_with fail
      refine (awake12_any (w := _)).mono ?_
      rintro r w1 ⟨rfl, b_w1⟩
      have Hl_w1 := Lib.hid ((Hl_w.out.below b_w1 (Nat.le_refl _)).wide (Nat.zero_le _) b_w1.size)
      have Hd_w1 := Lib.hid ((Hd_w.out.below b_w1 (Nat.le_refl _)).wide (Nat.zero_le _) b_w1.size)
      have HB_w1 := Lib.hid b_w1
      have S_w1 := HB_w1.out.size
      clear b_w1 Hl_w Hd_w 
      go_wp2_with fail
      refine (few_is l true Hl_w1.out HFW.out).mono ?_
      rintro r wq ⟨rfl, rfl⟩
      go_wp2_with fail
      refine (awake12_any (w := _)).mono ?_
      rintro r w2 ⟨rfl, b_w2⟩
      have Hl_w2 := Lib.hid ((Hl_w1.out.below b_w2 (Nat.le_refl _)).wide (Nat.zero_le _) b_w2.size)
      have Hd_w2 := Lib.hid ((Hd_w1.out.below b_w2 (Nat.le_refl _)).wide (Nat.zero_le _) b_w2.size)
      have HB_w2 := Lib.hid (below_below HB_w1.out b_w2 S_w1)
      have S_w2 := HB_w2.out.size
      clear b_w2 Hl_w1 Hd_w1 HB_w1 
      go_wp2_with fail
      go_ret
      exact ⟨rfl, HB_w2.out⟩
  · have HNF : Hid (decide (FewS l) = false) := decide_eq_false hf
    clear hf
    go_enter Try.func3, Try.ntmps3
    go_wp2_with fail
    refine (awake12_any (w := _)).mono ?_
    rintro r w1 ⟨rfl, b_w1⟩
    have Hl_w1 := Lib.hid ((Hl_w.out.below b_w1 (Nat.le_refl _)).wide (Nat.zero_le _) b_w1.size)
    have Hd_w1 := Lib.hid ((Hd_w.out.below b_w1 (Nat.le_refl _)).wide (Nat.zero_le _) b_w1.size)
    have HB_w1 := Lib.hid b_w1
    have S_w1 := HB_w1.out.size
    clear b_w1 Hl_w Hd_w 
    go_wp2_with fail
    refine (few_is l false Hl_w1.out HNF.out).mono ?_
    rintro r wq ⟨rfl, rfl⟩
    go_wp2_with fail
    refine (awake12_any (w := _)).mono ?_
    rintro r w2 ⟨rfl, b_w2⟩
    have Hl_w2 := Lib.hid ((Hl_w1.out.below b_w2 (Nat.le_refl _)).wide (Nat.zero_le _) b_w2.size)
    have Hd_w2 := Lib.hid ((Hd_w1.out.below b_w2 (Nat.le_refl _)).wide (Nat.zero_le _) b_w2.size)
    have HB_w2 := Lib.hid (below_below HB_w1.out b_w2 S_w1)
    have S_w2 := HB_w2.out.size
    clear b_w2 Hl_w1 Hd_w1 HB_w1 
    go_wp2_with fail
    go_ret
    exact ⟨rfl, HB_w2.out⟩

set_option maxRecDepth 100000 in
theorem trainSamples_lifted (os : Os) (started : os.Started) (H : Type) (enc : TypeId × Value → H) :
    ReturnsInHanded {} Try.checked os 3 .any (Rows.trainSamplesSpec.pre6 enc Try.prog Try.f3 Rows.trainSamplesRow.domain false) (Rows.trainSamplesSpec.post enc Try.prog Try.f3 false true false false) := by
  refine returnsInHanded_of_change (C := Try.checked) own started (by kernel_rfl) Try.func3
    (ChangeSpec.witness6 (enc := enc) (C := Try.checked) false ⟨#[], #[.slice none 0 0, .slice none 0 0], []⟩ 8 (by kernel_rfl) (by kernel_rfl) (by kernel_rfl) (by kernel_rfl)) ?_
  intro W base args ds gs before hval0 hW hcnd _
  have hval : ∀ (j : Nat) t v, Try.f3.params[j]? = some t → args[j]? = some v → Value.okWide Try.prog W .any base t v := hval0
  have hW' := hW
  obtain ⟨p, q, hA0, hV, rfl, hfz, hnd⟩ := hW
  have hA : DataW.TrodAll enc Try.prog W 0 (fun _ => true) true Try.f3.params.toList args.toList ds p := hA0
  have hA1 : DataW.TrodAll enc Try.prog W 0 (fun _ => true) true Try.f3.params.toList args.toList ds p := hA0
  rw [Try.params3] at hA hval
  obtain ⟨v0, vs0, d0, ds0, p0, q0, hargs, rfl, rfl, h0, r0⟩ := trodAll_cons hA
  obtain ⟨v1, vs1, d1, ds1, p1, q1, rfl, rfl, rfl, h1, r1⟩ := trodAll_cons r0
  obtain ⟨rfl, rfl, rfl⟩ := trodAll_nil r1
  obtain rfl : args = #[v0, v1] := by cases args; simp_all
  obtain ⟨rfl, rfl⟩ := trodVars_none hV
  obtain ⟨A0, a0, c0, rfl, w0⟩ := open_strs Try.underlying22 Try.underlying9 (by kernel_rfl) (hval 0 22 v0 rfl rfl) h0
  obtain ⟨A1, a1, c1, rfl, w1⟩ := open_i64s Try.underlying23 Try.underlying3 (by kernel_rfl) (hval 1 23 v1 rfl rfl) h1
  clear hA0 hval0
  refine (trainSamples_walk (w := W) w0 w1).mono fun e W' ⟨he, bel⟩ => ?_
  subst he
  exact ⟨_, rfl, _, _, _, [], _, [], hW', trodAll_mk1 (shut_bool Try.underlying4 _), trodAll_below laidOut bel _ _ _ _ (by kernel_rfl) hA1, rfl, bel.frame _, fun h => by cases h⟩

theorem trainSamples_over : Rows.trainSamplesRow.holds Try.pinned (OpenSpec.ofChange Rows.trainSamplesSpec) :=
  OpenClaim.holds_of_wide 3 Try.f3 rfl rfl rfl rfl rfl rfl rfl ⟨rfl, rfl, rfl, rfl, rfl⟩ rfl rfl rfl rfl rfl (by kernel_rfl) Try.func3 (by kernel_rfl)
    (of_decide_eq_true (by kernel_rfl)) (by unfold Func.isWrapper; first | (rw [if_pos (by decide +kernel)]; kernel_rfl) | (rw [if_neg (by decide +kernel)]; exact ⟨rfl, rfl⟩))
    (fun os started H enc _ => trainSamples_lifted os started H enc)

/-- The statement. -/
theorem trainSamples_proved : Rows.TrainSamplesSaid := trainSamples_over


end Go.Proofs.Ytpollebfehdnjaa
