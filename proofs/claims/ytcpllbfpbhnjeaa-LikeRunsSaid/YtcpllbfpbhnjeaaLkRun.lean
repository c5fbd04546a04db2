/-
  Proved: LikeRuns of layer 9: of whatever signs, the runs of literals are the document's; what came in reads as it did. Conditions: none of our own.
-/
import Derived.Test.YtcpllbfpbhnjeaaLawL
import Derived.Test.YtcpllbfpbhnjeaaShell
import Derived.Test.YtcpllbfpbhnjeaaShellN
namespace Go.Proofs.Ytcpllbfpbhnjeaa
set_option linter.unusedSimpArgs false
set_option linter.unusedVariables false
open Go.ChangeShapes Go.WideShapes Go.ChangeAt Go.RowKit
open Go.ChangeMaps (open_string shut_string)


set_option maxRecDepth 20000 in
set_option maxHeartbeats 1000000 in
theorem likeRuns_walk {w : World} {A : Option Addr} {zs : List Int} {c : Nat} (h : Rd w 0 w.heap.size A c (iv zs) ∧ Word zs) :
    Calls Try.prog 5 #[.slice A zs.length c] w fun e w' => e = .returned (.bool true) ∧ Below w.heap.size w w' := by
  obtain ⟨h, _⟩ := h
  have hl := h.len
  have hc := h.cap
  rw [iv_length] at hl
  unfold maxLen at hc
  have H := Lib.hid h
  clear h
  by_cases h6 : (300 : Int) < (zs.length : Int)
  · go_enter Try.func5, Try.ntmps5
    go_wp2_with fail
    refine (awake9_any (w := _)).mono ?_
    rintro r w1 ⟨rfl, b1⟩
    go_wp2_with fail
    refine (awake9_any (w := _)).mono ?_
    rintro r w2 ⟨rfl, b2⟩
    go_wp2_with fail
    go_ret
    exact ⟨rfl, below_below b1 b2 b1.size⟩
  · cases hr : rightS zs
    · have HR := Lib.hid hr
      clear hr
      go_enter Try.func5, Try.ntmps5
      go_wp2_with fail
      refine (awake9_any (w := _)).mono ?_
      rintro r w1 ⟨rfl, b1⟩
      go_wp2_with fail
      refine (refRight_any zs (H.out.below b1 (Nat.le_refl _))).mono ?_
      rw [HR.out]
      rintro r w2 ⟨rfl, rfl⟩
      go_wp2_with fail
      refine (awake9_any (w := _)).mono ?_
      rintro r w2 ⟨rfl, b2⟩
      go_wp2_with fail
      go_ret
      exact ⟨rfl, below_below b1 b2 b1.size⟩
    · have HR := Lib.hid hr
      obtain ⟨ns, hns, h7⟩ := right_ints hr
      clear hr
      subst hns
      rw [ints_length] at hl h6 ⊢
      have HLM := Lib.hid (fun w (h : Rd w 0 w.heap.size A c (iv (ints ns))) => lruns_any ns h (by omega))
      have HRM := Lib.hid (fun w (h : Rd w 0 w.heap.size A c (iv (ints ns))) => refRuns_any ns h h7 (by omega))
      have HRR := Lib.hid (fun w lo hi (h : Rd w lo hi A c (iv (ints ns))) => ints_length ns ▸ refRight_any (w := w) (ints ns) h)
      have HSL := Lib.hid (strsL_length (runsL ns))
      clear h7
      generalize runsL ns = rs at *
      go_enter Try.func5, Try.ntmps5
      go_wp2_with fail
      refine (awake9_any (w := _)).mono ?_
      rintro r w1 ⟨rfl, b1⟩
      have H1 := Lib.hid ((H.out.below b1 (Nat.le_refl _)).wide (Nat.le_refl _) b1.size)
      go_wp2_with fail
      refine (HRR.out _ _ _ H1.out).mono ?_
      rw [HR.out]
      rintro r w2 ⟨rfl, rfl⟩
      go_wp2_with fail
      refine (HLM.out _ H1.out).mono ?_
      rintro r w2 ⟨A2, c2, rfl, h2, b2⟩
      have H2 := Lib.hid h2
      have B2 := Lib.hid (below_below b1 b2 b1.size)
      have HW := Lib.hid ((H1.out.below b2 (Nat.le_refl _)).wide (Nat.le_refl _) b2.size)
      clear h2 b2
      go_wp2_with fail
      refine (HRM.out _ HW.out).mono ?_
      rintro r w3 ⟨A3, c3, rfl, h3, b3⟩
      have H3 := Lib.hid h3
      have H23 := Lib.hid (H2.out.below b3 (Nat.le_refl _))
      have B3 := Lib.hid (below_below B2.out b3 B2.out.size)
      clear h3 b3
      go_wp2_with fail
      have hsm := same_strs (strsL rs) (strsL rs) H23.out H3.out
      rw [HSL.out, decide_eq_true rfl] at hsm
      refine hsm.mono ?_
      rintro r w4 ⟨rfl, n4, rfl⟩
      go_wp2_with fail
      go_ret
      exact ⟨rfl, below_drewN' B3.out n4⟩


set_option maxRecDepth 100000 in
theorem likeRuns_lifted (os : Os) (started : os.Started) (H : Type) (enc : TypeId × Value → H) :
    ReturnsInHanded {} Try.checked os 5 .any (Rows.likeRunsSpec.pre6 enc Try.prog Try.f5 Rows.likeRunsRow.domain false) (Rows.likeRunsSpec.post enc Try.prog Try.f5 false true false false) := by
  refine returnsInHanded_of_change (C := Try.checked) own started (by kernel_rfl) Try.func5
    (ChangeSpec.witness6 (enc := enc) (C := Try.checked) false ⟨#[], #[.slice none 0 0], []⟩ 8 (by kernel_rfl) (by kernel_rfl) (by kernel_rfl) (by kernel_rfl)) ?_
  intro W base args ds gs before hval0 hW hcnd _
  have hval : ∀ (j : Nat) t v, Try.f5.params[j]? = some t → args[j]? = some v → Value.okWide Try.prog W .any base t v := hval0
  have hW' := hW
  obtain ⟨p, q, hA0, hV, rfl, hfz, hnd⟩ := hW
  have hA : DataW.TrodAll enc Try.prog W 0 (fun _ => true) true Try.f5.params.toList args.toList ds p := hA0
  have hA1 : DataW.TrodAll enc Try.prog W 0 (fun _ => true) true Try.f5.params.toList args.toList ds p := hA0
  rw [Try.params5] at hA hval
  obtain ⟨v0, vs0, d0, ds0, p0, q0, hargs, rfl, rfl, h0, r0⟩ := trodAll_cons hA
  obtain ⟨rfl, rfl, rfl⟩ := trodAll_nil r0
  obtain rfl : args = #[v0] := by cases args; simp_all
  obtain ⟨rfl, rfl⟩ := trodVars_none hV
  obtain ⟨A0, a0, c0, rfl, w0⟩ := open_i64s Try.underlying23 Try.underlying3 (by kernel_rfl) (hval 0 23 v0 rfl rfl) h0
  clear hA0 hval0
  refine (likeRuns_walk (w := W) w0).mono fun e W' ⟨he, bel⟩ => ?_
  subst he
  exact ⟨_, rfl, _, _, _, [], _, [], hW', trodAll_mk1 (shut_bool Try.underlying4 _), trodAll_below laidOut bel _ _ _ _ (by kernel_rfl) hA1, rfl, bel.frame _, fun h => by cases h⟩

theorem likeRuns_over : Rows.likeRunsRow.holds Try.pinned (OpenSpec.ofChange Rows.likeRunsSpec) :=
  OpenClaim.holds_of_wide 5 Try.f5 rfl rfl rfl rfl rfl rfl rfl ⟨rfl, rfl, rfl, rfl, rfl⟩ rfl rfl rfl rfl rfl (by kernel_rfl) Try.func5 (by kernel_rfl)
    (of_decide_eq_true (by kernel_rfl)) (by unfold Func.isWrapper; first | (rw [if_pos (by decide +kernel)]; kernel_rfl) | (rw [if_neg (by decide +kernel)]; exact ⟨rfl, rfl⟩))
    (fun os started H enc _ => likeRuns_lifted os started H enc)

/-- The statement. -/
theorem likeRuns_proved : Rows.LikeRunsSaid := likeRuns_over


end Go.Proofs.Ytcpllbfpbhnjeaa
