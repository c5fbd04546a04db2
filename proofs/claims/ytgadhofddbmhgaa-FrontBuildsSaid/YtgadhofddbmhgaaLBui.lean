/-
  Proved: FrontBuilds of layer 13: of whatever few strings and block, Build answers the document's bytes, or ErrArg and nothing; what came in reads as it did. Conditions: none of our own.
-/
import Derived.Test.YtgadhofddbmhgaaFtW
import Derived.Test.YtgadhofddbmhgaaShellT
import Derived.Test.YtgadhofddbmhgaaShell
namespace Go.Proofs.Ytgadhofddbmhgaa
set_option linter.unusedSimpArgs false
set_option linter.unusedVariables false
open Go.ChangeShapes Go.WideShapes Go.ChangeAt Go.RowKit
open Go.ChangeMaps (open_string shut_string)

set_option maxRecDepth 20000 in
set_option maxHeartbeats 4000000 in
theorem frontBuilds_walk {w : World} {A : Option Addr} {l : List ByteArray} {c : Nat} (h : Rd w 0 w.heap.size A c (sv l) ∧ ∀ s ∈ l, s.size ≤ maxLen) (z : Int) (hzz : (Lit.int .i64 z).wf) :
    Calls Try.prog 3 #[.slice A l.length c, .int .i64 z] w fun e w' => e = .returned (.bool true) ∧ Below w.heap.size w w' := by
  obtain ⟨h, hz⟩ := h
  have Hl_w := Lib.hid h
  have HZ := Lib.hid hz
  have hl := h.len
  have hm := h.cap
  rw [sv_length] at hl
  unfold maxLen at hm
  clear h hz
  have hz1 : -9223372036854775808 ≤ z ∧ z ≤ 9223372036854775807 := by simpa [Lit.wf, IntKind.min, IntKind.max, IntKind.signed, IntKind.bits] using hzz
  clear hzz
  by_cases hf : FewD l
  · obtain ⟨hl150, hs5⟩ := few_facts hf
    have HFW : Hid (decide (FewD l) = true) := decide_eq_true hf
    have HS5 := Lib.hid hs5
    clear hf hs5
    cases hr : rightD (bytL2 l) z with
    | true =>
      obtain ⟨K, hK⟩ : ∃ K : Nat, z = (K : Int) := ⟨z.toNat, by have := (rightD_iff.1 hr).1; omega⟩
      obtain ⟨F, hF⟩ : ∃ F, frontL K (bytL2 l) = F := ⟨_, rfl⟩
      have HR := Lib.hid hr
      have HK := Lib.hid hK
      have HF := Lib.hid hF
      clear hr hK hF
      go_enter Try.func3, Try.ntmps3
      go_wp2_with fail
      refine (awake13_any (w := _)).mono ?_
      rintro r w1 ⟨rfl, b_w1⟩
      have Hl_w1 := Lib.hid ((Hl_w.out.below b_w1 (Nat.le_refl _)).wide (Nat.zero_le _) b_w1.size)
      have HB_w1 := Lib.hid b_w1
      have S_w1 := HB_w1.out.size
      clear b_w1 Hl_w  
      go_wp2_with fail
      refine (fewd_is l true Hl_w1.out HFW.out).mono ?_
      rintro r wq ⟨rfl, rfl⟩
      go_wp2_with fail
      refine (fbuild_is l z K F Hl_w1.out HR.out HK.out HF.out rfl).mono ?_
      rintro r w2 ⟨A_w2, c_w2, rfl, ho_w2, b_w2⟩
      have Hl_w2 := Lib.hid ((Hl_w1.out.below b_w2 (Nat.le_refl _)).wide (Nat.zero_le _) b_w2.size)
      have HB_w2 := Lib.hid (below_below HB_w1.out b_w2 S_w1)
      have S_w2 := HB_w2.out.size
      have Hb_w2 := Lib.hid ((Rd.of_own ho_w2).wide (Nat.zero_le _) (Nat.le_refl _))
      clear b_w2 Hl_w1 HB_w1 ho_w2  
      go_wp2_with fail
      refine (rightd_is l z true Hl_w2.out (fun s hs => by have := HS5.out s hs; omega) HR.out rfl).mono ?_
      rintro r w3 ⟨rfl, m_w3, rfl⟩
      obtain ⟨w3, hw_w3⟩ : ∃ q, w2.drewN m_w3 = q := ⟨_, rfl⟩
      have Hl_w3 : Hid (Rd w3 0 w3.heap.size A c (sv l)) := by unfold Hid; rw [← hw_w3]; exact Hl_w2.out.drewN m_w3
      have Hb_w3 : Hid (Rd w3 0 w3.heap.size A_w2 c_w2 (bv F)) := by unfold Hid; rw [← hw_w3]; exact Hb_w2.out.drewN m_w3
      have HB_w3 : Hid (Below w.heap.size w w3) := by unfold Hid; rw [← hw_w3]; exact below_drewN' HB_w2.out m_w3
      have S_w3 := HB_w3.out.size
      rw [hw_w3]
      clear hw_w3 Hl_w2 Hb_w2 HB_w2
      go_wp2_with fail
      refine (refbuild_is l z K F Hl_w3.out HR.out HK.out HF.out rfl).mono ?_
      rintro r w4 ⟨A_w4, c_w4, rfl, ho_w4, b_w4⟩
      have Hl_w4 := Lib.hid ((Hl_w3.out.below b_w4 (Nat.le_refl _)).wide (Nat.zero_le _) b_w4.size)
      have Hb_w4 := Lib.hid ((Hb_w3.out.below b_w4 (Nat.le_refl _)).wide (Nat.zero_le _) b_w4.size)
      have HB_w4 := Lib.hid (below_below HB_w3.out b_w4 S_w3)
      have S_w4 := HB_w4.out.size
      have Hy_w4 := Lib.hid ((Rd.of_own ho_w4).wide (Nat.zero_le _) (Nat.le_refl _))
      clear b_w4 Hl_w3 Hb_w3 HB_w3 ho_w4  
      go_wp2_with fail
      refine (same_len F F true Hb_w4.out Hy_w4.out rfl rfl (decide_eq_true rfl)).mono ?_
      rintro r wq ⟨rfl, rfl⟩
      go_wp2_with fail
      go_ret
      exact ⟨rfl, HB_w4.out⟩
    | false =>
      have HR := Lib.hid hr
      clear hr
      go_enter Try.func3, Try.ntmps3
      go_wp2_with fail
      refine (awake13_any (w := _)).mono ?_
      rintro r w1 ⟨rfl, b_w1⟩
      have Hl_w1 := Lib.hid ((Hl_w.out.below b_w1 (Nat.le_refl _)).wide (Nat.zero_le _) b_w1.size)
      have HB_w1 := Lib.hid b_w1
      have S_w1 := HB_w1.out.size
      clear b_w1 Hl_w  
      go_wp2_with fail
      refine (fewd_is l true Hl_w1.out HFW.out).mono ?_
      rintro r wq ⟨rfl, rfl⟩
      go_wp2_with fail
      refine (fbuild_not l z Hl_w1.out (fun s hs => by have := HS5.out s hs; omega) HR.out rfl).mono ?_
      rintro r wq ⟨rfl, rfl⟩
      go_wp2_with fail
      refine (rightd_is l z false Hl_w1.out (fun s hs => by have := HS5.out s hs; omega) HR.out rfl).mono ?_
      rintro r w3 ⟨rfl, m_w3, rfl⟩
      obtain ⟨w3, hw_w3⟩ : ∃ q, w1.drewN m_w3 = q := ⟨_, rfl⟩
      have Hl_w3 : Hid (Rd w3 0 w3.heap.size A c (sv l)) := by unfold Hid; rw [← hw_w3]; exact Hl_w1.out.drewN m_w3
      have HB_w3 : Hid (Below w.heap.size w w3) := by unfold Hid; rw [← hw_w3]; exact below_drewN' HB_w1.out m_w3
      have S_w3 := HB_w3.out.size
      rw [hw_w3]
      clear hw_w3 Hl_w1 HB_w1
      go_wp2_with fail
      go_ret
      exact ⟨rfl, HB_w3.out⟩
  · have HNF : Hid (decide (FewD l) = false) := decide_eq_false hf
    clear hf
    go_enter Try.func3, Try.ntmps3
    go_wp2_with fail
    refine (awake13_any (w := _)).mono ?_
    rintro r w1 ⟨rfl, b_w1⟩
    have Hl_w1 := Lib.hid ((Hl_w.out.below b_w1 (Nat.le_refl _)).wide (Nat.zero_le _) b_w1.size)
    have HB_w1 := Lib.hid b_w1
    have S_w1 := HB_w1.out.size
    clear b_w1 Hl_w  
    go_wp2_with fail
    refine (fewd_is l false Hl_w1.out HNF.out).mono ?_
    rintro r wq ⟨rfl, rfl⟩
    go_wp2_with fail
    refine (awake13_any (w := _)).mono ?_
    rintro r w2 ⟨rfl, b_w2⟩
    have Hl_w2 := Lib.hid ((Hl_w1.out.below b_w2 (Nat.le_refl _)).wide (Nat.zero_le _) b_w2.size)
    have HB_w2 := Lib.hid (below_below HB_w1.out b_w2 S_w1)
    have S_w2 := HB_w2.out.size
    clear b_w2 Hl_w1 HB_w1  
    go_wp2_with fail
    go_ret
    exact ⟨rfl, HB_w2.out⟩

set_option maxRecDepth 100000 in
theorem frontBuilds_lifted (os : Os) (started : os.Started) (H : Type) (enc : TypeId × Value → H) :
    ReturnsInHanded {} Try.checked os 3 .any (Rows.frontBuildsSpec.pre6 enc Try.prog Try.f3 Rows.frontBuildsRow.domain false) (Rows.frontBuildsSpec.post enc Try.prog Try.f3 false true false false) := by
  refine returnsInHanded_of_change (C := Try.checked) own started (by kernel_rfl) Try.func3
    (ChangeSpec.witness6 (enc := enc) (C := Try.checked) false ⟨#[], #[.slice none 0 0, .int .i64 0], []⟩ 8 (by kernel_rfl) (by kernel_rfl) (by kernel_rfl) (by kernel_rfl)) ?_
  intro W base args ds gs before hval0 hW hcnd _
  have hval : ∀ (j : Nat) t v, Try.f3.params[j]? = some t → args[j]? = some v → Value.okWide Try.prog W .any base t v := hval0
  have hW' := hW
  obtain ⟨p, q, hA0, hV, rfl, hfz, hnd⟩ := hW
  have hA : DataW.TrodAll enc Try.prog W 0 (fun _ => true) true Try.f3.params.toList args.toList ds p := hA0
  have hA1 : DataW.TrodAll enc Try.prog W 0 (fun _ => true) true Try.f3.params.toList args.toList ds p := hA0
  rw [Try.params3] at hA hval
  obtain ⟨v0, vs0, d0, ds0, p0, q0, hargs, rfl, rfl, h0, r0⟩ := trodAll_cons hA
  obtain ⟨v1, vs1, d1, ds1, p1, q1, rfl, rfl, rfl, h1, r1⟩ := trodAll_cons r0
  obtain ⟨rfl, rfl, rfl⟩ := trodAll_nil r1
  obtain rfl : args = #[v0, v1] := by cases args; simp_all
  obtain ⟨rfl, rfl⟩ := trodVars_none hV
  obtain ⟨A0, a0, c0, rfl, w0⟩ := open_strs Try.underlying22 Try.underlying9 (by kernel_rfl) (hval 0 22 v0 rfl rfl) h0
  obtain ⟨a1, rfl, rfl, rfl, w1⟩ := open_int Try.underlying3 (hval 1 3 v1 rfl rfl) h1
  clear hA0 hval0
  refine (frontBuilds_walk (w := W) w0 a1 w1).mono fun e W' ⟨he, bel⟩ => ?_
  subst he
  exact ⟨_, rfl, _, _, _, [], _, [], hW', trodAll_mk1 (shut_bool Try.underlying4 _), trodAll_below laidOut bel _ _ _ _ (by kernel_rfl) hA1, rfl, bel.frame _, fun h => by cases h⟩

theorem frontBuilds_over : Rows.frontBuildsRow.holds Try.pinned (OpenSpec.ofChange Rows.frontBuildsSpec) :=
  OpenClaim.holds_of_wide 3 Try.f3 rfl rfl rfl rfl rfl rfl rfl ⟨rfl, rfl, rfl, rfl, rfl⟩ rfl rfl rfl rfl rfl (by kernel_rfl) Try.func3 (by kernel_rfl)
    (of_decide_eq_true (by kernel_rfl)) (by unfold Func.isWrapper; first | (rw [if_pos (by decide +kernel)]; kernel_rfl) | (rw [if_neg (by decide +kernel)]; exact ⟨rfl, rfl⟩))
    (fun os started H enc _ => frontBuilds_lifted os started H enc)

/-- The statement. -/
theorem frontBuilds_proved : Rows.FrontBuildsSaid := frontBuilds_over


end Go.Proofs.Ytgadhofddbmhgaa
