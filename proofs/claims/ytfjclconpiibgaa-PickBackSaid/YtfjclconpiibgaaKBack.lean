/-
  Proved: PickBack returns true for every list of rows, and leaves what was there as it was. No condition.
-/
import Derived.Test.YtfjclconpiibgaaLawK
import Derived.Test.YtfjclconpiibgaaSamB
import Derived.Test.YtfjclconpiibgaaShellB
namespace Go.Proofs.Ytfjclconpiibgaa
set_option linter.unusedSimpArgs false
set_option linter.unusedVariables false
open Go.ChangeShapes Go.WideShapes Go.ChangeAt Go.RowKit

set_option maxRecDepth 20000 in
set_option maxHeartbeats 400000 in
theorem pickBack_walk {w : World} {A : Option Addr} {l : List Bool} {c : Nat} (h : Rd w 0 w.heap.size A c (lv l)) :
    Calls Try.prog 4 #[.slice A l.length c] w fun e w' => e = .returned (.bool true) ∧ Below w.heap.size w w' := by
  have hl := h.len
  have hc := h.cap
  rw [lv_length] at hl
  unfold maxLen at hc
  have H := Lib.hid h
  clear h
  by_cases h1000 : l.length ≤ 1000
  · obtain ⟨us, hus⟩ : ∃ us, plc l = us := ⟨_, rfl⟩
    have HR : Hid (rightL (l.length : Int) (-1) us = true) := by
      unfold Hid
      rw [← hus]
      exact rightL_plcF _ 0 l (-1) (by omega) (by omega)
    have HBL : Hid (bitsL l.length us = l) := by
      unfold Hid
      rw [← hus]
      exact bits_plc l
    have HUS := Lib.hid hus
    clear hus
    go_enter Try.func4, Try.ntmps4
    go_wp2_with fail
    refine (awake5_any _).mono ?_
    rintro r w1 ⟨rfl, hb1⟩
    have H1 := Lib.hid (H.out.below hb1 (Nat.le_refl _))
    have K1 := Lib.hid hb1
    have s1 := hb1.size
    clear hb1 H
    go_wp2_with fail
    refine (of_any l us HUS.out H1.out s1 (by omega)).mono ?_
    rintro r w2 ⟨A2, c2, rfl, ho2, hb2⟩
    have H2 := Lib.hid (H1.out.below hb2 s1)
    have L2 := Lib.hid (rd_nums ho2)
    have K2 := Lib.hid (below_below K1.out hb2 s1)
    have s2 := hb2.size
    clear ho2 hb2 H1 K1
    go_wp2_with fail
    refine (places_any l us HUS.out H2.out (by omega) (by omega)).mono ?_
    rintro r w3 ⟨A3, c3, rfl, ho3, hb3⟩
    have H3 := Lib.hid (H2.out.below hb3 (by omega))
    have L3 := Lib.hid (L2.out.below hb3 (Nat.le_refl _))
    have P3 := Lib.hid (rd_nums ho3)
    have K3 := Lib.hid (below_below K2.out hb3 (by omega))
    have s3 := hb3.size
    clear ho3 hb3 H2 L2 K2
    go_wp2_with fail
    refine (ints_len us us true L3.out P3.out rfl rfl (decide_eq_true rfl)).mono ?_
    rintro r w' ⟨rfl, q, rfl⟩
    have H4 : Hid (Rd (w3.drewN q) 0 w.heap.size A c (lv l)) := H3.out.drewN q
    have L4 : Hid (Rd (w3.drewN q) 0 w2.heap.size A2 c2 (iv us)) := L3.out.drewN q
    have K4 := Lib.hid (below_drewN' K3.out q)
    have s4 : w3.heap.size ≤ (w3.drewN q).heap.size := Nat.le_refl _
    clear H3 L3 P3 K3
    generalize w3.drewN q = w4 at *
    go_wp2_with fail
    refine (right_any us (l.length : Int) true HR.out L4.out).mono ?_
    rintro r w' ⟨rfl, rfl⟩
    go_wp2_with fail
    have hB := bits_any us l.length L4.out (by omega) (by omega)
    rw [HBL.out] at hB
    refine hB.mono ?_
    rintro r w5 ⟨A5, c5, rfl, ho5, hb5⟩
    have H5 := Lib.hid (H4.out.below hb5 (by omega))
    have B5 := Lib.hid (rd_own ho5)
    have K5 := Lib.hid (below_below K4.out hb5 (by omega))
    clear ho5 hb5 H4 L4 K4 hB
    go_wp2_with fail
    refine (bsame_len l l true B5.out H5.out rfl rfl (decide_eq_true rfl)).mono ?_
    rintro r w' ⟨rfl, q2, rfl⟩
    go_wp2
    go_ret
    exact ⟨rfl, below_drewN' K5.out q2⟩
  · clear H
    go_enter Try.func4, Try.ntmps4
    go_wp2_with fail
    refine (awake5_any _).mono ?_
    rintro r w1 ⟨rfl, hb1⟩
    have HB1 := Lib.hid hb1
    clear hb1
    go_wp2_with fail
    refine (awake5_any _).mono ?_
    rintro r w2 ⟨rfl, hb2⟩
    have HB2 := Lib.hid hb2
    clear hb2
    go_wp2
    go_ret
    exact ⟨rfl, below_below HB1.out HB2.out HB1.out.size⟩

set_option maxRecDepth 100000 in
theorem pickBack_lifted (os : Os) (started : os.Started) (H : Type) (enc : TypeId × Value → H) :
    ReturnsInHanded {} Try.checked os 4 .any (Rows.pickBackSpec.pre6 enc Try.prog Try.f4 Rows.pickBackRow.domain false) (Rows.pickBackSpec.post enc Try.prog Try.f4 false true false false) := by
  refine returnsInHanded_of_change (C := Try.checked) own started (by kernel_rfl) Try.func4
    (ChangeSpec.witness6 (enc := enc) (C := Try.checked) false ⟨#[], #[.slice none 0 0], []⟩ 8 (by kernel_rfl) (by kernel_rfl) (by kernel_rfl) (by kernel_rfl)) ?_
  intro W base args ds gs before hval0 hW hcnd _
  have hval : ∀ (j : Nat) t v, Try.f4.params[j]? = some t → args[j]? = some v → Value.okWide Try.prog W .any base t v := hval0
  have hW' := hW
  obtain ⟨p, q, hA0, hV, rfl, hfz, hnd⟩ := hW
  have hA : DataW.TrodAll enc Try.prog W 0 (fun _ => true) true Try.f4.params.toList args.toList ds p := hA0
  have hA1 : DataW.TrodAll enc Try.prog W 0 (fun _ => true) true Try.f4.params.toList args.toList ds p := hA0
  rw [Try.params4] at hA hval
  obtain ⟨v0, vs0, d0, ds0, p0, q0, hargs, rfl, rfl, h0, r0⟩ := trodAll_cons hA
  obtain ⟨rfl, rfl, rfl⟩ := trodAll_nil r0
  obtain rfl : args = #[v0] := by cases args; simp_all
  obtain ⟨rfl, rfl⟩ := trodVars_none hV
  obtain ⟨A0, a0, c0, rfl, w0⟩ := open_bools' Try.underlying25 Try.underlying4 (by kernel_rfl) (hval 0 25 v0 rfl rfl) h0
  clear hA0 hval0
  refine (pickBack_walk (w := W) w0).mono fun e W' ⟨he, bel⟩ => ?_
  subst he
  exact ⟨_, rfl, _, _, _, [], _, [], hW', trodAll_mk1 (shut_bool Try.underlying4 _), trodAll_below laidOut bel _ _ _ _ (by kernel_rfl) hA1, rfl, bel.frame _, fun h => by cases h⟩

theorem pickBack_over : Rows.pickBackRow.holds Try.pinned (OpenSpec.ofChange Rows.pickBackSpec) :=
  OpenClaim.holds_of_wide 4 Try.f4 rfl rfl rfl rfl rfl rfl rfl ⟨rfl, rfl, rfl, rfl, rfl⟩ rfl rfl rfl rfl rfl (by kernel_rfl) Try.func4 (by kernel_rfl)
    (of_decide_eq_true (by kernel_rfl)) (by unfold Func.isWrapper; first | (rw [if_pos (by decide +kernel)]; kernel_rfl) | (rw [if_neg (by decide +kernel)]; exact ⟨rfl, rfl⟩))
    (fun os started H enc _ => pickBack_lifted os started H enc)

/-- The statement. -/
theorem pickBack_proved : Rows.PickBackSaid := pickBack_over


end Go.Proofs.Ytfjclconpiibgaa
