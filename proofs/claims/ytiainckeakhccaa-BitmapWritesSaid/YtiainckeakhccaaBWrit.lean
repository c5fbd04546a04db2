/-
  Proved: BitmapWrites returns true for every list of rows, and leaves what was there as it was. No condition.
-/
import Derived.Test.YtiainckeakhccaaLawB
import Derived.Test.YtiainckeakhccaaRefS
import Derived.Test.YtiainckeakhccaaShellB
namespace Go.Proofs.Ytiainckeakhccaa
set_option linter.unusedSimpArgs false
set_option linter.unusedVariables false
open Go.ChangeShapes Go.WideShapes Go.ChangeAt Go.RowKit

set_option maxRecDepth 20000 in
set_option maxHeartbeats 400000 in
theorem bitmapWrites_walk {w : World} {A : Option Addr} {l : List Bool} {c : Nat} (h : Rd w 0 w.heap.size A c (lv l)) :
    Calls Try.prog 3 #[.slice A l.length c] w fun e w' => e = .returned (.bool true) ∧ Below w.heap.size w w' := by
  have hl := h.len
  have hc := h.cap
  rw [lv_length] at hl
  unfold maxLen at hc
  have H := Lib.hid h
  clear h
  by_cases h1000 : l.length ≤ 1000
  · have HP := fun (w1 : World) (h : Rd w1 0 w.heap.size A c (lv l)) (hh : w.heap.size ≤ w1.heap.size) => Lib.hid (bput_any (w := w1) l h hh (by omega))
    have HRP := fun (w1 : World) (h : Rd w1 0 w.heap.size A c (lv l)) (hh : w.heap.size ≤ w1.heap.size) => Lib.hid (rbput_any (w := w1) l h hh (by omega))
    have HW := fun (w1 : World) (h : Rd w1 0 w.heap.size A c (lv l)) (hh : w.heap.size ≤ w1.heap.size) => Lib.hid (bwrite_any (w := w1) l h hh (by omega))
    have HRW := fun (w1 : World) (h : Rd w1 0 w.heap.size A c (lv l)) (hh : w.heap.size ≤ w1.heap.size) => Lib.hid (rbwrite_any (w := w1) l h hh (by omega))
    generalize packB l = pk at *
    generalize writeB l = wk at *
    go_enter Try.func3, Try.ntmps3
    go_wp2_with fail
    refine (awake4_any _).mono ?_
    rintro r w1 ⟨rfl, hb1⟩
    have K1 := Lib.hid hb1
    have s1 := hb1.size
    clear hb1
    go_wp2_with fail
    refine (HP w1 (H.out.below K1.out (Nat.le_refl _)) s1).out.mono ?_
    rintro r w2 ⟨A2, c2, rfl, ho2, hb2⟩
    have HO2 := Lib.hid ho2
    have K2 := Lib.hid (below_below K1.out hb2 s1)
    have s2 := hb2.size
    clear ho2 hb2
    go_wp2_with fail
    refine (HRP w2 (H.out.below K2.out (Nat.le_refl _)) (by omega)).out.mono ?_
    rintro r w3 ⟨A3, c3, rfl, ho3, hb3⟩
    have HO3 := Lib.hid ho3
    have HO23 := Lib.hid (own_below HO2.out hb3 (Nat.le_refl _))
    have K3 := Lib.hid (below_below K2.out hb3 (by omega))
    have s3 := hb3.size
    clear ho3 hb3
    go_wp2_with fail
    refine (same_len pk pk true (Rd.own HO23.out) (Rd.own HO3.out) rfl rfl (decide_eq_true rfl)).mono ?_
    rintro r w' ⟨rfl, rfl⟩
    go_wp2_with fail
    refine (HW w3 (H.out.below K3.out (Nat.le_refl _)) (by omega)).out.mono ?_
    rintro r w4 ⟨A4, c4, rfl, ho4, hb4⟩
    have HO4 := Lib.hid ho4
    have K4 := Lib.hid (below_below K3.out hb4 (by omega))
    have s4 := hb4.size
    clear ho4 hb4
    go_wp2_with fail
    refine (HRW w4 (H.out.below K4.out (Nat.le_refl _)) (by omega)).out.mono ?_
    rintro r w5 ⟨A5, c5, rfl, ho5, hb5⟩
    have HO5 := Lib.hid ho5
    have HO45 := Lib.hid (own_below HO4.out hb5 (Nat.le_refl _))
    have K5 := Lib.hid (below_below K4.out hb5 (by omega))
    clear ho5 hb5
    go_wp2_with fail
    refine (same_len wk wk true (Rd.own HO45.out) (Rd.own HO5.out) rfl rfl (decide_eq_true rfl)).mono ?_
    rintro r w' ⟨rfl, rfl⟩
    go_wp2
    go_ret
    exact ⟨rfl, K5.out⟩
  · go_enter Try.func3, Try.ntmps3
    go_wp2_with fail
    refine (awake4_any _).mono ?_
    rintro r w1 ⟨rfl, hb1⟩
    have HB1 := Lib.hid hb1
    clear hb1
    go_wp2_with fail
    refine (awake4_any _).mono ?_
    rintro r w2 ⟨rfl, hb2⟩
    have HB2 := Lib.hid hb2
    clear hb2
    go_wp2
    go_ret
    exact ⟨rfl, below_below HB1.out HB2.out HB1.out.size⟩

set_option maxRecDepth 100000 in
theorem bitmapWrites_lifted (os : Os) (started : os.Started) (H : Type) (enc : TypeId × Value → H) :
    ReturnsInHanded {} Try.checked os 3 .any (Rows.bitmapWritesSpec.pre6 enc Try.prog Try.f3 Rows.bitmapWritesRow.domain false) (Rows.bitmapWritesSpec.post enc Try.prog Try.f3 false true false false) := by
  refine returnsInHanded_of_change (C := Try.checked) own started (by kernel_rfl) Try.func3
    (ChangeSpec.witness6 (enc := enc) (C := Try.checked) false ⟨#[], #[.slice none 0 0], []⟩ 8 (by kernel_rfl) (by kernel_rfl) (by kernel_rfl) (by kernel_rfl)) ?_
  intro W base args ds gs before hval0 hW hcnd _
  have hval : ∀ (j : Nat) t v, Try.f3.params[j]? = some t → args[j]? = some v → Value.okWide Try.prog W .any base t v := hval0
  have hW' := hW
  obtain ⟨p, q, hA0, hV, rfl, hfz, hnd⟩ := hW
  have hA : DataW.TrodAll enc Try.prog W 0 (fun _ => true) true Try.f3.params.toList args.toList ds p := hA0
  have hA1 : DataW.TrodAll enc Try.prog W 0 (fun _ => true) true Try.f3.params.toList args.toList ds p := hA0
  rw [Try.params3] at hA hval
  obtain ⟨v0, vs0, d0, ds0, p0, q0, hargs, rfl, rfl, h0, r0⟩ := trodAll_cons hA
  obtain ⟨rfl, rfl, rfl⟩ := trodAll_nil r0
  obtain rfl : args = #[v0] := by cases args; simp_all
  obtain ⟨rfl, rfl⟩ := trodVars_none hV
  obtain ⟨A0, a0, c0, rfl, w0⟩ := open_bools' Try.underlying22 Try.underlying4 (by kernel_rfl) (hval 0 22 v0 rfl rfl) h0
  clear hA0 hval0
  refine (bitmapWrites_walk (w := W) w0).mono fun e W' ⟨he, bel⟩ => ?_
  subst he
  exact ⟨_, rfl, _, _, _, [], _, [], hW', trodAll_mk1 (shut_bool Try.underlying4 _), trodAll_below laidOut bel _ _ _ _ (by kernel_rfl) hA1, rfl, bel.frame _, fun h => by cases h⟩

theorem bitmapWrites_over : Rows.bitmapWritesRow.holds Try.pinned (OpenSpec.ofChange Rows.bitmapWritesSpec) :=
  OpenClaim.holds_of_wide 3 Try.f3 rfl rfl rfl rfl rfl rfl rfl ⟨rfl, rfl, rfl, rfl, rfl⟩ rfl rfl rfl rfl rfl (by kernel_rfl) Try.func3 (by kernel_rfl)
    (of_decide_eq_true (by kernel_rfl)) (by unfold Func.isWrapper; first | (rw [if_pos (by decide +kernel)]; kernel_rfl) | (rw [if_neg (by decide +kernel)]; exact ⟨rfl, rfl⟩))
    (fun os started H enc _ => bitmapWrites_lifted os started H enc)

/-- The statement. -/
theorem bitmapWrites_proved : Rows.BitmapWritesSaid := bitmapWrites_over


end Go.Proofs.Ytiainckeakhccaa
