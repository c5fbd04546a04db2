/-
  Proved: PackPuts returns true for every list of numbers and every width, and leaves what was there as it was. No condition.
-/
import Derived.Test.YtfoadchengbedaaLawP
import Derived.Test.YtfoadchengbedaaSame
import Derived.Test.YtfoadchengbedaaShellN
namespace Go.Proofs.Ytfoadchengbedaa
set_option linter.unusedSimpArgs false
set_option linter.unusedVariables false
open Go.ChangeShapes Go.WideShapes Go.ChangeAt Go.RowKit

theorem may_is {w : World} (zs : List Int) (b : Bool) (hb : mayB zs = b) {lo h' : Nat} {A : Option Addr} {c : Nat} (h : Rd w lo h' A c (iv zs)) :
    Calls Try.prog 13 #[.slice A zs.length c] w fun r w' => r = .returned (.bool b) ∧ w = w' := by
  subst hb
  exact may_any zs h

set_option maxRecDepth 20000 in
set_option maxHeartbeats 400000 in
theorem packPuts_walk {w : World} {A : Option Addr} {zs : List Int} {c : Nat} (hz : Rd w 0 w.heap.size A c (iv zs) ∧ Word zs) (wd : Int) (hwd : (Lit.int .i64 wd).wf = true) :
    Calls Try.prog 3 #[.slice A zs.length c, .int .i64 wd] w fun e w' => e = .returned (.bool true) ∧ Below w.heap.size w w' := by
  obtain ⟨h, hword⟩ := hz
  have hl := h.len
  have hc := h.cap
  rw [iv_length] at hl
  unfold maxLen at hc
  have H := Lib.hid h
  have HWO := Lib.hid hword
  clear h hword hwd
  by_cases h300 : zs.length ≤ 300
  · have HPP := fun (w1 : World) (h : Rd w1 0 w.heap.size A c (iv zs)) (hh : w.heap.size ≤ w1.heap.size) => Lib.hid (pput_any (w := w1) zs wd h hh (by omega))
    have HRP := fun (w1 : World) (h : Rd w1 0 w.heap.size A c (iv zs)) (hh : w.heap.size ≤ w1.heap.size) => Lib.hid (rput_any (w := w1) zs wd h hh (by omega))
    generalize putR zs wd = R at *
    obtain ⟨pk, er⟩ := R
    dsimp only at HPP HRP
    by_cases hmay : May zs
    · have hmb : mayB zs = true := decide_eq_true hmay
      have HMB := Lib.hid hmb
      have HMY := Lib.hid hmay
      clear hmb hmay
      go_enter Try.func3, Try.ntmps3
      go_wp2_with fail
      refine (awake3_any _).mono ?_
      rintro r w1 ⟨rfl, hb1⟩
      have K1 := Lib.hid hb1
      have s1 := hb1.size
      clear hb1
      go_wp2_with fail
      refine (HPP w1 (H.out.below K1.out (Nat.le_refl _)) s1).out.mono ?_
      rintro r w2 ⟨A2, c2, rfl, ho2, hb2⟩
      have HO2 := Lib.hid ho2
      have HB2 := Lib.hid hb2
      have K2 := Lib.hid (below_below K1.out hb2 s1)
      have s2 := hb2.size
      clear ho2 hb2
      go_wp2_with fail
      refine (HRP w2 (H.out.below K2.out (Nat.le_refl _)) (by omega)).out.mono ?_
      rintro r w3 ⟨A3, c3, rfl, ho3, hb3⟩
      have HO3 := Lib.hid ho3
      have HB3 := Lib.hid hb3
      have K3 := Lib.hid (below_below K2.out hb3 (by omega))
      have s3 := hb3.size
      clear ho3 hb3
      go_wp2_with fail
      refine (same_len pk pk true (Rd.own (own_below HO2.out HB3.out (Nat.le_refl _))) (Rd.own HO3.out) rfl rfl (decide_eq_true rfl)).mono ?_
      rintro r w' ⟨rfl, rfl⟩
      go_wp2_with fail
      refine (may_is zs true HMB.out (H.out.below K3.out (Nat.le_refl _))).mono ?_
      rintro r w' ⟨rfl, rfl⟩
      go_wp2_with fail
      refine (width_any zs HWO.out (H.out.below K3.out (Nat.le_refl _))).mono ?_
      rintro r w' ⟨rfl, rfl⟩
      go_wp2_with fail
      refine (rwidth_any zs HMY.out (H.out.below K3.out (Nat.le_refl _))).mono ?_
      rintro r w' ⟨rfl, n, rfl⟩
      go_wp2
      go_ret
      exact ⟨rfl, below_drewN' K3.out n⟩
    · have hmb : mayB zs = false := decide_eq_false hmay
      have HMB := Lib.hid hmb
      clear hmb hmay
      go_enter Try.func3, Try.ntmps3
      go_wp2_with fail
      refine (awake3_any _).mono ?_
      rintro r w1 ⟨rfl, hb1⟩
      have K1 := Lib.hid hb1
      have s1 := hb1.size
      clear hb1
      go_wp2_with fail
      refine (HPP w1 (H.out.below K1.out (Nat.le_refl _)) s1).out.mono ?_
      rintro r w2 ⟨A2, c2, rfl, ho2, hb2⟩
      have HO2 := Lib.hid ho2
      have HB2 := Lib.hid hb2
      have K2 := Lib.hid (below_below K1.out hb2 s1)
      have s2 := hb2.size
      clear ho2 hb2
      go_wp2_with fail
      refine (HRP w2 (H.out.below K2.out (Nat.le_refl _)) (by omega)).out.mono ?_
      rintro r w3 ⟨A3, c3, rfl, ho3, hb3⟩
      have HO3 := Lib.hid ho3
      have HB3 := Lib.hid hb3
      have K3 := Lib.hid (below_below K2.out hb3 (by omega))
      have s3 := hb3.size
      clear ho3 hb3
      go_wp2_with fail
      refine (same_len pk pk true (Rd.own (own_below HO2.out HB3.out (Nat.le_refl _))) (Rd.own HO3.out) rfl rfl (decide_eq_true rfl)).mono ?_
      rintro r w' ⟨rfl, rfl⟩
      go_wp2_with fail
      refine (may_is zs false HMB.out (H.out.below K3.out (Nat.le_refl _))).mono ?_
      rintro r w' ⟨rfl, rfl⟩
      go_wp2
      go_ret
      exact ⟨rfl, K3.out⟩
  · go_enter Try.func3, Try.ntmps3
    go_wp2_with fail
    refine (awake3_any _).mono ?_
    rintro r w1 ⟨rfl, hb1⟩
    have HB1 := Lib.hid hb1
    clear hb1
    go_wp2_with fail
    refine (awake3_any _).mono ?_
    rintro r w2 ⟨rfl, hb2⟩
    have HB2 := Lib.hid hb2
    clear hb2
    go_wp2
    go_ret
    exact ⟨rfl, below_below HB1.out HB2.out HB1.out.size⟩

set_option maxRecDepth 100000 in
theorem packPuts_lifted (os : Os) (started : os.Started) (H : Type) (enc : TypeId × Value → H) :
    ReturnsInHanded {} Try.checked os 3 .any (Rows.packPutsSpec.pre6 enc Try.prog Try.f3 Rows.packPutsRow.domain false) (Rows.packPutsSpec.post enc Try.prog Try.f3 false true false false) := by
  refine returnsInHanded_of_change (C := Try.checked) own started (by kernel_rfl) Try.func3
    (ChangeSpec.witness6 (enc := enc) (C := Try.checked) false ⟨#[], #[.slice none 0 0, .int .i64 0], []⟩ 8 (by kernel_rfl) (by kernel_rfl) (by kernel_rfl) (by kernel_rfl)) ?_
  intro W base args ds gs before hval0 hW hcnd _
  have hval : ∀ (j : Nat) t v, Try.f3.params[j]? = some t → args[j]? = some v → Value.okWide Try.prog W .any base t v := hval0
  have hW' := hW
  obtain ⟨p, q, hA0, hV, rfl, hfz, hnd⟩ := hW
  have hA : DataW.TrodAll enc Try.prog W 0 (fun _ => true) true Try.f3.params.toList args.toList ds p := hA0
  have hA1 : DataW.TrodAll enc Try.prog W 0 (fun _ => true) true Try.f3.params.toList args.toList ds p := hA0
  rw [Try.params3] at hA hval
  obtain ⟨v0, vs0, d0, ds0, p0, q0, hargs, rfl, rfl, h0, r0⟩ := trodAll_cons hA
  obtain ⟨v1, vs1, d1, ds1, p1, q1, rfl, rfl, rfl, h1, r1⟩ := trodAll_cons r0
  obtain ⟨rfl, rfl, rfl⟩ := trodAll_nil r1
  obtain rfl : args = #[v0, v1] := by cases args; simp_all
  obtain ⟨rfl, rfl⟩ := trodVars_none hV
  obtain ⟨A0, a0, c0, rfl, w0⟩ := open_i64s Try.underlying22 Try.underlying3 (by kernel_rfl) (hval 0 22 v0 rfl rfl) h0
  obtain ⟨a1, rfl, rfl, rfl, w1⟩ := open_int Try.underlying3 (hval 1 3 v1 rfl rfl) h1
  clear hA0 hval0
  refine (packPuts_walk (w := W) w0 a1 w1).mono fun e W' ⟨he, bel⟩ => ?_
  subst he
  exact ⟨_, rfl, _, _, _, [], _, [], hW', trodAll_mk1 (shut_bool Try.underlying4 _), trodAll_below laidOut bel _ _ _ _ (by kernel_rfl) hA1, rfl, bel.frame _, fun h => by cases h⟩

theorem packPuts_over : Rows.packPutsRow.holds Try.pinned (OpenSpec.ofChange Rows.packPutsSpec) :=
  OpenClaim.holds_of_wide 3 Try.f3 rfl rfl rfl rfl rfl rfl rfl ⟨rfl, rfl, rfl, rfl, rfl⟩ rfl rfl rfl rfl rfl (by kernel_rfl) Try.func3 (by kernel_rfl)
    (of_decide_eq_true (by kernel_rfl)) (by unfold Func.isWrapper; first | (rw [if_pos (by decide +kernel)]; kernel_rfl) | (rw [if_neg (by decide +kernel)]; exact ⟨rfl, rfl⟩))
    (fun os started H enc _ => packPuts_lifted os started H enc)

/-- The statement. -/
theorem packPuts_proved : Rows.PackPutsSaid := packPuts_over


end Go.Proofs.Ytfoadchengbedaa
