/-
  Proved: PackGets returns true for all bytes, every width and every place, and leaves what was there as it was. No condition.
-/
import Derived.Test.YtfoadchengbedaaLawP
import Derived.Test.YtfoadchengbedaaShellN
namespace Go.Proofs.Ytfoadchengbedaa
set_option linter.unusedSimpArgs false
set_option linter.unusedVariables false
open Go.ChangeShapes Go.WideShapes Go.ChangeAt Go.RowKit

set_option maxRecDepth 20000 in
set_option maxHeartbeats 400000 in
theorem packGets_walk {w : World} {A : Option Addr} {bs : List UInt8} {c : Nat} (h : Rd w 0 w.heap.size A c (bv bs)) (x : UInt8) (i : Nat) (hi : i < 65536) :
    Calls Try.prog 4 #[.slice A bs.length c, .int .u8 (x.toNat : Int), .int .u16 (i : Int)] w fun e w' => e = .returned (.bool true) ∧ Below w.heap.size w w' := by
  have hl := h.len
  have hc := h.cap
  rw [bv_length] at hl
  unfold maxLen at hc
  have H := Lib.hid h
  have hx := UInt8.toNat_lt x
  clear h
  by_cases h1000 : bs.length ≤ 1000
  · have hw : ((x.toNat : Int) % 33) = ((x.toNat % 33 : Nat) : Int) := by omega
    have hwb : x.toNat % 33 ≤ 32 := by omega
    generalize x.toNat % 33 = wd at *
    have HG := fun (w1 : World) (h : Rd w1 0 w.heap.size A c (bv bs)) => Lib.hid (pget_any (w := w1) bs wd i hwb (by omega) (by omega) h)
    have HR := fun (w1 : World) (h : Rd w1 0 w.heap.size A c (bv bs)) => Lib.hid (rget_any (w := w1) bs wd i hwb (by omega) (by omega) h)
    generalize getN bs wd i = g at *
    go_enter Try.func4, Try.ntmps4
    go_wp2_with fail
    refine (awake3_any _).mono ?_
    rintro r w1 ⟨rfl, hb1⟩
    have K1 := Lib.hid hb1
    clear hb1
    go_wp2_with fail
    refine (HG w1 (H.out.below K1.out (Nat.le_refl _))).out.mono ?_
    rintro r w2 ⟨rfl, n, rfl⟩
    go_wp2_with fail
    refine (HR (w1.drewN n) ((H.out.below K1.out (Nat.le_refl _)).drewN n)).out.mono ?_
    rintro r w2 ⟨rfl, m, rfl⟩
    go_wp2
    go_ret
    exact ⟨rfl, below_drewN' K1.out (n + m)⟩
  · go_enter Try.func4, Try.ntmps4
    go_wp2_with fail
    refine (awake3_any _).mono ?_
    rintro r w1 ⟨rfl, hb1⟩
    have HB1 := Lib.hid hb1
    clear hb1
    go_wp2_with fail
    refine (awake3_any _).mono ?_
    rintro r w2 ⟨rfl, hb2⟩
    have HB2 := Lib.hid hb2
    clear hb2
    go_wp2
    go_ret
    exact ⟨rfl, below_below HB1.out HB2.out HB1.out.size⟩

set_option maxRecDepth 100000 in
theorem packGets_lifted (os : Os) (started : os.Started) (H : Type) (enc : TypeId × Value → H) :
    ReturnsInHanded {} Try.checked os 4 .any (Rows.packGetsSpec.pre6 enc Try.prog Try.f4 Rows.packGetsRow.domain false) (Rows.packGetsSpec.post enc Try.prog Try.f4 false true false false) := by
  refine returnsInHanded_of_change (C := Try.checked) own started (by kernel_rfl) Try.func4
    (ChangeSpec.witness6 (enc := enc) (C := Try.checked) false ⟨#[], #[.slice none 0 0, .int .u8 0, .int .u16 0], []⟩ 8 (by kernel_rfl) (by kernel_rfl) (by kernel_rfl) (by kernel_rfl)) ?_
  intro W base args ds gs before hval0 hW hcnd _
  have hval : ∀ (j : Nat) t v, Try.f4.params[j]? = some t → args[j]? = some v → Value.okWide Try.prog W .any base t v := hval0
  have hW' := hW
  obtain ⟨p, q, hA0, hV, rfl, hfz, hnd⟩ := hW
  have hA : DataW.TrodAll enc Try.prog W 0 (fun _ => true) true Try.f4.params.toList args.toList ds p := hA0
  have hA1 : DataW.TrodAll enc Try.prog W 0 (fun _ => true) true Try.f4.params.toList args.toList ds p := hA0
  rw [Try.params4] at hA hval
  obtain ⟨v0, vs0, d0, ds0, p0, q0, hargs, rfl, rfl, h0, r0⟩ := trodAll_cons hA
  obtain ⟨v1, vs1, d1, ds1, p1, q1, rfl, rfl, rfl, h1, r1⟩ := trodAll_cons r0
  obtain ⟨v2, vs2, d2, ds2, p2, q2, rfl, rfl, rfl, h2, r2⟩ := trodAll_cons r1
  obtain ⟨rfl, rfl, rfl⟩ := trodAll_nil r2
  obtain rfl : args = #[v0, v1, v2] := by cases args; simp_all
  obtain ⟨rfl, rfl⟩ := trodVars_none hV
  obtain ⟨A0, a0, c0, rfl, w0⟩ := open_bytes Try.underlying24 Try.underlying5 (by kernel_rfl) (hval 0 24 v0 rfl rfl) h0
  obtain ⟨a1, rfl, rfl, rfl, w1⟩ := open_int Try.underlying5 (hval 1 5 v1 rfl rfl) h1
  obtain ⟨b1, rfl⟩ := u8_of_wf w1
  obtain ⟨a2, rfl, rfl, rfl, w2⟩ := open_int Try.underlying32 (hval 2 32 v2 rfl rfl) h2
  obtain ⟨b2, rfl, l2⟩ := u16_of_wf w2
  clear hA0 hval0
  refine (packGets_walk (w := W) w0 b1 b2 l2).mono fun e W' ⟨he, bel⟩ => ?_
  subst he
  exact ⟨_, rfl, _, _, _, [], _, [], hW', trodAll_mk1 (shut_bool Try.underlying4 _), trodAll_below laidOut bel _ _ _ _ (by kernel_rfl) hA1, rfl, bel.frame _, fun h => by cases h⟩

theorem packGets_over : Rows.packGetsRow.holds Try.pinned (OpenSpec.ofChange Rows.packGetsSpec) :=
  OpenClaim.holds_of_wide 4 Try.f4 rfl rfl rfl rfl rfl rfl rfl ⟨rfl, rfl, rfl, rfl, rfl⟩ rfl rfl rfl rfl rfl (by kernel_rfl) Try.func4 (by kernel_rfl)
    (of_decide_eq_true (by kernel_rfl)) (by unfold Func.isWrapper; first | (rw [if_pos (by decide +kernel)]; kernel_rfl) | (rw [if_neg (by decide +kernel)]; exact ⟨rfl, rfl⟩))
    (fun os started H enc _ => packGets_lifted os started H enc)

/-- The statement. -/
theorem packGets_proved : Rows.PackGetsSaid := packGets_over


end Go.Proofs.Ytfoadchengbedaa
