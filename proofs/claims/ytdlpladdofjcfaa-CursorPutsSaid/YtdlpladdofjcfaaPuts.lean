/-
  Proved: CursorPuts returns true for every number and every string, and leaves what was there as it was. No condition.
-/
import Derived.Test.YtdlpladdofjcfaaLawA
import Derived.Test.YtdlpladdofjcfaaShell
namespace Go.Proofs.Ytdlpladdofjcfaa
open Go.ChangeShapes Go.WideShapes Go.ChangeAt Go.RowKit
open Go.ChangeMaps (open_string shut_string)

set_option maxRecDepth 20000 in
theorem cursorPuts_walk {w : World} (n : Int) (hn : (Lit.int .i64 n).wf = true) (s : ByteArray) (hs : s.size ≤ maxLen) :
    Calls Try.prog 3 #[.int .i64 n, .string s] w fun e w' => e = .returned (.bool true) ∧ Below w.heap.size w w' := by
  unfold maxLen at hs
  have hn' : n ≤ 9223372036854775807 := by
    have := bounds_i64 hn
    omega
  by_cases h5 : s.size ≤ 5000
  · by_cases h0 : n < 0
    · go_enter Try.func3, Try.ntmps3
      go_wp2_with fail
      refine (awake_any _).mono ?_
      rintro r w1 ⟨rfl, hb1⟩
      have HB1 := Lib.hid hb1
      clear hb1
      go_wp2_with fail
      refine (put_below n h0).mono ?_
      rintro r w2 ⟨rfl, rfl⟩
      go_wp2_with fail
      refine (refPut_below n h0).mono ?_
      rintro r w2 ⟨rfl, rfl⟩
      go_wp2_with fail
      refine (same_any [] [] (Rd.nil _ 0 0) (Rd.nil _ 0 0)).mono ?_
      rintro r w2 ⟨rfl, rfl⟩
      rw [show decide (([] : List UInt8) = []) = true from rfl]
      go_wp2_with fail
      refine (putText_any s (by omega)).mono ?_
      rintro r w2 ⟨A, c, rfl, hown, hb2⟩
      have HO := Lib.hid hown
      have HB2 := Lib.hid hb2
      clear hown hb2
      go_wp2_with fail
      refine (refText_any s (by omega)).mono ?_
      rintro r w3 ⟨A', c', rfl, hown, hb3⟩
      have HO3 := Lib.hid hown
      have HB3 := Lib.hid hb3
      clear hown hb3
      go_wp2_with fail
      refine (same_any _ _ (Rd.own (own_below HO.out HB3.out (Nat.le_refl _))) (Rd.own HO3.out)).mono ?_
      rintro r w4 ⟨rfl, rfl⟩
      rw [decide_eq_true (rfl : textL s.data.toList = textL s.data.toList)]
      go_wp2
      go_ret
      have k2 := below_below HB1.out HB2.out HB1.out.size
      exact ⟨rfl, below_below k2 HB3.out k2.size⟩
    · obtain ⟨m, rfl⟩ := Int.eq_ofNat_of_zero_le (show 0 ≤ n by omega)
      go_enter Try.func3, Try.ntmps3
      go_wp2_with fail
      refine (awake_any _).mono ?_
      rintro r w1 ⟨rfl, hb1⟩
      have HB1 := Lib.hid hb1
      clear hb1
      go_wp2_with fail
      refine (put_any m (by omega)).mono ?_
      rintro r wp ⟨A, c, rfl, hownp, hbp⟩
      have HOP := Lib.hid hownp
      have HBP := Lib.hid hbp
      clear hownp hbp
      go_wp2_with fail
      refine (refPut_any m (by omega)).mono ?_
      rintro r wq ⟨A', c', rfl, hownq, hbq⟩
      have HOQ := Lib.hid hownq
      have HBQ := Lib.hid hbq
      clear hownq hbq
      go_wp2_with fail
      refine (same_any _ _ (Rd.own (own_below HOP.out HBQ.out (Nat.le_refl _))) (Rd.own HOQ.out)).mono ?_
      rintro r w2 ⟨rfl, rfl⟩
      rw [decide_eq_true (rfl : putL m = putL m)]
      go_wp2_with fail
      refine (putText_any s (by omega)).mono ?_
      rintro r w2 ⟨A, c, rfl, hown, hb2⟩
      have HO := Lib.hid hown
      have HB2 := Lib.hid hb2
      clear hown hb2
      go_wp2_with fail
      refine (refText_any s (by omega)).mono ?_
      rintro r w3 ⟨A', c', rfl, hown, hb3⟩
      have HO3 := Lib.hid hown
      have HB3 := Lib.hid hb3
      clear hown hb3
      go_wp2_with fail
      refine (same_any _ _ (Rd.own (own_below HO.out HB3.out (Nat.le_refl _))) (Rd.own HO3.out)).mono ?_
      rintro r w4 ⟨rfl, rfl⟩
      rw [decide_eq_true (rfl : textL s.data.toList = textL s.data.toList)]
      go_wp2
      go_ret
      have kp := below_below HB1.out HBP.out HB1.out.size
      have kq := below_below kp HBQ.out kp.size
      have k2 := below_below kq HB2.out kq.size
      exact ⟨rfl, below_below k2 HB3.out k2.size⟩
  · go_enter Try.func3, Try.ntmps3
    go_wp2_with fail
    refine (awake_any _).mono ?_
    rintro r w1 ⟨rfl, hb1⟩
    have HB1 := Lib.hid hb1
    clear hb1
    go_wp2_with fail
    refine (awake_any _).mono ?_
    rintro r w2 ⟨rfl, hb2⟩
    have HB2 := Lib.hid hb2
    clear hb2
    go_wp2
    go_ret
    exact ⟨rfl, below_below HB1.out HB2.out HB1.out.size⟩

set_option maxRecDepth 100000 in
theorem cursorPuts_lifted (os : Os) (started : os.Started) (H : Type) (enc : TypeId × Value → H) :
    ReturnsInHanded {} Try.checked os 3 .any (Rows.cursorPutsSpec.pre6 enc Try.prog Try.f3 Rows.cursorPutsRow.domain false) (Rows.cursorPutsSpec.post enc Try.prog Try.f3 false true false false) := by
  refine returnsInHanded_of_change (C := Try.checked) own started (by kernel_rfl) Try.func3
    (ChangeSpec.witness6 (enc := enc) (C := Try.checked) false ⟨#[], #[.int .i64 0, .string ByteArray.empty], []⟩ 8 (by kernel_rfl) (by kernel_rfl) (by kernel_rfl) (by kernel_rfl)) ?_
  intro W base args ds gs before hval0 hW hcnd _
  have hval : ∀ (j : Nat) t v, Try.f3.params[j]? = some t → args[j]? = some v → Value.okWide Try.prog W .any base t v := hval0
  have hW' := hW
  obtain ⟨p, q, hA0, hV, rfl, hfz, hnd⟩ := hW
  have hA : DataW.TrodAll enc Try.prog W 0 (fun _ => true) true Try.f3.params.toList args.toList ds p := hA0
  have hA1 : DataW.TrodAll enc Try.prog W 0 (fun _ => true) true Try.f3.params.toList args.toList ds p := hA0
  rw [Try.params3] at hA hval
  obtain ⟨v0, vs0, d0, ds0, p0, q0, hargs, rfl, rfl, h0, r0⟩ := trodAll_cons hA
  obtain ⟨v1, vs1, d1, ds1, p1, q1, rfl, rfl, rfl, h1, r1⟩ := trodAll_cons r0
  obtain ⟨rfl, rfl, rfl⟩ := trodAll_nil r1
  obtain rfl : args = #[v0, v1] := by cases args; simp_all
  obtain ⟨rfl, rfl⟩ := trodVars_none hV
  obtain ⟨a0, rfl, rfl, rfl, w0⟩ := open_int Try.underlying3 (hval 0 3 v0 rfl rfl) h0
  obtain ⟨a1, rfl, rfl, rfl, w1⟩ := open_string Try.underlying9 (hval 1 9 v1 rfl rfl) h1
  clear hA0 hval0
  refine (cursorPuts_walk (w := W) a0 w0 a1 w1).mono fun e W' ⟨he, bel⟩ => ?_
  subst he
  exact ⟨_, rfl, _, _, _, [], _, [], hW', trodAll_mk1 (shut_bool Try.underlying4 _), trodAll_below laidOut bel _ _ _ _ (by kernel_rfl) hA1, rfl, bel.frame _, fun h => by cases h⟩

theorem cursorPuts_over : Rows.cursorPutsRow.holds Try.pinned (OpenSpec.ofChange Rows.cursorPutsSpec) :=
  OpenClaim.holds_of_wide 3 Try.f3 rfl rfl rfl rfl rfl rfl rfl ⟨rfl, rfl, rfl, rfl, rfl⟩ rfl rfl rfl rfl rfl (by kernel_rfl) Try.func3 (by kernel_rfl)
    (of_decide_eq_true (by kernel_rfl)) (by unfold Func.isWrapper; first | (rw [if_pos (by decide +kernel)]; kernel_rfl) | (rw [if_neg (by decide +kernel)]; exact ⟨rfl, rfl⟩))
    (fun os started H enc _ => cursorPuts_lifted os started H enc)

/-- The statement. -/
theorem cursorPuts_proved : Rows.CursorPutsSaid := cursorPuts_over

end Go.Proofs.Ytdlpladdofjcfaa
