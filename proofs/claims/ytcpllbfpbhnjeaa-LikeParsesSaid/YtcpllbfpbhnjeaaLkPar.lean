/-
  Proved: LikeParses of layer 9: of whatever pattern and escape byte, the signs that Parse answers are the document's, and so is its error; what came in reads as it did. Conditions: none of our own.
-/
import Derived.Test.YtcpllbfpbhnjeaaLawL
import Derived.Test.YtcpllbfpbhnjeaaShell
import Derived.Test.YtcpllbfpbhnjeaaShellN
namespace Go.Proofs.Ytcpllbfpbhnjeaa
set_option linter.unusedSimpArgs false
set_option linter.unusedVariables false
open Go.ChangeShapes Go.WideShapes Go.ChangeAt Go.RowKit
open Go.ChangeMaps (open_string shut_string)


set_option maxRecDepth 20000 in
set_option maxHeartbeats 1000000 in
theorem likeParses_walk {w : World} (s : ByteArray) (hs : s.size ≤ 9223372036854775807) (E : Int) (hE : (Lit.int IntKind.i64 E).wf = true) :
    Calls Try.prog 3 #[.string s, .int .i64 E] w fun e w' => e = .returned (.bool true) ∧ Below w.heap.size w w' := by
  by_cases h5 : (5000 : Int) < (s.size : Int)
  · go_enter Try.func3, Try.ntmps3
    go_wp2_with fail
    refine (awake9_any (w := _)).mono ?_
    rintro r w1 ⟨rfl, b1⟩
    go_wp2_with fail
    refine (awake9_any (w := _)).mono ?_
    rintro r w2 ⟨rfl, b2⟩
    go_wp2_with fail
    go_ret
    exact ⟨rfl, below_below b1 b2 b1.size⟩
  · have HP := Lib.hid (fun w => lparse_any (w := w) s E _ rfl)
    have HR := Lib.hid (fun w => refParse_any (w := w) s E _ rfl)
    generalize parseF E s.data.toList = o at *
    generalize (if o.isSome then (0 : Int) else 8) = q at *
    generalize o.getD [] = zs at *
    go_enter Try.func3, Try.ntmps3
    go_wp2_with fail
    refine (awake9_any (w := _)).mono ?_
    rintro r w1 ⟨rfl, b1⟩
    go_wp2_with fail
    refine (HP.out _).mono ?_
    rintro r w2 ⟨A2, c2, rfl, h2, b2⟩
    have H2 := Lib.hid h2
    have B2 := Lib.hid (below_below b1 b2 b1.size)
    clear h2 b2
    go_wp2_with fail
    refine (HR.out _).mono ?_
    rintro r w3 ⟨A3, c3, rfl, h3, b3⟩
    have H3 := Lib.hid h3
    have H23 := Lib.hid (H2.out.below b3 (Nat.le_refl _))
    have B3 := Lib.hid (below_below B2.out b3 B2.out.size)
    clear h3 b3
    go_wp2_with fail
    refine (ints_len (ints zs) (ints zs) true H23.out H3.out (ints_length _) (ints_length _) (decide_eq_true rfl)).mono ?_
    rintro r w4 ⟨rfl, n4, rfl⟩
    go_wp2_with fail
    go_ret
    exact ⟨rfl, below_drewN' B3.out n4⟩


set_option maxRecDepth 100000 in
theorem likeParses_lifted (os : Os) (started : os.Started) (H : Type) (enc : TypeId × Value → H) :
    ReturnsInHanded {} Try.checked os 3 .any (Rows.likeParsesSpec.pre6 enc Try.prog Try.f3 Rows.likeParsesRow.domain false) (Rows.likeParsesSpec.post enc Try.prog Try.f3 false true false false) := by
  refine returnsInHanded_of_change (C := Try.checked) own started (by kernel_rfl) Try.func3
    (ChangeSpec.witness6 (enc := enc) (C := Try.checked) false ⟨#[], #[.string ByteArray.empty, .int .i64 0], []⟩ 8 (by kernel_rfl) (by kernel_rfl) (by kernel_rfl) (by kernel_rfl)) ?_
  intro W base args ds gs before hval0 hW hcnd _
  have hval : ∀ (j : Nat) t v, Try.f3.params[j]? = some t → args[j]? = some v → Value.okWide Try.prog W .any base t v := hval0
  have hW' := hW
  obtain ⟨p, q, hA0, hV, rfl, hfz, hnd⟩ := hW
  have hA : DataW.TrodAll enc Try.prog W 0 (fun _ => true) true Try.f3.params.toList args.toList ds p := hA0
  have hA1 : DataW.TrodAll enc Try.prog W 0 (fun _ => true) true Try.f3.params.toList args.toList ds p := hA0
  rw [Try.params3] at hA hval
  obtain ⟨v0, vs0, d0, ds0, p0, q0, hargs, rfl, rfl, h0, r0⟩ := trodAll_cons hA
  obtain ⟨v1, vs1, d1, ds1, p1, q1, rfl, rfl, rfl, h1, r1⟩ := trodAll_cons r0
  obtain ⟨rfl, rfl, rfl⟩ := trodAll_nil r1
  obtain rfl : args = #[v0, v1] := by cases args; simp_all
  obtain ⟨rfl, rfl⟩ := trodVars_none hV
  obtain ⟨a0, rfl, rfl, rfl, w0⟩ := open_string Try.underlying9 (hval 0 9 v0 rfl rfl) h0
  obtain ⟨a1, rfl, rfl, rfl, w1⟩ := open_int Try.underlying3 (hval 1 3 v1 rfl rfl) h1
  clear hA0 hval0
  refine (likeParses_walk (w := W) a0 w0 a1 w1).mono fun e W' ⟨he, bel⟩ => ?_
  subst he
  exact ⟨_, rfl, _, _, _, [], _, [], hW', trodAll_mk1 (shut_bool Try.underlying4 _), trodAll_below laidOut bel _ _ _ _ (by kernel_rfl) hA1, rfl, bel.frame _, fun h => by cases h⟩

theorem likeParses_over : Rows.likeParsesRow.holds Try.pinned (OpenSpec.ofChange Rows.likeParsesSpec) :=
  OpenClaim.holds_of_wide 3 Try.f3 rfl rfl rfl rfl rfl rfl rfl ⟨rfl, rfl, rfl, rfl, rfl⟩ rfl rfl rfl rfl rfl (by kernel_rfl) Try.func3 (by kernel_rfl)
    (of_decide_eq_true (by kernel_rfl)) (by unfold Func.isWrapper; first | (rw [if_pos (by decide +kernel)]; kernel_rfl) | (rw [if_neg (by decide +kernel)]; exact ⟨rfl, rfl⟩))
    (fun os started H enc _ => likeParses_lifted os started H enc)

/-- The statement. -/
theorem likeParses_proved : Rows.LikeParsesSaid := likeParses_over


end Go.Proofs.Ytcpllbfpbhnjeaa
