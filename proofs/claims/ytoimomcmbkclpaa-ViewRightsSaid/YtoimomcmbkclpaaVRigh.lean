/-
  Proved: ViewRights returns true for every sixteen bytes, and leaves what was there as it was. No condition.
-/
import Derived.Test.YtoimomcmbkclpaaVRigS
import Derived.Test.YtoimomcmbkclpaaVRigL
namespace Go.Proofs.Ytoimomcmbkclpaa
set_option linter.unusedSimpArgs false
set_option linter.unusedVariables false
open Go.ChangeShapes Go.WideShapes Go.ChangeAt Go.RowKit

theorem viewRights_walk {w : World} {l : List UInt8} (hl : l.length = 16) :
    Calls Try.prog 4 #[.agg (vb l)] w fun e w' => e = .returned (.bool true) ∧ Below w.heap.size w w' := by
  rcases Nat.lt_or_ge 12 (lenV l) with hn | hn
  · rcases Nat.lt_or_ge 4096 (lenV l) with h4 | h4
    · exact viewRights_l1 l hl hn h4
    · rcases Nat.lt_or_ge 65535 (numAt l 8) with h5 | h5
      · exact viewRights_l2 l hl hn h4 h5
      · rcases Nat.lt_or_ge 65536 (numAt l 12) with h6 | h6
        · exact viewRights_l3 l hl hn h4 h5 h6
        · exact viewRights_long l hl hn h4 h5 h6
  · exact viewRights_short l hl hn


set_option maxRecDepth 100000 in
theorem viewRights_lifted (os : Os) (started : os.Started) (H : Type) (enc : TypeId × Value → H) :
    ReturnsInHanded {} Try.checked os 4 .any (Rows.viewRightsSpec.pre6 enc Try.prog Try.f4 Rows.viewRightsRow.domain false) (Rows.viewRightsSpec.post enc Try.prog Try.f4 false true false false) := by
  refine returnsInHanded_of_change (C := Try.checked) own started (by kernel_rfl) Try.func4
    (ChangeSpec.witness6 (enc := enc) (C := Try.checked) false ⟨#[], #[wit16], []⟩ 8 (by kernel_rfl) (by kernel_rfl) (by kernel_rfl) (by kernel_rfl)) ?_
  intro W base args ds gs before hval0 hW hcnd _
  have hval : ∀ (j : Nat) t v, Try.f4.params[j]? = some t → args[j]? = some v → Value.okWide Try.prog W .any base t v := hval0
  have hW' := hW
  obtain ⟨p, q, hA0, hV, rfl, hfz, hnd⟩ := hW
  have hA : DataW.TrodAll enc Try.prog W 0 (fun _ => true) true Try.f4.params.toList args.toList ds p := hA0
  have hA1 : DataW.TrodAll enc Try.prog W 0 (fun _ => true) true Try.f4.params.toList args.toList ds p := hA0
  rw [Try.params4] at hA hval
  obtain ⟨v0, vs0, d0, ds0, p0, q0, hargs, rfl, rfl, h0, r0⟩ := trodAll_cons hA
  obtain ⟨rfl, rfl, rfl⟩ := trodAll_nil r0
  obtain rfl : args = #[v0] := by cases args; simp_all
  obtain ⟨rfl, rfl⟩ := trodVars_none hV
  obtain ⟨A0, a0, c0, rfl, w0⟩ := open_view16 (hval 0 23 v0 rfl rfl) h0
  clear hA0 hval0
  refine (viewRights_walk (w := W) w0).mono fun e W' ⟨he, bel⟩ => ?_
  subst he
  exact ⟨_, rfl, _, _, _, [], _, [], hW', trodAll_mk1 (shut_bool Try.underlying4 _), trodAll_below laidOut bel _ _ _ _ (by kernel_rfl) hA1, rfl, bel.frame _, fun h => by cases h⟩

theorem viewRights_over : Rows.viewRightsRow.holds Try.pinned (OpenSpec.ofChange Rows.viewRightsSpec) :=
  OpenClaim.holds_of_wide 4 Try.f4 rfl rfl rfl rfl rfl rfl rfl ⟨rfl, rfl, rfl, rfl, rfl⟩ rfl rfl rfl rfl rfl (by kernel_rfl) Try.func4 (by kernel_rfl)
    (of_decide_eq_true (by kernel_rfl)) (by unfold Func.isWrapper; first | (rw [if_pos (by decide +kernel)]; kernel_rfl) | (rw [if_neg (by decide +kernel)]; exact ⟨rfl, rfl⟩))
    (fun os started H enc _ => viewRights_lifted os started H enc)

/-- The statement. -/
theorem viewRights_proved : Rows.ViewRightsSaid := viewRights_over


end Go.Proofs.Ytoimomcmbkclpaa
