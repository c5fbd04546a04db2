/-
  A range over a function: what a round keeps of the iterator's boxes; boxes and rows through steps; appends inside a fence. No program is named here.
-/
import Derived.Test.YtgadhofddbmhgaaMem
import Derived.Test.YtgadhofddbmhgaaOutM
import Derived.RangeFuncNested
import Derived.RangeFuncBound
import Derived.RangeFuncCalls
import Derived.RangeFuncLeaves
import Derived.RangeFuncBox
import Derived.Shelf.Abstract
import Derived.Shelf.RegionOpen
import Derived.WalkKit
import Derived.OwnWalkIn
import Derived.TacticsInMore
import Derived.LoopNIn
import Derived.LoopIn
namespace Go.Proofs.Ytgadhofddbmhgaa
set_option linter.unusedSimpArgs false
set_option linter.unusedVariables false
open Go.RowKit Go.Shelf

attribute [local go_sem] Oper.semAt_some

/-- what a round keeps: what lay below n₀, and the two boxes that the iterator reads -/
structure Kp2 (n₀ Bb Bt : Nat) (W W' : World) : Prop where
  below : Below n₀ W W'
  b : W'.heap[Bb]? = W.heap[Bb]?
  t : W'.heap[Bt]? = W.heap[Bt]?
theorem Kp2.trans {n₀ Bb Bt : Nat} {A B C : World} (h : Kp2 n₀ Bb Bt A B) (k : Kp2 n₀ Bb Bt B C) : Kp2 n₀ Bb Bt A C := ⟨h.below.trans k.below, k.b.trans h.b, k.t.trans h.t⟩
theorem Kp2.refl (n₀ Bb Bt : Nat) (W : World) : Kp2 n₀ Bb Bt W W := ⟨Below.refl _ _, rfl, rfl⟩
theorem Kp2.cellb {n₀ Bb Bt : Nat} {A B : World} (h : Kp2 n₀ Bb Bt A B) : B.cell? ⟨Bb, 0, none⟩ = A.cell? ⟨Bb, 0, none⟩ := World.cell?_of_block h.b
theorem Kp2.cellt {n₀ Bb Bt : Nat} {A B : World} (h : Kp2 n₀ Bb Bt A B) : B.cell? ⟨Bt, 0, none⟩ = A.cell? ⟨Bt, 0, none⟩ := World.cell?_of_block h.t

theorem boxed_keep {X Y : World} {row : Option Nat} {B : Nat} {t : TypeId} {v : Value} (h : Boxed X B t v) (hg : X.grownBy Y row) (hr : ∀ r, row = some r → ∃ o : Obj, X.heap[r]? = some o ∧ o.isCells = false) : Boxed Y B t v :=
  h.kept hg fun e => by
    obtain ⟨o, ho, hc⟩ := hr B e.symm
    rw [show X.heap[B]? = _ from h] at ho
    cases ho
    cases hc
theorem row_keep {X Y : World} {row : Option Nat} {base : Nat} {e : TypeId} {size n : Nat} {v : Value} {xs : List Value} (h : X.ownsRow base e size v n xs) (hg : X.grownBy Y row) (hr : ∀ r, row = some r → ∃ o : Obj, X.heap[r]? = some o ∧ o.isCells = false) : Y.ownsRow base e size v n xs := by
  refine h.kept hg ?_
  rcases h.2 with ⟨rfl, _⟩ | ⟨g, cap, cur, rfl, _, hgb, _⟩
  · exact .inl rfl
  · refine .inr fun e' => ?_
    obtain ⟨o, ho, hc⟩ := hr g (by simpa [Value.ownBlock] using e'.symm)
    rw [hgb] at ho
    cases ho
    cases hc
theorem boxed_other {X : World} {B B2 : Nat} {t : TypeId} {v u : Value} (h : Boxed X B t v) (hne : B ≠ B2) : Boxed (X.setCell ⟨B2, 0, none⟩ u) B t v := h.kept (grownBy_setCell' X B2 u) (fun e => hne (by injection e))
theorem boxed_put {X : World} {D B : Nat} {t : TypeId} {v : Value} {o : Obj} (h : Boxed X B t v) (o' : Obj) (hD : X.heap[D]? = some o) (ho : o.isCells = false) : Boxed (X.putObj D o') B t v := boxed_keep h (grownBy_putObj' X D o') fun r e => by cases e; exact ⟨o, hD, ho⟩

/-- an append whose run is known, inside a fence -/
theorem wpListIn_append_run {F : Fence} {n : Nat} {P : Program} {w : World} {ops : Array Oper} {rest : List Oper} {o : Oper} {a : Act} {Q : Exit → Act → World → Prop}
    (hg : o.guard = none) (s x : Operand) (tys : Array TypeId) (hop : o.op = Op.call { callee := Callee.builtin Builtin.append, args := #[s, x], argTypes := tys }) (v y : Value) (hs : a.eval s = v) (hx : a.eval x = y) {r : Value} {w' : World}
    (hrun : (Builtin.append_ tys o.type #[v, y]).run P w = .ok r w') (hK : wpListIn F n P ops Q rest (a.put o.dst r) w') :
    wpListIn F n P ops Q (o :: rest) a w := by
  refine wpListIn_plain hg fun K hK' => ?_
  unfold Oper.wpIn
  refine ⟨?_, ?_⟩
  · simp [Oper.about, hop, resolve, Target.leads, Sem.run_pure]
  · rw [Oper.semAt_plain F _ _ (by rw [hop]; intro c hc'; cases hc')]
    simp [execOp, hop, resolve, invoke, builtin, hs, hx, hrun, Result.andThen]
    exact hK' _ _ hK
/-- an append to the row in a box, of a string: all that is owed behind the store -/
theorem appendedS {W w1 : World} {n₀ B m : Nat} {t e : TypeId} {v v' : Value} {k : Nat} {xs ys : List Value} (hv : Boxed W B t v) (hte : t ≠ e) (hrow : W.ownsRow n₀ e 1 v k xs) (hB : n₀ ≤ B) (hn₀ : n₀ ≤ W.heap.size) (hown : w1.ownsRow n₀ e 1 v' m ys) (hg : W.grownBy w1 v.ownBlock) :
    Boxed w1 B t v ∧ Boxed (w1.setCell ⟨B, 0, none⟩ v') B t v' ∧ (w1.setCell ⟨B, 0, none⟩ v').ownsRow n₀ e 1 v' m ys ∧ KeepsOthers W (w1.setCell ⟨B, 0, none⟩ v') ∧ Below n₀ W (w1.setCell ⟨B, 0, none⟩ v') ∧
      ∀ (B2 : Nat) (t2 : TypeId) (u : Value), B2 ≠ B → t2 ≠ e → Boxed W B2 t2 u → Boxed (w1.setCell ⟨B, 0, none⟩ v') B2 t2 u := by
  have hv1 : Boxed w1 B t v := hv.kept hg (hv.not_row hte hrow)
  refine ⟨hv1, hv1.set v', hown.kept (grownBy_setCell' w1 B v') (.inr (hv1.not_row hte hown).symm), ?_, ?_, fun B2 t2 u hne h2 hu => boxed_other (hu.kept hg (hu.not_row h2 hrow)) hne⟩
  · refine (KeepsOthers.of_grownBy hg fun j o ej hj => ?_).trans (KeepsOthers.setCell _ _ _)
    rcases hrow.2 with ⟨rfl, _⟩ | ⟨g, cap, cur, rfl, _, hgb, _⟩
    · simp [Value.ownBlock] at ej
    · obtain rfl : g = j := by simpa [Value.ownBlock] using ej
      rw [hgb] at hj
      cases hj
      rfl
  · exact ((Below.refl n₀ W).grown hg hn₀ (fun j ej => (own_lt hrow ej).1)).setCell (p := ⟨B, 0, none⟩) hB v'
end Go.Proofs.Ytgadhofddbmhgaa
