/-
  A scope with several labels, jumped to forwards and back: what holds at each jump to each label, and a measure that every pass from a label to the next jump lowers. No program is named here.
-/
import Derived.Test.YtcpllbfpbhnjeaaMem
import Derived.WalkMore
namespace Go.Proofs.Ytcpllbfpbhnjeaa
set_option linter.unusedSimpArgs false
set_option linter.unusedVariables false

/-- by a goto to a label: what holds there; by any other way: Q -/
def jumpTo (J : Nat → Act → World → Prop) (Q : Exit → Act → World → Prop) : Exit → Act → World → Prop
  | .goto l, a, w => J l a w
  | e, a, w => Q e a w

section
variable {P : Program} {Q : Exit → Act → World → Prop}
theorem jumpTo_goto {J : Nat → Act → World → Prop} {l : Nat} {a : Act} {w : World} (h : J l a w) : jumpTo J Q (.goto l) a w := h
theorem jumpTo_ret {J : Nat → Act → World → Prop} {a : Act} {w : World} (h : Q .ret a w) : jumpTo J Q .ret a w := h
/-- what one pass from label l must show -/
def Pass (P : Program) (Q : Exit → Act → World → Prop) (c : Code) (J : Nat → Act → World → Prop) (m : Nat → Act → World → Nat) (l : Nat) (a : Act) (w : World) : Prop :=
  ∃ rest, findLabel c l = some (.seq .skip rest) ∧ rest.wp P (jumpTo (fun l' a' w' => J l' a' w' ∧ m l' a' w' < m l a w) Q) a w
/-- at the label itself -/
theorem of_pass {c R : Code} {a : Act} {w : World} {J : Nat → Act → World → Prop} {m : Nat → Act → World → Nat} {l : Nat} (h : Pass P Q c J m l a w) (hf : findLabel c l = some (.seq .skip R)) : R.wp P (jumpTo J Q) a w := by
  obtain ⟨R', h1, h2⟩ := h
  rw [hf] at h1
  injection h1 with h1
  injection h1 with _ h1
  subst h1
  refine wp_mono h2 fun e a w hq => ?_
  cases e with
  | goto l1 => exact hq.1
  | _ => exact hq

theorem wp_scope_labels {c : Code} {a : Act} {w : World} (J : Nat → Act → World → Prop) (m : Nat → Act → World → Nat) (pass : ∀ l a w, J l a w → Pass P Q c J m l a w)
    (first : (∀ l a w, J l a w → Pass P Q c J m l a w) → c.wp P (jumpTo J Q) a w) : (Code.scope c).wp P Q a w := by
  intro b k cs
  have again : ∀ n l a w, m l a w = n → J l a w → ∃ rest, findLabel c l = some rest ∧ ∃ e a' w', Q e a' w' ∧ Arrives P (lone (b.at a (.code rest :: .inScope c :: k)) cs w) b k cs e a' w' := by
    intro n
    induction n using Nat.strongRecOn with
    | _ n ih =>
      intro l a w hn hJ
      obtain ⟨rest, hr, hrest⟩ := pass l a w hJ
      refine ⟨_, hr, ?_⟩
      have hwp : (Code.seq .skip rest).wp P (jumpTo (fun l' a' w' => J l' a' w' ∧ m l' a' w' < m l a w) Q) a w := wp_seq (wp_skip hrest)
      obtain ⟨e, a1, w1, hq, har⟩ := hwp b (.inScope c :: k) cs
      cases e with
      | goto l1 =>
        obtain ⟨hJ1, hlt⟩ := hq
        obtain ⟨rest1, hr1, e2, a2, w2, hq2, har2⟩ := ih (m l1 a1 w1) (by omega) l1 a1 w1 rfl hJ1
        exact ⟨e2, a2, w2, hq2, .of_steps (har (.code rest1 :: .inScope c :: k) (by simp [gotoIn, hr1])) har2⟩
      | normal => exact ⟨.normal, a1, w1, hq, Steps.trans har (.one step_inScope)⟩
      | exit id => exact ⟨.exit id, a1, w1, hq, fun k' hk => har k' (by simp [exitTo, hk])⟩
      | ret => exact ⟨_, a1, w1, hq, har⟩
      | panic ch => exact ⟨_, a1, w1, hq, har⟩
      | outgrown => exact ⟨_, a1, w1, hq, har⟩
  obtain ⟨e, a1, w1, hq, har⟩   := first pass b (.inScope c :: k) cs
  cases e with
  | goto l1 =>
    obtain ⟨rest1, hr1, e2, a2, w2, hq2, har2⟩ := again _ l1 a1 w1 rfl hq
    exact ⟨e2, a2, w2, hq2, .of_steps (.head step_scope (har (.code rest1 :: .inScope c :: k) (by simp [gotoIn, hr1]))) har2⟩
  | normal => exact ⟨.normal, a1, w1, hq, .head step_scope (Steps.trans har (.one step_inScope))⟩
  | exit id => exact ⟨.exit id, a1, w1, hq, fun k' hk => .head step_scope (har k' (by simp [exitTo, hk]))⟩
  | ret => exact ⟨_, a1, w1, hq, .of_steps (.one step_scope) har⟩
  | panic ch => exact ⟨_, a1, w1, hq, .of_steps (.one step_scope) har⟩
  | outgrown => exact ⟨_, a1, w1, hq, .of_steps (.one step_scope) har⟩
end
end Go.Proofs.Ytcpllbfpbhnjeaa
