/-
  Arrays of bytes, compared as a whole.
-/
import Derived.Test.YtpainhgjiddpkaaVewM
import Derived.Laws.StructEq
namespace Go.Proofs.Ytpainhgjiddpkaa
set_option linter.unusedSimpArgs false
set_option linter.unusedVariables false
open Go.RowKit

section
variable {P : Program} (w : World) {e : TypeId}
theorem part_vb (he : P.underlying e = some (.int .u8)) (l : List UInt8) (k : Nat) (h : k < l.length) : (part e (vb l) k).run P w = .ok (.int .u8 (l[k].toNat : Int)) w := by
  simp [part, isAgg, run_underlying he, vb_get l k h]

theorem run_equalIn_vb (d : Nat) (t : TypeId) (n : Nat) (he : P.underlying e = some (.int .u8)) (hs : (P.info? e).map (·.size) = some 1) (ht : P.underlying t = some (.array n e)) (a b : List UInt8) (ha : a.length = n) (hb : b.length = n) :
    (Op.equalIn (d + 2) t (.agg (vb a)) (.agg (vb b))).run P w = .ok (decide (a = b)) w := by
  cases hq : P.info? e with
  | none => simp [hq] at hs
  | some i =>
    have hi : i.size = 1 := by simpa [hq] using hs
    rw [Op.equalIn]
    simp only [Sem.run_bind, run_underlying ht, Result.andThen_ok, sizeOf, typeInfo, run_program, hq, Sem.run_pure, hi, Nat.mul_one]
    have key : ∀ m k, k + m = n → Sem.run P
        (forIn (List.range' k m 1) ((none, ()) : Option Bool × Unit) fun (i : Nat) (__s : Option Bool × Unit) => do
          let x ← part e (vb a) i
          let y ← part e (vb b) i
          let z ← Op.equalIn (d + 1) e x y
          if (!z) = true then pure (ForInStep.done (some false, ())) else pure (ForInStep.yield (none, ()))) w = .ok (if a.drop k = b.drop k then (none, ()) else (some false, ())) w := by
      intro m
      induction m with
      | zero =>
        intro k hk
        rw [List.drop_eq_nil_of_le (by omega), List.drop_eq_nil_of_le (by omega)]
        simp
      | succ m ih =>
        intro k hk
        have h1 : k < a.length := by omega
        have h2 : k < b.length := by omega
        simp only [List.range'_succ, List.forIn_cons, Sem.run_bind, part_vb w he a k h1, part_vb w he b k h2, run_equalIn_int w d e .u8 .u8 _ _ he, Result.andThen_ok]
        rw [List.drop_eq_getElem_cons h1, List.drop_eq_getElem_cons h2]
        by_cases hx : a[k] = b[k]
        · rw [hx]
          simp only [beq_self_eq_true, Bool.not_true, Bool.false_eq_true, if_false, Sem.run_pure, Result.andThen_ok, List.cons.injEq, true_and]
          exact ih (k + 1) (by omega)
        · have hne : ¬ (a[k].toNat : Int) = (b[k].toNat : Int) := fun h => hx (UInt8.toNat_inj.1 (by omega))
          have : ((a[k].toNat : Int) == (b[k].toNat : Int)) = false := by simpa using hne
          simp only [this, Bool.not_false, if_true, Sem.run_pure, Result.andThen_ok, List.cons.injEq, hx, false_and, if_false]
    have h0 := key n 0 (by omega)
    rw [List.drop_zero, List.drop_zero] at h0
    rw [Std.Legacy.Range.forIn_eq_forIn_range']
    simp only [Std.Legacy.Range.size, Nat.sub_zero, Nat.add_one_sub_one, Nat.div_one]
    rw [h0]
    by_cases hab : a = b
    · simp [hab, Result.andThen]
    · simp [hab, Result.andThen]

theorem eqGuardType_vb (t : TypeId) (n : Nat) (he : P.underlying e = some (.int .u8)) (ht : P.underlying t = some (.array n e)) (d : Nat) : P.eqGuardType (d + 2) t = false := by
  simp [Program.eqGuardType, ht, he]
end
end Go.Proofs.Ytpainhgjiddpkaa
