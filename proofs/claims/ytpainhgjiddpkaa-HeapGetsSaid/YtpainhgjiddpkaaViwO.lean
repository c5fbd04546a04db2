/-
  Arguments opened: sixteen bytes, as an array.
-/
import Derived.Test.YtpainhgjiddpkaaVewB
import Derived.Test.YtpainhgjiddpkaaShell
namespace Go.Proofs.Ytpainhgjiddpkaa
set_option linter.unusedSimpArgs false
set_option linter.unusedVariables false
open Go.ChangeShapes Go.WideShapes Go.ChangeAt Go.RowKit

def wit16 : Value := .agg (vb zero16)

/-- sixteen bytes that came in, as an array -/
theorem open_view {H : Type} {enc : TypeId × Value → H} {P : Program} {W : World} {b0 : Nat} {t e : TypeId} {v : Value} {d : DataW H} {p : List MemPlace} (ht : P.underlying t = some (.array 16 e)) (he : P.underlying e = some (.int .u8)) (hc : P.cellsOf e = 1) (hct : P.cellsOf t = 16)
    (hok : Value.okWide P W .any b0 t v) (h : DataW.Trod enc P W 0 (fun _ => true) true t v d p) : ∃ (A : Nat) (l : List UInt8) (c : Nat), v = .agg (vb l) ∧ l.length = 16 := by
  simp only [Value.okWide, ht] at hok
  obtain ⟨cs, rfl, hcs, _⟩ := hok
  obtain ⟨fuel, hf⟩ := h
  obtain ⟨xs, m, _, _, hl, hxl, hx⟩ := DataW.trod_array ht hf
  have hcl : (Value.agg cs).cells.toList = cs.toList := rfl
  rw [hcl] at hx hl
  rw [hct] at hl
  have key : ∀ i (hi : i < cs.toList.length), ∃ b : UInt8, cs.toList[i] = .int .u8 (b.toNat : Int) := by
    intro i hi
    have h1 := hx i (by omega)
    rw [hc, Nat.mul_one, List.getElem?_eq_getElem (by omega)] at h1
    obtain ⟨z, hz, _, hw⟩ := DataW.trod_int he h1
    have h2 : cs.toList[i]? = some (.int .u8 z) := by
      have := congrArg (·[0]?) hz
      simpa [List.getElem?_take, List.getElem?_drop] using this
    have hb : 0 ≤ z ∧ z < 256 := by
      have := bounds_u8 hw
      omega
    refine ⟨UInt8.ofNat z.toNat, ?_⟩
    rw [List.getElem?_eq_getElem hi] at h2
    injection h2 with h2
    rw [h2, UInt8.toNat_ofNat']
    congr 1
    omega
  have hall : ∀ (ys : List Value), (∀ i (hi : i < ys.length), ∃ b : UInt8, ys[i] = .int .u8 (b.toNat : Int)) → ∃ l : List UInt8, ys = bv l := by
    intro ys
    induction ys with
    | nil => intro _; exact ⟨[], rfl⟩
    | cons y ys ih =>
      intro h
      obtain ⟨b, hb⟩ := h 0 (by simp)
      obtain ⟨l, hl2⟩ := ih (fun i hi => by
        have := h (i + 1) (by simp; omega)
        simpa using this)
      exact ⟨b :: l, by rw [hl2]; simp only [List.getElem_cons_zero] at hb; rw [hb]; rfl⟩
  obtain ⟨l, hl2⟩ := hall _ key
  refine ⟨0, l, 0, ?_, ?_⟩
  · congr 1
    apply Array.ext'
    rw [hl2, vb_toList]
  · rw [hl2, bv_length] at hl
    exact hl

theorem open_view16 {H : Type} {enc : TypeId × Value → H} {W : World} {b0 : Nat} {v : Value} {d : DataW H} {p : List MemPlace}
    (hok : Value.okWide Try.prog W .any b0 28 v) (h : DataW.Trod enc Try.prog W 0 (fun _ => true) true 28 v d p) : ∃ (A : Nat) (l : List UInt8) (c : Nat), v = .agg (vb l) ∧ l.length = 16 :=
  open_view Try.underlying28 Try.underlying5 (by kernel_rfl) (by kernel_rfl) hok h
end Go.Proofs.Ytpainhgjiddpkaa
