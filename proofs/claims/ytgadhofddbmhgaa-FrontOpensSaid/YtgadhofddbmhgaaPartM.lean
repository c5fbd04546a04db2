/-
  Parts: slices of bytes, and what they read as. No program is named here.
-/
import Derived.Test.YtgadhofddbmhgaaMem
namespace Go.Proofs.Ytgadhofddbmhgaa
set_option linter.unusedSimpArgs false
set_option linter.unusedVariables false

/-- a part: a slice of bytes, and what it reads as -/
structure Part where
  A : Option Addr
  c : Nat
  bs : List UInt8
def Part.val (p : Part) : Value := .slice p.A p.bs.length p.c
def Part.rd (p : Part) (w : World) (hi : Nat) : Prop := Rd w 0 hi p.A p.c (bv p.bs)
def partsL (ps : List Part) : List UInt8 := ps.flatMap (·.bs)
theorem partsL_take (ps : List Part) {k : Nat} (hk : k < ps.length) : partsL (ps.take (k + 1)) = partsL (ps.take k) ++ ps[k].bs := by
  unfold partsL
  rw [List.take_succ_eq_append_getElem hk, List.flatMap_append]
  simp
end Go.Proofs.Ytgadhofddbmhgaa
