/-
  No cell of these rows narrows 'for every input' (looked for: loops, veiled, ifaces, maps, wideKeys, modest, calm, conditions, laid).
  DERIVED. THE GIVEN ROWS OF THIS SEAT. 3 by the template 'for every input the law returns true; each argument reads behind the call as it read before'; 0 by the template 'total and deterministic' (their statements: YtoimomcmbkclpaaTotals.lean).
  GIVEN WITH THE SEED: the statements are not yours to turn. If you find one false, say at which input.
  Laid BY PROGRAM, IN A SANDBOX (cutbox-rows.mjs): the forced cells as the released guide's own fill.sh prints them over the translation 5dc7db2a968b7635… (all of the seat's roots in one cut). By AI agents, Wed Nov 11 2026. No macro, syntax, notation, axiom, sorry.
-/
import Derived.Test.YtoimomcmbkclpaaChecked
import GoSem.Claim
import GoSem.ClaimJoined
import GoSem.ClaimMapViews
import Derived.JoinedTies
import Derived.KernelRfl
namespace Go.Proofs.Ytoimomcmbkclpaa
/- THE CELL 'sum', in the pinned program and in every row, IS THE sha256 OF THE DUMP (.gsa) THAT YtoimomcmbkclpaaProg.lean LOADS. Nothing in Lean hashes anything: it is a label: what it is worth is what the hold of that sum in a sandbox is worth. -/
noncomputable def Try.pinned : Pinned := { name := "ytoimomcmbkclpaa", sum := "5dc7db2a968b7635d6b5112a293c1a8ca88a38e2bf3aa8a3474c8a2c4eb94629", checked := Try.checked }
namespace Rows
def none {H : Type} : Left H := { results := [], args := [] }

/-- 'hopperlaw06.ViewMakes': WHATEVER THE INPUT: true; the input reads as it did. -/
def viewMakesSpec : ChangeSpec := { name := "viewMakes", fn := fun _ => fun
  | [d1, d2, d3] => { results := [.lit (.bool true)], args := [d1, d2, d3] }
  | _ => none }
def viewMakesRow : OpenClaim := { program := "ytoimomcmbkclpaa", sum := "5dc7db2a968b7635d6b5112a293c1a8ca88a38e2bf3aa8a3474c8a2c4eb94629", func := "hopper/hopperlaw06.ViewMakes", spec := "viewMakes", apart := false }
def ViewMakesSaid : Prop := viewMakesRow.holds Try.pinned (OpenSpec.ofChange viewMakesSpec)

/-- ITS FALSE NEIGHBOUR: 'it returns false'. Refute it at one input. -/
def viewMakesWrong : ChangeSpec := { name := "viewMakes", fn := fun _ => fun
  | [d1, d2, d3] => { results := [.lit (.bool false)], args := [d1, d2, d3] }
  | _ => none }
def ViewMakesWrongFalsely : Prop := viewMakesRow.holds Try.pinned (OpenSpec.ofChange viewMakesWrong)

/-- 'hopperlaw06.ViewRights': WHATEVER THE INPUT: true; the input reads as it did. -/
def viewRightsSpec : ChangeSpec := { name := "viewRights", fn := fun _ => fun
  | [d] => { results := [.lit (.bool true)], args := [d] }
  | _ => none }
def viewRightsRow : OpenClaim := { program := "ytoimomcmbkclpaa", sum := "5dc7db2a968b7635d6b5112a293c1a8ca88a38e2bf3aa8a3474c8a2c4eb94629", func := "hopper/hopperlaw06.ViewRights", spec := "viewRights", apart := false }
def ViewRightsSaid : Prop := viewRightsRow.holds Try.pinned (OpenSpec.ofChange viewRightsSpec)

/-- ITS FALSE NEIGHBOUR: 'it returns false'. Refute it at one input. -/
def viewRightsWrong : ChangeSpec := { name := "viewRights", fn := fun _ => fun
  | [d] => { results := [.lit (.bool false)], args := [d] }
  | _ => none }
def ViewRightsWrongFalsely : Prop := viewRightsRow.holds Try.pinned (OpenSpec.ofChange viewRightsWrong)

/-- 'hopperlaw06.ViewApart': WHATEVER THE INPUT: true; the input reads as it did. -/
def viewApartSpec : ChangeSpec := { name := "viewApart", fn := fun _ => fun
  | [d1, d2, d3, d4] => { results := [.lit (.bool true)], args := [d1, d2, d3, d4] }
  | _ => none }
def viewApartRow : OpenClaim := { program := "ytoimomcmbkclpaa", sum := "5dc7db2a968b7635d6b5112a293c1a8ca88a38e2bf3aa8a3474c8a2c4eb94629", func := "hopper/hopperlaw06.ViewApart", spec := "viewApart", apart := false }
def ViewApartSaid : Prop := viewApartRow.holds Try.pinned (OpenSpec.ofChange viewApartSpec)

/-- ITS FALSE NEIGHBOUR: 'it returns false'. Refute it at one input. -/
def viewApartWrong : ChangeSpec := { name := "viewApart", fn := fun _ => fun
  | [d1, d2, d3, d4] => { results := [.lit (.bool false)], args := [d1, d2, d3, d4] }
  | _ => none }
def ViewApartWrongFalsely : Prop := viewApartRow.holds Try.pinned (OpenSpec.ofChange viewApartWrong)

/- THE SECOND FORM. 'bulk': how many values and letters a reading holds, each counted each time it is reached (what is shared counts as often as it is met; a slice's spare places count too). A statement '..UptoSaid' is the law's where the arguments, and the package variables that the reading takes, are together of bulk at most 1048576: NARROWER than '..Said'. Prove '..Said' where nothing that the law and all that it calls make is longer than what came in: it says more and counts as full. Else prove '..UptoSaid'. A law counts once. -/
mutual
def uptoBulk {H : Type} : DataW H → Nat
  | .lit (.string bytes) => bytes.length + 1
  | .lit _ => 1
  | .nil => 1
  | .ptr d => uptoBulk d + 1
  | .slice elems spare => uptoBulkAll elems + uptoBulkAll spare + 1
  | .agg parts => uptoBulkAll parts + 1
  | .iface _ d => uptoBulk d + 1
  | .map entries => uptoBulkEntries entries + 1
  | .held _ => 1
def uptoBulkAll {H : Type} : List (DataW H) → Nat
  | [] => 0
  | d :: r => uptoBulk d + uptoBulkAll r
def uptoBulkEntries {H : Type} : List (Lit × DataW H) → Nat
  | [] => 0
  | x :: r => uptoBulkEntry x + uptoBulkEntries r
def uptoBulkEntry {H : Type} : Lit × DataW H → Nat
  | (.string bytes, d) => bytes.length + uptoBulk d + 1
  | (_, d) => uptoBulk d + 1
 end
def uptoSmall : (H : Type) → List (DataW H) → Bool := fun _ ds => decide (uptoBulkAll ds ≤ 1048576)
def OpenSpec.upto (s : _root_.Go.ChangeSpec) : _root_.Go.OpenSpec := { _root_.Go.OpenSpec.ofChange s with cond := some uptoSmall }

/-- 'hopperlaw06.ViewMakes', WHERE WHAT IT READS IS OF BULK AT MOST 1048576: true; the input reads as it did. -/
def viewMakesUptoRow : OpenClaim := { program := "ytoimomcmbkclpaa", sum := "5dc7db2a968b7635d6b5112a293c1a8ca88a38e2bf3aa8a3474c8a2c4eb94629", func := "hopper/hopperlaw06.ViewMakes", spec := "viewMakes", apart := false, narrowed := true }
def ViewMakesUptoSaid : Prop := viewMakesUptoRow.holds Try.pinned (OpenSpec.upto viewMakesSpec)

/-- 'hopperlaw06.ViewRights', WHERE WHAT IT READS IS OF BULK AT MOST 1048576: true; the input reads as it did. -/
def viewRightsUptoRow : OpenClaim := { program := "ytoimomcmbkclpaa", sum := "5dc7db2a968b7635d6b5112a293c1a8ca88a38e2bf3aa8a3474c8a2c4eb94629", func := "hopper/hopperlaw06.ViewRights", spec := "viewRights", apart := false, narrowed := true }
def ViewRightsUptoSaid : Prop := viewRightsUptoRow.holds Try.pinned (OpenSpec.upto viewRightsSpec)

/-- 'hopperlaw06.ViewApart', WHERE WHAT IT READS IS OF BULK AT MOST 1048576: true; the input reads as it did. -/
def viewApartUptoRow : OpenClaim := { program := "ytoimomcmbkclpaa", sum := "5dc7db2a968b7635d6b5112a293c1a8ca88a38e2bf3aa8a3474c8a2c4eb94629", func := "hopper/hopperlaw06.ViewApart", spec := "viewApart", apart := false, narrowed := true }
def ViewApartUptoSaid : Prop := viewApartUptoRow.holds Try.pinned (OpenSpec.upto viewApartSpec)

end Rows
end Go.Proofs.Ytoimomcmbkclpaa
