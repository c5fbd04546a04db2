/-
  No cell of these rows narrows 'for every input' (looked for: loops, veiled, ifaces, maps, wideKeys, modest, calm, conditions, laid).
  DERIVED. THE GIVEN ROWS OF THIS SEAT. 5 by the template 'for every input the law returns true; each argument reads behind the call as it read before'; 0 by the template 'total and deterministic' (their statements: YtfjclconpiibgaaTotals.lean).
  GIVEN WITH THE SEED: the statements are not yours to turn. If you find one false, say at which input.
  Laid BY PROGRAM, IN A SANDBOX (cutbox-rows.mjs): the forced cells as the released guide's own fill.sh prints them over the translation f8cb73fc002dbff3… (all of the seat's roots in one cut). By AI agents, Wed Nov 11 2026. No macro, syntax, notation, axiom, sorry.
-/
import Derived.Test.YtfjclconpiibgaaChecked
import GoSem.Claim
import GoSem.ClaimJoined
import GoSem.ClaimMapViews
import Derived.JoinedTies
import Derived.KernelRfl
namespace Go.Proofs.Ytfjclconpiibgaa
/- THE CELL 'sum', in the pinned program and in every row, IS THE sha256 OF THE DUMP (.gsa) THAT YtfjclconpiibgaaProg.lean LOADS. Nothing in Lean hashes anything: it is a label: what it is worth is what the hold of that sum in a sandbox is worth. -/
noncomputable def Try.pinned : Pinned := { name := "ytfjclconpiibgaa", sum := "f8cb73fc002dbff3b57d45fa3d33e136dcc5e4f432bad41daac1e0fae2e7548e", checked := Try.checked }
namespace Rows
def none {H : Type} : Left H := { results := [], args := [] }

/-- 'hopperlaw05.PickRights': WHATEVER THE INPUT: true; the input reads as it did. -/
def pickRightsSpec : ChangeSpec := { name := "pickRights", fn := fun _ => fun
  | [d1, d2] => { results := [.lit (.bool true)], args := [d1, d2] }
  | _ => none }
def pickRightsRow : OpenClaim := { program := "ytfjclconpiibgaa", sum := "f8cb73fc002dbff3b57d45fa3d33e136dcc5e4f432bad41daac1e0fae2e7548e", func := "hopper/hopperlaw05.PickRights", spec := "pickRights", apart := false }
def PickRightsSaid : Prop := pickRightsRow.holds Try.pinned (OpenSpec.ofChange pickRightsSpec)

/-- ITS FALSE NEIGHBOUR: 'it returns false'. Refute it at one input. -/
def pickRightsWrong : ChangeSpec := { name := "pickRights", fn := fun _ => fun
  | [d1, d2] => { results := [.lit (.bool false)], args := [d1, d2] }
  | _ => none }
def PickRightsWrongFalsely : Prop := pickRightsRow.holds Try.pinned (OpenSpec.ofChange pickRightsWrong)

/-- 'hopperlaw05.PickBack': WHATEVER THE INPUT: true; the input reads as it did. -/
def pickBackSpec : ChangeSpec := { name := "pickBack", fn := fun _ => fun
  | [d] => { results := [.lit (.bool true)], args := [d] }
  | _ => none }
def pickBackRow : OpenClaim := { program := "ytfjclconpiibgaa", sum := "f8cb73fc002dbff3b57d45fa3d33e136dcc5e4f432bad41daac1e0fae2e7548e", func := "hopper/hopperlaw05.PickBack", spec := "pickBack", apart := false }
def PickBackSaid : Prop := pickBackRow.holds Try.pinned (OpenSpec.ofChange pickBackSpec)

/-- ITS FALSE NEIGHBOUR: 'it returns false'. Refute it at one input. -/
def pickBackWrong : ChangeSpec := { name := "pickBack", fn := fun _ => fun
  | [d] => { results := [.lit (.bool false)], args := [d] }
  | _ => none }
def PickBackWrongFalsely : Prop := pickBackRow.holds Try.pinned (OpenSpec.ofChange pickBackWrong)

/-- 'hopperlaw05.PickRules': WHATEVER THE INPUT: true; the input reads as it did. -/
def pickRulesSpec : ChangeSpec := { name := "pickRules", fn := fun _ => fun
  | [d1, d2] => { results := [.lit (.bool true)], args := [d1, d2] }
  | _ => none }
def pickRulesRow : OpenClaim := { program := "ytfjclconpiibgaa", sum := "f8cb73fc002dbff3b57d45fa3d33e136dcc5e4f432bad41daac1e0fae2e7548e", func := "hopper/hopperlaw05.PickRules", spec := "pickRules", apart := false }
def PickRulesSaid : Prop := pickRulesRow.holds Try.pinned (OpenSpec.ofChange pickRulesSpec)

/-- ITS FALSE NEIGHBOUR: 'it returns false'. Refute it at one input. -/
def pickRulesWrong : ChangeSpec := { name := "pickRules", fn := fun _ => fun
  | [d1, d2] => { results := [.lit (.bool false)], args := [d1, d2] }
  | _ => none }
def PickRulesWrongFalsely : Prop := pickRulesRow.holds Try.pinned (OpenSpec.ofChange pickRulesWrong)

/-- 'hopperlaw05.PickThrough': WHATEVER THE INPUT: true; the input reads as it did. -/
def pickThroughSpec : ChangeSpec := { name := "pickThrough", fn := fun _ => fun
  | [d1, d2, d3] => { results := [.lit (.bool true)], args := [d1, d2, d3] }
  | _ => none }
def pickThroughRow : OpenClaim := { program := "ytfjclconpiibgaa", sum := "f8cb73fc002dbff3b57d45fa3d33e136dcc5e4f432bad41daac1e0fae2e7548e", func := "hopper/hopperlaw05.PickThrough", spec := "pickThrough", apart := false }
def PickThroughSaid : Prop := pickThroughRow.holds Try.pinned (OpenSpec.ofChange pickThroughSpec)

/-- ITS FALSE NEIGHBOUR: 'it returns false'. Refute it at one input. -/
def pickThroughWrong : ChangeSpec := { name := "pickThrough", fn := fun _ => fun
  | [d1, d2, d3] => { results := [.lit (.bool false)], args := [d1, d2, d3] }
  | _ => none }
def PickThroughWrongFalsely : Prop := pickThroughRow.holds Try.pinned (OpenSpec.ofChange pickThroughWrong)

/-- 'hopperlaw05.PickKeeps': WHATEVER THE INPUT: true; the input reads as it did. -/
def pickKeepsSpec : ChangeSpec := { name := "pickKeeps", fn := fun _ => fun
  | [d] => { results := [.lit (.bool true)], args := [d] }
  | _ => none }
def pickKeepsRow : OpenClaim := { program := "ytfjclconpiibgaa", sum := "f8cb73fc002dbff3b57d45fa3d33e136dcc5e4f432bad41daac1e0fae2e7548e", func := "hopper/hopperlaw05.PickKeeps", spec := "pickKeeps", apart := false }
def PickKeepsSaid : Prop := pickKeepsRow.holds Try.pinned (OpenSpec.ofChange pickKeepsSpec)

/-- ITS FALSE NEIGHBOUR: 'it returns false'. Refute it at one input. -/
def pickKeepsWrong : ChangeSpec := { name := "pickKeeps", fn := fun _ => fun
  | [d] => { results := [.lit (.bool false)], args := [d] }
  | _ => none }
def PickKeepsWrongFalsely : Prop := pickKeepsRow.holds Try.pinned (OpenSpec.ofChange pickKeepsWrong)

/- THE SECOND FORM. 'bulk': how many values and letters a reading holds, each counted each time it is reached (what is shared counts as often as it is met; a slice's spare places count too). A statement '..UptoSaid' is the law's where the arguments, and the package variables that the reading takes, are together of bulk at most 1048576: NARROWER than '..Said'. Prove '..Said' where nothing that the law and all that it calls make is longer than what came in: it says more and counts as full. Else prove '..UptoSaid'. A law counts once. -/
mutual
def uptoBulk {H : Type} : DataW H → Nat
  | .lit (.string bytes) => bytes.length + 1
  | .lit _ => 1
  | .nil => 1
  | .ptr d => uptoBulk d + 1
  | .slice elems spare => uptoBulkAll elems + uptoBulkAll spare + 1
  | .agg parts => uptoBulkAll parts + 1
  | .iface _ d => uptoBulk d + 1
  | .map entries => uptoBulkEntries entries + 1
  | .held _ => 1
def uptoBulkAll {H : Type} : List (DataW H) → Nat
  | [] => 0
  | d :: r => uptoBulk d + uptoBulkAll r
def uptoBulkEntries {H : Type} : List (Lit × DataW H) → Nat
  | [] => 0
  | x :: r => uptoBulkEntry x + uptoBulkEntries r
def uptoBulkEntry {H : Type} : Lit × DataW H → Nat
  | (.string bytes, d) => bytes.length + uptoBulk d + 1
  | (_, d) => uptoBulk d + 1
 end
def uptoSmall : (H : Type) → List (DataW H) → Bool := fun _ ds => decide (uptoBulkAll ds ≤ 1048576)
def OpenSpec.upto (s : _root_.Go.ChangeSpec) : _root_.Go.OpenSpec := { _root_.Go.OpenSpec.ofChange s with cond := some uptoSmall }

/-- 'hopperlaw05.PickRights', WHERE WHAT IT READS IS OF BULK AT MOST 1048576: true; the input reads as it did. -/
def pickRightsUptoRow : OpenClaim := { program := "ytfjclconpiibgaa", sum := "f8cb73fc002dbff3b57d45fa3d33e136dcc5e4f432bad41daac1e0fae2e7548e", func := "hopper/hopperlaw05.PickRights", spec := "pickRights", apart := false, narrowed := true }
def PickRightsUptoSaid : Prop := pickRightsUptoRow.holds Try.pinned (OpenSpec.upto pickRightsSpec)

/-- 'hopperlaw05.PickBack', WHERE WHAT IT READS IS OF BULK AT MOST 1048576: true; the input reads as it did. -/
def pickBackUptoRow : OpenClaim := { program := "ytfjclconpiibgaa", sum := "f8cb73fc002dbff3b57d45fa3d33e136dcc5e4f432bad41daac1e0fae2e7548e", func := "hopper/hopperlaw05.PickBack", spec := "pickBack", apart := false, narrowed := true }
def PickBackUptoSaid : Prop := pickBackUptoRow.holds Try.pinned (OpenSpec.upto pickBackSpec)

/-- 'hopperlaw05.PickRules', WHERE WHAT IT READS IS OF BULK AT MOST 1048576: true; the input reads as it did. -/
def pickRulesUptoRow : OpenClaim := { program := "ytfjclconpiibgaa", sum := "f8cb73fc002dbff3b57d45fa3d33e136dcc5e4f432bad41daac1e0fae2e7548e", func := "hopper/hopperlaw05.PickRules", spec := "pickRules", apart := false, narrowed := true }
def PickRulesUptoSaid : Prop := pickRulesUptoRow.holds Try.pinned (OpenSpec.upto pickRulesSpec)

/-- 'hopperlaw05.PickThrough', WHERE WHAT IT READS IS OF BULK AT MOST 1048576: true; the input reads as it did. -/
def pickThroughUptoRow : OpenClaim := { program := "ytfjclconpiibgaa", sum := "f8cb73fc002dbff3b57d45fa3d33e136dcc5e4f432bad41daac1e0fae2e7548e", func := "hopper/hopperlaw05.PickThrough", spec := "pickThrough", apart := false, narrowed := true }
def PickThroughUptoSaid : Prop := pickThroughUptoRow.holds Try.pinned (OpenSpec.upto pickThroughSpec)

/-- 'hopperlaw05.PickKeeps', WHERE WHAT IT READS IS OF BULK AT MOST 1048576: true; the input reads as it did. -/
def pickKeepsUptoRow : OpenClaim := { program := "ytfjclconpiibgaa", sum := "f8cb73fc002dbff3b57d45fa3d33e136dcc5e4f432bad41daac1e0fae2e7548e", func := "hopper/hopperlaw05.PickKeeps", spec := "pickKeeps", apart := false, narrowed := true }
def PickKeepsUptoSaid : Prop := pickKeepsUptoRow.holds Try.pinned (OpenSpec.upto pickKeepsSpec)

end Rows
end Go.Proofs.Ytfjclconpiibgaa
