/-
  No cell of these rows narrows 'for every input' (looked for: loops, veiled, ifaces, maps, wideKeys, modest, calm, conditions, laid).
  DERIVED. THE GIVEN ROWS OF THIS SEAT. 5 by the template 'for every input the law returns true; each argument reads behind the call as it read before'; 0 by the template 'total and deterministic' (their statements: YtiainckeakhccaaTotals.lean).
  GIVEN WITH THE SEED: the statements are not yours to turn. If you find one false, say at which input.
  Laid BY PROGRAM, IN A SANDBOX (cutbox-rows.mjs): the forced cells as the released guide's own fill.sh prints them over the translation bbf37298eb7a7ce8… (all of the seat's roots in one cut). By AI agents, Wed Nov 11 2026. No macro, syntax, notation, axiom, sorry.
-/
import Derived.Test.YtiainckeakhccaaChecked
import GoSem.Claim
import GoSem.ClaimJoined
import GoSem.ClaimMapViews
import Derived.JoinedTies
import Derived.KernelRfl
namespace Go.Proofs.Ytiainckeakhccaa
/- THE CELL 'sum', in the pinned program and in every row, IS THE sha256 OF THE DUMP (.gsa) THAT YtiainckeakhccaaProg.lean LOADS. Nothing in Lean hashes anything: it is a label: what it is worth is what the hold of that sum in a sandbox is worth. -/
noncomputable def Try.pinned : Pinned := { name := "ytiainckeakhccaa", sum := "bbf37298eb7a7ce869cd7615635ed18e076a2326eef2083122fca4e0941d484d", checked := Try.checked }
namespace Rows
def none {H : Type} : Left H := { results := [], args := [] }

/-- 'hopperlaw04.BitmapWrites': WHATEVER THE INPUT: true; the input reads as it did. -/
def bitmapWritesSpec : ChangeSpec := { name := "bitmapWrites", fn := fun _ => fun
  | [d] => { results := [.lit (.bool true)], args := [d] }
  | _ => none }
def bitmapWritesRow : OpenClaim := { program := "ytiainckeakhccaa", sum := "bbf37298eb7a7ce869cd7615635ed18e076a2326eef2083122fca4e0941d484d", func := "hopper/hopperlaw04.BitmapWrites", spec := "bitmapWrites", unfollowed := true, recurses := true, apart := false }
def BitmapWritesSaid : Prop := bitmapWritesRow.holds Try.pinned (OpenSpec.ofChange bitmapWritesSpec)

/-- ITS FALSE NEIGHBOUR: 'it returns false'. Refute it at one input. -/
def bitmapWritesWrong : ChangeSpec := { name := "bitmapWrites", fn := fun _ => fun
  | [d] => { results := [.lit (.bool false)], args := [d] }
  | _ => none }
def BitmapWritesWrongFalsely : Prop := bitmapWritesRow.holds Try.pinned (OpenSpec.ofChange bitmapWritesWrong)

/-- 'hopperlaw04.BitmapReads': WHATEVER THE INPUT: true; the input reads as it did. -/
def bitmapReadsSpec : ChangeSpec := { name := "bitmapReads", fn := fun _ => fun
  | [d1, d2, d3] => { results := [.lit (.bool true)], args := [d1, d2, d3] }
  | _ => none }
def bitmapReadsRow : OpenClaim := { program := "ytiainckeakhccaa", sum := "bbf37298eb7a7ce869cd7615635ed18e076a2326eef2083122fca4e0941d484d", func := "hopper/hopperlaw04.BitmapReads", spec := "bitmapReads", unfollowed := true, recurses := true, apart := false }
def BitmapReadsSaid : Prop := bitmapReadsRow.holds Try.pinned (OpenSpec.ofChange bitmapReadsSpec)

/-- ITS FALSE NEIGHBOUR: 'it returns false'. Refute it at one input. -/
def bitmapReadsWrong : ChangeSpec := { name := "bitmapReads", fn := fun _ => fun
  | [d1, d2, d3] => { results := [.lit (.bool false)], args := [d1, d2, d3] }
  | _ => none }
def BitmapReadsWrongFalsely : Prop := bitmapReadsRow.holds Try.pinned (OpenSpec.ofChange bitmapReadsWrong)

/-- 'hopperlaw04.BitmapCounts': WHATEVER THE INPUT: true; the input reads as it did. -/
def bitmapCountsSpec : ChangeSpec := { name := "bitmapCounts", fn := fun _ => fun
  | [d1, d2] => { results := [.lit (.bool true)], args := [d1, d2] }
  | _ => none }
def bitmapCountsRow : OpenClaim := { program := "ytiainckeakhccaa", sum := "bbf37298eb7a7ce869cd7615635ed18e076a2326eef2083122fca4e0941d484d", func := "hopper/hopperlaw04.BitmapCounts", spec := "bitmapCounts", unfollowed := true, recurses := true, apart := false }
def BitmapCountsSaid : Prop := bitmapCountsRow.holds Try.pinned (OpenSpec.ofChange bitmapCountsSpec)

/-- ITS FALSE NEIGHBOUR: 'it returns false'. Refute it at one input. -/
def bitmapCountsWrong : ChangeSpec := { name := "bitmapCounts", fn := fun _ => fun
  | [d1, d2] => { results := [.lit (.bool false)], args := [d1, d2] }
  | _ => none }
def BitmapCountsWrongFalsely : Prop := bitmapCountsRow.holds Try.pinned (OpenSpec.ofChange bitmapCountsWrong)

/-- 'hopperlaw04.BitmapRules': WHATEVER THE INPUT: true; the input reads as it did. -/
def bitmapRulesSpec : ChangeSpec := { name := "bitmapRules", fn := fun _ => fun
  | [d1, d2] => { results := [.lit (.bool true)], args := [d1, d2] }
  | _ => none }
def bitmapRulesRow : OpenClaim := { program := "ytiainckeakhccaa", sum := "bbf37298eb7a7ce869cd7615635ed18e076a2326eef2083122fca4e0941d484d", func := "hopper/hopperlaw04.BitmapRules", spec := "bitmapRules", unfollowed := true, recurses := true, apart := false }
def BitmapRulesSaid : Prop := bitmapRulesRow.holds Try.pinned (OpenSpec.ofChange bitmapRulesSpec)

/-- ITS FALSE NEIGHBOUR: 'it returns false'. Refute it at one input. -/
def bitmapRulesWrong : ChangeSpec := { name := "bitmapRules", fn := fun _ => fun
  | [d1, d2] => { results := [.lit (.bool false)], args := [d1, d2] }
  | _ => none }
def BitmapRulesWrongFalsely : Prop := bitmapRulesRow.holds Try.pinned (OpenSpec.ofChange bitmapRulesWrong)

/-- 'hopperlaw04.BitmapKeeps': WHATEVER THE INPUT: true; the input reads as it did. -/
def bitmapKeepsSpec : ChangeSpec := { name := "bitmapKeeps", fn := fun _ => fun
  | [d] => { results := [.lit (.bool true)], args := [d] }
  | _ => none }
def bitmapKeepsRow : OpenClaim := { program := "ytiainckeakhccaa", sum := "bbf37298eb7a7ce869cd7615635ed18e076a2326eef2083122fca4e0941d484d", func := "hopper/hopperlaw04.BitmapKeeps", spec := "bitmapKeeps", unfollowed := true, recurses := true, apart := false }
def BitmapKeepsSaid : Prop := bitmapKeepsRow.holds Try.pinned (OpenSpec.ofChange bitmapKeepsSpec)

/-- ITS FALSE NEIGHBOUR: 'it returns false'. Refute it at one input. -/
def bitmapKeepsWrong : ChangeSpec := { name := "bitmapKeeps", fn := fun _ => fun
  | [d] => { results := [.lit (.bool false)], args := [d] }
  | _ => none }
def BitmapKeepsWrongFalsely : Prop := bitmapKeepsRow.holds Try.pinned (OpenSpec.ofChange bitmapKeepsWrong)

/- THE SECOND FORM. 'bulk': how many values and letters a reading holds, each counted each time it is reached (what is shared counts as often as it is met; a slice's spare places count too). A statement '..UptoSaid' is the law's where the arguments, and the package variables that the reading takes, are together of bulk at most 1048576: NARROWER than '..Said'. Prove '..Said' where nothing that the law and all that it calls make is longer than what came in: it says more and counts as full. Else prove '..UptoSaid'. A law counts once. -/
mutual
def uptoBulk {H : Type} : DataW H → Nat
  | .lit (.string bytes) => bytes.length + 1
  | .lit _ => 1
  | .nil => 1
  | .ptr d => uptoBulk d + 1
  | .slice elems spare => uptoBulkAll elems + uptoBulkAll spare + 1
  | .agg parts => uptoBulkAll parts + 1
  | .iface _ d => uptoBulk d + 1
  | .map entries => uptoBulkEntries entries + 1
  | .held _ => 1
def uptoBulkAll {H : Type} : List (DataW H) → Nat
  | [] => 0
  | d :: r => uptoBulk d + uptoBulkAll r
def uptoBulkEntries {H : Type} : List (Lit × DataW H) → Nat
  | [] => 0
  | x :: r => uptoBulkEntry x + uptoBulkEntries r
def uptoBulkEntry {H : Type} : Lit × DataW H → Nat
  | (.string bytes, d) => bytes.length + uptoBulk d + 1
  | (_, d) => uptoBulk d + 1
 end
def uptoSmall : (H : Type) → List (DataW H) → Bool := fun _ ds => decide (uptoBulkAll ds ≤ 1048576)
def OpenSpec.upto (s : _root_.Go.ChangeSpec) : _root_.Go.OpenSpec := { _root_.Go.OpenSpec.ofChange s with cond := some uptoSmall }

/-- 'hopperlaw04.BitmapWrites', WHERE WHAT IT READS IS OF BULK AT MOST 1048576: true; the input reads as it did. -/
def bitmapWritesUptoRow : OpenClaim := { program := "ytiainckeakhccaa", sum := "bbf37298eb7a7ce869cd7615635ed18e076a2326eef2083122fca4e0941d484d", func := "hopper/hopperlaw04.BitmapWrites", spec := "bitmapWrites", unfollowed := true, recurses := true, apart := false, narrowed := true }
def BitmapWritesUptoSaid : Prop := bitmapWritesUptoRow.holds Try.pinned (OpenSpec.upto bitmapWritesSpec)

/-- 'hopperlaw04.BitmapReads', WHERE WHAT IT READS IS OF BULK AT MOST 1048576: true; the input reads as it did. -/
def bitmapReadsUptoRow : OpenClaim := { program := "ytiainckeakhccaa", sum := "bbf37298eb7a7ce869cd7615635ed18e076a2326eef2083122fca4e0941d484d", func := "hopper/hopperlaw04.BitmapReads", spec := "bitmapReads", unfollowed := true, recurses := true, apart := false, narrowed := true }
def BitmapReadsUptoSaid : Prop := bitmapReadsUptoRow.holds Try.pinned (OpenSpec.upto bitmapReadsSpec)

/-- 'hopperlaw04.BitmapCounts', WHERE WHAT IT READS IS OF BULK AT MOST 1048576: true; the input reads as it did. -/
def bitmapCountsUptoRow : OpenClaim := { program := "ytiainckeakhccaa", sum := "bbf37298eb7a7ce869cd7615635ed18e076a2326eef2083122fca4e0941d484d", func := "hopper/hopperlaw04.BitmapCounts", spec := "bitmapCounts", unfollowed := true, recurses := true, apart := false, narrowed := true }
def BitmapCountsUptoSaid : Prop := bitmapCountsUptoRow.holds Try.pinned (OpenSpec.upto bitmapCountsSpec)

/-- 'hopperlaw04.BitmapRules', WHERE WHAT IT READS IS OF BULK AT MOST 1048576: true; the input reads as it did. -/
def bitmapRulesUptoRow : OpenClaim := { program := "ytiainckeakhccaa", sum := "bbf37298eb7a7ce869cd7615635ed18e076a2326eef2083122fca4e0941d484d", func := "hopper/hopperlaw04.BitmapRules", spec := "bitmapRules", unfollowed := true, recurses := true, apart := false, narrowed := true }
def BitmapRulesUptoSaid : Prop := bitmapRulesUptoRow.holds Try.pinned (OpenSpec.upto bitmapRulesSpec)

/-- 'hopperlaw04.BitmapKeeps', WHERE WHAT IT READS IS OF BULK AT MOST 1048576: true; the input reads as it did. -/
def bitmapKeepsUptoRow : OpenClaim := { program := "ytiainckeakhccaa", sum := "bbf37298eb7a7ce869cd7615635ed18e076a2326eef2083122fca4e0941d484d", func := "hopper/hopperlaw04.BitmapKeeps", spec := "bitmapKeeps", unfollowed := true, recurses := true, apart := false, narrowed := true }
def BitmapKeepsUptoSaid : Prop := bitmapKeepsUptoRow.holds Try.pinned (OpenSpec.upto bitmapKeepsSpec)

end Rows
end Go.Proofs.Ytiainckeakhccaa
