/-
  No cell of these rows narrows 'for every input' (looked for: loops, veiled, ifaces, maps, wideKeys, modest, calm, conditions, laid).
  DERIVED. THE GIVEN ROWS OF THIS SEAT. 5 by the template 'for every input the law returns true; each argument reads behind the call as it read before'; 0 by the template 'total and deterministic' (their statements: YtjfecojdagmacaaGreatTotals.lean).
  GIVEN WITH THE SEED: the statements are not yours to turn. If you find one false, say at which input.
  Laid BY PROGRAM, IN A SANDBOX (cutbox-rows.mjs): the forced cells as the released guide's own fill.sh prints them over the translation 4ac2eefa79ae260d… (all of the seat's roots in one cut). By AI agents, Wed Nov 11 2026. No macro, syntax, notation, axiom, sorry.
-/
import Derived.Test.YtjfecojdagmacaaGreatChecked
import GoSem.Claim
import GoSem.ClaimJoined
import GoSem.ClaimMapViews
import Derived.JoinedTies
import Derived.KernelRfl
namespace Go.Proofs.YtjfecojdagmacaaGreat
/- THE CELL 'sum', in the pinned program and in every row, IS THE sha256 OF THE DUMP (.gsa) THAT YtjfecojdagmacaaGreatProg.lean LOADS. Nothing in Lean hashes anything: it is a label: what it is worth is what the hold of that sum in a sandbox is worth. -/
noncomputable def Tryz.pinned : Pinned := { name := "ytjfecojdagmacaagreat", sum := "4ac2eefa79ae260d3e88690a715602611cc81112a98669ce523e7dbef83d6263", checked := Tryz.checked }
namespace Rows
def none {H : Type} : Left H := { results := [], args := [] }

/-- 'hopperlaw19.CatalogActs': WHATEVER THE INPUT: true; the input reads as it did. -/
def catalogActsSpec : ChangeSpec := { name := "catalogActs", fn := fun _ => fun
  | [d] => { results := [.lit (.bool true)], args := [d] }
  | _ => none }
def catalogActsRow : OpenClaim := { program := "ytjfecojdagmacaagreat", sum := "4ac2eefa79ae260d3e88690a715602611cc81112a98669ce523e7dbef83d6263", func := "hopper/hopperlaw19.CatalogActs", spec := "catalogActs", unfollowed := true, recurses := true, apart := false }
def CatalogActsSaid : Prop := catalogActsRow.holds Tryz.pinned (OpenSpec.ofChange catalogActsSpec)

/-- ITS FALSE NEIGHBOUR: 'it returns false'. Refute it at one input. -/
def catalogActsWrong : ChangeSpec := { name := "catalogActs", fn := fun _ => fun
  | [d] => { results := [.lit (.bool false)], args := [d] }
  | _ => none }
def CatalogActsWrongFalsely : Prop := catalogActsRow.holds Tryz.pinned (OpenSpec.ofChange catalogActsWrong)

/-- 'hopperlaw19.CatalogBack': WHATEVER THE INPUT: true; the input reads as it did. -/
def catalogBackSpec : ChangeSpec := { name := "catalogBack", fn := fun _ => fun
  | [d1, d2] => { results := [.lit (.bool true)], args := [d1, d2] }
  | _ => none }
def catalogBackRow : OpenClaim := { program := "ytjfecojdagmacaagreat", sum := "4ac2eefa79ae260d3e88690a715602611cc81112a98669ce523e7dbef83d6263", func := "hopper/hopperlaw19.CatalogBack", spec := "catalogBack", inPlace := ["internal/bytealg.MakeNoZero"], unfollowed := true, recurses := true, apart := false }
def CatalogBackSaid : Prop := catalogBackRow.holds Tryz.pinned (OpenSpec.ofChange catalogBackSpec)

/-- ITS FALSE NEIGHBOUR: 'it returns false'. Refute it at one input. -/
def catalogBackWrong : ChangeSpec := { name := "catalogBack", fn := fun _ => fun
  | [d1, d2] => { results := [.lit (.bool false)], args := [d1, d2] }
  | _ => none }
def CatalogBackWrongFalsely : Prop := catalogBackRow.holds Tryz.pinned (OpenSpec.ofChange catalogBackWrong)

/-- 'hopperlaw19.CatalogLoads': WHATEVER THE INPUT: true; the input reads as it did. -/
def catalogLoadsSpec : ChangeSpec := { name := "catalogLoads", fn := fun _ => fun
  | [d1, d2] => { results := [.lit (.bool true)], args := [d1, d2] }
  | _ => none }
def catalogLoadsRow : OpenClaim := { program := "ytjfecojdagmacaagreat", sum := "4ac2eefa79ae260d3e88690a715602611cc81112a98669ce523e7dbef83d6263", func := "hopper/hopperlaw19.CatalogLoads", spec := "catalogLoads", unfollowed := true, recurses := true, apart := false }
def CatalogLoadsSaid : Prop := catalogLoadsRow.holds Tryz.pinned (OpenSpec.ofChange catalogLoadsSpec)

/-- ITS FALSE NEIGHBOUR: 'it returns false'. Refute it at one input. -/
def catalogLoadsWrong : ChangeSpec := { name := "catalogLoads", fn := fun _ => fun
  | [d1, d2] => { results := [.lit (.bool false)], args := [d1, d2] }
  | _ => none }
def CatalogLoadsWrongFalsely : Prop := catalogLoadsRow.holds Tryz.pinned (OpenSpec.ofChange catalogLoadsWrong)

/-- 'hopperlaw19.CatalogNames': WHATEVER THE INPUT: true; the input reads as it did. -/
def catalogNamesSpec : ChangeSpec := { name := "catalogNames", fn := fun _ => fun
  | [d1, d2] => { results := [.lit (.bool true)], args := [d1, d2] }
  | _ => none }
def catalogNamesRow : OpenClaim := { program := "ytjfecojdagmacaagreat", sum := "4ac2eefa79ae260d3e88690a715602611cc81112a98669ce523e7dbef83d6263", func := "hopper/hopperlaw19.CatalogNames", spec := "catalogNames", unfollowed := true, recurses := true, apart := false }
def CatalogNamesSaid : Prop := catalogNamesRow.holds Tryz.pinned (OpenSpec.ofChange catalogNamesSpec)

/-- ITS FALSE NEIGHBOUR: 'it returns false'. Refute it at one input. -/
def catalogNamesWrong : ChangeSpec := { name := "catalogNames", fn := fun _ => fun
  | [d1, d2] => { results := [.lit (.bool false)], args := [d1, d2] }
  | _ => none }
def CatalogNamesWrongFalsely : Prop := catalogNamesRow.holds Tryz.pinned (OpenSpec.ofChange catalogNamesWrong)

/-- 'hopperlaw19.CatalogKeeps': WHATEVER THE INPUT: true; the input reads as it did. -/
def catalogKeepsSpec : ChangeSpec := { name := "catalogKeeps", fn := fun _ => fun
  | [d] => { results := [.lit (.bool true)], args := [d] }
  | _ => none }
def catalogKeepsRow : OpenClaim := { program := "ytjfecojdagmacaagreat", sum := "4ac2eefa79ae260d3e88690a715602611cc81112a98669ce523e7dbef83d6263", func := "hopper/hopperlaw19.CatalogKeeps", spec := "catalogKeeps", inPlace := ["internal/bytealg.MakeNoZero"], unfollowed := true, recurses := true, apart := false }
def CatalogKeepsSaid : Prop := catalogKeepsRow.holds Tryz.pinned (OpenSpec.ofChange catalogKeepsSpec)

/-- ITS FALSE NEIGHBOUR: 'it returns false'. Refute it at one input. -/
def catalogKeepsWrong : ChangeSpec := { name := "catalogKeeps", fn := fun _ => fun
  | [d] => { results := [.lit (.bool false)], args := [d] }
  | _ => none }
def CatalogKeepsWrongFalsely : Prop := catalogKeepsRow.holds Tryz.pinned (OpenSpec.ofChange catalogKeepsWrong)

/- THE SECOND FORM. 'bulk': how many values and letters a reading holds, each counted each time it is reached (what is shared counts as often as it is met; a slice's spare places count too). A statement '..UptoSaid' is the law's where the arguments, and the package variables that the reading takes, are together of bulk at most 1048576: NARROWER than '..Said'. Prove '..Said' where nothing that the law and all that it calls make is longer than what came in: it says more and counts as full. Else prove '..UptoSaid'. A law counts once. -/
mutual
def uptoBulk {H : Type} : DataW H → Nat
  | .lit (.string bytes) => bytes.length + 1
  | .lit _ => 1
  | .nil => 1
  | .ptr d => uptoBulk d + 1
  | .slice elems spare => uptoBulkAll elems + uptoBulkAll spare + 1
  | .agg parts => uptoBulkAll parts + 1
  | .iface _ d => uptoBulk d + 1
  | .map entries => uptoBulkEntries entries + 1
  | .held _ => 1
def uptoBulkAll {H : Type} : List (DataW H) → Nat
  | [] => 0
  | d :: r => uptoBulk d + uptoBulkAll r
def uptoBulkEntries {H : Type} : List (Lit × DataW H) → Nat
  | [] => 0
  | x :: r => uptoBulkEntry x + uptoBulkEntries r
def uptoBulkEntry {H : Type} : Lit × DataW H → Nat
  | (.string bytes, d) => bytes.length + uptoBulk d + 1
  | (_, d) => uptoBulk d + 1
 end
def uptoSmall : (H : Type) → List (DataW H) → Bool := fun _ ds => decide (uptoBulkAll ds ≤ 1048576)
def OpenSpec.upto (s : _root_.Go.ChangeSpec) : _root_.Go.OpenSpec := { _root_.Go.OpenSpec.ofChange s with cond := some uptoSmall }

/-- 'hopperlaw19.CatalogActs', WHERE WHAT IT READS IS OF BULK AT MOST 1048576: true; the input reads as it did. -/
def catalogActsUptoRow : OpenClaim := { program := "ytjfecojdagmacaagreat", sum := "4ac2eefa79ae260d3e88690a715602611cc81112a98669ce523e7dbef83d6263", func := "hopper/hopperlaw19.CatalogActs", spec := "catalogActs", unfollowed := true, recurses := true, apart := false, narrowed := true }
def CatalogActsUptoSaid : Prop := catalogActsUptoRow.holds Tryz.pinned (OpenSpec.upto catalogActsSpec)

/-- 'hopperlaw19.CatalogBack', WHERE WHAT IT READS IS OF BULK AT MOST 1048576: true; the input reads as it did. -/
def catalogBackUptoRow : OpenClaim := { program := "ytjfecojdagmacaagreat", sum := "4ac2eefa79ae260d3e88690a715602611cc81112a98669ce523e7dbef83d6263", func := "hopper/hopperlaw19.CatalogBack", spec := "catalogBack", inPlace := ["internal/bytealg.MakeNoZero"], unfollowed := true, recurses := true, apart := false, narrowed := true }
def CatalogBackUptoSaid : Prop := catalogBackUptoRow.holds Tryz.pinned (OpenSpec.upto catalogBackSpec)

/-- 'hopperlaw19.CatalogLoads', WHERE WHAT IT READS IS OF BULK AT MOST 1048576: true; the input reads as it did. -/
def catalogLoadsUptoRow : OpenClaim := { program := "ytjfecojdagmacaagreat", sum := "4ac2eefa79ae260d3e88690a715602611cc81112a98669ce523e7dbef83d6263", func := "hopper/hopperlaw19.CatalogLoads", spec := "catalogLoads", unfollowed := true, recurses := true, apart := false, narrowed := true }
def CatalogLoadsUptoSaid : Prop := catalogLoadsUptoRow.holds Tryz.pinned (OpenSpec.upto catalogLoadsSpec)

/-- 'hopperlaw19.CatalogNames', WHERE WHAT IT READS IS OF BULK AT MOST 1048576: true; the input reads as it did. -/
def catalogNamesUptoRow : OpenClaim := { program := "ytjfecojdagmacaagreat", sum := "4ac2eefa79ae260d3e88690a715602611cc81112a98669ce523e7dbef83d6263", func := "hopper/hopperlaw19.CatalogNames", spec := "catalogNames", unfollowed := true, recurses := true, apart := false, narrowed := true }
def CatalogNamesUptoSaid : Prop := catalogNamesUptoRow.holds Tryz.pinned (OpenSpec.upto catalogNamesSpec)

/-- 'hopperlaw19.CatalogKeeps', WHERE WHAT IT READS IS OF BULK AT MOST 1048576: true; the input reads as it did. -/
def catalogKeepsUptoRow : OpenClaim := { program := "ytjfecojdagmacaagreat", sum := "4ac2eefa79ae260d3e88690a715602611cc81112a98669ce523e7dbef83d6263", func := "hopper/hopperlaw19.CatalogKeeps", spec := "catalogKeeps", inPlace := ["internal/bytealg.MakeNoZero"], unfollowed := true, recurses := true, apart := false, narrowed := true }
def CatalogKeepsUptoSaid : Prop := catalogKeepsUptoRow.holds Tryz.pinned (OpenSpec.upto catalogKeepsSpec)

end Rows
end Go.Proofs.YtjfecojdagmacaaGreat
