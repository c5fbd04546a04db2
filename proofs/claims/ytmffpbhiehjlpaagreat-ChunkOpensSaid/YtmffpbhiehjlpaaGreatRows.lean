/-
  No cell of these rows narrows 'for every input' (looked for: loops, veiled, ifaces, maps, wideKeys, modest, calm, conditions, laid).
  DERIVED. THE GIVEN ROWS OF THIS SEAT. 6 by the template 'for every input the law returns true; each argument reads behind the call as it read before'; 0 by the template 'total and deterministic' (their statements: YtmffpbhiehjlpaaGreatTotals.lean).
  GIVEN WITH THE SEED: the statements are not yours to turn. If you find one false, say at which input.
  Laid BY PROGRAM, IN A SANDBOX (cutbox-rows.mjs): the forced cells as the released guide's own fill.sh prints them over the translation 27fb6df15a23be91… (all of the seat's roots in one cut). By AI agents, Wed Nov 11 2026. No macro, syntax, notation, axiom, sorry.
-/
import Derived.Test.YtmffpbhiehjlpaaGreatChecked
import GoSem.Claim
import GoSem.ClaimJoined
import GoSem.ClaimMapViews
import Derived.JoinedTies
import Derived.KernelRfl
namespace Go.Proofs.YtmffpbhiehjlpaaGreat
/- THE CELL 'sum', in the pinned program and in every row, IS THE sha256 OF THE DUMP (.gsa) THAT YtmffpbhiehjlpaaGreatProg.lean LOADS. Nothing in Lean hashes anything: it is a label: what it is worth is what the hold of that sum in a sandbox is worth. -/
noncomputable def Tryz.pinned : Pinned := { name := "ytmffpbhiehjlpaagreat", sum := "27fb6df15a23be9153f8e3ee1f64947b51446610d8ce883c13c6343bc2d2c932", checked := Tryz.checked }
namespace Rows
def none {H : Type} : Left H := { results := [], args := [] }

/-- 'hopperlaw17.ChunkCodes': WHATEVER THE INPUT: true; the input reads as it did. -/
def chunkCodesSpec : ChangeSpec := { name := "chunkCodes", fn := fun _ => fun
  | [d1, d2] => { results := [.lit (.bool true)], args := [d1, d2] }
  | _ => none }
def chunkCodesRow : OpenClaim := { program := "ytmffpbhiehjlpaagreat", sum := "27fb6df15a23be9153f8e3ee1f64947b51446610d8ce883c13c6343bc2d2c932", func := "hopper/hopperlaw17.ChunkCodes", spec := "chunkCodes", inPlace := ["internal/bytealg.MakeNoZero"], unfollowed := true, recurses := true, apart := false }
def ChunkCodesSaid : Prop := chunkCodesRow.holds Tryz.pinned (OpenSpec.ofChange chunkCodesSpec)

/-- ITS FALSE NEIGHBOUR: 'it returns false'. Refute it at one input. -/
def chunkCodesWrong : ChangeSpec := { name := "chunkCodes", fn := fun _ => fun
  | [d1, d2] => { results := [.lit (.bool false)], args := [d1, d2] }
  | _ => none }
def ChunkCodesWrongFalsely : Prop := chunkCodesRow.holds Tryz.pinned (OpenSpec.ofChange chunkCodesWrong)

/-- 'hopperlaw17.ChunkBack': WHATEVER THE INPUT: true; the input reads as it did. -/
def chunkBackSpec : ChangeSpec := { name := "chunkBack", fn := fun _ => fun
  | [d1, d2, d3] => { results := [.lit (.bool true)], args := [d1, d2, d3] }
  | _ => none }
def chunkBackRow : OpenClaim := { program := "ytmffpbhiehjlpaagreat", sum := "27fb6df15a23be9153f8e3ee1f64947b51446610d8ce883c13c6343bc2d2c932", func := "hopper/hopperlaw17.ChunkBack", spec := "chunkBack", inPlace := ["internal/bytealg.MakeNoZero"], unfollowed := true, recurses := true, apart := false }
def ChunkBackSaid : Prop := chunkBackRow.holds Tryz.pinned (OpenSpec.ofChange chunkBackSpec)

/-- ITS FALSE NEIGHBOUR: 'it returns false'. Refute it at one input. -/
def chunkBackWrong : ChangeSpec := { name := "chunkBack", fn := fun _ => fun
  | [d1, d2, d3] => { results := [.lit (.bool false)], args := [d1, d2, d3] }
  | _ => none }
def ChunkBackWrongFalsely : Prop := chunkBackRow.holds Tryz.pinned (OpenSpec.ofChange chunkBackWrong)

/-- 'hopperlaw17.ChunkKinds': WHATEVER THE INPUT: true; the input reads as it did. -/
def chunkKindsSpec : ChangeSpec := { name := "chunkKinds", fn := fun _ => fun
  | [d1, d2, d3] => { results := [.lit (.bool true)], args := [d1, d2, d3] }
  | _ => none }
def chunkKindsRow : OpenClaim := { program := "ytmffpbhiehjlpaagreat", sum := "27fb6df15a23be9153f8e3ee1f64947b51446610d8ce883c13c6343bc2d2c932", func := "hopper/hopperlaw17.ChunkKinds", spec := "chunkKinds", inPlace := ["internal/bytealg.MakeNoZero"], unfollowed := true, recurses := true, apart := false }
def ChunkKindsSaid : Prop := chunkKindsRow.holds Tryz.pinned (OpenSpec.ofChange chunkKindsSpec)

/-- ITS FALSE NEIGHBOUR: 'it returns false'. Refute it at one input. -/
def chunkKindsWrong : ChangeSpec := { name := "chunkKinds", fn := fun _ => fun
  | [d1, d2, d3] => { results := [.lit (.bool false)], args := [d1, d2, d3] }
  | _ => none }
def ChunkKindsWrongFalsely : Prop := chunkKindsRow.holds Tryz.pinned (OpenSpec.ofChange chunkKindsWrong)

/-- 'hopperlaw17.ChunkOpens': WHATEVER THE INPUT: true; the input reads as it did. -/
def chunkOpensSpec : ChangeSpec := { name := "chunkOpens", fn := fun _ => fun
  | [d] => { results := [.lit (.bool true)], args := [d] }
  | _ => none }
def chunkOpensRow : OpenClaim := { program := "ytmffpbhiehjlpaagreat", sum := "27fb6df15a23be9153f8e3ee1f64947b51446610d8ce883c13c6343bc2d2c932", func := "hopper/hopperlaw17.ChunkOpens", spec := "chunkOpens", inPlace := ["internal/bytealg.MakeNoZero"], unfollowed := true, recurses := true, apart := false }
def ChunkOpensSaid : Prop := chunkOpensRow.holds Tryz.pinned (OpenSpec.ofChange chunkOpensSpec)

/-- ITS FALSE NEIGHBOUR: 'it returns false'. Refute it at one input. -/
def chunkOpensWrong : ChangeSpec := { name := "chunkOpens", fn := fun _ => fun
  | [d] => { results := [.lit (.bool false)], args := [d] }
  | _ => none }
def ChunkOpensWrongFalsely : Prop := chunkOpensRow.holds Tryz.pinned (OpenSpec.ofChange chunkOpensWrong)

/-- 'hopperlaw17.ChunkBest': WHATEVER THE INPUT: true; the input reads as it did. -/
def chunkBestSpec : ChangeSpec := { name := "chunkBest", fn := fun _ => fun
  | [d1, d2, d3] => { results := [.lit (.bool true)], args := [d1, d2, d3] }
  | _ => none }
def chunkBestRow : OpenClaim := { program := "ytmffpbhiehjlpaagreat", sum := "27fb6df15a23be9153f8e3ee1f64947b51446610d8ce883c13c6343bc2d2c932", func := "hopper/hopperlaw17.ChunkBest", spec := "chunkBest", inPlace := ["internal/bytealg.MakeNoZero"], unfollowed := true, recurses := true, apart := false }
def ChunkBestSaid : Prop := chunkBestRow.holds Tryz.pinned (OpenSpec.ofChange chunkBestSpec)

/-- ITS FALSE NEIGHBOUR: 'it returns false'. Refute it at one input. -/
def chunkBestWrong : ChangeSpec := { name := "chunkBest", fn := fun _ => fun
  | [d1, d2, d3] => { results := [.lit (.bool false)], args := [d1, d2, d3] }
  | _ => none }
def ChunkBestWrongFalsely : Prop := chunkBestRow.holds Tryz.pinned (OpenSpec.ofChange chunkBestWrong)

/-- 'hopperlaw17.ChunkKeeps': WHATEVER THE INPUT: true; the input reads as it did. -/
def chunkKeepsSpec : ChangeSpec := { name := "chunkKeeps", fn := fun _ => fun
  | [d1, d2] => { results := [.lit (.bool true)], args := [d1, d2] }
  | _ => none }
def chunkKeepsRow : OpenClaim := { program := "ytmffpbhiehjlpaagreat", sum := "27fb6df15a23be9153f8e3ee1f64947b51446610d8ce883c13c6343bc2d2c932", func := "hopper/hopperlaw17.ChunkKeeps", spec := "chunkKeeps", inPlace := ["internal/bytealg.MakeNoZero"], unfollowed := true, recurses := true, apart := false }
def ChunkKeepsSaid : Prop := chunkKeepsRow.holds Tryz.pinned (OpenSpec.ofChange chunkKeepsSpec)

/-- ITS FALSE NEIGHBOUR: 'it returns false'. Refute it at one input. -/
def chunkKeepsWrong : ChangeSpec := { name := "chunkKeeps", fn := fun _ => fun
  | [d1, d2] => { results := [.lit (.bool false)], args := [d1, d2] }
  | _ => none }
def ChunkKeepsWrongFalsely : Prop := chunkKeepsRow.holds Tryz.pinned (OpenSpec.ofChange chunkKeepsWrong)

/- THE SECOND FORM. 'bulk': how many values and letters a reading holds, each counted each time it is reached (what is shared counts as often as it is met; a slice's spare places count too). A statement '..UptoSaid' is the law's where the arguments, and the package variables that the reading takes, are together of bulk at most 1048576: NARROWER than '..Said'. Prove '..Said' where nothing that the law and all that it calls make is longer than what came in: it says more and counts as full. Else prove '..UptoSaid'. A law counts once. -/
mutual
def uptoBulk {H : Type} : DataW H → Nat
  | .lit (.string bytes) => bytes.length + 1
  | .lit _ => 1
  | .nil => 1
  | .ptr d => uptoBulk d + 1
  | .slice elems spare => uptoBulkAll elems + uptoBulkAll spare + 1
  | .agg parts => uptoBulkAll parts + 1
  | .iface _ d => uptoBulk d + 1
  | .map entries => uptoBulkEntries entries + 1
  | .held _ => 1
def uptoBulkAll {H : Type} : List (DataW H) → Nat
  | [] => 0
  | d :: r => uptoBulk d + uptoBulkAll r
def uptoBulkEntries {H : Type} : List (Lit × DataW H) → Nat
  | [] => 0
  | x :: r => uptoBulkEntry x + uptoBulkEntries r
def uptoBulkEntry {H : Type} : Lit × DataW H → Nat
  | (.string bytes, d) => bytes.length + uptoBulk d + 1
  | (_, d) => uptoBulk d + 1
 end
def uptoSmall : (H : Type) → List (DataW H) → Bool := fun _ ds => decide (uptoBulkAll ds ≤ 1048576)
def OpenSpec.upto (s : _root_.Go.ChangeSpec) : _root_.Go.OpenSpec := { _root_.Go.OpenSpec.ofChange s with cond := some uptoSmall }

/-- 'hopperlaw17.ChunkCodes', WHERE WHAT IT READS IS OF BULK AT MOST 1048576: true; the input reads as it did. -/
def chunkCodesUptoRow : OpenClaim := { program := "ytmffpbhiehjlpaagreat", sum := "27fb6df15a23be9153f8e3ee1f64947b51446610d8ce883c13c6343bc2d2c932", func := "hopper/hopperlaw17.ChunkCodes", spec := "chunkCodes", inPlace := ["internal/bytealg.MakeNoZero"], unfollowed := true, recurses := true, apart := false, narrowed := true }
def ChunkCodesUptoSaid : Prop := chunkCodesUptoRow.holds Tryz.pinned (OpenSpec.upto chunkCodesSpec)

/-- 'hopperlaw17.ChunkBack', WHERE WHAT IT READS IS OF BULK AT MOST 1048576: true; the input reads as it did. -/
def chunkBackUptoRow : OpenClaim := { program := "ytmffpbhiehjlpaagreat", sum := "27fb6df15a23be9153f8e3ee1f64947b51446610d8ce883c13c6343bc2d2c932", func := "hopper/hopperlaw17.ChunkBack", spec := "chunkBack", inPlace := ["internal/bytealg.MakeNoZero"], unfollowed := true, recurses := true, apart := false, narrowed := true }
def ChunkBackUptoSaid : Prop := chunkBackUptoRow.holds Tryz.pinned (OpenSpec.upto chunkBackSpec)

/-- 'hopperlaw17.ChunkKinds', WHERE WHAT IT READS IS OF BULK AT MOST 1048576: true; the input reads as it did. -/
def chunkKindsUptoRow : OpenClaim := { program := "ytmffpbhiehjlpaagreat", sum := "27fb6df15a23be9153f8e3ee1f64947b51446610d8ce883c13c6343bc2d2c932", func := "hopper/hopperlaw17.ChunkKinds", spec := "chunkKinds", inPlace := ["internal/bytealg.MakeNoZero"], unfollowed := true, recurses := true, apart := false, narrowed := true }
def ChunkKindsUptoSaid : Prop := chunkKindsUptoRow.holds Tryz.pinned (OpenSpec.upto chunkKindsSpec)

/-- 'hopperlaw17.ChunkOpens', WHERE WHAT IT READS IS OF BULK AT MOST 1048576: true; the input reads as it did. -/
def chunkOpensUptoRow : OpenClaim := { program := "ytmffpbhiehjlpaagreat", sum := "27fb6df15a23be9153f8e3ee1f64947b51446610d8ce883c13c6343bc2d2c932", func := "hopper/hopperlaw17.ChunkOpens", spec := "chunkOpens", inPlace := ["internal/bytealg.MakeNoZero"], unfollowed := true, recurses := true, apart := false, narrowed := true }
def ChunkOpensUptoSaid : Prop := chunkOpensUptoRow.holds Tryz.pinned (OpenSpec.upto chunkOpensSpec)

/-- 'hopperlaw17.ChunkBest', WHERE WHAT IT READS IS OF BULK AT MOST 1048576: true; the input reads as it did. -/
def chunkBestUptoRow : OpenClaim := { program := "ytmffpbhiehjlpaagreat", sum := "27fb6df15a23be9153f8e3ee1f64947b51446610d8ce883c13c6343bc2d2c932", func := "hopper/hopperlaw17.ChunkBest", spec := "chunkBest", inPlace := ["internal/bytealg.MakeNoZero"], unfollowed := true, recurses := true, apart := false, narrowed := true }
def ChunkBestUptoSaid : Prop := chunkBestUptoRow.holds Tryz.pinned (OpenSpec.upto chunkBestSpec)

/-- 'hopperlaw17.ChunkKeeps', WHERE WHAT IT READS IS OF BULK AT MOST 1048576: true; the input reads as it did. -/
def chunkKeepsUptoRow : OpenClaim := { program := "ytmffpbhiehjlpaagreat", sum := "27fb6df15a23be9153f8e3ee1f64947b51446610d8ce883c13c6343bc2d2c932", func := "hopper/hopperlaw17.ChunkKeeps", spec := "chunkKeeps", inPlace := ["internal/bytealg.MakeNoZero"], unfollowed := true, recurses := true, apart := false, narrowed := true }
def ChunkKeepsUptoSaid : Prop := chunkKeepsUptoRow.holds Tryz.pinned (OpenSpec.upto chunkKeepsSpec)

end Rows
end Go.Proofs.YtmffpbhiehjlpaaGreat
