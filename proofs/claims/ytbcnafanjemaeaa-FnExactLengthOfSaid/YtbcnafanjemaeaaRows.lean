/-
  No cell of these rows narrows 'for every input' (looked for: loops, veiled, ifaces, maps, wideKeys, modest, calm, conditions, laid).
  DERIVED. THE GIVEN ROWS OF THIS SEAT. 12 by the template 'for every input the law returns true; each argument reads behind the call as it read before'; 0 by the template 'total and deterministic' (their statements: YtbcnafanjemaeaaTotals.lean).
  GIVEN WITH THE SEED: the statements are not yours to turn. If you find one false, say at which input.
  Laid BY PROGRAM, IN A SANDBOX (cutbox-rows.mjs): the forced cells as the released guide's own fill.sh prints them over the translation c784710b0da72463… (all of the seat's roots in one cut). By AI agents, Wed Nov 11 2026. No macro, syntax, notation, axiom, sorry.
-/
import Derived.Test.YtbcnafanjemaeaaChecked
import GoSem.Claim
import GoSem.ClaimJoined
import GoSem.ClaimMapViews
import Derived.JoinedTies
import Derived.KernelRfl
namespace Go.Proofs.Ytbcnafanjemaeaa
/- THE CELL 'sum', in the pinned program and in every row, IS THE sha256 OF THE DUMP (.gsa) THAT YtbcnafanjemaeaaProg.lean LOADS. Nothing in Lean hashes anything: it is a label: what it is worth is what the hold of that sum in a sandbox is worth. -/
noncomputable def Try.pinned : Pinned := { name := "ytbcnafanjemaeaa", sum := "c784710b0da7246377abebf731067f232ff620827f60e0485d34724ac3d83332", checked := Try.checked }
namespace Rows
def none {H : Type} : Left H := { results := [], args := [] }

/-- 'laws.FnExactCodeName': WHATEVER THE INPUT: true; the input reads as it did. -/
def fnExactCodeNameSpec : ChangeSpec := { name := "fnExactCodeName", fn := fun _ => fun
  | [d] => { results := [.lit (.bool true)], args := [d] }
  | _ => none }
def fnExactCodeNameRow : OpenClaim := { program := "ytbcnafanjemaeaa", sum := "c784710b0da7246377abebf731067f232ff620827f60e0485d34724ac3d83332", func := "loop.example/g01204/laws.FnExactCodeName", spec := "fnExactCodeName", apart := false }
def FnExactCodeNameSaid : Prop := fnExactCodeNameRow.holds Try.pinned (OpenSpec.ofChange fnExactCodeNameSpec)

/-- ITS FALSE NEIGHBOUR: 'it returns false'. Refute it at one input. -/
def fnExactCodeNameWrong : ChangeSpec := { name := "fnExactCodeName", fn := fun _ => fun
  | [d] => { results := [.lit (.bool false)], args := [d] }
  | _ => none }
def FnExactCodeNameWrongFalsely : Prop := fnExactCodeNameRow.holds Try.pinned (OpenSpec.ofChange fnExactCodeNameWrong)

/-- 'laws.FnExactSameNumber': WHATEVER THE INPUT: true; the input reads as it did. -/
def fnExactSameNumberSpec : ChangeSpec := { name := "fnExactSameNumber", fn := fun _ => fun
  | [d1, d2] => { results := [.lit (.bool true)], args := [d1, d2] }
  | _ => none }
def fnExactSameNumberRow : OpenClaim := { program := "ytbcnafanjemaeaa", sum := "c784710b0da7246377abebf731067f232ff620827f60e0485d34724ac3d83332", func := "loop.example/g01204/laws.FnExactSameNumber", spec := "fnExactSameNumber", inPlace := ["math.Float32bits"], apart := false }
def FnExactSameNumberSaid : Prop := fnExactSameNumberRow.holds Try.pinned (OpenSpec.ofChange fnExactSameNumberSpec)

/-- ITS FALSE NEIGHBOUR: 'it returns false'. Refute it at one input. -/
def fnExactSameNumberWrong : ChangeSpec := { name := "fnExactSameNumber", fn := fun _ => fun
  | [d1, d2] => { results := [.lit (.bool false)], args := [d1, d2] }
  | _ => none }
def FnExactSameNumberWrongFalsely : Prop := fnExactSameNumberRow.holds Try.pinned (OpenSpec.ofChange fnExactSameNumberWrong)

/-- 'laws.FnExactIsFiniteVec': WHATEVER THE INPUT: true; the input reads as it did. -/
def fnExactIsFiniteVecSpec : ChangeSpec := { name := "fnExactIsFiniteVec", fn := fun _ => fun
  | [d] => { results := [.lit (.bool true)], args := [d] }
  | _ => none }
def fnExactIsFiniteVecRow : OpenClaim := { program := "ytbcnafanjemaeaa", sum := "c784710b0da7246377abebf731067f232ff620827f60e0485d34724ac3d83332", func := "loop.example/g01204/laws.FnExactIsFiniteVec", spec := "fnExactIsFiniteVec", inPlace := ["math.Float64bits", "math.Float64frombits"], apart := false }
def FnExactIsFiniteVecSaid : Prop := fnExactIsFiniteVecRow.holds Try.pinned (OpenSpec.ofChange fnExactIsFiniteVecSpec)

/-- ITS FALSE NEIGHBOUR: 'it returns false'. Refute it at one input. -/
def fnExactIsFiniteVecWrong : ChangeSpec := { name := "fnExactIsFiniteVec", fn := fun _ => fun
  | [d] => { results := [.lit (.bool false)], args := [d] }
  | _ => none }
def FnExactIsFiniteVecWrongFalsely : Prop := fnExactIsFiniteVecRow.holds Try.pinned (OpenSpec.ofChange fnExactIsFiniteVecWrong)

/-- 'laws.FnExactSameVec': WHATEVER THE INPUT: true; the input reads as it did. -/
def fnExactSameVecSpec : ChangeSpec := { name := "fnExactSameVec", fn := fun _ => fun
  | [d1, d2] => { results := [.lit (.bool true)], args := [d1, d2] }
  | _ => none }
def fnExactSameVecRow : OpenClaim := { program := "ytbcnafanjemaeaa", sum := "c784710b0da7246377abebf731067f232ff620827f60e0485d34724ac3d83332", func := "loop.example/g01204/laws.FnExactSameVec", spec := "fnExactSameVec", inPlace := ["math.Float32bits"], apart := false }
def FnExactSameVecSaid : Prop := fnExactSameVecRow.holds Try.pinned (OpenSpec.ofChange fnExactSameVecSpec)

/-- ITS FALSE NEIGHBOUR: 'it returns false'. Refute it at one input. -/
def fnExactSameVecWrong : ChangeSpec := { name := "fnExactSameVec", fn := fun _ => fun
  | [d1, d2] => { results := [.lit (.bool false)], args := [d1, d2] }
  | _ => none }
def FnExactSameVecWrongFalsely : Prop := fnExactSameVecRow.holds Try.pinned (OpenSpec.ofChange fnExactSameVecWrong)

/-- 'laws.FnExactAddVec': WHATEVER THE INPUT: true; the input reads as it did. -/
def fnExactAddVecSpec : ChangeSpec := { name := "fnExactAddVec", fn := fun _ => fun
  | [d1, d2] => { results := [.lit (.bool true)], args := [d1, d2] }
  | _ => none }
def fnExactAddVecRow : OpenClaim := { program := "ytbcnafanjemaeaa", sum := "c784710b0da7246377abebf731067f232ff620827f60e0485d34724ac3d83332", func := "loop.example/g01204/laws.FnExactAddVec", spec := "fnExactAddVec", apart := false }
def FnExactAddVecSaid : Prop := fnExactAddVecRow.holds Try.pinned (OpenSpec.ofChange fnExactAddVecSpec)

/-- ITS FALSE NEIGHBOUR: 'it returns false'. Refute it at one input. -/
def fnExactAddVecWrong : ChangeSpec := { name := "fnExactAddVec", fn := fun _ => fun
  | [d1, d2] => { results := [.lit (.bool false)], args := [d1, d2] }
  | _ => none }
def FnExactAddVecWrongFalsely : Prop := fnExactAddVecRow.holds Try.pinned (OpenSpec.ofChange fnExactAddVecWrong)

/-- 'laws.FnExactSubVec': WHATEVER THE INPUT: true; the input reads as it did. -/
def fnExactSubVecSpec : ChangeSpec := { name := "fnExactSubVec", fn := fun _ => fun
  | [d1, d2] => { results := [.lit (.bool true)], args := [d1, d2] }
  | _ => none }
def fnExactSubVecRow : OpenClaim := { program := "ytbcnafanjemaeaa", sum := "c784710b0da7246377abebf731067f232ff620827f60e0485d34724ac3d83332", func := "loop.example/g01204/laws.FnExactSubVec", spec := "fnExactSubVec", apart := false }
def FnExactSubVecSaid : Prop := fnExactSubVecRow.holds Try.pinned (OpenSpec.ofChange fnExactSubVecSpec)

/-- ITS FALSE NEIGHBOUR: 'it returns false'. Refute it at one input. -/
def fnExactSubVecWrong : ChangeSpec := { name := "fnExactSubVec", fn := fun _ => fun
  | [d1, d2] => { results := [.lit (.bool false)], args := [d1, d2] }
  | _ => none }
def FnExactSubVecWrongFalsely : Prop := fnExactSubVecRow.holds Try.pinned (OpenSpec.ofChange fnExactSubVecWrong)

/-- 'laws.FnExactScaleVec': WHATEVER THE INPUT: true; the input reads as it did. -/
def fnExactScaleVecSpec : ChangeSpec := { name := "fnExactScaleVec", fn := fun _ => fun
  | [d1, d2] => { results := [.lit (.bool true)], args := [d1, d2] }
  | _ => none }
def fnExactScaleVecRow : OpenClaim := { program := "ytbcnafanjemaeaa", sum := "c784710b0da7246377abebf731067f232ff620827f60e0485d34724ac3d83332", func := "loop.example/g01204/laws.FnExactScaleVec", spec := "fnExactScaleVec", apart := false }
def FnExactScaleVecSaid : Prop := fnExactScaleVecRow.holds Try.pinned (OpenSpec.ofChange fnExactScaleVecSpec)

/-- ITS FALSE NEIGHBOUR: 'it returns false'. Refute it at one input. -/
def fnExactScaleVecWrong : ChangeSpec := { name := "fnExactScaleVec", fn := fun _ => fun
  | [d1, d2] => { results := [.lit (.bool false)], args := [d1, d2] }
  | _ => none }
def FnExactScaleVecWrongFalsely : Prop := fnExactScaleVecRow.holds Try.pinned (OpenSpec.ofChange fnExactScaleVecWrong)

/-- 'laws.FnExactDotVec': WHATEVER THE INPUT: true; the input reads as it did. -/
def fnExactDotVecSpec : ChangeSpec := { name := "fnExactDotVec", fn := fun _ => fun
  | [d1, d2] => { results := [.lit (.bool true)], args := [d1, d2] }
  | _ => none }
def fnExactDotVecRow : OpenClaim := { program := "ytbcnafanjemaeaa", sum := "c784710b0da7246377abebf731067f232ff620827f60e0485d34724ac3d83332", func := "loop.example/g01204/laws.FnExactDotVec", spec := "fnExactDotVec", apart := false }
def FnExactDotVecSaid : Prop := fnExactDotVecRow.holds Try.pinned (OpenSpec.ofChange fnExactDotVecSpec)

/-- ITS FALSE NEIGHBOUR: 'it returns false'. Refute it at one input. -/
def fnExactDotVecWrong : ChangeSpec := { name := "fnExactDotVec", fn := fun _ => fun
  | [d1, d2] => { results := [.lit (.bool false)], args := [d1, d2] }
  | _ => none }
def FnExactDotVecWrongFalsely : Prop := fnExactDotVecRow.holds Try.pinned (OpenSpec.ofChange fnExactDotVecWrong)

/-- 'laws.FnExactCrossVec': WHATEVER THE INPUT: true; the input reads as it did. -/
def fnExactCrossVecSpec : ChangeSpec := { name := "fnExactCrossVec", fn := fun _ => fun
  | [d1, d2] => { results := [.lit (.bool true)], args := [d1, d2] }
  | _ => none }
def fnExactCrossVecRow : OpenClaim := { program := "ytbcnafanjemaeaa", sum := "c784710b0da7246377abebf731067f232ff620827f60e0485d34724ac3d83332", func := "loop.example/g01204/laws.FnExactCrossVec", spec := "fnExactCrossVec", apart := false }
def FnExactCrossVecSaid : Prop := fnExactCrossVecRow.holds Try.pinned (OpenSpec.ofChange fnExactCrossVecSpec)

/-- ITS FALSE NEIGHBOUR: 'it returns false'. Refute it at one input. -/
def fnExactCrossVecWrong : ChangeSpec := { name := "fnExactCrossVec", fn := fun _ => fun
  | [d1, d2] => { results := [.lit (.bool false)], args := [d1, d2] }
  | _ => none }
def FnExactCrossVecWrongFalsely : Prop := fnExactCrossVecRow.holds Try.pinned (OpenSpec.ofChange fnExactCrossVecWrong)

/-- 'laws.FnExactLengthOf': WHATEVER THE INPUT: true; the input reads as it did. -/
def fnExactLengthOfSpec : ChangeSpec := { name := "fnExactLengthOf", fn := fun _ => fun
  | [d] => { results := [.lit (.bool true)], args := [d] }
  | _ => none }
def fnExactLengthOfRow : OpenClaim := { program := "ytbcnafanjemaeaa", sum := "c784710b0da7246377abebf731067f232ff620827f60e0485d34724ac3d83332", func := "loop.example/g01204/laws.FnExactLengthOf", spec := "fnExactLengthOf", inPlace := ["math.sqrt"], apart := false }
def FnExactLengthOfSaid : Prop := fnExactLengthOfRow.holds Try.pinned (OpenSpec.ofChange fnExactLengthOfSpec)

/-- ITS FALSE NEIGHBOUR: 'it returns false'. Refute it at one input. -/
def fnExactLengthOfWrong : ChangeSpec := { name := "fnExactLengthOf", fn := fun _ => fun
  | [d] => { results := [.lit (.bool false)], args := [d] }
  | _ => none }
def FnExactLengthOfWrongFalsely : Prop := fnExactLengthOfRow.holds Try.pinned (OpenSpec.ofChange fnExactLengthOfWrong)

/-- 'laws.FnExactUnitOf': WHATEVER THE INPUT: true; the input reads as it did. -/
def fnExactUnitOfSpec : ChangeSpec := { name := "fnExactUnitOf", fn := fun _ => fun
  | [d] => { results := [.lit (.bool true)], args := [d] }
  | _ => none }
def fnExactUnitOfRow : OpenClaim := { program := "ytbcnafanjemaeaa", sum := "c784710b0da7246377abebf731067f232ff620827f60e0485d34724ac3d83332", func := "loop.example/g01204/laws.FnExactUnitOf", spec := "fnExactUnitOf", inPlace := ["math.sqrt", "math.Float64bits", "math.Float64frombits"], apart := false }
def FnExactUnitOfSaid : Prop := fnExactUnitOfRow.holds Try.pinned (OpenSpec.ofChange fnExactUnitOfSpec)

/-- ITS FALSE NEIGHBOUR: 'it returns false'. Refute it at one input. -/
def fnExactUnitOfWrong : ChangeSpec := { name := "fnExactUnitOf", fn := fun _ => fun
  | [d] => { results := [.lit (.bool false)], args := [d] }
  | _ => none }
def FnExactUnitOfWrongFalsely : Prop := fnExactUnitOfRow.holds Try.pinned (OpenSpec.ofChange fnExactUnitOfWrong)

/-- 'laws.FnExactAreNear': WHATEVER THE INPUT: true; the input reads as it did. -/
def fnExactAreNearSpec : ChangeSpec := { name := "fnExactAreNear", fn := fun _ => fun
  | [d1, d2, d3] => { results := [.lit (.bool true)], args := [d1, d2, d3] }
  | _ => none }
def fnExactAreNearRow : OpenClaim := { program := "ytbcnafanjemaeaa", sum := "c784710b0da7246377abebf731067f232ff620827f60e0485d34724ac3d83332", func := "loop.example/g01204/laws.FnExactAreNear", spec := "fnExactAreNear", inPlace := ["math.Float32bits", "math.Float32frombits", "math.Float64bits", "math.Float64frombits"], apart := false }
def FnExactAreNearSaid : Prop := fnExactAreNearRow.holds Try.pinned (OpenSpec.ofChange fnExactAreNearSpec)

/-- ITS FALSE NEIGHBOUR: 'it returns false'. Refute it at one input. -/
def fnExactAreNearWrong : ChangeSpec := { name := "fnExactAreNear", fn := fun _ => fun
  | [d1, d2, d3] => { results := [.lit (.bool false)], args := [d1, d2, d3] }
  | _ => none }
def FnExactAreNearWrongFalsely : Prop := fnExactAreNearRow.holds Try.pinned (OpenSpec.ofChange fnExactAreNearWrong)

/- THE SECOND FORM. 'bulk': how many values and letters a reading holds, each counted each time it is reached (what is shared counts as often as it is met; a slice's spare places count too). A statement '..UptoSaid' is the law's where the arguments, and the package variables that the reading takes, are together of bulk at most 1048576: NARROWER than '..Said'. Prove '..Said' where nothing that the law and all that it calls make is longer than what came in: it says more and counts as full. Else prove '..UptoSaid'. A law counts once. -/
mutual
def uptoBulk {H : Type} : DataW H → Nat
  | .lit (.string bytes) => bytes.length + 1
  | .lit _ => 1
  | .nil => 1
  | .ptr d => uptoBulk d + 1
  | .slice elems spare => uptoBulkAll elems + uptoBulkAll spare + 1
  | .agg parts => uptoBulkAll parts + 1
  | .iface _ d => uptoBulk d + 1
  | .map entries => uptoBulkEntries entries + 1
  | .held _ => 1
def uptoBulkAll {H : Type} : List (DataW H) → Nat
  | [] => 0
  | d :: r => uptoBulk d + uptoBulkAll r
def uptoBulkEntries {H : Type} : List (Lit × DataW H) → Nat
  | [] => 0
  | x :: r => uptoBulkEntry x + uptoBulkEntries r
def uptoBulkEntry {H : Type} : Lit × DataW H → Nat
  | (.string bytes, d) => bytes.length + uptoBulk d + 1
  | (_, d) => uptoBulk d + 1
 end
def uptoSmall : (H : Type) → List (DataW H) → Bool := fun _ ds => decide (uptoBulkAll ds ≤ 1048576)
def OpenSpec.upto (s : _root_.Go.ChangeSpec) : _root_.Go.OpenSpec := { _root_.Go.OpenSpec.ofChange s with cond := some uptoSmall }

/-- 'laws.FnExactCodeName', WHERE WHAT IT READS IS OF BULK AT MOST 1048576: true; the input reads as it did. -/
def fnExactCodeNameUptoRow : OpenClaim := { program := "ytbcnafanjemaeaa", sum := "c784710b0da7246377abebf731067f232ff620827f60e0485d34724ac3d83332", func := "loop.example/g01204/laws.FnExactCodeName", spec := "fnExactCodeName", apart := false, narrowed := true }
def FnExactCodeNameUptoSaid : Prop := fnExactCodeNameUptoRow.holds Try.pinned (OpenSpec.upto fnExactCodeNameSpec)

/-- 'laws.FnExactSameNumber', WHERE WHAT IT READS IS OF BULK AT MOST 1048576: true; the input reads as it did. -/
def fnExactSameNumberUptoRow : OpenClaim := { program := "ytbcnafanjemaeaa", sum := "c784710b0da7246377abebf731067f232ff620827f60e0485d34724ac3d83332", func := "loop.example/g01204/laws.FnExactSameNumber", spec := "fnExactSameNumber", inPlace := ["math.Float32bits"], apart := false, narrowed := true }
def FnExactSameNumberUptoSaid : Prop := fnExactSameNumberUptoRow.holds Try.pinned (OpenSpec.upto fnExactSameNumberSpec)

/-- 'laws.FnExactIsFiniteVec', WHERE WHAT IT READS IS OF BULK AT MOST 1048576: true; the input reads as it did. -/
def fnExactIsFiniteVecUptoRow : OpenClaim := { program := "ytbcnafanjemaeaa", sum := "c784710b0da7246377abebf731067f232ff620827f60e0485d34724ac3d83332", func := "loop.example/g01204/laws.FnExactIsFiniteVec", spec := "fnExactIsFiniteVec", inPlace := ["math.Float64bits", "math.Float64frombits"], apart := false, narrowed := true }
def FnExactIsFiniteVecUptoSaid : Prop := fnExactIsFiniteVecUptoRow.holds Try.pinned (OpenSpec.upto fnExactIsFiniteVecSpec)

/-- 'laws.FnExactSameVec', WHERE WHAT IT READS IS OF BULK AT MOST 1048576: true; the input reads as it did. -/
def fnExactSameVecUptoRow : OpenClaim := { program := "ytbcnafanjemaeaa", sum := "c784710b0da7246377abebf731067f232ff620827f60e0485d34724ac3d83332", func := "loop.example/g01204/laws.FnExactSameVec", spec := "fnExactSameVec", inPlace := ["math.Float32bits"], apart := false, narrowed := true }
def FnExactSameVecUptoSaid : Prop := fnExactSameVecUptoRow.holds Try.pinned (OpenSpec.upto fnExactSameVecSpec)

/-- 'laws.FnExactAddVec', WHERE WHAT IT READS IS OF BULK AT MOST 1048576: true; the input reads as it did. -/
def fnExactAddVecUptoRow : OpenClaim := { program := "ytbcnafanjemaeaa", sum := "c784710b0da7246377abebf731067f232ff620827f60e0485d34724ac3d83332", func := "loop.example/g01204/laws.FnExactAddVec", spec := "fnExactAddVec", apart := false, narrowed := true }
def FnExactAddVecUptoSaid : Prop := fnExactAddVecUptoRow.holds Try.pinned (OpenSpec.upto fnExactAddVecSpec)

/-- 'laws.FnExactSubVec', WHERE WHAT IT READS IS OF BULK AT MOST 1048576: true; the input reads as it did. -/
def fnExactSubVecUptoRow : OpenClaim := { program := "ytbcnafanjemaeaa", sum := "c784710b0da7246377abebf731067f232ff620827f60e0485d34724ac3d83332", func := "loop.example/g01204/laws.FnExactSubVec", spec := "fnExactSubVec", apart := false, narrowed := true }
def FnExactSubVecUptoSaid : Prop := fnExactSubVecUptoRow.holds Try.pinned (OpenSpec.upto fnExactSubVecSpec)

/-- 'laws.FnExactScaleVec', WHERE WHAT IT READS IS OF BULK AT MOST 1048576: true; the input reads as it did. -/
def fnExactScaleVecUptoRow : OpenClaim := { program := "ytbcnafanjemaeaa", sum := "c784710b0da7246377abebf731067f232ff620827f60e0485d34724ac3d83332", func := "loop.example/g01204/laws.FnExactScaleVec", spec := "fnExactScaleVec", apart := false, narrowed := true }
def FnExactScaleVecUptoSaid : Prop := fnExactScaleVecUptoRow.holds Try.pinned (OpenSpec.upto fnExactScaleVecSpec)

/-- 'laws.FnExactDotVec', WHERE WHAT IT READS IS OF BULK AT MOST 1048576: true; the input reads as it did. -/
def fnExactDotVecUptoRow : OpenClaim := { program := "ytbcnafanjemaeaa", sum := "c784710b0da7246377abebf731067f232ff620827f60e0485d34724ac3d83332", func := "loop.example/g01204/laws.FnExactDotVec", spec := "fnExactDotVec", apart := false, narrowed := true }
def FnExactDotVecUptoSaid : Prop := fnExactDotVecUptoRow.holds Try.pinned (OpenSpec.upto fnExactDotVecSpec)

/-- 'laws.FnExactCrossVec', WHERE WHAT IT READS IS OF BULK AT MOST 1048576: true; the input reads as it did. -/
def fnExactCrossVecUptoRow : OpenClaim := { program := "ytbcnafanjemaeaa", sum := "c784710b0da7246377abebf731067f232ff620827f60e0485d34724ac3d83332", func := "loop.example/g01204/laws.FnExactCrossVec", spec := "fnExactCrossVec", apart := false, narrowed := true }
def FnExactCrossVecUptoSaid : Prop := fnExactCrossVecUptoRow.holds Try.pinned (OpenSpec.upto fnExactCrossVecSpec)

/-- 'laws.FnExactLengthOf', WHERE WHAT IT READS IS OF BULK AT MOST 1048576: true; the input reads as it did. -/
def fnExactLengthOfUptoRow : OpenClaim := { program := "ytbcnafanjemaeaa", sum := "c784710b0da7246377abebf731067f232ff620827f60e0485d34724ac3d83332", func := "loop.example/g01204/laws.FnExactLengthOf", spec := "fnExactLengthOf", inPlace := ["math.sqrt"], apart := false, narrowed := true }
def FnExactLengthOfUptoSaid : Prop := fnExactLengthOfUptoRow.holds Try.pinned (OpenSpec.upto fnExactLengthOfSpec)

/-- 'laws.FnExactUnitOf', WHERE WHAT IT READS IS OF BULK AT MOST 1048576: true; the input reads as it did. -/
def fnExactUnitOfUptoRow : OpenClaim := { program := "ytbcnafanjemaeaa", sum := "c784710b0da7246377abebf731067f232ff620827f60e0485d34724ac3d83332", func := "loop.example/g01204/laws.FnExactUnitOf", spec := "fnExactUnitOf", inPlace := ["math.sqrt", "math.Float64bits", "math.Float64frombits"], apart := false, narrowed := true }
def FnExactUnitOfUptoSaid : Prop := fnExactUnitOfUptoRow.holds Try.pinned (OpenSpec.upto fnExactUnitOfSpec)

/-- 'laws.FnExactAreNear', WHERE WHAT IT READS IS OF BULK AT MOST 1048576: true; the input reads as it did. -/
def fnExactAreNearUptoRow : OpenClaim := { program := "ytbcnafanjemaeaa", sum := "c784710b0da7246377abebf731067f232ff620827f60e0485d34724ac3d83332", func := "loop.example/g01204/laws.FnExactAreNear", spec := "fnExactAreNear", inPlace := ["math.Float32bits", "math.Float32frombits", "math.Float64bits", "math.Float64frombits"], apart := false, narrowed := true }
def FnExactAreNearUptoSaid : Prop := fnExactAreNearUptoRow.holds Try.pinned (OpenSpec.upto fnExactAreNearSpec)

end Rows
end Go.Proofs.Ytbcnafanjemaeaa
