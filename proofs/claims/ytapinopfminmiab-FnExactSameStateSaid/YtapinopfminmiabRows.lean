/-
  No cell of these rows narrows 'for every input' (looked for: loops, veiled, ifaces, maps, wideKeys, modest, calm, conditions, laid).
  DERIVED. THE GIVEN ROWS OF THIS SEAT. 12 by the template 'for every input the law returns true; each argument reads behind the call as it read before'; 0 by the template 'total and deterministic' (their statements: YtapinopfminmiabTotals.lean).
  GIVEN WITH THE SEED: the statements are not yours to turn. If you find one false, say at which input.
  Laid BY PROGRAM, IN A SANDBOX (cutbox-rows.mjs): the forced cells as the released guide's own fill.sh prints them over the translation af89f6077ce0e394… (all of the seat's roots in one cut). By AI agents, Wed Nov 11 2026. No macro, syntax, notation, axiom, sorry.
-/
import Derived.Test.YtapinopfminmiabChecked
import GoSem.Claim
import GoSem.ClaimJoined
import GoSem.ClaimMapViews
import Derived.JoinedTies
import Derived.KernelRfl
namespace Go.Proofs.Ytapinopfminmiab
/- THE CELL 'sum', in the pinned program and in every row, IS THE sha256 OF THE DUMP (.gsa) THAT YtapinopfminmiabProg.lean LOADS. Nothing in Lean hashes anything: it is a label: what it is worth is what the hold of that sum in a sandbox is worth. -/
noncomputable def Try.pinned : Pinned := { name := "ytapinopfminmiab", sum := "af89f6077ce0e394b37a9a2b0c3aabff4a5efd51698d468ed98f7fde1ef283df", checked := Try.checked }
namespace Rows
def none {H : Type} : Left H := { results := [], args := [] }

/-- 'laws.FnExactValidState': WHATEVER THE INPUT: true; the input reads as it did. -/
def fnExactValidStateSpec : ChangeSpec := { name := "fnExactValidState", fn := fun _ => fun
  | [d] => { results := [.lit (.bool true)], args := [d] }
  | _ => none }
def fnExactValidStateRow : OpenClaim := { program := "ytapinopfminmiab", sum := "af89f6077ce0e394b37a9a2b0c3aabff4a5efd51698d468ed98f7fde1ef283df", func := "loop.example/g01204/laws.FnExactValidState", spec := "fnExactValidState", inPlace := ["math.Float64bits", "math.Float64frombits"], apart := false }
def FnExactValidStateSaid : Prop := fnExactValidStateRow.holds Try.pinned (OpenSpec.ofChange fnExactValidStateSpec)

/-- ITS FALSE NEIGHBOUR: 'it returns false'. Refute it at one input. -/
def fnExactValidStateWrong : ChangeSpec := { name := "fnExactValidState", fn := fun _ => fun
  | [d] => { results := [.lit (.bool false)], args := [d] }
  | _ => none }
def FnExactValidStateWrongFalsely : Prop := fnExactValidStateRow.holds Try.pinned (OpenSpec.ofChange fnExactValidStateWrong)

/-- 'laws.FnExactSameState': WHATEVER THE INPUT: true; the input reads as it did. -/
def fnExactSameStateSpec : ChangeSpec := { name := "fnExactSameState", fn := fun _ => fun
  | [d1, d2] => { results := [.lit (.bool true)], args := [d1, d2] }
  | _ => none }
def fnExactSameStateRow : OpenClaim := { program := "ytapinopfminmiab", sum := "af89f6077ce0e394b37a9a2b0c3aabff4a5efd51698d468ed98f7fde1ef283df", func := "loop.example/g01204/laws.FnExactSameState", spec := "fnExactSameState", inPlace := ["math.Float32bits"], apart := false }
def FnExactSameStateSaid : Prop := fnExactSameStateRow.holds Try.pinned (OpenSpec.ofChange fnExactSameStateSpec)

/-- ITS FALSE NEIGHBOUR: 'it returns false'. Refute it at one input. -/
def fnExactSameStateWrong : ChangeSpec := { name := "fnExactSameState", fn := fun _ => fun
  | [d1, d2] => { results := [.lit (.bool false)], args := [d1, d2] }
  | _ => none }
def FnExactSameStateWrongFalsely : Prop := fnExactSameStateRow.holds Try.pinned (OpenSpec.ofChange fnExactSameStateWrong)

/-- 'laws.FnExactStateOf': WHATEVER THE INPUT: true; the input reads as it did. -/
def fnExactStateOfSpec : ChangeSpec := { name := "fnExactStateOf", fn := fun _ => fun
  | [d1, d2] => { results := [.lit (.bool true)], args := [d1, d2] }
  | _ => none }
def fnExactStateOfRow : OpenClaim := { program := "ytapinopfminmiab", sum := "af89f6077ce0e394b37a9a2b0c3aabff4a5efd51698d468ed98f7fde1ef283df", func := "loop.example/g01204/laws.FnExactStateOf", spec := "fnExactStateOf", inPlace := ["math.Float64bits", "math.Float64frombits"], apart := false }
def FnExactStateOfSaid : Prop := fnExactStateOfRow.holds Try.pinned (OpenSpec.ofChange fnExactStateOfSpec)

/-- ITS FALSE NEIGHBOUR: 'it returns false'. Refute it at one input. -/
def fnExactStateOfWrong : ChangeSpec := { name := "fnExactStateOf", fn := fun _ => fun
  | [d1, d2] => { results := [.lit (.bool false)], args := [d1, d2] }
  | _ => none }
def FnExactStateOfWrongFalsely : Prop := fnExactStateOfRow.holds Try.pinned (OpenSpec.ofChange fnExactStateOfWrong)

/-- 'laws.FnExactPositionOf': WHATEVER THE INPUT: true; the input reads as it did. -/
def fnExactPositionOfSpec : ChangeSpec := { name := "fnExactPositionOf", fn := fun _ => fun
  | [d] => { results := [.lit (.bool true)], args := [d] }
  | _ => none }
def fnExactPositionOfRow : OpenClaim := { program := "ytapinopfminmiab", sum := "af89f6077ce0e394b37a9a2b0c3aabff4a5efd51698d468ed98f7fde1ef283df", func := "loop.example/g01204/laws.FnExactPositionOf", spec := "fnExactPositionOf", apart := false }
def FnExactPositionOfSaid : Prop := fnExactPositionOfRow.holds Try.pinned (OpenSpec.ofChange fnExactPositionOfSpec)

/-- ITS FALSE NEIGHBOUR: 'it returns false'. Refute it at one input. -/
def fnExactPositionOfWrong : ChangeSpec := { name := "fnExactPositionOf", fn := fun _ => fun
  | [d] => { results := [.lit (.bool false)], args := [d] }
  | _ => none }
def FnExactPositionOfWrongFalsely : Prop := fnExactPositionOfRow.holds Try.pinned (OpenSpec.ofChange fnExactPositionOfWrong)

/-- 'laws.FnExactVelocityOf': WHATEVER THE INPUT: true; the input reads as it did. -/
def fnExactVelocityOfSpec : ChangeSpec := { name := "fnExactVelocityOf", fn := fun _ => fun
  | [d] => { results := [.lit (.bool true)], args := [d] }
  | _ => none }
def fnExactVelocityOfRow : OpenClaim := { program := "ytapinopfminmiab", sum := "af89f6077ce0e394b37a9a2b0c3aabff4a5efd51698d468ed98f7fde1ef283df", func := "loop.example/g01204/laws.FnExactVelocityOf", spec := "fnExactVelocityOf", apart := false }
def FnExactVelocityOfSaid : Prop := fnExactVelocityOfRow.holds Try.pinned (OpenSpec.ofChange fnExactVelocityOfSpec)

/-- ITS FALSE NEIGHBOUR: 'it returns false'. Refute it at one input. -/
def fnExactVelocityOfWrong : ChangeSpec := { name := "fnExactVelocityOf", fn := fun _ => fun
  | [d] => { results := [.lit (.bool false)], args := [d] }
  | _ => none }
def FnExactVelocityOfWrongFalsely : Prop := fnExactVelocityOfRow.holds Try.pinned (OpenSpec.ofChange fnExactVelocityOfWrong)

/-- 'laws.FnExactCovarianceOf': WHATEVER THE INPUT: true; the input reads as it did. -/
def fnExactCovarianceOfSpec : ChangeSpec := { name := "fnExactCovarianceOf", fn := fun _ => fun
  | [d] => { results := [.lit (.bool true)], args := [d] }
  | _ => none }
def fnExactCovarianceOfRow : OpenClaim := { program := "ytapinopfminmiab", sum := "af89f6077ce0e394b37a9a2b0c3aabff4a5efd51698d468ed98f7fde1ef283df", func := "loop.example/g01204/laws.FnExactCovarianceOf", spec := "fnExactCovarianceOf", inPlace := ["math.Float64bits", "math.Float64frombits"], apart := false }
def FnExactCovarianceOfSaid : Prop := fnExactCovarianceOfRow.holds Try.pinned (OpenSpec.ofChange fnExactCovarianceOfSpec)

/-- ITS FALSE NEIGHBOUR: 'it returns false'. Refute it at one input. -/
def fnExactCovarianceOfWrong : ChangeSpec := { name := "fnExactCovarianceOf", fn := fun _ => fun
  | [d] => { results := [.lit (.bool false)], args := [d] }
  | _ => none }
def FnExactCovarianceOfWrongFalsely : Prop := fnExactCovarianceOfRow.holds Try.pinned (OpenSpec.ofChange fnExactCovarianceOfWrong)

/-- 'laws.FnExactSpreadOf': WHATEVER THE INPUT: true; the input reads as it did. -/
def fnExactSpreadOfSpec : ChangeSpec := { name := "fnExactSpreadOf", fn := fun _ => fun
  | [d1, d2] => { results := [.lit (.bool true)], args := [d1, d2] }
  | _ => none }
def fnExactSpreadOfRow : OpenClaim := { program := "ytapinopfminmiab", sum := "af89f6077ce0e394b37a9a2b0c3aabff4a5efd51698d468ed98f7fde1ef283df", func := "loop.example/g01204/laws.FnExactSpreadOf", spec := "fnExactSpreadOf", inPlace := ["math.sqrt", "math.Float64bits", "math.Float64frombits"], apart := false }
def FnExactSpreadOfSaid : Prop := fnExactSpreadOfRow.holds Try.pinned (OpenSpec.ofChange fnExactSpreadOfSpec)

/-- ITS FALSE NEIGHBOUR: 'it returns false'. Refute it at one input. -/
def fnExactSpreadOfWrong : ChangeSpec := { name := "fnExactSpreadOf", fn := fun _ => fun
  | [d1, d2] => { results := [.lit (.bool false)], args := [d1, d2] }
  | _ => none }
def FnExactSpreadOfWrongFalsely : Prop := fnExactSpreadOfRow.holds Try.pinned (OpenSpec.ofChange fnExactSpreadOfWrong)

/-- 'laws.FnExactRangeClue': WHATEVER THE INPUT: true; the input reads as it did. -/
def fnExactRangeClueSpec : ChangeSpec := { name := "fnExactRangeClue", fn := fun _ => fun
  | [d1, d2, d3, d4] => { results := [.lit (.bool true)], args := [d1, d2, d3, d4] }
  | _ => none }
def fnExactRangeClueRow : OpenClaim := { program := "ytapinopfminmiab", sum := "af89f6077ce0e394b37a9a2b0c3aabff4a5efd51698d468ed98f7fde1ef283df", func := "loop.example/g01204/laws.FnExactRangeClue", spec := "fnExactRangeClue", inPlace := ["math.sqrt", "math.Float64bits", "math.Float64frombits"], apart := false }
def FnExactRangeClueSaid : Prop := fnExactRangeClueRow.holds Try.pinned (OpenSpec.ofChange fnExactRangeClueSpec)

/-- ITS FALSE NEIGHBOUR: 'it returns false'. Refute it at one input. -/
def fnExactRangeClueWrong : ChangeSpec := { name := "fnExactRangeClue", fn := fun _ => fun
  | [d1, d2, d3, d4] => { results := [.lit (.bool false)], args := [d1, d2, d3, d4] }
  | _ => none }
def FnExactRangeClueWrongFalsely : Prop := fnExactRangeClueRow.holds Try.pinned (OpenSpec.ofChange fnExactRangeClueWrong)

/-- 'laws.FnExactBearingClue': WHATEVER THE INPUT: true; the input reads as it did. -/
def fnExactBearingClueSpec : ChangeSpec := { name := "fnExactBearingClue", fn := fun _ => fun
  | [d1, d2, d3, d4] => { results := [.lit (.bool true)], args := [d1, d2, d3, d4] }
  | _ => none }
def fnExactBearingClueRow : OpenClaim := { program := "ytapinopfminmiab", sum := "af89f6077ce0e394b37a9a2b0c3aabff4a5efd51698d468ed98f7fde1ef283df", func := "loop.example/g01204/laws.FnExactBearingClue", spec := "fnExactBearingClue", inPlace := ["math.Float64frombits", "math.Float64bits", "math.sqrt", "math.RoundToEven", "math.Float32frombits"], apart := false }
def FnExactBearingClueSaid : Prop := fnExactBearingClueRow.holds Try.pinned (OpenSpec.ofChange fnExactBearingClueSpec)

/-- ITS FALSE NEIGHBOUR: 'it returns false'. Refute it at one input. -/
def fnExactBearingClueWrong : ChangeSpec := { name := "fnExactBearingClue", fn := fun _ => fun
  | [d1, d2, d3, d4] => { results := [.lit (.bool false)], args := [d1, d2, d3, d4] }
  | _ => none }
def FnExactBearingClueWrongFalsely : Prop := fnExactBearingClueRow.holds Try.pinned (OpenSpec.ofChange fnExactBearingClueWrong)

/-- 'laws.FnExactStateText': WHATEVER THE INPUT: true; the input reads as it did. -/
def fnExactStateTextSpec : ChangeSpec := { name := "fnExactStateText", fn := fun _ => fun
  | [d] => { results := [.lit (.bool true)], args := [d] }
  | _ => none }
def fnExactStateTextRow : OpenClaim := { program := "ytapinopfminmiab", sum := "af89f6077ce0e394b37a9a2b0c3aabff4a5efd51698d468ed98f7fde1ef283df", func := "loop.example/g01204/laws.FnExactStateText", spec := "fnExactStateText", inPlace := ["math.Float32bits", "math.Float64bits", "math.Float64frombits", "internal/abi.NoEscape", "internal/bytealg.MakeNoZero"], apart := false }
def FnExactStateTextSaid : Prop := fnExactStateTextRow.holds Try.pinned (OpenSpec.ofChange fnExactStateTextSpec)

/-- ITS FALSE NEIGHBOUR: 'it returns false'. Refute it at one input. -/
def fnExactStateTextWrong : ChangeSpec := { name := "fnExactStateText", fn := fun _ => fun
  | [d] => { results := [.lit (.bool false)], args := [d] }
  | _ => none }
def FnExactStateTextWrongFalsely : Prop := fnExactStateTextRow.holds Try.pinned (OpenSpec.ofChange fnExactStateTextWrong)

/-- 'laws.FnExactSolveMat': WHATEVER THE INPUT: true; the input reads as it did. -/
def fnExactSolveMatSpec : ChangeSpec := { name := "fnExactSolveMat", fn := fun _ => fun
  | [d1, d2] => { results := [.lit (.bool true)], args := [d1, d2] }
  | _ => none }
def fnExactSolveMatRow : OpenClaim := { program := "ytapinopfminmiab", sum := "af89f6077ce0e394b37a9a2b0c3aabff4a5efd51698d468ed98f7fde1ef283df", func := "loop.example/g01204/laws.FnExactSolveMat", spec := "fnExactSolveMat", inPlace := ["math.Float32bits", "math.Float32frombits", "math.Float64bits", "math.Float64frombits"], apart := false }
def FnExactSolveMatSaid : Prop := fnExactSolveMatRow.holds Try.pinned (OpenSpec.ofChange fnExactSolveMatSpec)

/-- ITS FALSE NEIGHBOUR: 'it returns false'. Refute it at one input. -/
def fnExactSolveMatWrong : ChangeSpec := { name := "fnExactSolveMat", fn := fun _ => fun
  | [d1, d2] => { results := [.lit (.bool false)], args := [d1, d2] }
  | _ => none }
def FnExactSolveMatWrongFalsely : Prop := fnExactSolveMatRow.holds Try.pinned (OpenSpec.ofChange fnExactSolveMatWrong)

/-- 'laws.FnExactInverseMat': WHATEVER THE INPUT: true; the input reads as it did. -/
def fnExactInverseMatSpec : ChangeSpec := { name := "fnExactInverseMat", fn := fun _ => fun
  | [d] => { results := [.lit (.bool true)], args := [d] }
  | _ => none }
def fnExactInverseMatRow : OpenClaim := { program := "ytapinopfminmiab", sum := "af89f6077ce0e394b37a9a2b0c3aabff4a5efd51698d468ed98f7fde1ef283df", func := "loop.example/g01204/laws.FnExactInverseMat", spec := "fnExactInverseMat", inPlace := ["math.Float32bits", "math.Float32frombits", "math.Float64bits", "math.Float64frombits"], apart := false }
def FnExactInverseMatSaid : Prop := fnExactInverseMatRow.holds Try.pinned (OpenSpec.ofChange fnExactInverseMatSpec)

/-- ITS FALSE NEIGHBOUR: 'it returns false'. Refute it at one input. -/
def fnExactInverseMatWrong : ChangeSpec := { name := "fnExactInverseMat", fn := fun _ => fun
  | [d] => { results := [.lit (.bool false)], args := [d] }
  | _ => none }
def FnExactInverseMatWrongFalsely : Prop := fnExactInverseMatRow.holds Try.pinned (OpenSpec.ofChange fnExactInverseMatWrong)

/- THE SECOND FORM. 'bulk': how many values and letters a reading holds, each counted each time it is reached (what is shared counts as often as it is met; a slice's spare places count too). A statement '..UptoSaid' is the law's where the arguments, and the package variables that the reading takes, are together of bulk at most 1048576: NARROWER than '..Said'. Prove '..Said' where nothing that the law and all that it calls make is longer than what came in: it says more and counts as full. Else prove '..UptoSaid'. A law counts once. -/
mutual
def uptoBulk {H : Type} : DataW H → Nat
  | .lit (.string bytes) => bytes.length + 1
  | .lit _ => 1
  | .nil => 1
  | .ptr d => uptoBulk d + 1
  | .slice elems spare => uptoBulkAll elems + uptoBulkAll spare + 1
  | .agg parts => uptoBulkAll parts + 1
  | .iface _ d => uptoBulk d + 1
  | .map entries => uptoBulkEntries entries + 1
  | .held _ => 1
def uptoBulkAll {H : Type} : List (DataW H) → Nat
  | [] => 0
  | d :: r => uptoBulk d + uptoBulkAll r
def uptoBulkEntries {H : Type} : List (Lit × DataW H) → Nat
  | [] => 0
  | x :: r => uptoBulkEntry x + uptoBulkEntries r
def uptoBulkEntry {H : Type} : Lit × DataW H → Nat
  | (.string bytes, d) => bytes.length + uptoBulk d + 1
  | (_, d) => uptoBulk d + 1
 end
def uptoSmall : (H : Type) → List (DataW H) → Bool := fun _ ds => decide (uptoBulkAll ds ≤ 1048576)
def OpenSpec.upto (s : _root_.Go.ChangeSpec) : _root_.Go.OpenSpec := { _root_.Go.OpenSpec.ofChange s with cond := some uptoSmall }

/-- 'laws.FnExactValidState', WHERE WHAT IT READS IS OF BULK AT MOST 1048576: true; the input reads as it did. -/
def fnExactValidStateUptoRow : OpenClaim := { program := "ytapinopfminmiab", sum := "af89f6077ce0e394b37a9a2b0c3aabff4a5efd51698d468ed98f7fde1ef283df", func := "loop.example/g01204/laws.FnExactValidState", spec := "fnExactValidState", inPlace := ["math.Float64bits", "math.Float64frombits"], apart := false, narrowed := true }
def FnExactValidStateUptoSaid : Prop := fnExactValidStateUptoRow.holds Try.pinned (OpenSpec.upto fnExactValidStateSpec)

/-- 'laws.FnExactSameState', WHERE WHAT IT READS IS OF BULK AT MOST 1048576: true; the input reads as it did. -/
def fnExactSameStateUptoRow : OpenClaim := { program := "ytapinopfminmiab", sum := "af89f6077ce0e394b37a9a2b0c3aabff4a5efd51698d468ed98f7fde1ef283df", func := "loop.example/g01204/laws.FnExactSameState", spec := "fnExactSameState", inPlace := ["math.Float32bits"], apart := false, narrowed := true }
def FnExactSameStateUptoSaid : Prop := fnExactSameStateUptoRow.holds Try.pinned (OpenSpec.upto fnExactSameStateSpec)

/-- 'laws.FnExactStateOf', WHERE WHAT IT READS IS OF BULK AT MOST 1048576: true; the input reads as it did. -/
def fnExactStateOfUptoRow : OpenClaim := { program := "ytapinopfminmiab", sum := "af89f6077ce0e394b37a9a2b0c3aabff4a5efd51698d468ed98f7fde1ef283df", func := "loop.example/g01204/laws.FnExactStateOf", spec := "fnExactStateOf", inPlace := ["math.Float64bits", "math.Float64frombits"], apart := false, narrowed := true }
def FnExactStateOfUptoSaid : Prop := fnExactStateOfUptoRow.holds Try.pinned (OpenSpec.upto fnExactStateOfSpec)

/-- 'laws.FnExactPositionOf', WHERE WHAT IT READS IS OF BULK AT MOST 1048576: true; the input reads as it did. -/
def fnExactPositionOfUptoRow : OpenClaim := { program := "ytapinopfminmiab", sum := "af89f6077ce0e394b37a9a2b0c3aabff4a5efd51698d468ed98f7fde1ef283df", func := "loop.example/g01204/laws.FnExactPositionOf", spec := "fnExactPositionOf", apart := false, narrowed := true }
def FnExactPositionOfUptoSaid : Prop := fnExactPositionOfUptoRow.holds Try.pinned (OpenSpec.upto fnExactPositionOfSpec)

/-- 'laws.FnExactVelocityOf', WHERE WHAT IT READS IS OF BULK AT MOST 1048576: true; the input reads as it did. -/
def fnExactVelocityOfUptoRow : OpenClaim := { program := "ytapinopfminmiab", sum := "af89f6077ce0e394b37a9a2b0c3aabff4a5efd51698d468ed98f7fde1ef283df", func := "loop.example/g01204/laws.FnExactVelocityOf", spec := "fnExactVelocityOf", apart := false, narrowed := true }
def FnExactVelocityOfUptoSaid : Prop := fnExactVelocityOfUptoRow.holds Try.pinned (OpenSpec.upto fnExactVelocityOfSpec)

/-- 'laws.FnExactCovarianceOf', WHERE WHAT IT READS IS OF BULK AT MOST 1048576: true; the input reads as it did. -/
def fnExactCovarianceOfUptoRow : OpenClaim := { program := "ytapinopfminmiab", sum := "af89f6077ce0e394b37a9a2b0c3aabff4a5efd51698d468ed98f7fde1ef283df", func := "loop.example/g01204/laws.FnExactCovarianceOf", spec := "fnExactCovarianceOf", inPlace := ["math.Float64bits", "math.Float64frombits"], apart := false, narrowed := true }
def FnExactCovarianceOfUptoSaid : Prop := fnExactCovarianceOfUptoRow.holds Try.pinned (OpenSpec.upto fnExactCovarianceOfSpec)

/-- 'laws.FnExactSpreadOf', WHERE WHAT IT READS IS OF BULK AT MOST 1048576: true; the input reads as it did. -/
def fnExactSpreadOfUptoRow : OpenClaim := { program := "ytapinopfminmiab", sum := "af89f6077ce0e394b37a9a2b0c3aabff4a5efd51698d468ed98f7fde1ef283df", func := "loop.example/g01204/laws.FnExactSpreadOf", spec := "fnExactSpreadOf", inPlace := ["math.sqrt", "math.Float64bits", "math.Float64frombits"], apart := false, narrowed := true }
def FnExactSpreadOfUptoSaid : Prop := fnExactSpreadOfUptoRow.holds Try.pinned (OpenSpec.upto fnExactSpreadOfSpec)

/-- 'laws.FnExactRangeClue', WHERE WHAT IT READS IS OF BULK AT MOST 1048576: true; the input reads as it did. -/
def fnExactRangeClueUptoRow : OpenClaim := { program := "ytapinopfminmiab", sum := "af89f6077ce0e394b37a9a2b0c3aabff4a5efd51698d468ed98f7fde1ef283df", func := "loop.example/g01204/laws.FnExactRangeClue", spec := "fnExactRangeClue", inPlace := ["math.sqrt", "math.Float64bits", "math.Float64frombits"], apart := false, narrowed := true }
def FnExactRangeClueUptoSaid : Prop := fnExactRangeClueUptoRow.holds Try.pinned (OpenSpec.upto fnExactRangeClueSpec)

/-- 'laws.FnExactBearingClue', WHERE WHAT IT READS IS OF BULK AT MOST 1048576: true; the input reads as it did. -/
def fnExactBearingClueUptoRow : OpenClaim := { program := "ytapinopfminmiab", sum := "af89f6077ce0e394b37a9a2b0c3aabff4a5efd51698d468ed98f7fde1ef283df", func := "loop.example/g01204/laws.FnExactBearingClue", spec := "fnExactBearingClue", inPlace := ["math.Float64frombits", "math.Float64bits", "math.sqrt", "math.RoundToEven", "math.Float32frombits"], apart := false, narrowed := true }
def FnExactBearingClueUptoSaid : Prop := fnExactBearingClueUptoRow.holds Try.pinned (OpenSpec.upto fnExactBearingClueSpec)

/-- 'laws.FnExactStateText', WHERE WHAT IT READS IS OF BULK AT MOST 1048576: true; the input reads as it did. -/
def fnExactStateTextUptoRow : OpenClaim := { program := "ytapinopfminmiab", sum := "af89f6077ce0e394b37a9a2b0c3aabff4a5efd51698d468ed98f7fde1ef283df", func := "loop.example/g01204/laws.FnExactStateText", spec := "fnExactStateText", inPlace := ["math.Float32bits", "math.Float64bits", "math.Float64frombits", "internal/abi.NoEscape", "internal/bytealg.MakeNoZero"], apart := false, narrowed := true }
def FnExactStateTextUptoSaid : Prop := fnExactStateTextUptoRow.holds Try.pinned (OpenSpec.upto fnExactStateTextSpec)

/-- 'laws.FnExactSolveMat', WHERE WHAT IT READS IS OF BULK AT MOST 1048576: true; the input reads as it did. -/
def fnExactSolveMatUptoRow : OpenClaim := { program := "ytapinopfminmiab", sum := "af89f6077ce0e394b37a9a2b0c3aabff4a5efd51698d468ed98f7fde1ef283df", func := "loop.example/g01204/laws.FnExactSolveMat", spec := "fnExactSolveMat", inPlace := ["math.Float32bits", "math.Float32frombits", "math.Float64bits", "math.Float64frombits"], apart := false, narrowed := true }
def FnExactSolveMatUptoSaid : Prop := fnExactSolveMatUptoRow.holds Try.pinned (OpenSpec.upto fnExactSolveMatSpec)

/-- 'laws.FnExactInverseMat', WHERE WHAT IT READS IS OF BULK AT MOST 1048576: true; the input reads as it did. -/
def fnExactInverseMatUptoRow : OpenClaim := { program := "ytapinopfminmiab", sum := "af89f6077ce0e394b37a9a2b0c3aabff4a5efd51698d468ed98f7fde1ef283df", func := "loop.example/g01204/laws.FnExactInverseMat", spec := "fnExactInverseMat", inPlace := ["math.Float32bits", "math.Float32frombits", "math.Float64bits", "math.Float64frombits"], apart := false, narrowed := true }
def FnExactInverseMatUptoSaid : Prop := fnExactInverseMatUptoRow.holds Try.pinned (OpenSpec.upto fnExactInverseMatSpec)

end Rows
end Go.Proofs.Ytapinopfminmiab
