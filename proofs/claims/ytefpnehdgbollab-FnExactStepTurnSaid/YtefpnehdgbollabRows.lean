/-
  No cell of these rows narrows 'for every input' (looked for: loops, veiled, ifaces, maps, wideKeys, modest, calm, conditions, laid).
  DERIVED. THE GIVEN ROWS OF THIS SEAT. 11 by the template 'for every input the law returns true; each argument reads behind the call as it read before'; 0 by the template 'total and deterministic' (their statements: YtefpnehdgbollabTotals.lean).
  GIVEN WITH THE SEED: the statements are not yours to turn. If you find one false, say at which input.
  Laid BY PROGRAM, IN A SANDBOX (cutbox-rows.mjs): the forced cells as the released guide's own fill.sh prints them over the translation 77e426e925db1664… (all of the seat's roots in one cut). By AI agents, Wed Nov 11 2026. No macro, syntax, notation, axiom, sorry.
-/
import Derived.Test.YtefpnehdgbollabChecked
import GoSem.Claim
import GoSem.ClaimJoined
import GoSem.ClaimMapViews
import Derived.JoinedTies
import Derived.KernelRfl
namespace Go.Proofs.Ytefpnehdgbollab
/- THE CELL 'sum', in the pinned program and in every row, IS THE sha256 OF THE DUMP (.gsa) THAT YtefpnehdgbollabProg.lean LOADS. Nothing in Lean hashes anything: it is a label: what it is worth is what the hold of that sum in a sandbox is worth. -/
noncomputable def Try.pinned : Pinned := { name := "ytefpnehdgbollab", sum := "77e426e925db16643ee99a46fe75e031c60084535a28437e026fc610e2c39df6", checked := Try.checked }
namespace Rows
def none {H : Type} : Left H := { results := [], args := [] }

/-- 'laws.FnExactSineOf': WHATEVER THE INPUT: true; the input reads as it did. -/
def fnExactSineOfSpec : ChangeSpec := { name := "fnExactSineOf", fn := fun _ => fun
  | [d] => { results := [.lit (.bool true)], args := [d] }
  | _ => none }
def fnExactSineOfRow : OpenClaim := { program := "ytefpnehdgbollab", sum := "77e426e925db16643ee99a46fe75e031c60084535a28437e026fc610e2c39df6", func := "loop.example/g01204/laws.FnExactSineOf", spec := "fnExactSineOf", inPlace := ["math.Float64frombits", "math.archFloor", "math.Float64bits", "math.archTrunc", "math.Float32frombits"], apart := false }
def FnExactSineOfSaid : Prop := fnExactSineOfRow.holds Try.pinned (OpenSpec.ofChange fnExactSineOfSpec)

/-- ITS FALSE NEIGHBOUR: 'it returns false'. Refute it at one input. -/
def fnExactSineOfWrong : ChangeSpec := { name := "fnExactSineOf", fn := fun _ => fun
  | [d] => { results := [.lit (.bool false)], args := [d] }
  | _ => none }
def FnExactSineOfWrongFalsely : Prop := fnExactSineOfRow.holds Try.pinned (OpenSpec.ofChange fnExactSineOfWrong)

/-- 'laws.FnExactCosineOf': WHATEVER THE INPUT: true; the input reads as it did. -/
def fnExactCosineOfSpec : ChangeSpec := { name := "fnExactCosineOf", fn := fun _ => fun
  | [d] => { results := [.lit (.bool true)], args := [d] }
  | _ => none }
def fnExactCosineOfRow : OpenClaim := { program := "ytefpnehdgbollab", sum := "77e426e925db16643ee99a46fe75e031c60084535a28437e026fc610e2c39df6", func := "loop.example/g01204/laws.FnExactCosineOf", spec := "fnExactCosineOf", inPlace := ["math.Float64frombits", "math.archFloor", "math.Float64bits", "math.archTrunc", "math.Float32frombits"], apart := false }
def FnExactCosineOfSaid : Prop := fnExactCosineOfRow.holds Try.pinned (OpenSpec.ofChange fnExactCosineOfSpec)

/-- ITS FALSE NEIGHBOUR: 'it returns false'. Refute it at one input. -/
def fnExactCosineOfWrong : ChangeSpec := { name := "fnExactCosineOf", fn := fun _ => fun
  | [d] => { results := [.lit (.bool false)], args := [d] }
  | _ => none }
def FnExactCosineOfWrongFalsely : Prop := fnExactCosineOfRow.holds Try.pinned (OpenSpec.ofChange fnExactCosineOfWrong)

/-- 'laws.FnExactAngleOf': WHATEVER THE INPUT: true; the input reads as it did. -/
def fnExactAngleOfSpec : ChangeSpec := { name := "fnExactAngleOf", fn := fun _ => fun
  | [d1, d2] => { results := [.lit (.bool true)], args := [d1, d2] }
  | _ => none }
def fnExactAngleOfRow : OpenClaim := { program := "ytefpnehdgbollab", sum := "77e426e925db16643ee99a46fe75e031c60084535a28437e026fc610e2c39df6", func := "loop.example/g01204/laws.FnExactAngleOf", spec := "fnExactAngleOf", inPlace := ["math.Float64frombits", "math.Float64bits", "math.sqrt", "math.Float32frombits"], apart := false }
def FnExactAngleOfSaid : Prop := fnExactAngleOfRow.holds Try.pinned (OpenSpec.ofChange fnExactAngleOfSpec)

/-- ITS FALSE NEIGHBOUR: 'it returns false'. Refute it at one input. -/
def fnExactAngleOfWrong : ChangeSpec := { name := "fnExactAngleOf", fn := fun _ => fun
  | [d1, d2] => { results := [.lit (.bool false)], args := [d1, d2] }
  | _ => none }
def FnExactAngleOfWrongFalsely : Prop := fnExactAngleOfRow.holds Try.pinned (OpenSpec.ofChange fnExactAngleOfWrong)

/-- 'laws.FnExactTurnAbout': WHATEVER THE INPUT: true; the input reads as it did. -/
def fnExactTurnAboutSpec : ChangeSpec := { name := "fnExactTurnAbout", fn := fun _ => fun
  | [d1, d2] => { results := [.lit (.bool true)], args := [d1, d2] }
  | _ => none }
def fnExactTurnAboutRow : OpenClaim := { program := "ytefpnehdgbollab", sum := "77e426e925db16643ee99a46fe75e031c60084535a28437e026fc610e2c39df6", func := "loop.example/g01204/laws.FnExactTurnAbout", spec := "fnExactTurnAbout", inPlace := ["math.sqrt", "math.Float64frombits", "math.archFloor", "math.Float64bits", "math.archTrunc", "math.Float32frombits"], apart := false }
def FnExactTurnAboutSaid : Prop := fnExactTurnAboutRow.holds Try.pinned (OpenSpec.ofChange fnExactTurnAboutSpec)

/-- ITS FALSE NEIGHBOUR: 'it returns false'. Refute it at one input. -/
def fnExactTurnAboutWrong : ChangeSpec := { name := "fnExactTurnAbout", fn := fun _ => fun
  | [d1, d2] => { results := [.lit (.bool false)], args := [d1, d2] }
  | _ => none }
def FnExactTurnAboutWrongFalsely : Prop := fnExactTurnAboutRow.holds Try.pinned (OpenSpec.ofChange fnExactTurnAboutWrong)

/-- 'laws.FnExactAngleBetween': WHATEVER THE INPUT: true; the input reads as it did. -/
def fnExactAngleBetweenSpec : ChangeSpec := { name := "fnExactAngleBetween", fn := fun _ => fun
  | [d1, d2] => { results := [.lit (.bool true)], args := [d1, d2] }
  | _ => none }
def fnExactAngleBetweenRow : OpenClaim := { program := "ytefpnehdgbollab", sum := "77e426e925db16643ee99a46fe75e031c60084535a28437e026fc610e2c39df6", func := "loop.example/g01204/laws.FnExactAngleBetween", spec := "fnExactAngleBetween", inPlace := ["math.sqrt", "math.Float32bits", "math.Float32frombits", "math.Float64frombits", "math.Float64bits"], unfollowed := true, recurses := true, apart := false }
def FnExactAngleBetweenSaid : Prop := fnExactAngleBetweenRow.holds Try.pinned (OpenSpec.ofChange fnExactAngleBetweenSpec)

/-- ITS FALSE NEIGHBOUR: 'it returns false'. Refute it at one input. -/
def fnExactAngleBetweenWrong : ChangeSpec := { name := "fnExactAngleBetween", fn := fun _ => fun
  | [d1, d2] => { results := [.lit (.bool false)], args := [d1, d2] }
  | _ => none }
def FnExactAngleBetweenWrongFalsely : Prop := fnExactAngleBetweenRow.holds Try.pinned (OpenSpec.ofChange fnExactAngleBetweenWrong)

/-- 'laws.FnExactStepTurn': WHATEVER THE INPUT: true; the input reads as it did. -/
def fnExactStepTurnSpec : ChangeSpec := { name := "fnExactStepTurn", fn := fun _ => fun
  | [d1, d2, d3] => { results := [.lit (.bool true)], args := [d1, d2, d3] }
  | _ => none }
def fnExactStepTurnRow : OpenClaim := { program := "ytefpnehdgbollab", sum := "77e426e925db16643ee99a46fe75e031c60084535a28437e026fc610e2c39df6", func := "loop.example/g01204/laws.FnExactStepTurn", spec := "fnExactStepTurn", inPlace := ["math.sqrt", "math.Float64frombits", "math.archFloor", "math.Float64bits", "math.archTrunc", "math.Float32frombits"], unfollowed := true, recurses := true, apart := false }
def FnExactStepTurnSaid : Prop := fnExactStepTurnRow.holds Try.pinned (OpenSpec.ofChange fnExactStepTurnSpec)

/-- ITS FALSE NEIGHBOUR: 'it returns false'. Refute it at one input. -/
def fnExactStepTurnWrong : ChangeSpec := { name := "fnExactStepTurn", fn := fun _ => fun
  | [d1, d2, d3] => { results := [.lit (.bool false)], args := [d1, d2, d3] }
  | _ => none }
def FnExactStepTurnWrongFalsely : Prop := fnExactStepTurnRow.holds Try.pinned (OpenSpec.ofChange fnExactStepTurnWrong)

/-- 'laws.FnExactTurnOfHeading': WHATEVER THE INPUT: true; the input reads as it did. -/
def fnExactTurnOfHeadingSpec : ChangeSpec := { name := "fnExactTurnOfHeading", fn := fun _ => fun
  | [d] => { results := [.lit (.bool true)], args := [d] }
  | _ => none }
def fnExactTurnOfHeadingRow : OpenClaim := { program := "ytefpnehdgbollab", sum := "77e426e925db16643ee99a46fe75e031c60084535a28437e026fc610e2c39df6", func := "loop.example/g01204/laws.FnExactTurnOfHeading", spec := "fnExactTurnOfHeading", inPlace := ["math.Float64frombits", "math.archFloor", "math.Float64bits", "math.archTrunc", "math.Float32frombits"], apart := false }
def FnExactTurnOfHeadingSaid : Prop := fnExactTurnOfHeadingRow.holds Try.pinned (OpenSpec.ofChange fnExactTurnOfHeadingSpec)

/-- ITS FALSE NEIGHBOUR: 'it returns false'. Refute it at one input. -/
def fnExactTurnOfHeadingWrong : ChangeSpec := { name := "fnExactTurnOfHeading", fn := fun _ => fun
  | [d] => { results := [.lit (.bool false)], args := [d] }
  | _ => none }
def FnExactTurnOfHeadingWrongFalsely : Prop := fnExactTurnOfHeadingRow.holds Try.pinned (OpenSpec.ofChange fnExactTurnOfHeadingWrong)

/-- 'laws.FnExactHeadingOf': WHATEVER THE INPUT: true; the input reads as it did. -/
def fnExactHeadingOfSpec : ChangeSpec := { name := "fnExactHeadingOf", fn := fun _ => fun
  | [d] => { results := [.lit (.bool true)], args := [d] }
  | _ => none }
def fnExactHeadingOfRow : OpenClaim := { program := "ytefpnehdgbollab", sum := "77e426e925db16643ee99a46fe75e031c60084535a28437e026fc610e2c39df6", func := "loop.example/g01204/laws.FnExactHeadingOf", spec := "fnExactHeadingOf", inPlace := ["math.Float64frombits", "math.Float64bits", "math.sqrt", "math.Float32frombits"], apart := false }
def FnExactHeadingOfSaid : Prop := fnExactHeadingOfRow.holds Try.pinned (OpenSpec.ofChange fnExactHeadingOfSpec)

/-- ITS FALSE NEIGHBOUR: 'it returns false'. Refute it at one input. -/
def fnExactHeadingOfWrong : ChangeSpec := { name := "fnExactHeadingOf", fn := fun _ => fun
  | [d] => { results := [.lit (.bool false)], args := [d] }
  | _ => none }
def FnExactHeadingOfWrongFalsely : Prop := fnExactHeadingOfRow.holds Try.pinned (OpenSpec.ofChange fnExactHeadingOfWrong)

/-- 'laws.FnExactAngleTo': WHATEVER THE INPUT: true; the input reads as it did. -/
def fnExactAngleToSpec : ChangeSpec := { name := "fnExactAngleTo", fn := fun _ => fun
  | [d1, d2] => { results := [.lit (.bool true)], args := [d1, d2] }
  | _ => none }
def fnExactAngleToRow : OpenClaim := { program := "ytefpnehdgbollab", sum := "77e426e925db16643ee99a46fe75e031c60084535a28437e026fc610e2c39df6", func := "loop.example/g01204/laws.FnExactAngleTo", spec := "fnExactAngleTo", inPlace := ["math.Float64frombits", "math.Float64bits", "math.sqrt", "math.Float32frombits"], apart := false }
def FnExactAngleToSaid : Prop := fnExactAngleToRow.holds Try.pinned (OpenSpec.ofChange fnExactAngleToSpec)

/-- ITS FALSE NEIGHBOUR: 'it returns false'. Refute it at one input. -/
def fnExactAngleToWrong : ChangeSpec := { name := "fnExactAngleTo", fn := fun _ => fun
  | [d1, d2] => { results := [.lit (.bool false)], args := [d1, d2] }
  | _ => none }
def FnExactAngleToWrongFalsely : Prop := fnExactAngleToRow.holds Try.pinned (OpenSpec.ofChange fnExactAngleToWrong)

/-- 'laws.FnExactStepTurns': WHATEVER THE INPUT: true; the input reads as it did. -/
def fnExactStepTurnsSpec : ChangeSpec := { name := "fnExactStepTurns", fn := fun _ => fun
  | [d1, d2, d3] => { results := [.lit (.bool true)], args := [d1, d2, d3] }
  | _ => none }
def fnExactStepTurnsRow : OpenClaim := { program := "ytefpnehdgbollab", sum := "77e426e925db16643ee99a46fe75e031c60084535a28437e026fc610e2c39df6", func := "loop.example/g01204/laws.FnExactStepTurns", spec := "fnExactStepTurns", inPlace := ["math.sqrt", "math.Float64frombits", "math.archFloor", "math.Float64bits", "math.archTrunc", "math.Float32frombits"], unfollowed := true, recurses := true, apart := false }
def FnExactStepTurnsSaid : Prop := fnExactStepTurnsRow.holds Try.pinned (OpenSpec.ofChange fnExactStepTurnsSpec)

/-- ITS FALSE NEIGHBOUR: 'it returns false'. Refute it at one input. -/
def fnExactStepTurnsWrong : ChangeSpec := { name := "fnExactStepTurns", fn := fun _ => fun
  | [d1, d2, d3] => { results := [.lit (.bool false)], args := [d1, d2, d3] }
  | _ => none }
def FnExactStepTurnsWrongFalsely : Prop := fnExactStepTurnsRow.holds Try.pinned (OpenSpec.ofChange fnExactStepTurnsWrong)

/-- 'laws.FnExactTurnText': WHATEVER THE INPUT: true; the input reads as it did. -/
def fnExactTurnTextSpec : ChangeSpec := { name := "fnExactTurnText", fn := fun _ => fun
  | [d] => { results := [.lit (.bool true)], args := [d] }
  | _ => none }
def fnExactTurnTextRow : OpenClaim := { program := "ytefpnehdgbollab", sum := "77e426e925db16643ee99a46fe75e031c60084535a28437e026fc610e2c39df6", func := "loop.example/g01204/laws.FnExactTurnText", spec := "fnExactTurnText", inPlace := ["math.Float32bits", "internal/abi.NoEscape", "internal/bytealg.MakeNoZero"], apart := false }
def FnExactTurnTextSaid : Prop := fnExactTurnTextRow.holds Try.pinned (OpenSpec.ofChange fnExactTurnTextSpec)

/-- ITS FALSE NEIGHBOUR: 'it returns false'. Refute it at one input. -/
def fnExactTurnTextWrong : ChangeSpec := { name := "fnExactTurnText", fn := fun _ => fun
  | [d] => { results := [.lit (.bool false)], args := [d] }
  | _ => none }
def FnExactTurnTextWrongFalsely : Prop := fnExactTurnTextRow.holds Try.pinned (OpenSpec.ofChange fnExactTurnTextWrong)

/- THE SECOND FORM. 'bulk': how many values and letters a reading holds, each counted each time it is reached (what is shared counts as often as it is met; a slice's spare places count too). A statement '..UptoSaid' is the law's where the arguments, and the package variables that the reading takes, are together of bulk at most 1048576: NARROWER than '..Said'. Prove '..Said' where nothing that the law and all that it calls make is longer than what came in: it says more and counts as full. Else prove '..UptoSaid'. A law counts once. -/
mutual
def uptoBulk {H : Type} : DataW H → Nat
  | .lit (.string bytes) => bytes.length + 1
  | .lit _ => 1
  | .nil => 1
  | .ptr d => uptoBulk d + 1
  | .slice elems spare => uptoBulkAll elems + uptoBulkAll spare + 1
  | .agg parts => uptoBulkAll parts + 1
  | .iface _ d => uptoBulk d + 1
  | .map entries => uptoBulkEntries entries + 1
  | .held _ => 1
def uptoBulkAll {H : Type} : List (DataW H) → Nat
  | [] => 0
  | d :: r => uptoBulk d + uptoBulkAll r
def uptoBulkEntries {H : Type} : List (Lit × DataW H) → Nat
  | [] => 0
  | x :: r => uptoBulkEntry x + uptoBulkEntries r
def uptoBulkEntry {H : Type} : Lit × DataW H → Nat
  | (.string bytes, d) => bytes.length + uptoBulk d + 1
  | (_, d) => uptoBulk d + 1
 end
def uptoSmall : (H : Type) → List (DataW H) → Bool := fun _ ds => decide (uptoBulkAll ds ≤ 1048576)
def OpenSpec.upto (s : _root_.Go.ChangeSpec) : _root_.Go.OpenSpec := { _root_.Go.OpenSpec.ofChange s with cond := some uptoSmall }

/-- 'laws.FnExactSineOf', WHERE WHAT IT READS IS OF BULK AT MOST 1048576: true; the input reads as it did. -/
def fnExactSineOfUptoRow : OpenClaim := { program := "ytefpnehdgbollab", sum := "77e426e925db16643ee99a46fe75e031c60084535a28437e026fc610e2c39df6", func := "loop.example/g01204/laws.FnExactSineOf", spec := "fnExactSineOf", inPlace := ["math.Float64frombits", "math.archFloor", "math.Float64bits", "math.archTrunc", "math.Float32frombits"], apart := false, narrowed := true }
def FnExactSineOfUptoSaid : Prop := fnExactSineOfUptoRow.holds Try.pinned (OpenSpec.upto fnExactSineOfSpec)

/-- 'laws.FnExactCosineOf', WHERE WHAT IT READS IS OF BULK AT MOST 1048576: true; the input reads as it did. -/
def fnExactCosineOfUptoRow : OpenClaim := { program := "ytefpnehdgbollab", sum := "77e426e925db16643ee99a46fe75e031c60084535a28437e026fc610e2c39df6", func := "loop.example/g01204/laws.FnExactCosineOf", spec := "fnExactCosineOf", inPlace := ["math.Float64frombits", "math.archFloor", "math.Float64bits", "math.archTrunc", "math.Float32frombits"], apart := false, narrowed := true }
def FnExactCosineOfUptoSaid : Prop := fnExactCosineOfUptoRow.holds Try.pinned (OpenSpec.upto fnExactCosineOfSpec)

/-- 'laws.FnExactAngleOf', WHERE WHAT IT READS IS OF BULK AT MOST 1048576: true; the input reads as it did. -/
def fnExactAngleOfUptoRow : OpenClaim := { program := "ytefpnehdgbollab", sum := "77e426e925db16643ee99a46fe75e031c60084535a28437e026fc610e2c39df6", func := "loop.example/g01204/laws.FnExactAngleOf", spec := "fnExactAngleOf", inPlace := ["math.Float64frombits", "math.Float64bits", "math.sqrt", "math.Float32frombits"], apart := false, narrowed := true }
def FnExactAngleOfUptoSaid : Prop := fnExactAngleOfUptoRow.holds Try.pinned (OpenSpec.upto fnExactAngleOfSpec)

/-- 'laws.FnExactTurnAbout', WHERE WHAT IT READS IS OF BULK AT MOST 1048576: true; the input reads as it did. -/
def fnExactTurnAboutUptoRow : OpenClaim := { program := "ytefpnehdgbollab", sum := "77e426e925db16643ee99a46fe75e031c60084535a28437e026fc610e2c39df6", func := "loop.example/g01204/laws.FnExactTurnAbout", spec := "fnExactTurnAbout", inPlace := ["math.sqrt", "math.Float64frombits", "math.archFloor", "math.Float64bits", "math.archTrunc", "math.Float32frombits"], apart := false, narrowed := true }
def FnExactTurnAboutUptoSaid : Prop := fnExactTurnAboutUptoRow.holds Try.pinned (OpenSpec.upto fnExactTurnAboutSpec)

/-- 'laws.FnExactAngleBetween', WHERE WHAT IT READS IS OF BULK AT MOST 1048576: true; the input reads as it did. -/
def fnExactAngleBetweenUptoRow : OpenClaim := { program := "ytefpnehdgbollab", sum := "77e426e925db16643ee99a46fe75e031c60084535a28437e026fc610e2c39df6", func := "loop.example/g01204/laws.FnExactAngleBetween", spec := "fnExactAngleBetween", inPlace := ["math.sqrt", "math.Float32bits", "math.Float32frombits", "math.Float64frombits", "math.Float64bits"], unfollowed := true, recurses := true, apart := false, narrowed := true }
def FnExactAngleBetweenUptoSaid : Prop := fnExactAngleBetweenUptoRow.holds Try.pinned (OpenSpec.upto fnExactAngleBetweenSpec)

/-- 'laws.FnExactStepTurn', WHERE WHAT IT READS IS OF BULK AT MOST 1048576: true; the input reads as it did. -/
def fnExactStepTurnUptoRow : OpenClaim := { program := "ytefpnehdgbollab", sum := "77e426e925db16643ee99a46fe75e031c60084535a28437e026fc610e2c39df6", func := "loop.example/g01204/laws.FnExactStepTurn", spec := "fnExactStepTurn", inPlace := ["math.sqrt", "math.Float64frombits", "math.archFloor", "math.Float64bits", "math.archTrunc", "math.Float32frombits"], unfollowed := true, recurses := true, apart := false, narrowed := true }
def FnExactStepTurnUptoSaid : Prop := fnExactStepTurnUptoRow.holds Try.pinned (OpenSpec.upto fnExactStepTurnSpec)

/-- 'laws.FnExactTurnOfHeading', WHERE WHAT IT READS IS OF BULK AT MOST 1048576: true; the input reads as it did. -/
def fnExactTurnOfHeadingUptoRow : OpenClaim := { program := "ytefpnehdgbollab", sum := "77e426e925db16643ee99a46fe75e031c60084535a28437e026fc610e2c39df6", func := "loop.example/g01204/laws.FnExactTurnOfHeading", spec := "fnExactTurnOfHeading", inPlace := ["math.Float64frombits", "math.archFloor", "math.Float64bits", "math.archTrunc", "math.Float32frombits"], apart := false, narrowed := true }
def FnExactTurnOfHeadingUptoSaid : Prop := fnExactTurnOfHeadingUptoRow.holds Try.pinned (OpenSpec.upto fnExactTurnOfHeadingSpec)

/-- 'laws.FnExactHeadingOf', WHERE WHAT IT READS IS OF BULK AT MOST 1048576: true; the input reads as it did. -/
def fnExactHeadingOfUptoRow : OpenClaim := { program := "ytefpnehdgbollab", sum := "77e426e925db16643ee99a46fe75e031c60084535a28437e026fc610e2c39df6", func := "loop.example/g01204/laws.FnExactHeadingOf", spec := "fnExactHeadingOf", inPlace := ["math.Float64frombits", "math.Float64bits", "math.sqrt", "math.Float32frombits"], apart := false, narrowed := true }
def FnExactHeadingOfUptoSaid : Prop := fnExactHeadingOfUptoRow.holds Try.pinned (OpenSpec.upto fnExactHeadingOfSpec)

/-- 'laws.FnExactAngleTo', WHERE WHAT IT READS IS OF BULK AT MOST 1048576: true; the input reads as it did. -/
def fnExactAngleToUptoRow : OpenClaim := { program := "ytefpnehdgbollab", sum := "77e426e925db16643ee99a46fe75e031c60084535a28437e026fc610e2c39df6", func := "loop.example/g01204/laws.FnExactAngleTo", spec := "fnExactAngleTo", inPlace := ["math.Float64frombits", "math.Float64bits", "math.sqrt", "math.Float32frombits"], apart := false, narrowed := true }
def FnExactAngleToUptoSaid : Prop := fnExactAngleToUptoRow.holds Try.pinned (OpenSpec.upto fnExactAngleToSpec)

/-- 'laws.FnExactStepTurns', WHERE WHAT IT READS IS OF BULK AT MOST 1048576: true; the input reads as it did. -/
def fnExactStepTurnsUptoRow : OpenClaim := { program := "ytefpnehdgbollab", sum := "77e426e925db16643ee99a46fe75e031c60084535a28437e026fc610e2c39df6", func := "loop.example/g01204/laws.FnExactStepTurns", spec := "fnExactStepTurns", inPlace := ["math.sqrt", "math.Float64frombits", "math.archFloor", "math.Float64bits", "math.archTrunc", "math.Float32frombits"], unfollowed := true, recurses := true, apart := false, narrowed := true }
def FnExactStepTurnsUptoSaid : Prop := fnExactStepTurnsUptoRow.holds Try.pinned (OpenSpec.upto fnExactStepTurnsSpec)

/-- 'laws.FnExactTurnText', WHERE WHAT IT READS IS OF BULK AT MOST 1048576: true; the input reads as it did. -/
def fnExactTurnTextUptoRow : OpenClaim := { program := "ytefpnehdgbollab", sum := "77e426e925db16643ee99a46fe75e031c60084535a28437e026fc610e2c39df6", func := "loop.example/g01204/laws.FnExactTurnText", spec := "fnExactTurnText", inPlace := ["math.Float32bits", "internal/abi.NoEscape", "internal/bytealg.MakeNoZero"], apart := false, narrowed := true }
def FnExactTurnTextUptoSaid : Prop := fnExactTurnTextUptoRow.holds Try.pinned (OpenSpec.upto fnExactTurnTextSpec)

end Rows
end Go.Proofs.Ytefpnehdgbollab
