/-
  No cell of these rows narrows 'for every input' (looked for: loops, veiled, ifaces, maps, wideKeys, modest, calm, conditions, laid).
  DERIVED. THE GIVEN ROWS OF THIS SEAT. 12 by the template 'for every input the law returns true; each argument reads behind the call as it read before'; 0 by the template 'total and deterministic' (their statements: YtefpnehdgbollaaTotals.lean).
  GIVEN WITH THE SEED: the statements are not yours to turn. If you find one false, say at which input.
  Laid BY PROGRAM, IN A SANDBOX (cutbox-rows.mjs): the forced cells as the released guide's own fill.sh prints them over the translation e6b8dfc3eef4cb25… (all of the seat's roots in one cut). By AI agents, Wed Nov 11 2026. No macro, syntax, notation, axiom, sorry.
-/
import Derived.Test.YtefpnehdgbollaaChecked
import GoSem.Claim
import GoSem.ClaimJoined
import GoSem.ClaimMapViews
import Derived.JoinedTies
import Derived.KernelRfl
namespace Go.Proofs.Ytefpnehdgbollaa
/- THE CELL 'sum', in the pinned program and in every row, IS THE sha256 OF THE DUMP (.gsa) THAT YtefpnehdgbollaaProg.lean LOADS. Nothing in Lean hashes anything: it is a label: what it is worth is what the hold of that sum in a sandbox is worth. -/
noncomputable def Try.pinned : Pinned := { name := "ytefpnehdgbollaa", sum := "e6b8dfc3eef4cb255a20e12461a89ae1613521903e2784002f7af85f96d0828a", checked := Try.checked }
namespace Rows
def none {H : Type} : Left H := { results := [], args := [] }

/-- 'laws.FnExactUnitTurn': WHATEVER THE INPUT: true; the input reads as it did. -/
def fnExactUnitTurnSpec : ChangeSpec := { name := "fnExactUnitTurn", fn := fun _ => fun
  | [] => { results := [.lit (.bool true)], args := [] }
  | _ => none }
def fnExactUnitTurnRow : OpenClaim := { program := "ytefpnehdgbollaa", sum := "e6b8dfc3eef4cb255a20e12461a89ae1613521903e2784002f7af85f96d0828a", func := "loop.example/g01204/laws.FnExactUnitTurn", spec := "fnExactUnitTurn", apart := false }
def FnExactUnitTurnSaid : Prop := fnExactUnitTurnRow.holds Try.pinned (OpenSpec.ofChange fnExactUnitTurnSpec)

/-- ITS FALSE NEIGHBOUR: 'it returns false'. Refute it at one input. -/
def fnExactUnitTurnWrong : ChangeSpec := { name := "fnExactUnitTurn", fn := fun _ => fun
  | [] => { results := [.lit (.bool false)], args := [] }
  | _ => none }
def FnExactUnitTurnWrongFalsely : Prop := fnExactUnitTurnRow.holds Try.pinned (OpenSpec.ofChange fnExactUnitTurnWrong)

/-- 'laws.FnExactIsFiniteTurn': WHATEVER THE INPUT: true; the input reads as it did. -/
def fnExactIsFiniteTurnSpec : ChangeSpec := { name := "fnExactIsFiniteTurn", fn := fun _ => fun
  | [d] => { results := [.lit (.bool true)], args := [d] }
  | _ => none }
def fnExactIsFiniteTurnRow : OpenClaim := { program := "ytefpnehdgbollaa", sum := "e6b8dfc3eef4cb255a20e12461a89ae1613521903e2784002f7af85f96d0828a", func := "loop.example/g01204/laws.FnExactIsFiniteTurn", spec := "fnExactIsFiniteTurn", inPlace := ["math.Float64bits", "math.Float64frombits"], apart := false }
def FnExactIsFiniteTurnSaid : Prop := fnExactIsFiniteTurnRow.holds Try.pinned (OpenSpec.ofChange fnExactIsFiniteTurnSpec)

/-- ITS FALSE NEIGHBOUR: 'it returns false'. Refute it at one input. -/
def fnExactIsFiniteTurnWrong : ChangeSpec := { name := "fnExactIsFiniteTurn", fn := fun _ => fun
  | [d] => { results := [.lit (.bool false)], args := [d] }
  | _ => none }
def FnExactIsFiniteTurnWrongFalsely : Prop := fnExactIsFiniteTurnRow.holds Try.pinned (OpenSpec.ofChange fnExactIsFiniteTurnWrong)

/-- 'laws.FnExactSameTurn': WHATEVER THE INPUT: true; the input reads as it did. -/
def fnExactSameTurnSpec : ChangeSpec := { name := "fnExactSameTurn", fn := fun _ => fun
  | [d1, d2] => { results := [.lit (.bool true)], args := [d1, d2] }
  | _ => none }
def fnExactSameTurnRow : OpenClaim := { program := "ytefpnehdgbollaa", sum := "e6b8dfc3eef4cb255a20e12461a89ae1613521903e2784002f7af85f96d0828a", func := "loop.example/g01204/laws.FnExactSameTurn", spec := "fnExactSameTurn", inPlace := ["math.Float32bits"], apart := false }
def FnExactSameTurnSaid : Prop := fnExactSameTurnRow.holds Try.pinned (OpenSpec.ofChange fnExactSameTurnSpec)

/-- ITS FALSE NEIGHBOUR: 'it returns false'. Refute it at one input. -/
def fnExactSameTurnWrong : ChangeSpec := { name := "fnExactSameTurn", fn := fun _ => fun
  | [d1, d2] => { results := [.lit (.bool false)], args := [d1, d2] }
  | _ => none }
def FnExactSameTurnWrongFalsely : Prop := fnExactSameTurnRow.holds Try.pinned (OpenSpec.ofChange fnExactSameTurnWrong)

/-- 'laws.FnExactMulTurns': WHATEVER THE INPUT: true; the input reads as it did. -/
def fnExactMulTurnsSpec : ChangeSpec := { name := "fnExactMulTurns", fn := fun _ => fun
  | [d1, d2] => { results := [.lit (.bool true)], args := [d1, d2] }
  | _ => none }
def fnExactMulTurnsRow : OpenClaim := { program := "ytefpnehdgbollaa", sum := "e6b8dfc3eef4cb255a20e12461a89ae1613521903e2784002f7af85f96d0828a", func := "loop.example/g01204/laws.FnExactMulTurns", spec := "fnExactMulTurns", unfollowed := true, recurses := true, apart := false }
def FnExactMulTurnsSaid : Prop := fnExactMulTurnsRow.holds Try.pinned (OpenSpec.ofChange fnExactMulTurnsSpec)

/-- ITS FALSE NEIGHBOUR: 'it returns false'. Refute it at one input. -/
def fnExactMulTurnsWrong : ChangeSpec := { name := "fnExactMulTurns", fn := fun _ => fun
  | [d1, d2] => { results := [.lit (.bool false)], args := [d1, d2] }
  | _ => none }
def FnExactMulTurnsWrongFalsely : Prop := fnExactMulTurnsRow.holds Try.pinned (OpenSpec.ofChange fnExactMulTurnsWrong)

/-- 'laws.FnExactBackTurn': WHATEVER THE INPUT: true; the input reads as it did. -/
def fnExactBackTurnSpec : ChangeSpec := { name := "fnExactBackTurn", fn := fun _ => fun
  | [d] => { results := [.lit (.bool true)], args := [d] }
  | _ => none }
def fnExactBackTurnRow : OpenClaim := { program := "ytefpnehdgbollaa", sum := "e6b8dfc3eef4cb255a20e12461a89ae1613521903e2784002f7af85f96d0828a", func := "loop.example/g01204/laws.FnExactBackTurn", spec := "fnExactBackTurn", apart := false }
def FnExactBackTurnSaid : Prop := fnExactBackTurnRow.holds Try.pinned (OpenSpec.ofChange fnExactBackTurnSpec)

/-- ITS FALSE NEIGHBOUR: 'it returns false'. Refute it at one input. -/
def fnExactBackTurnWrong : ChangeSpec := { name := "fnExactBackTurn", fn := fun _ => fun
  | [d] => { results := [.lit (.bool false)], args := [d] }
  | _ => none }
def FnExactBackTurnWrongFalsely : Prop := fnExactBackTurnRow.holds Try.pinned (OpenSpec.ofChange fnExactBackTurnWrong)

/-- 'laws.FnExactSizeOfTurn': WHATEVER THE INPUT: true; the input reads as it did. -/
def fnExactSizeOfTurnSpec : ChangeSpec := { name := "fnExactSizeOfTurn", fn := fun _ => fun
  | [d] => { results := [.lit (.bool true)], args := [d] }
  | _ => none }
def fnExactSizeOfTurnRow : OpenClaim := { program := "ytefpnehdgbollaa", sum := "e6b8dfc3eef4cb255a20e12461a89ae1613521903e2784002f7af85f96d0828a", func := "loop.example/g01204/laws.FnExactSizeOfTurn", spec := "fnExactSizeOfTurn", inPlace := ["math.sqrt"], apart := false }
def FnExactSizeOfTurnSaid : Prop := fnExactSizeOfTurnRow.holds Try.pinned (OpenSpec.ofChange fnExactSizeOfTurnSpec)

/-- ITS FALSE NEIGHBOUR: 'it returns false'. Refute it at one input. -/
def fnExactSizeOfTurnWrong : ChangeSpec := { name := "fnExactSizeOfTurn", fn := fun _ => fun
  | [d] => { results := [.lit (.bool false)], args := [d] }
  | _ => none }
def FnExactSizeOfTurnWrongFalsely : Prop := fnExactSizeOfTurnRow.holds Try.pinned (OpenSpec.ofChange fnExactSizeOfTurnWrong)

/-- 'laws.FnExactNormTurn': WHATEVER THE INPUT: true; the input reads as it did. -/
def fnExactNormTurnSpec : ChangeSpec := { name := "fnExactNormTurn", fn := fun _ => fun
  | [d] => { results := [.lit (.bool true)], args := [d] }
  | _ => none }
def fnExactNormTurnRow : OpenClaim := { program := "ytefpnehdgbollaa", sum := "e6b8dfc3eef4cb255a20e12461a89ae1613521903e2784002f7af85f96d0828a", func := "loop.example/g01204/laws.FnExactNormTurn", spec := "fnExactNormTurn", inPlace := ["math.sqrt", "math.Float64bits", "math.Float64frombits"], apart := false }
def FnExactNormTurnSaid : Prop := fnExactNormTurnRow.holds Try.pinned (OpenSpec.ofChange fnExactNormTurnSpec)

/-- ITS FALSE NEIGHBOUR: 'it returns false'. Refute it at one input. -/
def fnExactNormTurnWrong : ChangeSpec := { name := "fnExactNormTurn", fn := fun _ => fun
  | [d] => { results := [.lit (.bool false)], args := [d] }
  | _ => none }
def FnExactNormTurnWrongFalsely : Prop := fnExactNormTurnRow.holds Try.pinned (OpenSpec.ofChange fnExactNormTurnWrong)

/-- 'laws.FnExactTurnMatrix': WHATEVER THE INPUT: true; the input reads as it did. -/
def fnExactTurnMatrixSpec : ChangeSpec := { name := "fnExactTurnMatrix", fn := fun _ => fun
  | [d] => { results := [.lit (.bool true)], args := [d] }
  | _ => none }
def fnExactTurnMatrixRow : OpenClaim := { program := "ytefpnehdgbollaa", sum := "e6b8dfc3eef4cb255a20e12461a89ae1613521903e2784002f7af85f96d0828a", func := "loop.example/g01204/laws.FnExactTurnMatrix", spec := "fnExactTurnMatrix", apart := false }
def FnExactTurnMatrixSaid : Prop := fnExactTurnMatrixRow.holds Try.pinned (OpenSpec.ofChange fnExactTurnMatrixSpec)

/-- ITS FALSE NEIGHBOUR: 'it returns false'. Refute it at one input. -/
def fnExactTurnMatrixWrong : ChangeSpec := { name := "fnExactTurnMatrix", fn := fun _ => fun
  | [d] => { results := [.lit (.bool false)], args := [d] }
  | _ => none }
def FnExactTurnMatrixWrongFalsely : Prop := fnExactTurnMatrixRow.holds Try.pinned (OpenSpec.ofChange fnExactTurnMatrixWrong)

/-- 'laws.FnExactTurnVec': WHATEVER THE INPUT: true; the input reads as it did. -/
def fnExactTurnVecSpec : ChangeSpec := { name := "fnExactTurnVec", fn := fun _ => fun
  | [d1, d2] => { results := [.lit (.bool true)], args := [d1, d2] }
  | _ => none }
def fnExactTurnVecRow : OpenClaim := { program := "ytefpnehdgbollaa", sum := "e6b8dfc3eef4cb255a20e12461a89ae1613521903e2784002f7af85f96d0828a", func := "loop.example/g01204/laws.FnExactTurnVec", spec := "fnExactTurnVec", apart := false }
def FnExactTurnVecSaid : Prop := fnExactTurnVecRow.holds Try.pinned (OpenSpec.ofChange fnExactTurnVecSpec)

/-- ITS FALSE NEIGHBOUR: 'it returns false'. Refute it at one input. -/
def fnExactTurnVecWrong : ChangeSpec := { name := "fnExactTurnVec", fn := fun _ => fun
  | [d1, d2] => { results := [.lit (.bool false)], args := [d1, d2] }
  | _ => none }
def FnExactTurnVecWrongFalsely : Prop := fnExactTurnVecRow.holds Try.pinned (OpenSpec.ofChange fnExactTurnVecWrong)

/-- 'laws.FnExactMixTurns': WHATEVER THE INPUT: true; the input reads as it did. -/
def fnExactMixTurnsSpec : ChangeSpec := { name := "fnExactMixTurns", fn := fun _ => fun
  | [d1, d2, d3] => { results := [.lit (.bool true)], args := [d1, d2, d3] }
  | _ => none }
def fnExactMixTurnsRow : OpenClaim := { program := "ytefpnehdgbollaa", sum := "e6b8dfc3eef4cb255a20e12461a89ae1613521903e2784002f7af85f96d0828a", func := "loop.example/g01204/laws.FnExactMixTurns", spec := "fnExactMixTurns", inPlace := ["math.sqrt", "math.Float64bits", "math.Float64frombits"], apart := false }
def FnExactMixTurnsSaid : Prop := fnExactMixTurnsRow.holds Try.pinned (OpenSpec.ofChange fnExactMixTurnsSpec)

/-- ITS FALSE NEIGHBOUR: 'it returns false'. Refute it at one input. -/
def fnExactMixTurnsWrong : ChangeSpec := { name := "fnExactMixTurns", fn := fun _ => fun
  | [d1, d2, d3] => { results := [.lit (.bool false)], args := [d1, d2, d3] }
  | _ => none }
def FnExactMixTurnsWrongFalsely : Prop := fnExactMixTurnsRow.holds Try.pinned (OpenSpec.ofChange fnExactMixTurnsWrong)

/-- 'laws.FnExactTurnOfMatrix': WHATEVER THE INPUT: true; the input reads as it did. -/
def fnExactTurnOfMatrixSpec : ChangeSpec := { name := "fnExactTurnOfMatrix", fn := fun _ => fun
  | [d] => { results := [.lit (.bool true)], args := [d] }
  | _ => none }
def fnExactTurnOfMatrixRow : OpenClaim := { program := "ytefpnehdgbollaa", sum := "e6b8dfc3eef4cb255a20e12461a89ae1613521903e2784002f7af85f96d0828a", func := "loop.example/g01204/laws.FnExactTurnOfMatrix", spec := "fnExactTurnOfMatrix", inPlace := ["math.sqrt", "math.Float64bits", "math.Float64frombits"], apart := false }
def FnExactTurnOfMatrixSaid : Prop := fnExactTurnOfMatrixRow.holds Try.pinned (OpenSpec.ofChange fnExactTurnOfMatrixSpec)

/-- ITS FALSE NEIGHBOUR: 'it returns false'. Refute it at one input. -/
def fnExactTurnOfMatrixWrong : ChangeSpec := { name := "fnExactTurnOfMatrix", fn := fun _ => fun
  | [d] => { results := [.lit (.bool false)], args := [d] }
  | _ => none }
def FnExactTurnOfMatrixWrongFalsely : Prop := fnExactTurnOfMatrixRow.holds Try.pinned (OpenSpec.ofChange fnExactTurnOfMatrixWrong)

/-- 'laws.FnExactWrapAngle': WHATEVER THE INPUT: true; the input reads as it did. -/
def fnExactWrapAngleSpec : ChangeSpec := { name := "fnExactWrapAngle", fn := fun _ => fun
  | [d] => { results := [.lit (.bool true)], args := [d] }
  | _ => none }
def fnExactWrapAngleRow : OpenClaim := { program := "ytefpnehdgbollaa", sum := "e6b8dfc3eef4cb255a20e12461a89ae1613521903e2784002f7af85f96d0828a", func := "loop.example/g01204/laws.FnExactWrapAngle", spec := "fnExactWrapAngle", inPlace := ["math.Float64frombits", "math.RoundToEven", "math.Float64bits", "math.Float32frombits"], apart := false }
def FnExactWrapAngleSaid : Prop := fnExactWrapAngleRow.holds Try.pinned (OpenSpec.ofChange fnExactWrapAngleSpec)

/-- ITS FALSE NEIGHBOUR: 'it returns false'. Refute it at one input. -/
def fnExactWrapAngleWrong : ChangeSpec := { name := "fnExactWrapAngle", fn := fun _ => fun
  | [d] => { results := [.lit (.bool false)], args := [d] }
  | _ => none }
def FnExactWrapAngleWrongFalsely : Prop := fnExactWrapAngleRow.holds Try.pinned (OpenSpec.ofChange fnExactWrapAngleWrong)

/- THE SECOND FORM. 'bulk': how many values and letters a reading holds, each counted each time it is reached (what is shared counts as often as it is met; a slice's spare places count too). A statement '..UptoSaid' is the law's where the arguments, and the package variables that the reading takes, are together of bulk at most 1048576: NARROWER than '..Said'. Prove '..Said' where nothing that the law and all that it calls make is longer than what came in: it says more and counts as full. Else prove '..UptoSaid'. A law counts once. -/
mutual
def uptoBulk {H : Type} : DataW H → Nat
  | .lit (.string bytes) => bytes.length + 1
  | .lit _ => 1
  | .nil => 1
  | .ptr d => uptoBulk d + 1
  | .slice elems spare => uptoBulkAll elems + uptoBulkAll spare + 1
  | .agg parts => uptoBulkAll parts + 1
  | .iface _ d => uptoBulk d + 1
  | .map entries => uptoBulkEntries entries + 1
  | .held _ => 1
def uptoBulkAll {H : Type} : List (DataW H) → Nat
  | [] => 0
  | d :: r => uptoBulk d + uptoBulkAll r
def uptoBulkEntries {H : Type} : List (Lit × DataW H) → Nat
  | [] => 0
  | x :: r => uptoBulkEntry x + uptoBulkEntries r
def uptoBulkEntry {H : Type} : Lit × DataW H → Nat
  | (.string bytes, d) => bytes.length + uptoBulk d + 1
  | (_, d) => uptoBulk d + 1
 end
def uptoSmall : (H : Type) → List (DataW H) → Bool := fun _ ds => decide (uptoBulkAll ds ≤ 1048576)
def OpenSpec.upto (s : _root_.Go.ChangeSpec) : _root_.Go.OpenSpec := { _root_.Go.OpenSpec.ofChange s with cond := some uptoSmall }

/-- 'laws.FnExactUnitTurn', WHERE WHAT IT READS IS OF BULK AT MOST 1048576: true; the input reads as it did. -/
def fnExactUnitTurnUptoRow : OpenClaim := { program := "ytefpnehdgbollaa", sum := "e6b8dfc3eef4cb255a20e12461a89ae1613521903e2784002f7af85f96d0828a", func := "loop.example/g01204/laws.FnExactUnitTurn", spec := "fnExactUnitTurn", apart := false, narrowed := true }
def FnExactUnitTurnUptoSaid : Prop := fnExactUnitTurnUptoRow.holds Try.pinned (OpenSpec.upto fnExactUnitTurnSpec)

/-- 'laws.FnExactIsFiniteTurn', WHERE WHAT IT READS IS OF BULK AT MOST 1048576: true; the input reads as it did. -/
def fnExactIsFiniteTurnUptoRow : OpenClaim := { program := "ytefpnehdgbollaa", sum := "e6b8dfc3eef4cb255a20e12461a89ae1613521903e2784002f7af85f96d0828a", func := "loop.example/g01204/laws.FnExactIsFiniteTurn", spec := "fnExactIsFiniteTurn", inPlace := ["math.Float64bits", "math.Float64frombits"], apart := false, narrowed := true }
def FnExactIsFiniteTurnUptoSaid : Prop := fnExactIsFiniteTurnUptoRow.holds Try.pinned (OpenSpec.upto fnExactIsFiniteTurnSpec)

/-- 'laws.FnExactSameTurn', WHERE WHAT IT READS IS OF BULK AT MOST 1048576: true; the input reads as it did. -/
def fnExactSameTurnUptoRow : OpenClaim := { program := "ytefpnehdgbollaa", sum := "e6b8dfc3eef4cb255a20e12461a89ae1613521903e2784002f7af85f96d0828a", func := "loop.example/g01204/laws.FnExactSameTurn", spec := "fnExactSameTurn", inPlace := ["math.Float32bits"], apart := false, narrowed := true }
def FnExactSameTurnUptoSaid : Prop := fnExactSameTurnUptoRow.holds Try.pinned (OpenSpec.upto fnExactSameTurnSpec)

/-- 'laws.FnExactMulTurns', WHERE WHAT IT READS IS OF BULK AT MOST 1048576: true; the input reads as it did. -/
def fnExactMulTurnsUptoRow : OpenClaim := { program := "ytefpnehdgbollaa", sum := "e6b8dfc3eef4cb255a20e12461a89ae1613521903e2784002f7af85f96d0828a", func := "loop.example/g01204/laws.FnExactMulTurns", spec := "fnExactMulTurns", unfollowed := true, recurses := true, apart := false, narrowed := true }
def FnExactMulTurnsUptoSaid : Prop := fnExactMulTurnsUptoRow.holds Try.pinned (OpenSpec.upto fnExactMulTurnsSpec)

/-- 'laws.FnExactBackTurn', WHERE WHAT IT READS IS OF BULK AT MOST 1048576: true; the input reads as it did. -/
def fnExactBackTurnUptoRow : OpenClaim := { program := "ytefpnehdgbollaa", sum := "e6b8dfc3eef4cb255a20e12461a89ae1613521903e2784002f7af85f96d0828a", func := "loop.example/g01204/laws.FnExactBackTurn", spec := "fnExactBackTurn", apart := false, narrowed := true }
def FnExactBackTurnUptoSaid : Prop := fnExactBackTurnUptoRow.holds Try.pinned (OpenSpec.upto fnExactBackTurnSpec)

/-- 'laws.FnExactSizeOfTurn', WHERE WHAT IT READS IS OF BULK AT MOST 1048576: true; the input reads as it did. -/
def fnExactSizeOfTurnUptoRow : OpenClaim := { program := "ytefpnehdgbollaa", sum := "e6b8dfc3eef4cb255a20e12461a89ae1613521903e2784002f7af85f96d0828a", func := "loop.example/g01204/laws.FnExactSizeOfTurn", spec := "fnExactSizeOfTurn", inPlace := ["math.sqrt"], apart := false, narrowed := true }
def FnExactSizeOfTurnUptoSaid : Prop := fnExactSizeOfTurnUptoRow.holds Try.pinned (OpenSpec.upto fnExactSizeOfTurnSpec)

/-- 'laws.FnExactNormTurn', WHERE WHAT IT READS IS OF BULK AT MOST 1048576: true; the input reads as it did. -/
def fnExactNormTurnUptoRow : OpenClaim := { program := "ytefpnehdgbollaa", sum := "e6b8dfc3eef4cb255a20e12461a89ae1613521903e2784002f7af85f96d0828a", func := "loop.example/g01204/laws.FnExactNormTurn", spec := "fnExactNormTurn", inPlace := ["math.sqrt", "math.Float64bits", "math.Float64frombits"], apart := false, narrowed := true }
def FnExactNormTurnUptoSaid : Prop := fnExactNormTurnUptoRow.holds Try.pinned (OpenSpec.upto fnExactNormTurnSpec)

/-- 'laws.FnExactTurnMatrix', WHERE WHAT IT READS IS OF BULK AT MOST 1048576: true; the input reads as it did. -/
def fnExactTurnMatrixUptoRow : OpenClaim := { program := "ytefpnehdgbollaa", sum := "e6b8dfc3eef4cb255a20e12461a89ae1613521903e2784002f7af85f96d0828a", func := "loop.example/g01204/laws.FnExactTurnMatrix", spec := "fnExactTurnMatrix", apart := false, narrowed := true }
def FnExactTurnMatrixUptoSaid : Prop := fnExactTurnMatrixUptoRow.holds Try.pinned (OpenSpec.upto fnExactTurnMatrixSpec)

/-- 'laws.FnExactTurnVec', WHERE WHAT IT READS IS OF BULK AT MOST 1048576: true; the input reads as it did. -/
def fnExactTurnVecUptoRow : OpenClaim := { program := "ytefpnehdgbollaa", sum := "e6b8dfc3eef4cb255a20e12461a89ae1613521903e2784002f7af85f96d0828a", func := "loop.example/g01204/laws.FnExactTurnVec", spec := "fnExactTurnVec", apart := false, narrowed := true }
def FnExactTurnVecUptoSaid : Prop := fnExactTurnVecUptoRow.holds Try.pinned (OpenSpec.upto fnExactTurnVecSpec)

/-- 'laws.FnExactMixTurns', WHERE WHAT IT READS IS OF BULK AT MOST 1048576: true; the input reads as it did. -/
def fnExactMixTurnsUptoRow : OpenClaim := { program := "ytefpnehdgbollaa", sum := "e6b8dfc3eef4cb255a20e12461a89ae1613521903e2784002f7af85f96d0828a", func := "loop.example/g01204/laws.FnExactMixTurns", spec := "fnExactMixTurns", inPlace := ["math.sqrt", "math.Float64bits", "math.Float64frombits"], apart := false, narrowed := true }
def FnExactMixTurnsUptoSaid : Prop := fnExactMixTurnsUptoRow.holds Try.pinned (OpenSpec.upto fnExactMixTurnsSpec)

/-- 'laws.FnExactTurnOfMatrix', WHERE WHAT IT READS IS OF BULK AT MOST 1048576: true; the input reads as it did. -/
def fnExactTurnOfMatrixUptoRow : OpenClaim := { program := "ytefpnehdgbollaa", sum := "e6b8dfc3eef4cb255a20e12461a89ae1613521903e2784002f7af85f96d0828a", func := "loop.example/g01204/laws.FnExactTurnOfMatrix", spec := "fnExactTurnOfMatrix", inPlace := ["math.sqrt", "math.Float64bits", "math.Float64frombits"], apart := false, narrowed := true }
def FnExactTurnOfMatrixUptoSaid : Prop := fnExactTurnOfMatrixUptoRow.holds Try.pinned (OpenSpec.upto fnExactTurnOfMatrixSpec)

/-- 'laws.FnExactWrapAngle', WHERE WHAT IT READS IS OF BULK AT MOST 1048576: true; the input reads as it did. -/
def fnExactWrapAngleUptoRow : OpenClaim := { program := "ytefpnehdgbollaa", sum := "e6b8dfc3eef4cb255a20e12461a89ae1613521903e2784002f7af85f96d0828a", func := "loop.example/g01204/laws.FnExactWrapAngle", spec := "fnExactWrapAngle", inPlace := ["math.Float64frombits", "math.RoundToEven", "math.Float64bits", "math.Float32frombits"], apart := false, narrowed := true }
def FnExactWrapAngleUptoSaid : Prop := fnExactWrapAngleUptoRow.holds Try.pinned (OpenSpec.upto fnExactWrapAngleSpec)

end Rows
end Go.Proofs.Ytefpnehdgbollaa
