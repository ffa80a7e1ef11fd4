/-
  No cell of these rows narrows 'for every input' (looked for: loops, veiled, ifaces, maps, wideKeys, modest, calm, conditions, laid).
  DERIVED. THE GIVEN ROWS OF THIS SEAT. 6 by the template 'for every input the law returns true; each argument reads behind the call as it read before'; 0 by the template 'total and deterministic' (their statements: YtcopccniijkceaaTotals.lean).
  GIVEN WITH THE SEED: the statements are not yours to turn. If you find one false, say at which input.
  Laid BY PROGRAM, IN A SANDBOX (cutbox-rows.mjs): the forced cells as the released guide's own fill.sh prints them over the translation 53f022223104e360… (all of the seat's roots in one cut). By AI agents, Wed Nov 11 2026. No macro, syntax, notation, axiom, sorry.
-/
import Derived.Test.YtcopccniijkceaaChecked
import GoSem.Claim
import GoSem.ClaimJoined
import GoSem.ClaimMapViews
import Derived.JoinedTies
import Derived.KernelRfl
namespace Go.Proofs.Ytcopccniijkceaa
/- THE CELL 'sum', in the pinned program and in every row, IS THE sha256 OF THE DUMP (.gsa) THAT YtcopccniijkceaaProg.lean LOADS. Nothing in Lean hashes anything: it is a label: what it is worth is what the hold of that sum in a sandbox is worth. -/
noncomputable def Try.pinned : Pinned := { name := "ytcopccniijkceaa", sum := "53f022223104e360be222b70b9d32c49a20920aa3fb0a1f43ed95c2cd4f39b00", checked := Try.checked }
namespace Rows
def none {H : Type} : Left H := { results := [], args := [] }

/-- 'laws.FnExactValidFleet': WHATEVER THE INPUT: true; the input reads as it did. -/
def fnExactValidFleetSpec : ChangeSpec := { name := "fnExactValidFleet", fn := fun _ => fun
  | [d] => { results := [.lit (.bool true)], args := [d] }
  | _ => none }
def fnExactValidFleetRow : OpenClaim := { program := "ytcopccniijkceaa", sum := "53f022223104e360be222b70b9d32c49a20920aa3fb0a1f43ed95c2cd4f39b00", func := "loop.example/g01204/laws.FnExactValidFleet", spec := "fnExactValidFleet", inPlace := ["math.archFloor", "math.Float64bits", "math.Float64frombits", "math.archTrunc"], apart := false }
def FnExactValidFleetSaid : Prop := fnExactValidFleetRow.holds Try.pinned (OpenSpec.ofChange fnExactValidFleetSpec)

/-- ITS FALSE NEIGHBOUR: 'it returns false'. Refute it at one input. -/
def fnExactValidFleetWrong : ChangeSpec := { name := "fnExactValidFleet", fn := fun _ => fun
  | [d] => { results := [.lit (.bool false)], args := [d] }
  | _ => none }
def FnExactValidFleetWrongFalsely : Prop := fnExactValidFleetRow.holds Try.pinned (OpenSpec.ofChange fnExactValidFleetWrong)

/-- 'laws.FnExactPacketOf': WHATEVER THE INPUT: true; the input reads as it did. -/
def fnExactPacketOfSpec : ChangeSpec := { name := "fnExactPacketOf", fn := fun _ => fun
  | [d] => { results := [.lit (.bool true)], args := [d] }
  | _ => none }
def fnExactPacketOfRow : OpenClaim := { program := "ytcopccniijkceaa", sum := "53f022223104e360be222b70b9d32c49a20920aa3fb0a1f43ed95c2cd4f39b00", func := "loop.example/g01204/laws.FnExactPacketOf", spec := "fnExactPacketOf", apart := false }
def FnExactPacketOfSaid : Prop := fnExactPacketOfRow.holds Try.pinned (OpenSpec.ofChange fnExactPacketOfSpec)

/-- ITS FALSE NEIGHBOUR: 'it returns false'. Refute it at one input. -/
def fnExactPacketOfWrong : ChangeSpec := { name := "fnExactPacketOf", fn := fun _ => fun
  | [d] => { results := [.lit (.bool false)], args := [d] }
  | _ => none }
def FnExactPacketOfWrongFalsely : Prop := fnExactPacketOfRow.holds Try.pinned (OpenSpec.ofChange fnExactPacketOfWrong)

/-- 'laws.FnExactReadPacket': WHATEVER THE INPUT: true; the input reads as it did. -/
def fnExactReadPacketSpec : ChangeSpec := { name := "fnExactReadPacket", fn := fun _ => fun
  | [d] => { results := [.lit (.bool true)], args := [d] }
  | _ => none }
def fnExactReadPacketRow : OpenClaim := { program := "ytcopccniijkceaa", sum := "53f022223104e360be222b70b9d32c49a20920aa3fb0a1f43ed95c2cd4f39b00", func := "loop.example/g01204/laws.FnExactReadPacket", spec := "fnExactReadPacket", apart := false }
def FnExactReadPacketSaid : Prop := fnExactReadPacketRow.holds Try.pinned (OpenSpec.ofChange fnExactReadPacketSpec)

/-- ITS FALSE NEIGHBOUR: 'it returns false'. Refute it at one input. -/
def fnExactReadPacketWrong : ChangeSpec := { name := "fnExactReadPacket", fn := fun _ => fun
  | [d] => { results := [.lit (.bool false)], args := [d] }
  | _ => none }
def FnExactReadPacketWrongFalsely : Prop := fnExactReadPacketRow.holds Try.pinned (OpenSpec.ofChange fnExactReadPacketWrong)

/-- 'laws.FnExactFirstState': WHATEVER THE INPUT: true; the input reads as it did. -/
def fnExactFirstStateSpec : ChangeSpec := { name := "fnExactFirstState", fn := fun _ => fun
  | [d] => { results := [.lit (.bool true)], args := [d] }
  | _ => none }
def fnExactFirstStateRow : OpenClaim := { program := "ytcopccniijkceaa", sum := "53f022223104e360be222b70b9d32c49a20920aa3fb0a1f43ed95c2cd4f39b00", func := "loop.example/g01204/laws.FnExactFirstState", spec := "fnExactFirstState", inPlace := ["math.Float32bits", "math.Float64bits", "math.Float64frombits"], unfollowed := true, recurses := true, apart := false }
def FnExactFirstStateSaid : Prop := fnExactFirstStateRow.holds Try.pinned (OpenSpec.ofChange fnExactFirstStateSpec)

/-- ITS FALSE NEIGHBOUR: 'it returns false'. Refute it at one input. -/
def fnExactFirstStateWrong : ChangeSpec := { name := "fnExactFirstState", fn := fun _ => fun
  | [d] => { results := [.lit (.bool false)], args := [d] }
  | _ => none }
def FnExactFirstStateWrongFalsely : Prop := fnExactFirstStateRow.holds Try.pinned (OpenSpec.ofChange fnExactFirstStateWrong)

/-- 'laws.FnExactStepTurns': WHATEVER THE INPUT: true; the input reads as it did. -/
def fnExactStepTurnsSpec : ChangeSpec := { name := "fnExactStepTurns", fn := fun _ => fun
  | [d1, d2, d3] => { results := [.lit (.bool true)], args := [d1, d2, d3] }
  | _ => none }
def fnExactStepTurnsRow : OpenClaim := { program := "ytcopccniijkceaa", sum := "53f022223104e360be222b70b9d32c49a20920aa3fb0a1f43ed95c2cd4f39b00", func := "loop.example/g01204/laws.FnExactStepTurns", spec := "fnExactStepTurns", inPlace := ["math.sqrt", "math.Float64frombits", "math.archFloor", "math.Float64bits", "math.archTrunc", "math.Float32frombits"], unfollowed := true, recurses := true, apart := false }
def FnExactStepTurnsSaid : Prop := fnExactStepTurnsRow.holds Try.pinned (OpenSpec.ofChange fnExactStepTurnsSpec)

/-- ITS FALSE NEIGHBOUR: 'it returns false'. Refute it at one input. -/
def fnExactStepTurnsWrong : ChangeSpec := { name := "fnExactStepTurns", fn := fun _ => fun
  | [d1, d2, d3] => { results := [.lit (.bool false)], args := [d1, d2, d3] }
  | _ => none }
def FnExactStepTurnsWrongFalsely : Prop := fnExactStepTurnsRow.holds Try.pinned (OpenSpec.ofChange fnExactStepTurnsWrong)

/-- 'laws.FnExactGridOfMarks': WHATEVER THE INPUT: true; the input reads as it did. -/
def fnExactGridOfMarksSpec : ChangeSpec := { name := "fnExactGridOfMarks", fn := fun _ => fun
  | [d1, d2, d3, d4, d5] => { results := [.lit (.bool true)], args := [d1, d2, d3, d4, d5] }
  | _ => none }
def fnExactGridOfMarksRow : OpenClaim := { program := "ytcopccniijkceaa", sum := "53f022223104e360be222b70b9d32c49a20920aa3fb0a1f43ed95c2cd4f39b00", func := "loop.example/g01204/laws.FnExactGridOfMarks", spec := "fnExactGridOfMarks", inPlace := ["math.archFloor", "math.Float64bits", "math.Float64frombits", "math.archTrunc"], apart := false }
def FnExactGridOfMarksSaid : Prop := fnExactGridOfMarksRow.holds Try.pinned (OpenSpec.ofChange fnExactGridOfMarksSpec)

/-- ITS FALSE NEIGHBOUR: 'it returns false'. Refute it at one input. -/
def fnExactGridOfMarksWrong : ChangeSpec := { name := "fnExactGridOfMarks", fn := fun _ => fun
  | [d1, d2, d3, d4, d5] => { results := [.lit (.bool false)], args := [d1, d2, d3, d4, d5] }
  | _ => none }
def FnExactGridOfMarksWrongFalsely : Prop := fnExactGridOfMarksRow.holds Try.pinned (OpenSpec.ofChange fnExactGridOfMarksWrong)

/- THE SECOND FORM. 'bulk': how many values and letters a reading holds, each counted each time it is reached (what is shared counts as often as it is met; a slice's spare places count too). A statement '..UptoSaid' is the law's where the arguments, and the package variables that the reading takes, are together of bulk at most 1048576: NARROWER than '..Said'. Prove '..Said' where nothing that the law and all that it calls make is longer than what came in: it says more and counts as full. Else prove '..UptoSaid'. A law counts once. -/
mutual
def uptoBulk {H : Type} : DataW H → Nat
  | .lit (.string bytes) => bytes.length + 1
  | .lit _ => 1
  | .nil => 1
  | .ptr d => uptoBulk d + 1
  | .slice elems spare => uptoBulkAll elems + uptoBulkAll spare + 1
  | .agg parts => uptoBulkAll parts + 1
  | .iface _ d => uptoBulk d + 1
  | .map entries => uptoBulkEntries entries + 1
  | .held _ => 1
def uptoBulkAll {H : Type} : List (DataW H) → Nat
  | [] => 0
  | d :: r => uptoBulk d + uptoBulkAll r
def uptoBulkEntries {H : Type} : List (Lit × DataW H) → Nat
  | [] => 0
  | x :: r => uptoBulkEntry x + uptoBulkEntries r
def uptoBulkEntry {H : Type} : Lit × DataW H → Nat
  | (.string bytes, d) => bytes.length + uptoBulk d + 1
  | (_, d) => uptoBulk d + 1
 end
def uptoSmall : (H : Type) → List (DataW H) → Bool := fun _ ds => decide (uptoBulkAll ds ≤ 1048576)
def OpenSpec.upto (s : _root_.Go.ChangeSpec) : _root_.Go.OpenSpec := { _root_.Go.OpenSpec.ofChange s with cond := some uptoSmall }

/-- 'laws.FnExactValidFleet', WHERE WHAT IT READS IS OF BULK AT MOST 1048576: true; the input reads as it did. -/
def fnExactValidFleetUptoRow : OpenClaim := { program := "ytcopccniijkceaa", sum := "53f022223104e360be222b70b9d32c49a20920aa3fb0a1f43ed95c2cd4f39b00", func := "loop.example/g01204/laws.FnExactValidFleet", spec := "fnExactValidFleet", inPlace := ["math.archFloor", "math.Float64bits", "math.Float64frombits", "math.archTrunc"], apart := false, narrowed := true }
def FnExactValidFleetUptoSaid : Prop := fnExactValidFleetUptoRow.holds Try.pinned (OpenSpec.upto fnExactValidFleetSpec)

/-- 'laws.FnExactPacketOf', WHERE WHAT IT READS IS OF BULK AT MOST 1048576: true; the input reads as it did. -/
def fnExactPacketOfUptoRow : OpenClaim := { program := "ytcopccniijkceaa", sum := "53f022223104e360be222b70b9d32c49a20920aa3fb0a1f43ed95c2cd4f39b00", func := "loop.example/g01204/laws.FnExactPacketOf", spec := "fnExactPacketOf", apart := false, narrowed := true }
def FnExactPacketOfUptoSaid : Prop := fnExactPacketOfUptoRow.holds Try.pinned (OpenSpec.upto fnExactPacketOfSpec)

/-- 'laws.FnExactReadPacket', WHERE WHAT IT READS IS OF BULK AT MOST 1048576: true; the input reads as it did. -/
def fnExactReadPacketUptoRow : OpenClaim := { program := "ytcopccniijkceaa", sum := "53f022223104e360be222b70b9d32c49a20920aa3fb0a1f43ed95c2cd4f39b00", func := "loop.example/g01204/laws.FnExactReadPacket", spec := "fnExactReadPacket", apart := false, narrowed := true }
def FnExactReadPacketUptoSaid : Prop := fnExactReadPacketUptoRow.holds Try.pinned (OpenSpec.upto fnExactReadPacketSpec)

/-- 'laws.FnExactFirstState', WHERE WHAT IT READS IS OF BULK AT MOST 1048576: true; the input reads as it did. -/
def fnExactFirstStateUptoRow : OpenClaim := { program := "ytcopccniijkceaa", sum := "53f022223104e360be222b70b9d32c49a20920aa3fb0a1f43ed95c2cd4f39b00", func := "loop.example/g01204/laws.FnExactFirstState", spec := "fnExactFirstState", inPlace := ["math.Float32bits", "math.Float64bits", "math.Float64frombits"], unfollowed := true, recurses := true, apart := false, narrowed := true }
def FnExactFirstStateUptoSaid : Prop := fnExactFirstStateUptoRow.holds Try.pinned (OpenSpec.upto fnExactFirstStateSpec)

/-- 'laws.FnExactStepTurns', WHERE WHAT IT READS IS OF BULK AT MOST 1048576: true; the input reads as it did. -/
def fnExactStepTurnsUptoRow : OpenClaim := { program := "ytcopccniijkceaa", sum := "53f022223104e360be222b70b9d32c49a20920aa3fb0a1f43ed95c2cd4f39b00", func := "loop.example/g01204/laws.FnExactStepTurns", spec := "fnExactStepTurns", inPlace := ["math.sqrt", "math.Float64frombits", "math.archFloor", "math.Float64bits", "math.archTrunc", "math.Float32frombits"], unfollowed := true, recurses := true, apart := false, narrowed := true }
def FnExactStepTurnsUptoSaid : Prop := fnExactStepTurnsUptoRow.holds Try.pinned (OpenSpec.upto fnExactStepTurnsSpec)

/-- 'laws.FnExactGridOfMarks', WHERE WHAT IT READS IS OF BULK AT MOST 1048576: true; the input reads as it did. -/
def fnExactGridOfMarksUptoRow : OpenClaim := { program := "ytcopccniijkceaa", sum := "53f022223104e360be222b70b9d32c49a20920aa3fb0a1f43ed95c2cd4f39b00", func := "loop.example/g01204/laws.FnExactGridOfMarks", spec := "fnExactGridOfMarks", inPlace := ["math.archFloor", "math.Float64bits", "math.Float64frombits", "math.archTrunc"], apart := false, narrowed := true }
def FnExactGridOfMarksUptoSaid : Prop := fnExactGridOfMarksUptoRow.holds Try.pinned (OpenSpec.upto fnExactGridOfMarksSpec)

end Rows
end Go.Proofs.Ytcopccniijkceaa
