/-
  No cell of these rows narrows 'for every input' (looked for: loops, veiled, ifaces, maps, wideKeys, modest, calm, conditions, laid).
  DERIVED. THE GIVEN ROWS OF THIS SEAT. 7 by the template 'for every input the law returns true; each argument reads behind the call as it read before'; 0 by the template 'total and deterministic' (their statements: YtdojdnndligmhaaTotals.lean).
  GIVEN WITH THE SEED: the statements are not yours to turn. If you find one false, say at which input.
  Laid BY PROGRAM, IN A SANDBOX (cutbox-rows.mjs): the forced cells as the released guide's own fill.sh prints them over the translation 1e2e69c48f660648… (all of the seat's roots in one cut). By AI agents, Wed Nov 11 2026. No macro, syntax, notation, axiom, sorry.
-/
import Derived.Test.YtdojdnndligmhaaChecked
import GoSem.Claim
import GoSem.ClaimJoined
import GoSem.ClaimMapViews
import Derived.JoinedTies
import Derived.KernelRfl
namespace Go.Proofs.Ytdojdnndligmhaa
/- THE CELL 'sum', in the pinned program and in every row, IS THE sha256 OF THE DUMP (.gsa) THAT YtdojdnndligmhaaProg.lean LOADS. Nothing in Lean hashes anything: it is a label: what it is worth is what the hold of that sum in a sandbox is worth. -/
noncomputable def Try.pinned : Pinned := { name := "ytdojdnndligmhaa", sum := "1e2e69c48f660648e8f09e6a99bd73724e03dbba8e149d07024e74f5b7b5e5ac", checked := Try.checked }
namespace Rows
def none {H : Type} : Left H := { results := [], args := [] }

/-- 'laws.FnExactFixSensor': WHATEVER THE INPUT: true; the input reads as it did. -/
def fnExactFixSensorSpec : ChangeSpec := { name := "fnExactFixSensor", fn := fun _ => fun
  | [] => { results := [.lit (.bool true)], args := [] }
  | _ => none }
def fnExactFixSensorRow : OpenClaim := { program := "ytdojdnndligmhaa", sum := "1e2e69c48f660648e8f09e6a99bd73724e03dbba8e149d07024e74f5b7b5e5ac", func := "loop.example/g01204/laws.FnExactFixSensor", spec := "fnExactFixSensor", apart := false }
def FnExactFixSensorSaid : Prop := fnExactFixSensorRow.holds Try.pinned (OpenSpec.ofChange fnExactFixSensorSpec)

/-- ITS FALSE NEIGHBOUR: 'it returns false'. Refute it at one input. -/
def fnExactFixSensorWrong : ChangeSpec := { name := "fnExactFixSensor", fn := fun _ => fun
  | [] => { results := [.lit (.bool false)], args := [] }
  | _ => none }
def FnExactFixSensorWrongFalsely : Prop := fnExactFixSensorRow.holds Try.pinned (OpenSpec.ofChange fnExactFixSensorWrong)

/-- 'laws.FnExactValidMission': WHATEVER THE INPUT: true; the input reads as it did. -/
def fnExactValidMissionSpec : ChangeSpec := { name := "fnExactValidMission", fn := fun _ => fun
  | [d] => { results := [.lit (.bool true)], args := [d] }
  | _ => none }
def fnExactValidMissionRow : OpenClaim := { program := "ytdojdnndligmhaa", sum := "1e2e69c48f660648e8f09e6a99bd73724e03dbba8e149d07024e74f5b7b5e5ac", func := "loop.example/g01204/laws.FnExactValidMission", spec := "fnExactValidMission", inPlace := ["math.Float64bits", "math.Float64frombits"], apart := false }
def FnExactValidMissionSaid : Prop := fnExactValidMissionRow.holds Try.pinned (OpenSpec.ofChange fnExactValidMissionSpec)

/-- ITS FALSE NEIGHBOUR: 'it returns false'. Refute it at one input. -/
def fnExactValidMissionWrong : ChangeSpec := { name := "fnExactValidMission", fn := fun _ => fun
  | [d] => { results := [.lit (.bool false)], args := [d] }
  | _ => none }
def FnExactValidMissionWrongFalsely : Prop := fnExactValidMissionRow.holds Try.pinned (OpenSpec.ofChange fnExactValidMissionWrong)

/-- 'laws.FnExactSameMission': WHATEVER THE INPUT: true; the input reads as it did. -/
def fnExactSameMissionSpec : ChangeSpec := { name := "fnExactSameMission", fn := fun _ => fun
  | [d1, d2] => { results := [.lit (.bool true)], args := [d1, d2] }
  | _ => none }
def fnExactSameMissionRow : OpenClaim := { program := "ytdojdnndligmhaa", sum := "1e2e69c48f660648e8f09e6a99bd73724e03dbba8e149d07024e74f5b7b5e5ac", func := "loop.example/g01204/laws.FnExactSameMission", spec := "fnExactSameMission", inPlace := ["math.Float32bits"], unfollowed := true, recurses := true, apart := false }
def FnExactSameMissionSaid : Prop := fnExactSameMissionRow.holds Try.pinned (OpenSpec.ofChange fnExactSameMissionSpec)

/-- ITS FALSE NEIGHBOUR: 'it returns false'. Refute it at one input. -/
def fnExactSameMissionWrong : ChangeSpec := { name := "fnExactSameMission", fn := fun _ => fun
  | [d1, d2] => { results := [.lit (.bool false)], args := [d1, d2] }
  | _ => none }
def FnExactSameMissionWrongFalsely : Prop := fnExactSameMissionRow.holds Try.pinned (OpenSpec.ofChange fnExactSameMissionWrong)

/-- 'laws.FnExactTicksOf': WHATEVER THE INPUT: true; the input reads as it did. -/
def fnExactTicksOfSpec : ChangeSpec := { name := "fnExactTicksOf", fn := fun _ => fun
  | [d] => { results := [.lit (.bool true)], args := [d] }
  | _ => none }
def fnExactTicksOfRow : OpenClaim := { program := "ytdojdnndligmhaa", sum := "1e2e69c48f660648e8f09e6a99bd73724e03dbba8e149d07024e74f5b7b5e5ac", func := "loop.example/g01204/laws.FnExactTicksOf", spec := "fnExactTicksOf", inPlace := ["math.Float64bits", "math.Float64frombits"], apart := false }
def FnExactTicksOfSaid : Prop := fnExactTicksOfRow.holds Try.pinned (OpenSpec.ofChange fnExactTicksOfSpec)

/-- ITS FALSE NEIGHBOUR: 'it returns false'. Refute it at one input. -/
def fnExactTicksOfWrong : ChangeSpec := { name := "fnExactTicksOf", fn := fun _ => fun
  | [d] => { results := [.lit (.bool false)], args := [d] }
  | _ => none }
def FnExactTicksOfWrongFalsely : Prop := fnExactTicksOfRow.holds Try.pinned (OpenSpec.ofChange fnExactTicksOfWrong)

/-- 'laws.FnExactValidLog': WHATEVER THE INPUT: true; the input reads as it did. -/
def fnExactValidLogSpec : ChangeSpec := { name := "fnExactValidLog", fn := fun _ => fun
  | [d] => { results := [.lit (.bool true)], args := [d] }
  | _ => none }
def fnExactValidLogRow : OpenClaim := { program := "ytdojdnndligmhaa", sum := "1e2e69c48f660648e8f09e6a99bd73724e03dbba8e149d07024e74f5b7b5e5ac", func := "loop.example/g01204/laws.FnExactValidLog", spec := "fnExactValidLog", inPlace := ["math.Float32bits", "math.Float64bits", "math.Float64frombits"], unfollowed := true, recurses := true, apart := false }
def FnExactValidLogSaid : Prop := fnExactValidLogRow.holds Try.pinned (OpenSpec.ofChange fnExactValidLogSpec)

/-- ITS FALSE NEIGHBOUR: 'it returns false'. Refute it at one input. -/
def fnExactValidLogWrong : ChangeSpec := { name := "fnExactValidLog", fn := fun _ => fun
  | [d] => { results := [.lit (.bool false)], args := [d] }
  | _ => none }
def FnExactValidLogWrongFalsely : Prop := fnExactValidLogRow.holds Try.pinned (OpenSpec.ofChange fnExactValidLogWrong)

/-- 'laws.FnExactSameLog': WHATEVER THE INPUT: true; the input reads as it did. -/
def fnExactSameLogSpec : ChangeSpec := { name := "fnExactSameLog", fn := fun _ => fun
  | [d1, d2] => { results := [.lit (.bool true)], args := [d1, d2] }
  | _ => none }
def fnExactSameLogRow : OpenClaim := { program := "ytdojdnndligmhaa", sum := "1e2e69c48f660648e8f09e6a99bd73724e03dbba8e149d07024e74f5b7b5e5ac", func := "loop.example/g01204/laws.FnExactSameLog", spec := "fnExactSameLog", inPlace := ["math.Float32bits"], unfollowed := true, recurses := true, apart := false }
def FnExactSameLogSaid : Prop := fnExactSameLogRow.holds Try.pinned (OpenSpec.ofChange fnExactSameLogSpec)

/-- ITS FALSE NEIGHBOUR: 'it returns false'. Refute it at one input. -/
def fnExactSameLogWrong : ChangeSpec := { name := "fnExactSameLog", fn := fun _ => fun
  | [d1, d2] => { results := [.lit (.bool false)], args := [d1, d2] }
  | _ => none }
def FnExactSameLogWrongFalsely : Prop := fnExactSameLogRow.holds Try.pinned (OpenSpec.ofChange fnExactSameLogWrong)

/-- 'laws.FnExactFirstState': WHATEVER THE INPUT: true; the input reads as it did. -/
def fnExactFirstStateSpec : ChangeSpec := { name := "fnExactFirstState", fn := fun _ => fun
  | [d] => { results := [.lit (.bool true)], args := [d] }
  | _ => none }
def fnExactFirstStateRow : OpenClaim := { program := "ytdojdnndligmhaa", sum := "1e2e69c48f660648e8f09e6a99bd73724e03dbba8e149d07024e74f5b7b5e5ac", func := "loop.example/g01204/laws.FnExactFirstState", spec := "fnExactFirstState", inPlace := ["math.Float32bits", "math.Float64bits", "math.Float64frombits"], unfollowed := true, recurses := true, apart := false }
def FnExactFirstStateSaid : Prop := fnExactFirstStateRow.holds Try.pinned (OpenSpec.ofChange fnExactFirstStateSpec)

/-- ITS FALSE NEIGHBOUR: 'it returns false'. Refute it at one input. -/
def fnExactFirstStateWrong : ChangeSpec := { name := "fnExactFirstState", fn := fun _ => fun
  | [d] => { results := [.lit (.bool false)], args := [d] }
  | _ => none }
def FnExactFirstStateWrongFalsely : Prop := fnExactFirstStateRow.holds Try.pinned (OpenSpec.ofChange fnExactFirstStateWrong)

/- THE SECOND FORM. 'bulk': how many values and letters a reading holds, each counted each time it is reached (what is shared counts as often as it is met; a slice's spare places count too). A statement '..UptoSaid' is the law's where the arguments, and the package variables that the reading takes, are together of bulk at most 1048576: NARROWER than '..Said'. Prove '..Said' where nothing that the law and all that it calls make is longer than what came in: it says more and counts as full. Else prove '..UptoSaid'. A law counts once. -/
mutual
def uptoBulk {H : Type} : DataW H → Nat
  | .lit (.string bytes) => bytes.length + 1
  | .lit _ => 1
  | .nil => 1
  | .ptr d => uptoBulk d + 1
  | .slice elems spare => uptoBulkAll elems + uptoBulkAll spare + 1
  | .agg parts => uptoBulkAll parts + 1
  | .iface _ d => uptoBulk d + 1
  | .map entries => uptoBulkEntries entries + 1
  | .held _ => 1
def uptoBulkAll {H : Type} : List (DataW H) → Nat
  | [] => 0
  | d :: r => uptoBulk d + uptoBulkAll r
def uptoBulkEntries {H : Type} : List (Lit × DataW H) → Nat
  | [] => 0
  | x :: r => uptoBulkEntry x + uptoBulkEntries r
def uptoBulkEntry {H : Type} : Lit × DataW H → Nat
  | (.string bytes, d) => bytes.length + uptoBulk d + 1
  | (_, d) => uptoBulk d + 1
 end
def uptoSmall : (H : Type) → List (DataW H) → Bool := fun _ ds => decide (uptoBulkAll ds ≤ 1048576)
def OpenSpec.upto (s : _root_.Go.ChangeSpec) : _root_.Go.OpenSpec := { _root_.Go.OpenSpec.ofChange s with cond := some uptoSmall }

/-- 'laws.FnExactFixSensor', WHERE WHAT IT READS IS OF BULK AT MOST 1048576: true; the input reads as it did. -/
def fnExactFixSensorUptoRow : OpenClaim := { program := "ytdojdnndligmhaa", sum := "1e2e69c48f660648e8f09e6a99bd73724e03dbba8e149d07024e74f5b7b5e5ac", func := "loop.example/g01204/laws.FnExactFixSensor", spec := "fnExactFixSensor", apart := false, narrowed := true }
def FnExactFixSensorUptoSaid : Prop := fnExactFixSensorUptoRow.holds Try.pinned (OpenSpec.upto fnExactFixSensorSpec)

/-- 'laws.FnExactValidMission', WHERE WHAT IT READS IS OF BULK AT MOST 1048576: true; the input reads as it did. -/
def fnExactValidMissionUptoRow : OpenClaim := { program := "ytdojdnndligmhaa", sum := "1e2e69c48f660648e8f09e6a99bd73724e03dbba8e149d07024e74f5b7b5e5ac", func := "loop.example/g01204/laws.FnExactValidMission", spec := "fnExactValidMission", inPlace := ["math.Float64bits", "math.Float64frombits"], apart := false, narrowed := true }
def FnExactValidMissionUptoSaid : Prop := fnExactValidMissionUptoRow.holds Try.pinned (OpenSpec.upto fnExactValidMissionSpec)

/-- 'laws.FnExactSameMission', WHERE WHAT IT READS IS OF BULK AT MOST 1048576: true; the input reads as it did. -/
def fnExactSameMissionUptoRow : OpenClaim := { program := "ytdojdnndligmhaa", sum := "1e2e69c48f660648e8f09e6a99bd73724e03dbba8e149d07024e74f5b7b5e5ac", func := "loop.example/g01204/laws.FnExactSameMission", spec := "fnExactSameMission", inPlace := ["math.Float32bits"], unfollowed := true, recurses := true, apart := false, narrowed := true }
def FnExactSameMissionUptoSaid : Prop := fnExactSameMissionUptoRow.holds Try.pinned (OpenSpec.upto fnExactSameMissionSpec)

/-- 'laws.FnExactTicksOf', WHERE WHAT IT READS IS OF BULK AT MOST 1048576: true; the input reads as it did. -/
def fnExactTicksOfUptoRow : OpenClaim := { program := "ytdojdnndligmhaa", sum := "1e2e69c48f660648e8f09e6a99bd73724e03dbba8e149d07024e74f5b7b5e5ac", func := "loop.example/g01204/laws.FnExactTicksOf", spec := "fnExactTicksOf", inPlace := ["math.Float64bits", "math.Float64frombits"], apart := false, narrowed := true }
def FnExactTicksOfUptoSaid : Prop := fnExactTicksOfUptoRow.holds Try.pinned (OpenSpec.upto fnExactTicksOfSpec)

/-- 'laws.FnExactValidLog', WHERE WHAT IT READS IS OF BULK AT MOST 1048576: true; the input reads as it did. -/
def fnExactValidLogUptoRow : OpenClaim := { program := "ytdojdnndligmhaa", sum := "1e2e69c48f660648e8f09e6a99bd73724e03dbba8e149d07024e74f5b7b5e5ac", func := "loop.example/g01204/laws.FnExactValidLog", spec := "fnExactValidLog", inPlace := ["math.Float32bits", "math.Float64bits", "math.Float64frombits"], unfollowed := true, recurses := true, apart := false, narrowed := true }
def FnExactValidLogUptoSaid : Prop := fnExactValidLogUptoRow.holds Try.pinned (OpenSpec.upto fnExactValidLogSpec)

/-- 'laws.FnExactSameLog', WHERE WHAT IT READS IS OF BULK AT MOST 1048576: true; the input reads as it did. -/
def fnExactSameLogUptoRow : OpenClaim := { program := "ytdojdnndligmhaa", sum := "1e2e69c48f660648e8f09e6a99bd73724e03dbba8e149d07024e74f5b7b5e5ac", func := "loop.example/g01204/laws.FnExactSameLog", spec := "fnExactSameLog", inPlace := ["math.Float32bits"], unfollowed := true, recurses := true, apart := false, narrowed := true }
def FnExactSameLogUptoSaid : Prop := fnExactSameLogUptoRow.holds Try.pinned (OpenSpec.upto fnExactSameLogSpec)

/-- 'laws.FnExactFirstState', WHERE WHAT IT READS IS OF BULK AT MOST 1048576: true; the input reads as it did. -/
def fnExactFirstStateUptoRow : OpenClaim := { program := "ytdojdnndligmhaa", sum := "1e2e69c48f660648e8f09e6a99bd73724e03dbba8e149d07024e74f5b7b5e5ac", func := "loop.example/g01204/laws.FnExactFirstState", spec := "fnExactFirstState", inPlace := ["math.Float32bits", "math.Float64bits", "math.Float64frombits"], unfollowed := true, recurses := true, apart := false, narrowed := true }
def FnExactFirstStateUptoSaid : Prop := fnExactFirstStateUptoRow.holds Try.pinned (OpenSpec.upto fnExactFirstStateSpec)

end Rows
end Go.Proofs.Ytdojdnndligmhaa
