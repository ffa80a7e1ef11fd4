/-
  No cell of these rows narrows 'for every input' (looked for: loops, veiled, ifaces, maps, wideKeys, modest, calm, conditions, laid).
  DERIVED. THE GIVEN ROWS OF THIS SEAT. 7 by the template 'for every input the law returns true; each argument reads behind the call as it read before'; 0 by the template 'total and deterministic' (their statements: YtejljfejajckoaaTotals.lean).
  GIVEN WITH THE SEED: the statements are not yours to turn. If you find one false, say at which input.
  Laid BY PROGRAM, IN A SANDBOX (cutbox-rows.mjs): the forced cells as the released guide's own fill.sh prints them over the translation 883ae08205c8b227… (all of the seat's roots in one cut). By AI agents, Wed Nov 11 2026. No macro, syntax, notation, axiom, sorry.
-/
import Derived.Test.YtejljfejajckoaaChecked
import GoSem.Claim
import GoSem.ClaimJoined
import GoSem.ClaimMapViews
import Derived.JoinedTies
import Derived.KernelRfl
namespace Go.Proofs.Ytejljfejajckoaa
/- THE CELL 'sum', in the pinned program and in every row, IS THE sha256 OF THE DUMP (.gsa) THAT YtejljfejajckoaaProg.lean LOADS. Nothing in Lean hashes anything: it is a label: what it is worth is what the hold of that sum in a sandbox is worth. -/
noncomputable def Try.pinned : Pinned := { name := "ytejljfejajckoaa", sum := "883ae08205c8b22761de3155d23f6914126bfd0848c3652b9ce9e52c6f95109a", checked := Try.checked }
namespace Rows
def none {H : Type} : Left H := { results := [], args := [] }

/-- 'laws.FnExactGridOfMarks': WHATEVER THE INPUT: true; the input reads as it did. -/
def fnExactGridOfMarksSpec : ChangeSpec := { name := "fnExactGridOfMarks", fn := fun _ => fun
  | [d1, d2, d3, d4, d5] => { results := [.lit (.bool true)], args := [d1, d2, d3, d4, d5] }
  | _ => none }
def fnExactGridOfMarksRow : OpenClaim := { program := "ytejljfejajckoaa", sum := "883ae08205c8b22761de3155d23f6914126bfd0848c3652b9ce9e52c6f95109a", func := "loop.example/g01204/laws.FnExactGridOfMarks", spec := "fnExactGridOfMarks", inPlace := ["math.archFloor", "math.Float64bits", "math.Float64frombits", "math.archTrunc"], apart := false }
def FnExactGridOfMarksSaid : Prop := fnExactGridOfMarksRow.holds Try.pinned (OpenSpec.ofChange fnExactGridOfMarksSpec)

/-- ITS FALSE NEIGHBOUR: 'it returns false'. Refute it at one input. -/
def fnExactGridOfMarksWrong : ChangeSpec := { name := "fnExactGridOfMarks", fn := fun _ => fun
  | [d1, d2, d3, d4, d5] => { results := [.lit (.bool false)], args := [d1, d2, d3, d4, d5] }
  | _ => none }
def FnExactGridOfMarksWrongFalsely : Prop := fnExactGridOfMarksRow.holds Try.pinned (OpenSpec.ofChange fnExactGridOfMarksWrong)

/-- 'laws.FnExactAheadOnWay': WHATEVER THE INPUT: true; the input reads as it did. -/
def fnExactAheadOnWaySpec : ChangeSpec := { name := "fnExactAheadOnWay", fn := fun _ => fun
  | [d1, d2, d3] => { results := [.lit (.bool true)], args := [d1, d2, d3] }
  | _ => none }
def fnExactAheadOnWayRow : OpenClaim := { program := "ytejljfejajckoaa", sum := "883ae08205c8b22761de3155d23f6914126bfd0848c3652b9ce9e52c6f95109a", func := "loop.example/g01204/laws.FnExactAheadOnWay", spec := "fnExactAheadOnWay", inPlace := ["math.sqrt", "math.Float64bits", "math.Float64frombits"], apart := false }
def FnExactAheadOnWaySaid : Prop := fnExactAheadOnWayRow.holds Try.pinned (OpenSpec.ofChange fnExactAheadOnWaySpec)

/-- ITS FALSE NEIGHBOUR: 'it returns false'. Refute it at one input. -/
def fnExactAheadOnWayWrong : ChangeSpec := { name := "fnExactAheadOnWay", fn := fun _ => fun
  | [d1, d2, d3] => { results := [.lit (.bool false)], args := [d1, d2, d3] }
  | _ => none }
def FnExactAheadOnWayWrongFalsely : Prop := fnExactAheadOnWayRow.holds Try.pinned (OpenSpec.ofChange fnExactAheadOnWayWrong)

/-- 'laws.FnExactFollowWay': WHATEVER THE INPUT: true; the input reads as it did. -/
def fnExactFollowWaySpec : ChangeSpec := { name := "fnExactFollowWay", fn := fun _ => fun
  | [d1, d2, d3, d4] => { results := [.lit (.bool true)], args := [d1, d2, d3, d4] }
  | _ => none }
def fnExactFollowWayRow : OpenClaim := { program := "ytejljfejajckoaa", sum := "883ae08205c8b22761de3155d23f6914126bfd0848c3652b9ce9e52c6f95109a", func := "loop.example/g01204/laws.FnExactFollowWay", spec := "fnExactFollowWay", inPlace := ["math.sqrt", "math.Float64frombits", "math.Float64bits", "math.RoundToEven", "math.archFloor", "math.archTrunc", "math.Float32frombits"], apart := false }
def FnExactFollowWaySaid : Prop := fnExactFollowWayRow.holds Try.pinned (OpenSpec.ofChange fnExactFollowWaySpec)

/-- ITS FALSE NEIGHBOUR: 'it returns false'. Refute it at one input. -/
def fnExactFollowWayWrong : ChangeSpec := { name := "fnExactFollowWay", fn := fun _ => fun
  | [d1, d2, d3, d4] => { results := [.lit (.bool false)], args := [d1, d2, d3, d4] }
  | _ => none }
def FnExactFollowWayWrongFalsely : Prop := fnExactFollowWayRow.holds Try.pinned (OpenSpec.ofChange fnExactFollowWayWrong)

/-- 'laws.FnExactTrackOf': WHATEVER THE INPUT: true; the input reads as it did. -/
def fnExactTrackOfSpec : ChangeSpec := { name := "fnExactTrackOf", fn := fun _ => fun
  | [d] => { results := [.lit (.bool true)], args := [d] }
  | _ => none }
def fnExactTrackOfRow : OpenClaim := { program := "ytejljfejajckoaa", sum := "883ae08205c8b22761de3155d23f6914126bfd0848c3652b9ce9e52c6f95109a", func := "loop.example/g01204/laws.FnExactTrackOf", spec := "fnExactTrackOf", inPlace := ["math.Float64bits", "math.Float64frombits"], apart := false }
def FnExactTrackOfSaid : Prop := fnExactTrackOfRow.holds Try.pinned (OpenSpec.ofChange fnExactTrackOfSpec)

/-- ITS FALSE NEIGHBOUR: 'it returns false'. Refute it at one input. -/
def fnExactTrackOfWrong : ChangeSpec := { name := "fnExactTrackOf", fn := fun _ => fun
  | [d] => { results := [.lit (.bool false)], args := [d] }
  | _ => none }
def FnExactTrackOfWrongFalsely : Prop := fnExactTrackOfRow.holds Try.pinned (OpenSpec.ofChange fnExactTrackOfWrong)

/-- 'laws.FnExactMeanOfFeed': WHATEVER THE INPUT: true; the input reads as it did. -/
def fnExactMeanOfFeedSpec : ChangeSpec := { name := "fnExactMeanOfFeed", fn := fun _ => fun
  | [d1, d2] => { results := [.lit (.bool true)], args := [d1, d2] }
  | _ => none }
def fnExactMeanOfFeedRow : OpenClaim := { program := "ytejljfejajckoaa", sum := "883ae08205c8b22761de3155d23f6914126bfd0848c3652b9ce9e52c6f95109a", func := "loop.example/g01204/laws.FnExactMeanOfFeed", spec := "fnExactMeanOfFeed", inPlace := ["math.Float64bits", "math.Float64frombits"], apart := false }
def FnExactMeanOfFeedSaid : Prop := fnExactMeanOfFeedRow.holds Try.pinned (OpenSpec.ofChange fnExactMeanOfFeedSpec)

/-- ITS FALSE NEIGHBOUR: 'it returns false'. Refute it at one input. -/
def fnExactMeanOfFeedWrong : ChangeSpec := { name := "fnExactMeanOfFeed", fn := fun _ => fun
  | [d1, d2] => { results := [.lit (.bool false)], args := [d1, d2] }
  | _ => none }
def FnExactMeanOfFeedWrongFalsely : Prop := fnExactMeanOfFeedRow.holds Try.pinned (OpenSpec.ofChange fnExactMeanOfFeedWrong)

/-- 'laws.FnExactCentreOf': WHATEVER THE INPUT: true; the input reads as it did. -/
def fnExactCentreOfSpec : ChangeSpec := { name := "fnExactCentreOf", fn := fun _ => fun
  | [d] => { results := [.lit (.bool true)], args := [d] }
  | _ => none }
def fnExactCentreOfRow : OpenClaim := { program := "ytejljfejajckoaa", sum := "883ae08205c8b22761de3155d23f6914126bfd0848c3652b9ce9e52c6f95109a", func := "loop.example/g01204/laws.FnExactCentreOf", spec := "fnExactCentreOf", inPlace := ["math.Float64bits", "math.Float64frombits"], apart := false }
def FnExactCentreOfSaid : Prop := fnExactCentreOfRow.holds Try.pinned (OpenSpec.ofChange fnExactCentreOfSpec)

/-- ITS FALSE NEIGHBOUR: 'it returns false'. Refute it at one input. -/
def fnExactCentreOfWrong : ChangeSpec := { name := "fnExactCentreOf", fn := fun _ => fun
  | [d] => { results := [.lit (.bool false)], args := [d] }
  | _ => none }
def FnExactCentreOfWrongFalsely : Prop := fnExactCentreOfRow.holds Try.pinned (OpenSpec.ofChange fnExactCentreOfWrong)

/-- 'laws.FnExactCorrectBy': WHATEVER THE INPUT: true; the input reads as it did. -/
def fnExactCorrectBySpec : ChangeSpec := { name := "fnExactCorrectBy", fn := fun _ => fun
  | [d1, d2] => { results := [.lit (.bool true)], args := [d1, d2] }
  | _ => none }
def fnExactCorrectByRow : OpenClaim := { program := "ytejljfejajckoaa", sum := "883ae08205c8b22761de3155d23f6914126bfd0848c3652b9ce9e52c6f95109a", func := "loop.example/g01204/laws.FnExactCorrectBy", spec := "fnExactCorrectBy", inPlace := ["math.Float64bits", "math.Float64frombits"], unfollowed := true, recurses := true, apart := false }
def FnExactCorrectBySaid : Prop := fnExactCorrectByRow.holds Try.pinned (OpenSpec.ofChange fnExactCorrectBySpec)

/-- ITS FALSE NEIGHBOUR: 'it returns false'. Refute it at one input. -/
def fnExactCorrectByWrong : ChangeSpec := { name := "fnExactCorrectBy", fn := fun _ => fun
  | [d1, d2] => { results := [.lit (.bool false)], args := [d1, d2] }
  | _ => none }
def FnExactCorrectByWrongFalsely : Prop := fnExactCorrectByRow.holds Try.pinned (OpenSpec.ofChange fnExactCorrectByWrong)

/- THE SECOND FORM. 'bulk': how many values and letters a reading holds, each counted each time it is reached (what is shared counts as often as it is met; a slice's spare places count too). A statement '..UptoSaid' is the law's where the arguments, and the package variables that the reading takes, are together of bulk at most 1048576: NARROWER than '..Said'. Prove '..Said' where nothing that the law and all that it calls make is longer than what came in: it says more and counts as full. Else prove '..UptoSaid'. A law counts once. -/
mutual
def uptoBulk {H : Type} : DataW H → Nat
  | .lit (.string bytes) => bytes.length + 1
  | .lit _ => 1
  | .nil => 1
  | .ptr d => uptoBulk d + 1
  | .slice elems spare => uptoBulkAll elems + uptoBulkAll spare + 1
  | .agg parts => uptoBulkAll parts + 1
  | .iface _ d => uptoBulk d + 1
  | .map entries => uptoBulkEntries entries + 1
  | .held _ => 1
def uptoBulkAll {H : Type} : List (DataW H) → Nat
  | [] => 0
  | d :: r => uptoBulk d + uptoBulkAll r
def uptoBulkEntries {H : Type} : List (Lit × DataW H) → Nat
  | [] => 0
  | x :: r => uptoBulkEntry x + uptoBulkEntries r
def uptoBulkEntry {H : Type} : Lit × DataW H → Nat
  | (.string bytes, d) => bytes.length + uptoBulk d + 1
  | (_, d) => uptoBulk d + 1
 end
def uptoSmall : (H : Type) → List (DataW H) → Bool := fun _ ds => decide (uptoBulkAll ds ≤ 1048576)
def OpenSpec.upto (s : _root_.Go.ChangeSpec) : _root_.Go.OpenSpec := { _root_.Go.OpenSpec.ofChange s with cond := some uptoSmall }

/-- 'laws.FnExactGridOfMarks', WHERE WHAT IT READS IS OF BULK AT MOST 1048576: true; the input reads as it did. -/
def fnExactGridOfMarksUptoRow : OpenClaim := { program := "ytejljfejajckoaa", sum := "883ae08205c8b22761de3155d23f6914126bfd0848c3652b9ce9e52c6f95109a", func := "loop.example/g01204/laws.FnExactGridOfMarks", spec := "fnExactGridOfMarks", inPlace := ["math.archFloor", "math.Float64bits", "math.Float64frombits", "math.archTrunc"], apart := false, narrowed := true }
def FnExactGridOfMarksUptoSaid : Prop := fnExactGridOfMarksUptoRow.holds Try.pinned (OpenSpec.upto fnExactGridOfMarksSpec)

/-- 'laws.FnExactAheadOnWay', WHERE WHAT IT READS IS OF BULK AT MOST 1048576: true; the input reads as it did. -/
def fnExactAheadOnWayUptoRow : OpenClaim := { program := "ytejljfejajckoaa", sum := "883ae08205c8b22761de3155d23f6914126bfd0848c3652b9ce9e52c6f95109a", func := "loop.example/g01204/laws.FnExactAheadOnWay", spec := "fnExactAheadOnWay", inPlace := ["math.sqrt", "math.Float64bits", "math.Float64frombits"], apart := false, narrowed := true }
def FnExactAheadOnWayUptoSaid : Prop := fnExactAheadOnWayUptoRow.holds Try.pinned (OpenSpec.upto fnExactAheadOnWaySpec)

/-- 'laws.FnExactFollowWay', WHERE WHAT IT READS IS OF BULK AT MOST 1048576: true; the input reads as it did. -/
def fnExactFollowWayUptoRow : OpenClaim := { program := "ytejljfejajckoaa", sum := "883ae08205c8b22761de3155d23f6914126bfd0848c3652b9ce9e52c6f95109a", func := "loop.example/g01204/laws.FnExactFollowWay", spec := "fnExactFollowWay", inPlace := ["math.sqrt", "math.Float64frombits", "math.Float64bits", "math.RoundToEven", "math.archFloor", "math.archTrunc", "math.Float32frombits"], apart := false, narrowed := true }
def FnExactFollowWayUptoSaid : Prop := fnExactFollowWayUptoRow.holds Try.pinned (OpenSpec.upto fnExactFollowWaySpec)

/-- 'laws.FnExactTrackOf', WHERE WHAT IT READS IS OF BULK AT MOST 1048576: true; the input reads as it did. -/
def fnExactTrackOfUptoRow : OpenClaim := { program := "ytejljfejajckoaa", sum := "883ae08205c8b22761de3155d23f6914126bfd0848c3652b9ce9e52c6f95109a", func := "loop.example/g01204/laws.FnExactTrackOf", spec := "fnExactTrackOf", inPlace := ["math.Float64bits", "math.Float64frombits"], apart := false, narrowed := true }
def FnExactTrackOfUptoSaid : Prop := fnExactTrackOfUptoRow.holds Try.pinned (OpenSpec.upto fnExactTrackOfSpec)

/-- 'laws.FnExactMeanOfFeed', WHERE WHAT IT READS IS OF BULK AT MOST 1048576: true; the input reads as it did. -/
def fnExactMeanOfFeedUptoRow : OpenClaim := { program := "ytejljfejajckoaa", sum := "883ae08205c8b22761de3155d23f6914126bfd0848c3652b9ce9e52c6f95109a", func := "loop.example/g01204/laws.FnExactMeanOfFeed", spec := "fnExactMeanOfFeed", inPlace := ["math.Float64bits", "math.Float64frombits"], apart := false, narrowed := true }
def FnExactMeanOfFeedUptoSaid : Prop := fnExactMeanOfFeedUptoRow.holds Try.pinned (OpenSpec.upto fnExactMeanOfFeedSpec)

/-- 'laws.FnExactCentreOf', WHERE WHAT IT READS IS OF BULK AT MOST 1048576: true; the input reads as it did. -/
def fnExactCentreOfUptoRow : OpenClaim := { program := "ytejljfejajckoaa", sum := "883ae08205c8b22761de3155d23f6914126bfd0848c3652b9ce9e52c6f95109a", func := "loop.example/g01204/laws.FnExactCentreOf", spec := "fnExactCentreOf", inPlace := ["math.Float64bits", "math.Float64frombits"], apart := false, narrowed := true }
def FnExactCentreOfUptoSaid : Prop := fnExactCentreOfUptoRow.holds Try.pinned (OpenSpec.upto fnExactCentreOfSpec)

/-- 'laws.FnExactCorrectBy', WHERE WHAT IT READS IS OF BULK AT MOST 1048576: true; the input reads as it did. -/
def fnExactCorrectByUptoRow : OpenClaim := { program := "ytejljfejajckoaa", sum := "883ae08205c8b22761de3155d23f6914126bfd0848c3652b9ce9e52c6f95109a", func := "loop.example/g01204/laws.FnExactCorrectBy", spec := "fnExactCorrectBy", inPlace := ["math.Float64bits", "math.Float64frombits"], unfollowed := true, recurses := true, apart := false, narrowed := true }
def FnExactCorrectByUptoSaid : Prop := fnExactCorrectByUptoRow.holds Try.pinned (OpenSpec.upto fnExactCorrectBySpec)

end Rows
end Go.Proofs.Ytejljfejajckoaa
