/-
  No cell of these rows narrows 'for every input' (looked for: loops, veiled, ifaces, maps, wideKeys, modest, calm, conditions, laid).
  DERIVED. THE GIVEN ROWS OF THIS SEAT. 12 by the template 'for every input the law returns true; each argument reads behind the call as it read before'; 0 by the template 'total and deterministic' (their statements: YtdahlpljgcibfabTotals.lean).
  GIVEN WITH THE SEED: the statements are not yours to turn. If you find one false, say at which input.
  Laid BY PROGRAM, IN A SANDBOX (cutbox-rows.mjs): the forced cells as the released guide's own fill.sh prints them over the translation 5afb1c859a1e8347… (all of the seat's roots in one cut). By AI agents, Wed Nov 11 2026. No macro, syntax, notation, axiom, sorry.
-/
import Derived.Test.YtdahlpljgcibfabChecked
import GoSem.Claim
import GoSem.ClaimJoined
import GoSem.ClaimMapViews
import Derived.JoinedTies
import Derived.KernelRfl
namespace Go.Proofs.Ytdahlpljgcibfab
/- THE CELL 'sum', in the pinned program and in every row, IS THE sha256 OF THE DUMP (.gsa) THAT YtdahlpljgcibfabProg.lean LOADS. Nothing in Lean hashes anything: it is a label: what it is worth is what the hold of that sum in a sandbox is worth. -/
noncomputable def Try.pinned : Pinned := { name := "ytdahlpljgcibfab", sum := "5afb1c859a1e8347987426f2fd9bf5583777fb20ffa055ad1e1e1733baacddbc", checked := Try.checked }
namespace Rows
def none {H : Type} : Left H := { results := [], args := [] }

/-- 'laws.FnExactLengthOfWay': WHATEVER THE INPUT: true; the input reads as it did. -/
def fnExactLengthOfWaySpec : ChangeSpec := { name := "fnExactLengthOfWay", fn := fun _ => fun
  | [d] => { results := [.lit (.bool true)], args := [d] }
  | _ => none }
def fnExactLengthOfWayRow : OpenClaim := { program := "ytdahlpljgcibfab", sum := "5afb1c859a1e8347987426f2fd9bf5583777fb20ffa055ad1e1e1733baacddbc", func := "loop.example/g01204/laws.FnExactLengthOfWay", spec := "fnExactLengthOfWay", inPlace := ["math.sqrt", "math.Float64bits", "math.Float64frombits"], plainKeys := false, apart := false }
def FnExactLengthOfWaySaid : Prop := fnExactLengthOfWayRow.holds Try.pinned (OpenSpec.ofChange fnExactLengthOfWaySpec)

/-- ITS FALSE NEIGHBOUR: 'it returns false'. Refute it at one input. -/
def fnExactLengthOfWayWrong : ChangeSpec := { name := "fnExactLengthOfWay", fn := fun _ => fun
  | [d] => { results := [.lit (.bool false)], args := [d] }
  | _ => none }
def FnExactLengthOfWayWrongFalsely : Prop := fnExactLengthOfWayRow.holds Try.pinned (OpenSpec.ofChange fnExactLengthOfWayWrong)

/-- 'laws.FnExactAheadOnWay': WHATEVER THE INPUT: true; the input reads as it did. -/
def fnExactAheadOnWaySpec : ChangeSpec := { name := "fnExactAheadOnWay", fn := fun _ => fun
  | [d1, d2, d3] => { results := [.lit (.bool true)], args := [d1, d2, d3] }
  | _ => none }
def fnExactAheadOnWayRow : OpenClaim := { program := "ytdahlpljgcibfab", sum := "5afb1c859a1e8347987426f2fd9bf5583777fb20ffa055ad1e1e1733baacddbc", func := "loop.example/g01204/laws.FnExactAheadOnWay", spec := "fnExactAheadOnWay", inPlace := ["math.sqrt", "math.Float64bits", "math.Float64frombits"], plainKeys := false, apart := false }
def FnExactAheadOnWaySaid : Prop := fnExactAheadOnWayRow.holds Try.pinned (OpenSpec.ofChange fnExactAheadOnWaySpec)

/-- ITS FALSE NEIGHBOUR: 'it returns false'. Refute it at one input. -/
def fnExactAheadOnWayWrong : ChangeSpec := { name := "fnExactAheadOnWay", fn := fun _ => fun
  | [d1, d2, d3] => { results := [.lit (.bool false)], args := [d1, d2, d3] }
  | _ => none }
def FnExactAheadOnWayWrongFalsely : Prop := fnExactAheadOnWayRow.holds Try.pinned (OpenSpec.ofChange fnExactAheadOnWayWrong)

/-- 'laws.FnExactFollowWay': WHATEVER THE INPUT: true; the input reads as it did. -/
def fnExactFollowWaySpec : ChangeSpec := { name := "fnExactFollowWay", fn := fun _ => fun
  | [d1, d2, d3, d4] => { results := [.lit (.bool true)], args := [d1, d2, d3, d4] }
  | _ => none }
def fnExactFollowWayRow : OpenClaim := { program := "ytdahlpljgcibfab", sum := "5afb1c859a1e8347987426f2fd9bf5583777fb20ffa055ad1e1e1733baacddbc", func := "loop.example/g01204/laws.FnExactFollowWay", spec := "fnExactFollowWay", inPlace := ["math.sqrt", "math.Float64frombits", "math.Float64bits", "math.RoundToEven", "math.archFloor", "math.archTrunc", "math.Float32frombits"], plainKeys := false, apart := false }
def FnExactFollowWaySaid : Prop := fnExactFollowWayRow.holds Try.pinned (OpenSpec.ofChange fnExactFollowWaySpec)

/-- ITS FALSE NEIGHBOUR: 'it returns false'. Refute it at one input. -/
def fnExactFollowWayWrong : ChangeSpec := { name := "fnExactFollowWay", fn := fun _ => fun
  | [d1, d2, d3, d4] => { results := [.lit (.bool false)], args := [d1, d2, d3, d4] }
  | _ => none }
def FnExactFollowWayWrongFalsely : Prop := fnExactFollowWayRow.holds Try.pinned (OpenSpec.ofChange fnExactFollowWayWrong)

/-- 'laws.FnExactPointsOf': WHATEVER THE INPUT: true; the input reads as it did. -/
def fnExactPointsOfSpec : ChangeSpec := { name := "fnExactPointsOf", fn := fun _ => fun
  | [d1, d2, d3] => { results := [.lit (.bool true)], args := [d1, d2, d3] }
  | _ => none }
def fnExactPointsOfRow : OpenClaim := { program := "ytdahlpljgcibfab", sum := "5afb1c859a1e8347987426f2fd9bf5583777fb20ffa055ad1e1e1733baacddbc", func := "loop.example/g01204/laws.FnExactPointsOf", spec := "fnExactPointsOf", inPlace := ["math.Float64bits", "math.Float64frombits"], plainKeys := false, apart := false }
def FnExactPointsOfSaid : Prop := fnExactPointsOfRow.holds Try.pinned (OpenSpec.ofChange fnExactPointsOfSpec)

/-- ITS FALSE NEIGHBOUR: 'it returns false'. Refute it at one input. -/
def fnExactPointsOfWrong : ChangeSpec := { name := "fnExactPointsOf", fn := fun _ => fun
  | [d1, d2, d3] => { results := [.lit (.bool false)], args := [d1, d2, d3] }
  | _ => none }
def FnExactPointsOfWrongFalsely : Prop := fnExactPointsOfRow.holds Try.pinned (OpenSpec.ofChange fnExactPointsOfWrong)

/-- 'laws.FnExactForgetBefore': WHATEVER THE INPUT: true; the input reads as it did. -/
def fnExactForgetBeforeSpec : ChangeSpec := { name := "fnExactForgetBefore", fn := fun _ => fun
  | [d1, d2] => { results := [.lit (.bool true)], args := [d1, d2] }
  | _ => none }
def fnExactForgetBeforeRow : OpenClaim := { program := "ytdahlpljgcibfab", sum := "5afb1c859a1e8347987426f2fd9bf5583777fb20ffa055ad1e1e1733baacddbc", func := "loop.example/g01204/laws.FnExactForgetBefore", spec := "fnExactForgetBefore", inPlace := ["math.Float64bits", "math.Float64frombits"], unfollowed := true, recurses := true, plainKeys := false, apart := false }
def FnExactForgetBeforeSaid : Prop := fnExactForgetBeforeRow.holds Try.pinned (OpenSpec.ofChange fnExactForgetBeforeSpec)

/-- ITS FALSE NEIGHBOUR: 'it returns false'. Refute it at one input. -/
def fnExactForgetBeforeWrong : ChangeSpec := { name := "fnExactForgetBefore", fn := fun _ => fun
  | [d1, d2] => { results := [.lit (.bool false)], args := [d1, d2] }
  | _ => none }
def FnExactForgetBeforeWrongFalsely : Prop := fnExactForgetBeforeRow.holds Try.pinned (OpenSpec.ofChange fnExactForgetBeforeWrong)

/-- 'laws.FnExactLeaveLighter': WHATEVER THE INPUT: true; the input reads as it did. -/
def fnExactLeaveLighterSpec : ChangeSpec := { name := "fnExactLeaveLighter", fn := fun _ => fun
  | [d1, d2] => { results := [.lit (.bool true)], args := [d1, d2] }
  | _ => none }
def fnExactLeaveLighterRow : OpenClaim := { program := "ytdahlpljgcibfab", sum := "5afb1c859a1e8347987426f2fd9bf5583777fb20ffa055ad1e1e1733baacddbc", func := "loop.example/g01204/laws.FnExactLeaveLighter", spec := "fnExactLeaveLighter", inPlace := ["math.Float64bits", "math.Float64frombits"], unfollowed := true, recurses := true, plainKeys := false, apart := false }
def FnExactLeaveLighterSaid : Prop := fnExactLeaveLighterRow.holds Try.pinned (OpenSpec.ofChange fnExactLeaveLighterSpec)

/-- ITS FALSE NEIGHBOUR: 'it returns false'. Refute it at one input. -/
def fnExactLeaveLighterWrong : ChangeSpec := { name := "fnExactLeaveLighter", fn := fun _ => fun
  | [d1, d2] => { results := [.lit (.bool false)], args := [d1, d2] }
  | _ => none }
def FnExactLeaveLighterWrongFalsely : Prop := fnExactLeaveLighterRow.holds Try.pinned (OpenSpec.ofChange fnExactLeaveLighterWrong)

/-- 'laws.FnExactMarksWithin': WHATEVER THE INPUT: true; the input reads as it did. -/
def fnExactMarksWithinSpec : ChangeSpec := { name := "fnExactMarksWithin", fn := fun _ => fun
  | [d1, d2, d3] => { results := [.lit (.bool true)], args := [d1, d2, d3] }
  | _ => none }
def fnExactMarksWithinRow : OpenClaim := { program := "ytdahlpljgcibfab", sum := "5afb1c859a1e8347987426f2fd9bf5583777fb20ffa055ad1e1e1733baacddbc", func := "loop.example/g01204/laws.FnExactMarksWithin", spec := "fnExactMarksWithin", inPlace := ["math.sqrt", "math.Float64bits", "math.Float64frombits"], unfollowed := true, recurses := true, plainKeys := false, apart := false }
def FnExactMarksWithinSaid : Prop := fnExactMarksWithinRow.holds Try.pinned (OpenSpec.ofChange fnExactMarksWithinSpec)

/-- ITS FALSE NEIGHBOUR: 'it returns false'. Refute it at one input. -/
def fnExactMarksWithinWrong : ChangeSpec := { name := "fnExactMarksWithin", fn := fun _ => fun
  | [d1, d2, d3] => { results := [.lit (.bool false)], args := [d1, d2, d3] }
  | _ => none }
def FnExactMarksWithinWrongFalsely : Prop := fnExactMarksWithinRow.holds Try.pinned (OpenSpec.ofChange fnExactMarksWithinWrong)

/-- 'laws.FnExactCentreOf': WHATEVER THE INPUT: true; the input reads as it did. -/
def fnExactCentreOfSpec : ChangeSpec := { name := "fnExactCentreOf", fn := fun _ => fun
  | [d] => { results := [.lit (.bool true)], args := [d] }
  | _ => none }
def fnExactCentreOfRow : OpenClaim := { program := "ytdahlpljgcibfab", sum := "5afb1c859a1e8347987426f2fd9bf5583777fb20ffa055ad1e1e1733baacddbc", func := "loop.example/g01204/laws.FnExactCentreOf", spec := "fnExactCentreOf", inPlace := ["math.Float64bits", "math.Float64frombits"], plainKeys := false, apart := false }
def FnExactCentreOfSaid : Prop := fnExactCentreOfRow.holds Try.pinned (OpenSpec.ofChange fnExactCentreOfSpec)

/-- ITS FALSE NEIGHBOUR: 'it returns false'. Refute it at one input. -/
def fnExactCentreOfWrong : ChangeSpec := { name := "fnExactCentreOf", fn := fun _ => fun
  | [d] => { results := [.lit (.bool false)], args := [d] }
  | _ => none }
def FnExactCentreOfWrongFalsely : Prop := fnExactCentreOfRow.holds Try.pinned (OpenSpec.ofChange fnExactCentreOfWrong)

/-- 'laws.FnExactInsertReading': WHATEVER THE INPUT: true; the input reads as it did. -/
def fnExactInsertReadingSpec : ChangeSpec := { name := "fnExactInsertReading", fn := fun _ => fun
  | [d1, d2] => { results := [.lit (.bool true)], args := [d1, d2] }
  | _ => none }
def fnExactInsertReadingRow : OpenClaim := { program := "ytdahlpljgcibfab", sum := "5afb1c859a1e8347987426f2fd9bf5583777fb20ffa055ad1e1e1733baacddbc", func := "loop.example/g01204/laws.FnExactInsertReading", spec := "fnExactInsertReading", unfollowed := true, recurses := true, plainKeys := false, apart := false }
def FnExactInsertReadingSaid : Prop := fnExactInsertReadingRow.holds Try.pinned (OpenSpec.ofChange fnExactInsertReadingSpec)

/-- ITS FALSE NEIGHBOUR: 'it returns false'. Refute it at one input. -/
def fnExactInsertReadingWrong : ChangeSpec := { name := "fnExactInsertReading", fn := fun _ => fun
  | [d1, d2] => { results := [.lit (.bool false)], args := [d1, d2] }
  | _ => none }
def FnExactInsertReadingWrongFalsely : Prop := fnExactInsertReadingRow.holds Try.pinned (OpenSpec.ofChange fnExactInsertReadingWrong)

/-- 'laws.FnExactNearestMark': WHATEVER THE INPUT: true; the input reads as it did. -/
def fnExactNearestMarkSpec : ChangeSpec := { name := "fnExactNearestMark", fn := fun _ => fun
  | [d1, d2, d3] => { results := [.lit (.bool true)], args := [d1, d2, d3] }
  | _ => none }
def fnExactNearestMarkRow : OpenClaim := { program := "ytdahlpljgcibfab", sum := "5afb1c859a1e8347987426f2fd9bf5583777fb20ffa055ad1e1e1733baacddbc", func := "loop.example/g01204/laws.FnExactNearestMark", spec := "fnExactNearestMark", inPlace := ["math.archFloor", "math.Float64bits", "math.Float64frombits", "math.archTrunc", "math.sqrt"], unfollowed := true, recurses := true, plainKeys := false, apart := false }
def FnExactNearestMarkSaid : Prop := fnExactNearestMarkRow.holds Try.pinned (OpenSpec.ofChange fnExactNearestMarkSpec)

/-- ITS FALSE NEIGHBOUR: 'it returns false'. Refute it at one input. -/
def fnExactNearestMarkWrong : ChangeSpec := { name := "fnExactNearestMark", fn := fun _ => fun
  | [d1, d2, d3] => { results := [.lit (.bool false)], args := [d1, d2, d3] }
  | _ => none }
def FnExactNearestMarkWrongFalsely : Prop := fnExactNearestMarkRow.holds Try.pinned (OpenSpec.ofChange fnExactNearestMarkWrong)

/-- 'laws.FnExactTimesBetween': WHATEVER THE INPUT: true; the input reads as it did. -/
def fnExactTimesBetweenSpec : ChangeSpec := { name := "fnExactTimesBetween", fn := fun _ => fun
  | [d1, d2, d3] => { results := [.lit (.bool true)], args := [d1, d2, d3] }
  | _ => none }
def fnExactTimesBetweenRow : OpenClaim := { program := "ytdahlpljgcibfab", sum := "5afb1c859a1e8347987426f2fd9bf5583777fb20ffa055ad1e1e1733baacddbc", func := "loop.example/g01204/laws.FnExactTimesBetween", spec := "fnExactTimesBetween", inPlace := ["math.Float64bits", "math.Float64frombits"], plainKeys := false, apart := false }
def FnExactTimesBetweenSaid : Prop := fnExactTimesBetweenRow.holds Try.pinned (OpenSpec.ofChange fnExactTimesBetweenSpec)

/-- ITS FALSE NEIGHBOUR: 'it returns false'. Refute it at one input. -/
def fnExactTimesBetweenWrong : ChangeSpec := { name := "fnExactTimesBetween", fn := fun _ => fun
  | [d1, d2, d3] => { results := [.lit (.bool false)], args := [d1, d2, d3] }
  | _ => none }
def FnExactTimesBetweenWrongFalsely : Prop := fnExactTimesBetweenRow.holds Try.pinned (OpenSpec.ofChange fnExactTimesBetweenWrong)

/-- 'laws.FnExactMeanOfFeed': WHATEVER THE INPUT: true; the input reads as it did. -/
def fnExactMeanOfFeedSpec : ChangeSpec := { name := "fnExactMeanOfFeed", fn := fun _ => fun
  | [d1, d2] => { results := [.lit (.bool true)], args := [d1, d2] }
  | _ => none }
def fnExactMeanOfFeedRow : OpenClaim := { program := "ytdahlpljgcibfab", sum := "5afb1c859a1e8347987426f2fd9bf5583777fb20ffa055ad1e1e1733baacddbc", func := "loop.example/g01204/laws.FnExactMeanOfFeed", spec := "fnExactMeanOfFeed", inPlace := ["math.Float64bits", "math.Float64frombits"], plainKeys := false, apart := false }
def FnExactMeanOfFeedSaid : Prop := fnExactMeanOfFeedRow.holds Try.pinned (OpenSpec.ofChange fnExactMeanOfFeedSpec)

/-- ITS FALSE NEIGHBOUR: 'it returns false'. Refute it at one input. -/
def fnExactMeanOfFeedWrong : ChangeSpec := { name := "fnExactMeanOfFeed", fn := fun _ => fun
  | [d1, d2] => { results := [.lit (.bool false)], args := [d1, d2] }
  | _ => none }
def FnExactMeanOfFeedWrongFalsely : Prop := fnExactMeanOfFeedRow.holds Try.pinned (OpenSpec.ofChange fnExactMeanOfFeedWrong)

/- THE SECOND FORM. 'bulk': how many values and letters a reading holds, each counted each time it is reached (what is shared counts as often as it is met; a slice's spare places count too). A statement '..UptoSaid' is the law's where the arguments, and the package variables that the reading takes, are together of bulk at most 1048576: NARROWER than '..Said'. Prove '..Said' where nothing that the law and all that it calls make is longer than what came in: it says more and counts as full. Else prove '..UptoSaid'. A law counts once. -/
mutual
def uptoBulk {H : Type} : DataW H → Nat
  | .lit (.string bytes) => bytes.length + 1
  | .lit _ => 1
  | .nil => 1
  | .ptr d => uptoBulk d + 1
  | .slice elems spare => uptoBulkAll elems + uptoBulkAll spare + 1
  | .agg parts => uptoBulkAll parts + 1
  | .iface _ d => uptoBulk d + 1
  | .map entries => uptoBulkEntries entries + 1
  | .held _ => 1
def uptoBulkAll {H : Type} : List (DataW H) → Nat
  | [] => 0
  | d :: r => uptoBulk d + uptoBulkAll r
def uptoBulkEntries {H : Type} : List (Lit × DataW H) → Nat
  | [] => 0
  | x :: r => uptoBulkEntry x + uptoBulkEntries r
def uptoBulkEntry {H : Type} : Lit × DataW H → Nat
  | (.string bytes, d) => bytes.length + uptoBulk d + 1
  | (_, d) => uptoBulk d + 1
 end
def uptoSmall : (H : Type) → List (DataW H) → Bool := fun _ ds => decide (uptoBulkAll ds ≤ 1048576)
def OpenSpec.upto (s : _root_.Go.ChangeSpec) : _root_.Go.OpenSpec := { _root_.Go.OpenSpec.ofChange s with cond := some uptoSmall }

/-- 'laws.FnExactLengthOfWay', WHERE WHAT IT READS IS OF BULK AT MOST 1048576: true; the input reads as it did. -/
def fnExactLengthOfWayUptoRow : OpenClaim := { program := "ytdahlpljgcibfab", sum := "5afb1c859a1e8347987426f2fd9bf5583777fb20ffa055ad1e1e1733baacddbc", func := "loop.example/g01204/laws.FnExactLengthOfWay", spec := "fnExactLengthOfWay", inPlace := ["math.sqrt", "math.Float64bits", "math.Float64frombits"], plainKeys := false, apart := false, narrowed := true }
def FnExactLengthOfWayUptoSaid : Prop := fnExactLengthOfWayUptoRow.holds Try.pinned (OpenSpec.upto fnExactLengthOfWaySpec)

/-- 'laws.FnExactAheadOnWay', WHERE WHAT IT READS IS OF BULK AT MOST 1048576: true; the input reads as it did. -/
def fnExactAheadOnWayUptoRow : OpenClaim := { program := "ytdahlpljgcibfab", sum := "5afb1c859a1e8347987426f2fd9bf5583777fb20ffa055ad1e1e1733baacddbc", func := "loop.example/g01204/laws.FnExactAheadOnWay", spec := "fnExactAheadOnWay", inPlace := ["math.sqrt", "math.Float64bits", "math.Float64frombits"], plainKeys := false, apart := false, narrowed := true }
def FnExactAheadOnWayUptoSaid : Prop := fnExactAheadOnWayUptoRow.holds Try.pinned (OpenSpec.upto fnExactAheadOnWaySpec)

/-- 'laws.FnExactFollowWay', WHERE WHAT IT READS IS OF BULK AT MOST 1048576: true; the input reads as it did. -/
def fnExactFollowWayUptoRow : OpenClaim := { program := "ytdahlpljgcibfab", sum := "5afb1c859a1e8347987426f2fd9bf5583777fb20ffa055ad1e1e1733baacddbc", func := "loop.example/g01204/laws.FnExactFollowWay", spec := "fnExactFollowWay", inPlace := ["math.sqrt", "math.Float64frombits", "math.Float64bits", "math.RoundToEven", "math.archFloor", "math.archTrunc", "math.Float32frombits"], plainKeys := false, apart := false, narrowed := true }
def FnExactFollowWayUptoSaid : Prop := fnExactFollowWayUptoRow.holds Try.pinned (OpenSpec.upto fnExactFollowWaySpec)

/-- 'laws.FnExactPointsOf', WHERE WHAT IT READS IS OF BULK AT MOST 1048576: true; the input reads as it did. -/
def fnExactPointsOfUptoRow : OpenClaim := { program := "ytdahlpljgcibfab", sum := "5afb1c859a1e8347987426f2fd9bf5583777fb20ffa055ad1e1e1733baacddbc", func := "loop.example/g01204/laws.FnExactPointsOf", spec := "fnExactPointsOf", inPlace := ["math.Float64bits", "math.Float64frombits"], plainKeys := false, apart := false, narrowed := true }
def FnExactPointsOfUptoSaid : Prop := fnExactPointsOfUptoRow.holds Try.pinned (OpenSpec.upto fnExactPointsOfSpec)

/-- 'laws.FnExactForgetBefore', WHERE WHAT IT READS IS OF BULK AT MOST 1048576: true; the input reads as it did. -/
def fnExactForgetBeforeUptoRow : OpenClaim := { program := "ytdahlpljgcibfab", sum := "5afb1c859a1e8347987426f2fd9bf5583777fb20ffa055ad1e1e1733baacddbc", func := "loop.example/g01204/laws.FnExactForgetBefore", spec := "fnExactForgetBefore", inPlace := ["math.Float64bits", "math.Float64frombits"], unfollowed := true, recurses := true, plainKeys := false, apart := false, narrowed := true }
def FnExactForgetBeforeUptoSaid : Prop := fnExactForgetBeforeUptoRow.holds Try.pinned (OpenSpec.upto fnExactForgetBeforeSpec)

/-- 'laws.FnExactLeaveLighter', WHERE WHAT IT READS IS OF BULK AT MOST 1048576: true; the input reads as it did. -/
def fnExactLeaveLighterUptoRow : OpenClaim := { program := "ytdahlpljgcibfab", sum := "5afb1c859a1e8347987426f2fd9bf5583777fb20ffa055ad1e1e1733baacddbc", func := "loop.example/g01204/laws.FnExactLeaveLighter", spec := "fnExactLeaveLighter", inPlace := ["math.Float64bits", "math.Float64frombits"], unfollowed := true, recurses := true, plainKeys := false, apart := false, narrowed := true }
def FnExactLeaveLighterUptoSaid : Prop := fnExactLeaveLighterUptoRow.holds Try.pinned (OpenSpec.upto fnExactLeaveLighterSpec)

/-- 'laws.FnExactMarksWithin', WHERE WHAT IT READS IS OF BULK AT MOST 1048576: true; the input reads as it did. -/
def fnExactMarksWithinUptoRow : OpenClaim := { program := "ytdahlpljgcibfab", sum := "5afb1c859a1e8347987426f2fd9bf5583777fb20ffa055ad1e1e1733baacddbc", func := "loop.example/g01204/laws.FnExactMarksWithin", spec := "fnExactMarksWithin", inPlace := ["math.sqrt", "math.Float64bits", "math.Float64frombits"], unfollowed := true, recurses := true, plainKeys := false, apart := false, narrowed := true }
def FnExactMarksWithinUptoSaid : Prop := fnExactMarksWithinUptoRow.holds Try.pinned (OpenSpec.upto fnExactMarksWithinSpec)

/-- 'laws.FnExactCentreOf', WHERE WHAT IT READS IS OF BULK AT MOST 1048576: true; the input reads as it did. -/
def fnExactCentreOfUptoRow : OpenClaim := { program := "ytdahlpljgcibfab", sum := "5afb1c859a1e8347987426f2fd9bf5583777fb20ffa055ad1e1e1733baacddbc", func := "loop.example/g01204/laws.FnExactCentreOf", spec := "fnExactCentreOf", inPlace := ["math.Float64bits", "math.Float64frombits"], plainKeys := false, apart := false, narrowed := true }
def FnExactCentreOfUptoSaid : Prop := fnExactCentreOfUptoRow.holds Try.pinned (OpenSpec.upto fnExactCentreOfSpec)

/-- 'laws.FnExactInsertReading', WHERE WHAT IT READS IS OF BULK AT MOST 1048576: true; the input reads as it did. -/
def fnExactInsertReadingUptoRow : OpenClaim := { program := "ytdahlpljgcibfab", sum := "5afb1c859a1e8347987426f2fd9bf5583777fb20ffa055ad1e1e1733baacddbc", func := "loop.example/g01204/laws.FnExactInsertReading", spec := "fnExactInsertReading", unfollowed := true, recurses := true, plainKeys := false, apart := false, narrowed := true }
def FnExactInsertReadingUptoSaid : Prop := fnExactInsertReadingUptoRow.holds Try.pinned (OpenSpec.upto fnExactInsertReadingSpec)

/-- 'laws.FnExactNearestMark', WHERE WHAT IT READS IS OF BULK AT MOST 1048576: true; the input reads as it did. -/
def fnExactNearestMarkUptoRow : OpenClaim := { program := "ytdahlpljgcibfab", sum := "5afb1c859a1e8347987426f2fd9bf5583777fb20ffa055ad1e1e1733baacddbc", func := "loop.example/g01204/laws.FnExactNearestMark", spec := "fnExactNearestMark", inPlace := ["math.archFloor", "math.Float64bits", "math.Float64frombits", "math.archTrunc", "math.sqrt"], unfollowed := true, recurses := true, plainKeys := false, apart := false, narrowed := true }
def FnExactNearestMarkUptoSaid : Prop := fnExactNearestMarkUptoRow.holds Try.pinned (OpenSpec.upto fnExactNearestMarkSpec)

/-- 'laws.FnExactTimesBetween', WHERE WHAT IT READS IS OF BULK AT MOST 1048576: true; the input reads as it did. -/
def fnExactTimesBetweenUptoRow : OpenClaim := { program := "ytdahlpljgcibfab", sum := "5afb1c859a1e8347987426f2fd9bf5583777fb20ffa055ad1e1e1733baacddbc", func := "loop.example/g01204/laws.FnExactTimesBetween", spec := "fnExactTimesBetween", inPlace := ["math.Float64bits", "math.Float64frombits"], plainKeys := false, apart := false, narrowed := true }
def FnExactTimesBetweenUptoSaid : Prop := fnExactTimesBetweenUptoRow.holds Try.pinned (OpenSpec.upto fnExactTimesBetweenSpec)

/-- 'laws.FnExactMeanOfFeed', WHERE WHAT IT READS IS OF BULK AT MOST 1048576: true; the input reads as it did. -/
def fnExactMeanOfFeedUptoRow : OpenClaim := { program := "ytdahlpljgcibfab", sum := "5afb1c859a1e8347987426f2fd9bf5583777fb20ffa055ad1e1e1733baacddbc", func := "loop.example/g01204/laws.FnExactMeanOfFeed", spec := "fnExactMeanOfFeed", inPlace := ["math.Float64bits", "math.Float64frombits"], plainKeys := false, apart := false, narrowed := true }
def FnExactMeanOfFeedUptoSaid : Prop := fnExactMeanOfFeedUptoRow.holds Try.pinned (OpenSpec.upto fnExactMeanOfFeedSpec)

end Rows
end Go.Proofs.Ytdahlpljgcibfab
