/-
  No cell of these rows narrows 'for every input' (looked for: loops, veiled, ifaces, maps, wideKeys, modest, calm, conditions, laid).
  DERIVED. THE GIVEN ROWS OF THIS SEAT. 12 by the template 'for every input the law returns true; each argument reads behind the call as it read before'; 0 by the template 'total and deterministic' (their statements: YtkpcecigoffopabTotals.lean).
  GIVEN WITH THE SEED: the statements are not yours to turn. If you find one false, say at which input.
  Laid BY PROGRAM, IN A SANDBOX (cutbox-rows.mjs): the forced cells as the released guide's own fill.sh prints them over the translation 4b11bd5218a2fe4c… (all of the seat's roots in one cut). By AI agents, Wed Nov 11 2026. No macro, syntax, notation, axiom, sorry.
-/
import Derived.Test.YtkpcecigoffopabChecked
import GoSem.Claim
import GoSem.ClaimJoined
import GoSem.ClaimMapViews
import Derived.JoinedTies
import Derived.KernelRfl
namespace Go.Proofs.Ytkpcecigoffopab
/- THE CELL 'sum', in the pinned program and in every row, IS THE sha256 OF THE DUMP (.gsa) THAT YtkpcecigoffopabProg.lean LOADS. Nothing in Lean hashes anything: it is a label: what it is worth is what the hold of that sum in a sandbox is worth. -/
noncomputable def Try.pinned : Pinned := { name := "ytkpcecigoffopab", sum := "4b11bd5218a2fe4c86b6231d687d57111c0a5893021e47c1c292d094495912fc", checked := Try.checked }
namespace Rows
def none {H : Type} : Left H := { results := [], args := [] }

/-- 'laws.FnExactUnitOf': WHATEVER THE INPUT: true; the input reads as it did. -/
def fnExactUnitOfSpec : ChangeSpec := { name := "fnExactUnitOf", fn := fun _ => fun
  | [d] => { results := [.lit (.bool true)], args := [d] }
  | _ => none }
def fnExactUnitOfRow : OpenClaim := { program := "ytkpcecigoffopab", sum := "4b11bd5218a2fe4c86b6231d687d57111c0a5893021e47c1c292d094495912fc", func := "loop.example/g01204/laws.FnExactUnitOf", spec := "fnExactUnitOf", inPlace := ["math.sqrt", "math.Float64bits", "math.Float64frombits"], plainKeys := false, apart := false }
def FnExactUnitOfSaid : Prop := fnExactUnitOfRow.holds Try.pinned (OpenSpec.ofChange fnExactUnitOfSpec)

/-- ITS FALSE NEIGHBOUR: 'it returns false'. Refute it at one input. -/
def fnExactUnitOfWrong : ChangeSpec := { name := "fnExactUnitOf", fn := fun _ => fun
  | [d] => { results := [.lit (.bool false)], args := [d] }
  | _ => none }
def FnExactUnitOfWrongFalsely : Prop := fnExactUnitOfRow.holds Try.pinned (OpenSpec.ofChange fnExactUnitOfWrong)

/-- 'laws.FnExactRangeClue': WHATEVER THE INPUT: true; the input reads as it did. -/
def fnExactRangeClueSpec : ChangeSpec := { name := "fnExactRangeClue", fn := fun _ => fun
  | [d1, d2, d3, d4] => { results := [.lit (.bool true)], args := [d1, d2, d3, d4] }
  | _ => none }
def fnExactRangeClueRow : OpenClaim := { program := "ytkpcecigoffopab", sum := "4b11bd5218a2fe4c86b6231d687d57111c0a5893021e47c1c292d094495912fc", func := "loop.example/g01204/laws.FnExactRangeClue", spec := "fnExactRangeClue", inPlace := ["math.sqrt", "math.Float64bits", "math.Float64frombits"], plainKeys := false, apart := false }
def FnExactRangeClueSaid : Prop := fnExactRangeClueRow.holds Try.pinned (OpenSpec.ofChange fnExactRangeClueSpec)

/-- ITS FALSE NEIGHBOUR: 'it returns false'. Refute it at one input. -/
def fnExactRangeClueWrong : ChangeSpec := { name := "fnExactRangeClue", fn := fun _ => fun
  | [d1, d2, d3, d4] => { results := [.lit (.bool false)], args := [d1, d2, d3, d4] }
  | _ => none }
def FnExactRangeClueWrongFalsely : Prop := fnExactRangeClueRow.holds Try.pinned (OpenSpec.ofChange fnExactRangeClueWrong)

/-- 'laws.FnExactTurnAbout': WHATEVER THE INPUT: true; the input reads as it did. -/
def fnExactTurnAboutSpec : ChangeSpec := { name := "fnExactTurnAbout", fn := fun _ => fun
  | [d1, d2] => { results := [.lit (.bool true)], args := [d1, d2] }
  | _ => none }
def fnExactTurnAboutRow : OpenClaim := { program := "ytkpcecigoffopab", sum := "4b11bd5218a2fe4c86b6231d687d57111c0a5893021e47c1c292d094495912fc", func := "loop.example/g01204/laws.FnExactTurnAbout", spec := "fnExactTurnAbout", inPlace := ["math.sqrt", "math.Float64frombits", "math.archFloor", "math.Float64bits", "math.archTrunc", "math.Float32frombits"], plainKeys := false, apart := false }
def FnExactTurnAboutSaid : Prop := fnExactTurnAboutRow.holds Try.pinned (OpenSpec.ofChange fnExactTurnAboutSpec)

/-- ITS FALSE NEIGHBOUR: 'it returns false'. Refute it at one input. -/
def fnExactTurnAboutWrong : ChangeSpec := { name := "fnExactTurnAbout", fn := fun _ => fun
  | [d1, d2] => { results := [.lit (.bool false)], args := [d1, d2] }
  | _ => none }
def FnExactTurnAboutWrongFalsely : Prop := fnExactTurnAboutRow.holds Try.pinned (OpenSpec.ofChange fnExactTurnAboutWrong)

/-- 'laws.FnExactStepTurn': WHATEVER THE INPUT: true; the input reads as it did. -/
def fnExactStepTurnSpec : ChangeSpec := { name := "fnExactStepTurn", fn := fun _ => fun
  | [d1, d2, d3] => { results := [.lit (.bool true)], args := [d1, d2, d3] }
  | _ => none }
def fnExactStepTurnRow : OpenClaim := { program := "ytkpcecigoffopab", sum := "4b11bd5218a2fe4c86b6231d687d57111c0a5893021e47c1c292d094495912fc", func := "loop.example/g01204/laws.FnExactStepTurn", spec := "fnExactStepTurn", inPlace := ["math.sqrt", "math.Float64frombits", "math.archFloor", "math.Float64bits", "math.archTrunc", "math.Float32frombits"], unfollowed := true, recurses := true, plainKeys := false, apart := false }
def FnExactStepTurnSaid : Prop := fnExactStepTurnRow.holds Try.pinned (OpenSpec.ofChange fnExactStepTurnSpec)

/-- ITS FALSE NEIGHBOUR: 'it returns false'. Refute it at one input. -/
def fnExactStepTurnWrong : ChangeSpec := { name := "fnExactStepTurn", fn := fun _ => fun
  | [d1, d2, d3] => { results := [.lit (.bool false)], args := [d1, d2, d3] }
  | _ => none }
def FnExactStepTurnWrongFalsely : Prop := fnExactStepTurnRow.holds Try.pinned (OpenSpec.ofChange fnExactStepTurnWrong)

/-- 'laws.FnExactTimesBetween': WHATEVER THE INPUT: true; the input reads as it did. -/
def fnExactTimesBetweenSpec : ChangeSpec := { name := "fnExactTimesBetween", fn := fun _ => fun
  | [d1, d2, d3] => { results := [.lit (.bool true)], args := [d1, d2, d3] }
  | _ => none }
def fnExactTimesBetweenRow : OpenClaim := { program := "ytkpcecigoffopab", sum := "4b11bd5218a2fe4c86b6231d687d57111c0a5893021e47c1c292d094495912fc", func := "loop.example/g01204/laws.FnExactTimesBetween", spec := "fnExactTimesBetween", inPlace := ["math.Float64bits", "math.Float64frombits"], plainKeys := false, apart := false }
def FnExactTimesBetweenSaid : Prop := fnExactTimesBetweenRow.holds Try.pinned (OpenSpec.ofChange fnExactTimesBetweenSpec)

/-- ITS FALSE NEIGHBOUR: 'it returns false'. Refute it at one input. -/
def fnExactTimesBetweenWrong : ChangeSpec := { name := "fnExactTimesBetween", fn := fun _ => fun
  | [d1, d2, d3] => { results := [.lit (.bool false)], args := [d1, d2, d3] }
  | _ => none }
def FnExactTimesBetweenWrongFalsely : Prop := fnExactTimesBetweenRow.holds Try.pinned (OpenSpec.ofChange fnExactTimesBetweenWrong)

/-- 'laws.FnExactInsertReading': WHATEVER THE INPUT: true; the input reads as it did. -/
def fnExactInsertReadingSpec : ChangeSpec := { name := "fnExactInsertReading", fn := fun _ => fun
  | [d1, d2] => { results := [.lit (.bool true)], args := [d1, d2] }
  | _ => none }
def fnExactInsertReadingRow : OpenClaim := { program := "ytkpcecigoffopab", sum := "4b11bd5218a2fe4c86b6231d687d57111c0a5893021e47c1c292d094495912fc", func := "loop.example/g01204/laws.FnExactInsertReading", spec := "fnExactInsertReading", unfollowed := true, recurses := true, plainKeys := false, apart := false }
def FnExactInsertReadingSaid : Prop := fnExactInsertReadingRow.holds Try.pinned (OpenSpec.ofChange fnExactInsertReadingSpec)

/-- ITS FALSE NEIGHBOUR: 'it returns false'. Refute it at one input. -/
def fnExactInsertReadingWrong : ChangeSpec := { name := "fnExactInsertReading", fn := fun _ => fun
  | [d1, d2] => { results := [.lit (.bool false)], args := [d1, d2] }
  | _ => none }
def FnExactInsertReadingWrongFalsely : Prop := fnExactInsertReadingRow.holds Try.pinned (OpenSpec.ofChange fnExactInsertReadingWrong)

/-- 'laws.FnExactMergeFeeds': WHATEVER THE INPUT: true; the input reads as it did. -/
def fnExactMergeFeedsSpec : ChangeSpec := { name := "fnExactMergeFeeds", fn := fun _ => fun
  | [d1, d2] => { results := [.lit (.bool true)], args := [d1, d2] }
  | _ => none }
def fnExactMergeFeedsRow : OpenClaim := { program := "ytkpcecigoffopab", sum := "4b11bd5218a2fe4c86b6231d687d57111c0a5893021e47c1c292d094495912fc", func := "loop.example/g01204/laws.FnExactMergeFeeds", spec := "fnExactMergeFeeds", unfollowed := true, recurses := true, plainKeys := false, apart := false }
def FnExactMergeFeedsSaid : Prop := fnExactMergeFeedsRow.holds Try.pinned (OpenSpec.ofChange fnExactMergeFeedsSpec)

/-- ITS FALSE NEIGHBOUR: 'it returns false'. Refute it at one input. -/
def fnExactMergeFeedsWrong : ChangeSpec := { name := "fnExactMergeFeeds", fn := fun _ => fun
  | [d1, d2] => { results := [.lit (.bool false)], args := [d1, d2] }
  | _ => none }
def FnExactMergeFeedsWrongFalsely : Prop := fnExactMergeFeedsRow.holds Try.pinned (OpenSpec.ofChange fnExactMergeFeedsWrong)

/-- 'laws.FnExactMeanOfFeed': WHATEVER THE INPUT: true; the input reads as it did. -/
def fnExactMeanOfFeedSpec : ChangeSpec := { name := "fnExactMeanOfFeed", fn := fun _ => fun
  | [d1, d2] => { results := [.lit (.bool true)], args := [d1, d2] }
  | _ => none }
def fnExactMeanOfFeedRow : OpenClaim := { program := "ytkpcecigoffopab", sum := "4b11bd5218a2fe4c86b6231d687d57111c0a5893021e47c1c292d094495912fc", func := "loop.example/g01204/laws.FnExactMeanOfFeed", spec := "fnExactMeanOfFeed", inPlace := ["math.Float64bits", "math.Float64frombits"], plainKeys := false, apart := false }
def FnExactMeanOfFeedSaid : Prop := fnExactMeanOfFeedRow.holds Try.pinned (OpenSpec.ofChange fnExactMeanOfFeedSpec)

/-- ITS FALSE NEIGHBOUR: 'it returns false'. Refute it at one input. -/
def fnExactMeanOfFeedWrong : ChangeSpec := { name := "fnExactMeanOfFeed", fn := fun _ => fun
  | [d1, d2] => { results := [.lit (.bool false)], args := [d1, d2] }
  | _ => none }
def FnExactMeanOfFeedWrongFalsely : Prop := fnExactMeanOfFeedRow.holds Try.pinned (OpenSpec.ofChange fnExactMeanOfFeedWrong)

/-- 'laws.FnExactValueAt': WHATEVER THE INPUT: true; the input reads as it did. -/
def fnExactValueAtSpec : ChangeSpec := { name := "fnExactValueAt", fn := fun _ => fun
  | [d1, d2, d3] => { results := [.lit (.bool true)], args := [d1, d2, d3] }
  | _ => none }
def fnExactValueAtRow : OpenClaim := { program := "ytkpcecigoffopab", sum := "4b11bd5218a2fe4c86b6231d687d57111c0a5893021e47c1c292d094495912fc", func := "loop.example/g01204/laws.FnExactValueAt", spec := "fnExactValueAt", inPlace := ["math.Float64bits", "math.Float64frombits"], unfollowed := true, recurses := true, plainKeys := false, apart := false }
def FnExactValueAtSaid : Prop := fnExactValueAtRow.holds Try.pinned (OpenSpec.ofChange fnExactValueAtSpec)

/-- ITS FALSE NEIGHBOUR: 'it returns false'. Refute it at one input. -/
def fnExactValueAtWrong : ChangeSpec := { name := "fnExactValueAt", fn := fun _ => fun
  | [d1, d2, d3] => { results := [.lit (.bool false)], args := [d1, d2, d3] }
  | _ => none }
def FnExactValueAtWrongFalsely : Prop := fnExactValueAtRow.holds Try.pinned (OpenSpec.ofChange fnExactValueAtWrong)

/-- 'laws.FnExactNearestMark': WHATEVER THE INPUT: true; the input reads as it did. -/
def fnExactNearestMarkSpec : ChangeSpec := { name := "fnExactNearestMark", fn := fun _ => fun
  | [d1, d2, d3] => { results := [.lit (.bool true)], args := [d1, d2, d3] }
  | _ => none }
def fnExactNearestMarkRow : OpenClaim := { program := "ytkpcecigoffopab", sum := "4b11bd5218a2fe4c86b6231d687d57111c0a5893021e47c1c292d094495912fc", func := "loop.example/g01204/laws.FnExactNearestMark", spec := "fnExactNearestMark", inPlace := ["math.archFloor", "math.Float64bits", "math.Float64frombits", "math.archTrunc", "math.sqrt"], unfollowed := true, recurses := true, plainKeys := false, apart := false }
def FnExactNearestMarkSaid : Prop := fnExactNearestMarkRow.holds Try.pinned (OpenSpec.ofChange fnExactNearestMarkSpec)

/-- ITS FALSE NEIGHBOUR: 'it returns false'. Refute it at one input. -/
def fnExactNearestMarkWrong : ChangeSpec := { name := "fnExactNearestMark", fn := fun _ => fun
  | [d1, d2, d3] => { results := [.lit (.bool false)], args := [d1, d2, d3] }
  | _ => none }
def FnExactNearestMarkWrongFalsely : Prop := fnExactNearestMarkRow.holds Try.pinned (OpenSpec.ofChange fnExactNearestMarkWrong)

/-- 'laws.FnExactPutMark': WHATEVER THE INPUT: true; the input reads as it did. -/
def fnExactPutMarkSpec : ChangeSpec := { name := "fnExactPutMark", fn := fun _ => fun
  | [d1, d2] => { results := [.lit (.bool true)], args := [d1, d2] }
  | _ => none }
def fnExactPutMarkRow : OpenClaim := { program := "ytkpcecigoffopab", sum := "4b11bd5218a2fe4c86b6231d687d57111c0a5893021e47c1c292d094495912fc", func := "loop.example/g01204/laws.FnExactPutMark", spec := "fnExactPutMark", inPlace := ["math.Float32bits", "math.Float64bits", "math.Float64frombits"], unfollowed := true, recurses := true, plainKeys := false, apart := false }
def FnExactPutMarkSaid : Prop := fnExactPutMarkRow.holds Try.pinned (OpenSpec.ofChange fnExactPutMarkSpec)

/-- ITS FALSE NEIGHBOUR: 'it returns false'. Refute it at one input. -/
def fnExactPutMarkWrong : ChangeSpec := { name := "fnExactPutMark", fn := fun _ => fun
  | [d1, d2] => { results := [.lit (.bool false)], args := [d1, d2] }
  | _ => none }
def FnExactPutMarkWrongFalsely : Prop := fnExactPutMarkRow.holds Try.pinned (OpenSpec.ofChange fnExactPutMarkWrong)

/-- 'laws.FnExactMergeMaps': WHATEVER THE INPUT: true; the input reads as it did. -/
def fnExactMergeMapsSpec : ChangeSpec := { name := "fnExactMergeMaps", fn := fun _ => fun
  | [d1, d2] => { results := [.lit (.bool true)], args := [d1, d2] }
  | _ => none }
def fnExactMergeMapsRow : OpenClaim := { program := "ytkpcecigoffopab", sum := "4b11bd5218a2fe4c86b6231d687d57111c0a5893021e47c1c292d094495912fc", func := "loop.example/g01204/laws.FnExactMergeMaps", spec := "fnExactMergeMaps", inPlace := ["math.Float32bits", "math.Float64bits", "math.Float64frombits"], unfollowed := true, recurses := true, plainKeys := false, apart := false }
def FnExactMergeMapsSaid : Prop := fnExactMergeMapsRow.holds Try.pinned (OpenSpec.ofChange fnExactMergeMapsSpec)

/-- ITS FALSE NEIGHBOUR: 'it returns false'. Refute it at one input. -/
def fnExactMergeMapsWrong : ChangeSpec := { name := "fnExactMergeMaps", fn := fun _ => fun
  | [d1, d2] => { results := [.lit (.bool false)], args := [d1, d2] }
  | _ => none }
def FnExactMergeMapsWrongFalsely : Prop := fnExactMergeMapsRow.holds Try.pinned (OpenSpec.ofChange fnExactMergeMapsWrong)

/- THE SECOND FORM. 'bulk': how many values and letters a reading holds, each counted each time it is reached (what is shared counts as often as it is met; a slice's spare places count too). A statement '..UptoSaid' is the law's where the arguments, and the package variables that the reading takes, are together of bulk at most 1048576: NARROWER than '..Said'. Prove '..Said' where nothing that the law and all that it calls make is longer than what came in: it says more and counts as full. Else prove '..UptoSaid'. A law counts once. -/
mutual
def uptoBulk {H : Type} : DataW H → Nat
  | .lit (.string bytes) => bytes.length + 1
  | .lit _ => 1
  | .nil => 1
  | .ptr d => uptoBulk d + 1
  | .slice elems spare => uptoBulkAll elems + uptoBulkAll spare + 1
  | .agg parts => uptoBulkAll parts + 1
  | .iface _ d => uptoBulk d + 1
  | .map entries => uptoBulkEntries entries + 1
  | .held _ => 1
def uptoBulkAll {H : Type} : List (DataW H) → Nat
  | [] => 0
  | d :: r => uptoBulk d + uptoBulkAll r
def uptoBulkEntries {H : Type} : List (Lit × DataW H) → Nat
  | [] => 0
  | x :: r => uptoBulkEntry x + uptoBulkEntries r
def uptoBulkEntry {H : Type} : Lit × DataW H → Nat
  | (.string bytes, d) => bytes.length + uptoBulk d + 1
  | (_, d) => uptoBulk d + 1
 end
def uptoSmall : (H : Type) → List (DataW H) → Bool := fun _ ds => decide (uptoBulkAll ds ≤ 1048576)
def OpenSpec.upto (s : _root_.Go.ChangeSpec) : _root_.Go.OpenSpec := { _root_.Go.OpenSpec.ofChange s with cond := some uptoSmall }

/-- 'laws.FnExactUnitOf', WHERE WHAT IT READS IS OF BULK AT MOST 1048576: true; the input reads as it did. -/
def fnExactUnitOfUptoRow : OpenClaim := { program := "ytkpcecigoffopab", sum := "4b11bd5218a2fe4c86b6231d687d57111c0a5893021e47c1c292d094495912fc", func := "loop.example/g01204/laws.FnExactUnitOf", spec := "fnExactUnitOf", inPlace := ["math.sqrt", "math.Float64bits", "math.Float64frombits"], plainKeys := false, apart := false, narrowed := true }
def FnExactUnitOfUptoSaid : Prop := fnExactUnitOfUptoRow.holds Try.pinned (OpenSpec.upto fnExactUnitOfSpec)

/-- 'laws.FnExactRangeClue', WHERE WHAT IT READS IS OF BULK AT MOST 1048576: true; the input reads as it did. -/
def fnExactRangeClueUptoRow : OpenClaim := { program := "ytkpcecigoffopab", sum := "4b11bd5218a2fe4c86b6231d687d57111c0a5893021e47c1c292d094495912fc", func := "loop.example/g01204/laws.FnExactRangeClue", spec := "fnExactRangeClue", inPlace := ["math.sqrt", "math.Float64bits", "math.Float64frombits"], plainKeys := false, apart := false, narrowed := true }
def FnExactRangeClueUptoSaid : Prop := fnExactRangeClueUptoRow.holds Try.pinned (OpenSpec.upto fnExactRangeClueSpec)

/-- 'laws.FnExactTurnAbout', WHERE WHAT IT READS IS OF BULK AT MOST 1048576: true; the input reads as it did. -/
def fnExactTurnAboutUptoRow : OpenClaim := { program := "ytkpcecigoffopab", sum := "4b11bd5218a2fe4c86b6231d687d57111c0a5893021e47c1c292d094495912fc", func := "loop.example/g01204/laws.FnExactTurnAbout", spec := "fnExactTurnAbout", inPlace := ["math.sqrt", "math.Float64frombits", "math.archFloor", "math.Float64bits", "math.archTrunc", "math.Float32frombits"], plainKeys := false, apart := false, narrowed := true }
def FnExactTurnAboutUptoSaid : Prop := fnExactTurnAboutUptoRow.holds Try.pinned (OpenSpec.upto fnExactTurnAboutSpec)

/-- 'laws.FnExactStepTurn', WHERE WHAT IT READS IS OF BULK AT MOST 1048576: true; the input reads as it did. -/
def fnExactStepTurnUptoRow : OpenClaim := { program := "ytkpcecigoffopab", sum := "4b11bd5218a2fe4c86b6231d687d57111c0a5893021e47c1c292d094495912fc", func := "loop.example/g01204/laws.FnExactStepTurn", spec := "fnExactStepTurn", inPlace := ["math.sqrt", "math.Float64frombits", "math.archFloor", "math.Float64bits", "math.archTrunc", "math.Float32frombits"], unfollowed := true, recurses := true, plainKeys := false, apart := false, narrowed := true }
def FnExactStepTurnUptoSaid : Prop := fnExactStepTurnUptoRow.holds Try.pinned (OpenSpec.upto fnExactStepTurnSpec)

/-- 'laws.FnExactTimesBetween', WHERE WHAT IT READS IS OF BULK AT MOST 1048576: true; the input reads as it did. -/
def fnExactTimesBetweenUptoRow : OpenClaim := { program := "ytkpcecigoffopab", sum := "4b11bd5218a2fe4c86b6231d687d57111c0a5893021e47c1c292d094495912fc", func := "loop.example/g01204/laws.FnExactTimesBetween", spec := "fnExactTimesBetween", inPlace := ["math.Float64bits", "math.Float64frombits"], plainKeys := false, apart := false, narrowed := true }
def FnExactTimesBetweenUptoSaid : Prop := fnExactTimesBetweenUptoRow.holds Try.pinned (OpenSpec.upto fnExactTimesBetweenSpec)

/-- 'laws.FnExactInsertReading', WHERE WHAT IT READS IS OF BULK AT MOST 1048576: true; the input reads as it did. -/
def fnExactInsertReadingUptoRow : OpenClaim := { program := "ytkpcecigoffopab", sum := "4b11bd5218a2fe4c86b6231d687d57111c0a5893021e47c1c292d094495912fc", func := "loop.example/g01204/laws.FnExactInsertReading", spec := "fnExactInsertReading", unfollowed := true, recurses := true, plainKeys := false, apart := false, narrowed := true }
def FnExactInsertReadingUptoSaid : Prop := fnExactInsertReadingUptoRow.holds Try.pinned (OpenSpec.upto fnExactInsertReadingSpec)

/-- 'laws.FnExactMergeFeeds', WHERE WHAT IT READS IS OF BULK AT MOST 1048576: true; the input reads as it did. -/
def fnExactMergeFeedsUptoRow : OpenClaim := { program := "ytkpcecigoffopab", sum := "4b11bd5218a2fe4c86b6231d687d57111c0a5893021e47c1c292d094495912fc", func := "loop.example/g01204/laws.FnExactMergeFeeds", spec := "fnExactMergeFeeds", unfollowed := true, recurses := true, plainKeys := false, apart := false, narrowed := true }
def FnExactMergeFeedsUptoSaid : Prop := fnExactMergeFeedsUptoRow.holds Try.pinned (OpenSpec.upto fnExactMergeFeedsSpec)

/-- 'laws.FnExactMeanOfFeed', WHERE WHAT IT READS IS OF BULK AT MOST 1048576: true; the input reads as it did. -/
def fnExactMeanOfFeedUptoRow : OpenClaim := { program := "ytkpcecigoffopab", sum := "4b11bd5218a2fe4c86b6231d687d57111c0a5893021e47c1c292d094495912fc", func := "loop.example/g01204/laws.FnExactMeanOfFeed", spec := "fnExactMeanOfFeed", inPlace := ["math.Float64bits", "math.Float64frombits"], plainKeys := false, apart := false, narrowed := true }
def FnExactMeanOfFeedUptoSaid : Prop := fnExactMeanOfFeedUptoRow.holds Try.pinned (OpenSpec.upto fnExactMeanOfFeedSpec)

/-- 'laws.FnExactValueAt', WHERE WHAT IT READS IS OF BULK AT MOST 1048576: true; the input reads as it did. -/
def fnExactValueAtUptoRow : OpenClaim := { program := "ytkpcecigoffopab", sum := "4b11bd5218a2fe4c86b6231d687d57111c0a5893021e47c1c292d094495912fc", func := "loop.example/g01204/laws.FnExactValueAt", spec := "fnExactValueAt", inPlace := ["math.Float64bits", "math.Float64frombits"], unfollowed := true, recurses := true, plainKeys := false, apart := false, narrowed := true }
def FnExactValueAtUptoSaid : Prop := fnExactValueAtUptoRow.holds Try.pinned (OpenSpec.upto fnExactValueAtSpec)

/-- 'laws.FnExactNearestMark', WHERE WHAT IT READS IS OF BULK AT MOST 1048576: true; the input reads as it did. -/
def fnExactNearestMarkUptoRow : OpenClaim := { program := "ytkpcecigoffopab", sum := "4b11bd5218a2fe4c86b6231d687d57111c0a5893021e47c1c292d094495912fc", func := "loop.example/g01204/laws.FnExactNearestMark", spec := "fnExactNearestMark", inPlace := ["math.archFloor", "math.Float64bits", "math.Float64frombits", "math.archTrunc", "math.sqrt"], unfollowed := true, recurses := true, plainKeys := false, apart := false, narrowed := true }
def FnExactNearestMarkUptoSaid : Prop := fnExactNearestMarkUptoRow.holds Try.pinned (OpenSpec.upto fnExactNearestMarkSpec)

/-- 'laws.FnExactPutMark', WHERE WHAT IT READS IS OF BULK AT MOST 1048576: true; the input reads as it did. -/
def fnExactPutMarkUptoRow : OpenClaim := { program := "ytkpcecigoffopab", sum := "4b11bd5218a2fe4c86b6231d687d57111c0a5893021e47c1c292d094495912fc", func := "loop.example/g01204/laws.FnExactPutMark", spec := "fnExactPutMark", inPlace := ["math.Float32bits", "math.Float64bits", "math.Float64frombits"], unfollowed := true, recurses := true, plainKeys := false, apart := false, narrowed := true }
def FnExactPutMarkUptoSaid : Prop := fnExactPutMarkUptoRow.holds Try.pinned (OpenSpec.upto fnExactPutMarkSpec)

/-- 'laws.FnExactMergeMaps', WHERE WHAT IT READS IS OF BULK AT MOST 1048576: true; the input reads as it did. -/
def fnExactMergeMapsUptoRow : OpenClaim := { program := "ytkpcecigoffopab", sum := "4b11bd5218a2fe4c86b6231d687d57111c0a5893021e47c1c292d094495912fc", func := "loop.example/g01204/laws.FnExactMergeMaps", spec := "fnExactMergeMaps", inPlace := ["math.Float32bits", "math.Float64bits", "math.Float64frombits"], unfollowed := true, recurses := true, plainKeys := false, apart := false, narrowed := true }
def FnExactMergeMapsUptoSaid : Prop := fnExactMergeMapsUptoRow.holds Try.pinned (OpenSpec.upto fnExactMergeMapsSpec)

end Rows
end Go.Proofs.Ytkpcecigoffopab
