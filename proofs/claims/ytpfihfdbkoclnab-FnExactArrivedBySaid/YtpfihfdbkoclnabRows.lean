/-
  No cell of these rows narrows 'for every input' (looked for: loops, veiled, ifaces, maps, wideKeys, modest, calm, conditions, laid).
  DERIVED. THE GIVEN ROWS OF THIS SEAT. 12 by the template 'for every input the law returns true; each argument reads behind the call as it read before'; 0 by the template 'total and deterministic' (their statements: YtpfihfdbkoclnabTotals.lean).
  GIVEN WITH THE SEED: the statements are not yours to turn. If you find one false, say at which input.
  Laid BY PROGRAM, IN A SANDBOX (cutbox-rows.mjs): the forced cells as the released guide's own fill.sh prints them over the translation 6898df115a55230e… (all of the seat's roots in one cut). By AI agents, Wed Nov 11 2026. No macro, syntax, notation, axiom, sorry.
-/
import Derived.Test.YtpfihfdbkoclnabChecked
import GoSem.Claim
import GoSem.ClaimJoined
import GoSem.ClaimMapViews
import Derived.JoinedTies
import Derived.KernelRfl
namespace Go.Proofs.Ytpfihfdbkoclnab
/- THE CELL 'sum', in the pinned program and in every row, IS THE sha256 OF THE DUMP (.gsa) THAT YtpfihfdbkoclnabProg.lean LOADS. Nothing in Lean hashes anything: it is a label: what it is worth is what the hold of that sum in a sandbox is worth. -/
noncomputable def Try.pinned : Pinned := { name := "ytpfihfdbkoclnab", sum := "6898df115a55230e8dff0ad5169072d0524d7ad0004ac7a7a08394dd5d4846ee", checked := Try.checked }
namespace Rows
def none {H : Type} : Left H := { results := [], args := [] }

/-- 'laws.FnExactInsertReading': WHATEVER THE INPUT: true; the input reads as it did. -/
def fnExactInsertReadingSpec : ChangeSpec := { name := "fnExactInsertReading", fn := fun _ => fun
  | [d1, d2] => { results := [.lit (.bool true)], args := [d1, d2] }
  | _ => none }
def fnExactInsertReadingRow : OpenClaim := { program := "ytpfihfdbkoclnab", sum := "6898df115a55230e8dff0ad5169072d0524d7ad0004ac7a7a08394dd5d4846ee", func := "loop.example/g01204/laws.FnExactInsertReading", spec := "fnExactInsertReading", unfollowed := true, recurses := true, apart := false }
def FnExactInsertReadingSaid : Prop := fnExactInsertReadingRow.holds Try.pinned (OpenSpec.ofChange fnExactInsertReadingSpec)

/-- ITS FALSE NEIGHBOUR: 'it returns false'. Refute it at one input. -/
def fnExactInsertReadingWrong : ChangeSpec := { name := "fnExactInsertReading", fn := fun _ => fun
  | [d1, d2] => { results := [.lit (.bool false)], args := [d1, d2] }
  | _ => none }
def FnExactInsertReadingWrongFalsely : Prop := fnExactInsertReadingRow.holds Try.pinned (OpenSpec.ofChange fnExactInsertReadingWrong)

/-- 'laws.FnExactMergeFeeds': WHATEVER THE INPUT: true; the input reads as it did. -/
def fnExactMergeFeedsSpec : ChangeSpec := { name := "fnExactMergeFeeds", fn := fun _ => fun
  | [d1, d2] => { results := [.lit (.bool true)], args := [d1, d2] }
  | _ => none }
def fnExactMergeFeedsRow : OpenClaim := { program := "ytpfihfdbkoclnab", sum := "6898df115a55230e8dff0ad5169072d0524d7ad0004ac7a7a08394dd5d4846ee", func := "loop.example/g01204/laws.FnExactMergeFeeds", spec := "fnExactMergeFeeds", unfollowed := true, recurses := true, apart := false }
def FnExactMergeFeedsSaid : Prop := fnExactMergeFeedsRow.holds Try.pinned (OpenSpec.ofChange fnExactMergeFeedsSpec)

/-- ITS FALSE NEIGHBOUR: 'it returns false'. Refute it at one input. -/
def fnExactMergeFeedsWrong : ChangeSpec := { name := "fnExactMergeFeeds", fn := fun _ => fun
  | [d1, d2] => { results := [.lit (.bool false)], args := [d1, d2] }
  | _ => none }
def FnExactMergeFeedsWrongFalsely : Prop := fnExactMergeFeedsRow.holds Try.pinned (OpenSpec.ofChange fnExactMergeFeedsWrong)

/-- 'laws.FnExactArrivedBy': WHATEVER THE INPUT: true; the input reads as it did. -/
def fnExactArrivedBySpec : ChangeSpec := { name := "fnExactArrivedBy", fn := fun _ => fun
  | [d1, d2, d3] => { results := [.lit (.bool true)], args := [d1, d2, d3] }
  | _ => none }
def fnExactArrivedByRow : OpenClaim := { program := "ytpfihfdbkoclnab", sum := "6898df115a55230e8dff0ad5169072d0524d7ad0004ac7a7a08394dd5d4846ee", func := "loop.example/g01204/laws.FnExactArrivedBy", spec := "fnExactArrivedBy", inPlace := ["math.Float64bits", "math.Float64frombits"], apart := false }
def FnExactArrivedBySaid : Prop := fnExactArrivedByRow.holds Try.pinned (OpenSpec.ofChange fnExactArrivedBySpec)

/-- ITS FALSE NEIGHBOUR: 'it returns false'. Refute it at one input. -/
def fnExactArrivedByWrong : ChangeSpec := { name := "fnExactArrivedBy", fn := fun _ => fun
  | [d1, d2, d3] => { results := [.lit (.bool false)], args := [d1, d2, d3] }
  | _ => none }
def FnExactArrivedByWrongFalsely : Prop := fnExactArrivedByRow.holds Try.pinned (OpenSpec.ofChange fnExactArrivedByWrong)

/-- 'laws.FnExactValueAt': WHATEVER THE INPUT: true; the input reads as it did. -/
def fnExactValueAtSpec : ChangeSpec := { name := "fnExactValueAt", fn := fun _ => fun
  | [d1, d2, d3] => { results := [.lit (.bool true)], args := [d1, d2, d3] }
  | _ => none }
def fnExactValueAtRow : OpenClaim := { program := "ytpfihfdbkoclnab", sum := "6898df115a55230e8dff0ad5169072d0524d7ad0004ac7a7a08394dd5d4846ee", func := "loop.example/g01204/laws.FnExactValueAt", spec := "fnExactValueAt", inPlace := ["math.Float64bits", "math.Float64frombits"], unfollowed := true, recurses := true, apart := false }
def FnExactValueAtSaid : Prop := fnExactValueAtRow.holds Try.pinned (OpenSpec.ofChange fnExactValueAtSpec)

/-- ITS FALSE NEIGHBOUR: 'it returns false'. Refute it at one input. -/
def fnExactValueAtWrong : ChangeSpec := { name := "fnExactValueAt", fn := fun _ => fun
  | [d1, d2, d3] => { results := [.lit (.bool false)], args := [d1, d2, d3] }
  | _ => none }
def FnExactValueAtWrongFalsely : Prop := fnExactValueAtRow.holds Try.pinned (OpenSpec.ofChange fnExactValueAtWrong)

/-- 'laws.FnExactDropReadings': WHATEVER THE INPUT: true; the input reads as it did. -/
def fnExactDropReadingsSpec : ChangeSpec := { name := "fnExactDropReadings", fn := fun _ => fun
  | [d1, d2] => { results := [.lit (.bool true)], args := [d1, d2] }
  | _ => none }
def fnExactDropReadingsRow : OpenClaim := { program := "ytpfihfdbkoclnab", sum := "6898df115a55230e8dff0ad5169072d0524d7ad0004ac7a7a08394dd5d4846ee", func := "loop.example/g01204/laws.FnExactDropReadings", spec := "fnExactDropReadings", apart := false }
def FnExactDropReadingsSaid : Prop := fnExactDropReadingsRow.holds Try.pinned (OpenSpec.ofChange fnExactDropReadingsSpec)

/-- ITS FALSE NEIGHBOUR: 'it returns false'. Refute it at one input. -/
def fnExactDropReadingsWrong : ChangeSpec := { name := "fnExactDropReadings", fn := fun _ => fun
  | [d1, d2] => { results := [.lit (.bool false)], args := [d1, d2] }
  | _ => none }
def FnExactDropReadingsWrongFalsely : Prop := fnExactDropReadingsRow.holds Try.pinned (OpenSpec.ofChange fnExactDropReadingsWrong)

/-- 'laws.FnExactMeanOfFeed': WHATEVER THE INPUT: true; the input reads as it did. -/
def fnExactMeanOfFeedSpec : ChangeSpec := { name := "fnExactMeanOfFeed", fn := fun _ => fun
  | [d1, d2] => { results := [.lit (.bool true)], args := [d1, d2] }
  | _ => none }
def fnExactMeanOfFeedRow : OpenClaim := { program := "ytpfihfdbkoclnab", sum := "6898df115a55230e8dff0ad5169072d0524d7ad0004ac7a7a08394dd5d4846ee", func := "loop.example/g01204/laws.FnExactMeanOfFeed", spec := "fnExactMeanOfFeed", inPlace := ["math.Float64bits", "math.Float64frombits"], apart := false }
def FnExactMeanOfFeedSaid : Prop := fnExactMeanOfFeedRow.holds Try.pinned (OpenSpec.ofChange fnExactMeanOfFeedSpec)

/-- ITS FALSE NEIGHBOUR: 'it returns false'. Refute it at one input. -/
def fnExactMeanOfFeedWrong : ChangeSpec := { name := "fnExactMeanOfFeed", fn := fun _ => fun
  | [d1, d2] => { results := [.lit (.bool false)], args := [d1, d2] }
  | _ => none }
def FnExactMeanOfFeedWrongFalsely : Prop := fnExactMeanOfFeedRow.holds Try.pinned (OpenSpec.ofChange fnExactMeanOfFeedWrong)

/-- 'laws.FnExactPacketOf': WHATEVER THE INPUT: true; the input reads as it did. -/
def fnExactPacketOfSpec : ChangeSpec := { name := "fnExactPacketOf", fn := fun _ => fun
  | [d] => { results := [.lit (.bool true)], args := [d] }
  | _ => none }
def fnExactPacketOfRow : OpenClaim := { program := "ytpfihfdbkoclnab", sum := "6898df115a55230e8dff0ad5169072d0524d7ad0004ac7a7a08394dd5d4846ee", func := "loop.example/g01204/laws.FnExactPacketOf", spec := "fnExactPacketOf", apart := false }
def FnExactPacketOfSaid : Prop := fnExactPacketOfRow.holds Try.pinned (OpenSpec.ofChange fnExactPacketOfSpec)

/-- ITS FALSE NEIGHBOUR: 'it returns false'. Refute it at one input. -/
def fnExactPacketOfWrong : ChangeSpec := { name := "fnExactPacketOf", fn := fun _ => fun
  | [d] => { results := [.lit (.bool false)], args := [d] }
  | _ => none }
def FnExactPacketOfWrongFalsely : Prop := fnExactPacketOfRow.holds Try.pinned (OpenSpec.ofChange fnExactPacketOfWrong)

/-- 'laws.FnExactReadPacket': WHATEVER THE INPUT: true; the input reads as it did. -/
def fnExactReadPacketSpec : ChangeSpec := { name := "fnExactReadPacket", fn := fun _ => fun
  | [d] => { results := [.lit (.bool true)], args := [d] }
  | _ => none }
def fnExactReadPacketRow : OpenClaim := { program := "ytpfihfdbkoclnab", sum := "6898df115a55230e8dff0ad5169072d0524d7ad0004ac7a7a08394dd5d4846ee", func := "loop.example/g01204/laws.FnExactReadPacket", spec := "fnExactReadPacket", apart := false }
def FnExactReadPacketSaid : Prop := fnExactReadPacketRow.holds Try.pinned (OpenSpec.ofChange fnExactReadPacketSpec)

/-- ITS FALSE NEIGHBOUR: 'it returns false'. Refute it at one input. -/
def fnExactReadPacketWrong : ChangeSpec := { name := "fnExactReadPacket", fn := fun _ => fun
  | [d] => { results := [.lit (.bool false)], args := [d] }
  | _ => none }
def FnExactReadPacketWrongFalsely : Prop := fnExactReadPacketRow.holds Try.pinned (OpenSpec.ofChange fnExactReadPacketWrong)

/-- 'laws.FnCounts': WHATEVER THE INPUT: true; the input reads as it did. -/
def fnCountsSpec : ChangeSpec := { name := "fnCounts", fn := fun _ => fun
  | [d1, d2] => { results := [.lit (.bool true)], args := [d1, d2] }
  | _ => none }
def fnCountsRow : OpenClaim := { program := "ytpfihfdbkoclnab", sum := "6898df115a55230e8dff0ad5169072d0524d7ad0004ac7a7a08394dd5d4846ee", func := "loop.example/g01204/laws.FnCounts", spec := "fnCounts", inPlace := ["math.Float64bits", "math.Float64frombits", "math.RoundToEven", "math.Float32bits", "math.Float32frombits"], unfollowed := true, recurses := true, apart := false }
def FnCountsSaid : Prop := fnCountsRow.holds Try.pinned (OpenSpec.ofChange fnCountsSpec)

/-- ITS FALSE NEIGHBOUR: 'it returns false'. Refute it at one input. -/
def fnCountsWrong : ChangeSpec := { name := "fnCounts", fn := fun _ => fun
  | [d1, d2] => { results := [.lit (.bool false)], args := [d1, d2] }
  | _ => none }
def FnCountsWrongFalsely : Prop := fnCountsRow.holds Try.pinned (OpenSpec.ofChange fnCountsWrong)

/-- 'laws.FnCurves': WHATEVER THE INPUT: true; the input reads as it did. -/
def fnCurvesSpec : ChangeSpec := { name := "fnCurves", fn := fun _ => fun
  | [d1, d2] => { results := [.lit (.bool true)], args := [d1, d2] }
  | _ => none }
def fnCurvesRow : OpenClaim := { program := "ytpfihfdbkoclnab", sum := "6898df115a55230e8dff0ad5169072d0524d7ad0004ac7a7a08394dd5d4846ee", func := "loop.example/g01204/laws.FnCurves", spec := "fnCurves", inPlace := ["math.Float64bits", "math.Float64frombits", "math.Float32bits", "math.Float32frombits"], unfollowed := true, recurses := true, apart := false }
def FnCurvesSaid : Prop := fnCurvesRow.holds Try.pinned (OpenSpec.ofChange fnCurvesSpec)

/-- ITS FALSE NEIGHBOUR: 'it returns false'. Refute it at one input. -/
def fnCurvesWrong : ChangeSpec := { name := "fnCurves", fn := fun _ => fun
  | [d1, d2] => { results := [.lit (.bool false)], args := [d1, d2] }
  | _ => none }
def FnCurvesWrongFalsely : Prop := fnCurvesRow.holds Try.pinned (OpenSpec.ofChange fnCurvesWrong)

/-- 'laws.FnFeeds': WHATEVER THE INPUT: true; the input reads as it did. -/
def fnFeedsSpec : ChangeSpec := { name := "fnFeeds", fn := fun _ => fun
  | [d1, d2] => { results := [.lit (.bool true)], args := [d1, d2] }
  | _ => none }
def fnFeedsRow : OpenClaim := { program := "ytpfihfdbkoclnab", sum := "6898df115a55230e8dff0ad5169072d0524d7ad0004ac7a7a08394dd5d4846ee", func := "loop.example/g01204/laws.FnFeeds", spec := "fnFeeds", inPlace := ["math.Float64bits", "math.Float64frombits", "math.Float32bits"], unfollowed := true, recurses := true, apart := false }
def FnFeedsSaid : Prop := fnFeedsRow.holds Try.pinned (OpenSpec.ofChange fnFeedsSpec)

/-- ITS FALSE NEIGHBOUR: 'it returns false'. Refute it at one input. -/
def fnFeedsWrong : ChangeSpec := { name := "fnFeeds", fn := fun _ => fun
  | [d1, d2] => { results := [.lit (.bool false)], args := [d1, d2] }
  | _ => none }
def FnFeedsWrongFalsely : Prop := fnFeedsRow.holds Try.pinned (OpenSpec.ofChange fnFeedsWrong)

/-- 'laws.FnMeasured': WHATEVER THE INPUT: true; the input reads as it did. -/
def fnMeasuredSpec : ChangeSpec := { name := "fnMeasured", fn := fun _ => fun
  | [d1, d2] => { results := [.lit (.bool true)], args := [d1, d2] }
  | _ => none }
def fnMeasuredRow : OpenClaim := { program := "ytpfihfdbkoclnab", sum := "6898df115a55230e8dff0ad5169072d0524d7ad0004ac7a7a08394dd5d4846ee", func := "loop.example/g01204/laws.FnMeasured", spec := "fnMeasured", inPlace := ["math.Float64bits", "math.Float64frombits", "math.RoundToEven", "math.Float32bits", "math.Float32frombits"], apart := false }
def FnMeasuredSaid : Prop := fnMeasuredRow.holds Try.pinned (OpenSpec.ofChange fnMeasuredSpec)

/-- ITS FALSE NEIGHBOUR: 'it returns false'. Refute it at one input. -/
def fnMeasuredWrong : ChangeSpec := { name := "fnMeasured", fn := fun _ => fun
  | [d1, d2] => { results := [.lit (.bool false)], args := [d1, d2] }
  | _ => none }
def FnMeasuredWrongFalsely : Prop := fnMeasuredRow.holds Try.pinned (OpenSpec.ofChange fnMeasuredWrong)

/- THE SECOND FORM. 'bulk': how many values and letters a reading holds, each counted each time it is reached (what is shared counts as often as it is met; a slice's spare places count too). A statement '..UptoSaid' is the law's where the arguments, and the package variables that the reading takes, are together of bulk at most 1048576: NARROWER than '..Said'. Prove '..Said' where nothing that the law and all that it calls make is longer than what came in: it says more and counts as full. Else prove '..UptoSaid'. A law counts once. -/
mutual
def uptoBulk {H : Type} : DataW H → Nat
  | .lit (.string bytes) => bytes.length + 1
  | .lit _ => 1
  | .nil => 1
  | .ptr d => uptoBulk d + 1
  | .slice elems spare => uptoBulkAll elems + uptoBulkAll spare + 1
  | .agg parts => uptoBulkAll parts + 1
  | .iface _ d => uptoBulk d + 1
  | .map entries => uptoBulkEntries entries + 1
  | .held _ => 1
def uptoBulkAll {H : Type} : List (DataW H) → Nat
  | [] => 0
  | d :: r => uptoBulk d + uptoBulkAll r
def uptoBulkEntries {H : Type} : List (Lit × DataW H) → Nat
  | [] => 0
  | x :: r => uptoBulkEntry x + uptoBulkEntries r
def uptoBulkEntry {H : Type} : Lit × DataW H → Nat
  | (.string bytes, d) => bytes.length + uptoBulk d + 1
  | (_, d) => uptoBulk d + 1
 end
def uptoSmall : (H : Type) → List (DataW H) → Bool := fun _ ds => decide (uptoBulkAll ds ≤ 1048576)
def OpenSpec.upto (s : _root_.Go.ChangeSpec) : _root_.Go.OpenSpec := { _root_.Go.OpenSpec.ofChange s with cond := some uptoSmall }

/-- 'laws.FnExactInsertReading', WHERE WHAT IT READS IS OF BULK AT MOST 1048576: true; the input reads as it did. -/
def fnExactInsertReadingUptoRow : OpenClaim := { program := "ytpfihfdbkoclnab", sum := "6898df115a55230e8dff0ad5169072d0524d7ad0004ac7a7a08394dd5d4846ee", func := "loop.example/g01204/laws.FnExactInsertReading", spec := "fnExactInsertReading", unfollowed := true, recurses := true, apart := false, narrowed := true }
def FnExactInsertReadingUptoSaid : Prop := fnExactInsertReadingUptoRow.holds Try.pinned (OpenSpec.upto fnExactInsertReadingSpec)

/-- 'laws.FnExactMergeFeeds', WHERE WHAT IT READS IS OF BULK AT MOST 1048576: true; the input reads as it did. -/
def fnExactMergeFeedsUptoRow : OpenClaim := { program := "ytpfihfdbkoclnab", sum := "6898df115a55230e8dff0ad5169072d0524d7ad0004ac7a7a08394dd5d4846ee", func := "loop.example/g01204/laws.FnExactMergeFeeds", spec := "fnExactMergeFeeds", unfollowed := true, recurses := true, apart := false, narrowed := true }
def FnExactMergeFeedsUptoSaid : Prop := fnExactMergeFeedsUptoRow.holds Try.pinned (OpenSpec.upto fnExactMergeFeedsSpec)

/-- 'laws.FnExactArrivedBy', WHERE WHAT IT READS IS OF BULK AT MOST 1048576: true; the input reads as it did. -/
def fnExactArrivedByUptoRow : OpenClaim := { program := "ytpfihfdbkoclnab", sum := "6898df115a55230e8dff0ad5169072d0524d7ad0004ac7a7a08394dd5d4846ee", func := "loop.example/g01204/laws.FnExactArrivedBy", spec := "fnExactArrivedBy", inPlace := ["math.Float64bits", "math.Float64frombits"], apart := false, narrowed := true }
def FnExactArrivedByUptoSaid : Prop := fnExactArrivedByUptoRow.holds Try.pinned (OpenSpec.upto fnExactArrivedBySpec)

/-- 'laws.FnExactValueAt', WHERE WHAT IT READS IS OF BULK AT MOST 1048576: true; the input reads as it did. -/
def fnExactValueAtUptoRow : OpenClaim := { program := "ytpfihfdbkoclnab", sum := "6898df115a55230e8dff0ad5169072d0524d7ad0004ac7a7a08394dd5d4846ee", func := "loop.example/g01204/laws.FnExactValueAt", spec := "fnExactValueAt", inPlace := ["math.Float64bits", "math.Float64frombits"], unfollowed := true, recurses := true, apart := false, narrowed := true }
def FnExactValueAtUptoSaid : Prop := fnExactValueAtUptoRow.holds Try.pinned (OpenSpec.upto fnExactValueAtSpec)

/-- 'laws.FnExactDropReadings', WHERE WHAT IT READS IS OF BULK AT MOST 1048576: true; the input reads as it did. -/
def fnExactDropReadingsUptoRow : OpenClaim := { program := "ytpfihfdbkoclnab", sum := "6898df115a55230e8dff0ad5169072d0524d7ad0004ac7a7a08394dd5d4846ee", func := "loop.example/g01204/laws.FnExactDropReadings", spec := "fnExactDropReadings", apart := false, narrowed := true }
def FnExactDropReadingsUptoSaid : Prop := fnExactDropReadingsUptoRow.holds Try.pinned (OpenSpec.upto fnExactDropReadingsSpec)

/-- 'laws.FnExactMeanOfFeed', WHERE WHAT IT READS IS OF BULK AT MOST 1048576: true; the input reads as it did. -/
def fnExactMeanOfFeedUptoRow : OpenClaim := { program := "ytpfihfdbkoclnab", sum := "6898df115a55230e8dff0ad5169072d0524d7ad0004ac7a7a08394dd5d4846ee", func := "loop.example/g01204/laws.FnExactMeanOfFeed", spec := "fnExactMeanOfFeed", inPlace := ["math.Float64bits", "math.Float64frombits"], apart := false, narrowed := true }
def FnExactMeanOfFeedUptoSaid : Prop := fnExactMeanOfFeedUptoRow.holds Try.pinned (OpenSpec.upto fnExactMeanOfFeedSpec)

/-- 'laws.FnExactPacketOf', WHERE WHAT IT READS IS OF BULK AT MOST 1048576: true; the input reads as it did. -/
def fnExactPacketOfUptoRow : OpenClaim := { program := "ytpfihfdbkoclnab", sum := "6898df115a55230e8dff0ad5169072d0524d7ad0004ac7a7a08394dd5d4846ee", func := "loop.example/g01204/laws.FnExactPacketOf", spec := "fnExactPacketOf", apart := false, narrowed := true }
def FnExactPacketOfUptoSaid : Prop := fnExactPacketOfUptoRow.holds Try.pinned (OpenSpec.upto fnExactPacketOfSpec)

/-- 'laws.FnExactReadPacket', WHERE WHAT IT READS IS OF BULK AT MOST 1048576: true; the input reads as it did. -/
def fnExactReadPacketUptoRow : OpenClaim := { program := "ytpfihfdbkoclnab", sum := "6898df115a55230e8dff0ad5169072d0524d7ad0004ac7a7a08394dd5d4846ee", func := "loop.example/g01204/laws.FnExactReadPacket", spec := "fnExactReadPacket", apart := false, narrowed := true }
def FnExactReadPacketUptoSaid : Prop := fnExactReadPacketUptoRow.holds Try.pinned (OpenSpec.upto fnExactReadPacketSpec)

/-- 'laws.FnCounts', WHERE WHAT IT READS IS OF BULK AT MOST 1048576: true; the input reads as it did. -/
def fnCountsUptoRow : OpenClaim := { program := "ytpfihfdbkoclnab", sum := "6898df115a55230e8dff0ad5169072d0524d7ad0004ac7a7a08394dd5d4846ee", func := "loop.example/g01204/laws.FnCounts", spec := "fnCounts", inPlace := ["math.Float64bits", "math.Float64frombits", "math.RoundToEven", "math.Float32bits", "math.Float32frombits"], unfollowed := true, recurses := true, apart := false, narrowed := true }
def FnCountsUptoSaid : Prop := fnCountsUptoRow.holds Try.pinned (OpenSpec.upto fnCountsSpec)

/-- 'laws.FnCurves', WHERE WHAT IT READS IS OF BULK AT MOST 1048576: true; the input reads as it did. -/
def fnCurvesUptoRow : OpenClaim := { program := "ytpfihfdbkoclnab", sum := "6898df115a55230e8dff0ad5169072d0524d7ad0004ac7a7a08394dd5d4846ee", func := "loop.example/g01204/laws.FnCurves", spec := "fnCurves", inPlace := ["math.Float64bits", "math.Float64frombits", "math.Float32bits", "math.Float32frombits"], unfollowed := true, recurses := true, apart := false, narrowed := true }
def FnCurvesUptoSaid : Prop := fnCurvesUptoRow.holds Try.pinned (OpenSpec.upto fnCurvesSpec)

/-- 'laws.FnFeeds', WHERE WHAT IT READS IS OF BULK AT MOST 1048576: true; the input reads as it did. -/
def fnFeedsUptoRow : OpenClaim := { program := "ytpfihfdbkoclnab", sum := "6898df115a55230e8dff0ad5169072d0524d7ad0004ac7a7a08394dd5d4846ee", func := "loop.example/g01204/laws.FnFeeds", spec := "fnFeeds", inPlace := ["math.Float64bits", "math.Float64frombits", "math.Float32bits"], unfollowed := true, recurses := true, apart := false, narrowed := true }
def FnFeedsUptoSaid : Prop := fnFeedsUptoRow.holds Try.pinned (OpenSpec.upto fnFeedsSpec)

/-- 'laws.FnMeasured', WHERE WHAT IT READS IS OF BULK AT MOST 1048576: true; the input reads as it did. -/
def fnMeasuredUptoRow : OpenClaim := { program := "ytpfihfdbkoclnab", sum := "6898df115a55230e8dff0ad5169072d0524d7ad0004ac7a7a08394dd5d4846ee", func := "loop.example/g01204/laws.FnMeasured", spec := "fnMeasured", inPlace := ["math.Float64bits", "math.Float64frombits", "math.RoundToEven", "math.Float32bits", "math.Float32frombits"], apart := false, narrowed := true }
def FnMeasuredUptoSaid : Prop := fnMeasuredUptoRow.holds Try.pinned (OpenSpec.upto fnMeasuredSpec)

end Rows
end Go.Proofs.Ytpfihfdbkoclnab
