/-
  No cell of these rows narrows 'for every input' (looked for: loops, veiled, ifaces, maps, wideKeys, modest, calm, conditions, laid).
  DERIVED. THE GIVEN ROWS OF THIS SEAT. 8 by the template 'for every input the law returns true; each argument reads behind the call as it read before'; 0 by the template 'total and deterministic' (their statements: YtmcbeaihjdnelaaTotals.lean).
  GIVEN WITH THE SEED: the statements are not yours to turn. If you find one false, say at which input.
  Laid BY PROGRAM, IN A SANDBOX (cutbox-rows.mjs): the forced cells as the released guide's own fill.sh prints them over the translation 14366e1914ac91e6… (all of the seat's roots in one cut). By AI agents, Wed Nov 11 2026. No macro, syntax, notation, axiom, sorry.
-/
import Derived.Test.YtmcbeaihjdnelaaChecked
import GoSem.Claim
import GoSem.ClaimJoined
import GoSem.ClaimMapViews
import Derived.JoinedTies
import Derived.KernelRfl
namespace Go.Proofs.Ytmcbeaihjdnelaa
/- THE CELL 'sum', in the pinned program and in every row, IS THE sha256 OF THE DUMP (.gsa) THAT YtmcbeaihjdnelaaProg.lean LOADS. Nothing in Lean hashes anything: it is a label: what it is worth is what the hold of that sum in a sandbox is worth. -/
noncomputable def Try.pinned : Pinned := { name := "ytmcbeaihjdnelaa", sum := "14366e1914ac91e629ef5855f6c507517ab7f245e9aff6fe4a6538eb4bab9c2e", checked := Try.checked }
namespace Rows
def none {H : Type} : Left H := { results := [], args := [] }

/-- 'laws.FnExactMeanOfFeed': WHATEVER THE INPUT: true; the input reads as it did. -/
def fnExactMeanOfFeedSpec : ChangeSpec := { name := "fnExactMeanOfFeed", fn := fun _ => fun
  | [d1, d2] => { results := [.lit (.bool true)], args := [d1, d2] }
  | _ => none }
def fnExactMeanOfFeedRow : OpenClaim := { program := "ytmcbeaihjdnelaa", sum := "14366e1914ac91e629ef5855f6c507517ab7f245e9aff6fe4a6538eb4bab9c2e", func := "loop.example/g01204/laws.FnExactMeanOfFeed", spec := "fnExactMeanOfFeed", inPlace := ["math.Float64bits", "math.Float64frombits"], apart := false }
def FnExactMeanOfFeedSaid : Prop := fnExactMeanOfFeedRow.holds Try.pinned (OpenSpec.ofChange fnExactMeanOfFeedSpec)

/-- ITS FALSE NEIGHBOUR: 'it returns false'. Refute it at one input. -/
def fnExactMeanOfFeedWrong : ChangeSpec := { name := "fnExactMeanOfFeed", fn := fun _ => fun
  | [d1, d2] => { results := [.lit (.bool false)], args := [d1, d2] }
  | _ => none }
def FnExactMeanOfFeedWrongFalsely : Prop := fnExactMeanOfFeedRow.holds Try.pinned (OpenSpec.ofChange fnExactMeanOfFeedWrong)

/-- 'laws.FnExactBetterMark': WHATEVER THE INPUT: true; the input reads as it did. -/
def fnExactBetterMarkSpec : ChangeSpec := { name := "fnExactBetterMark", fn := fun _ => fun
  | [d1, d2] => { results := [.lit (.bool true)], args := [d1, d2] }
  | _ => none }
def fnExactBetterMarkRow : OpenClaim := { program := "ytmcbeaihjdnelaa", sum := "14366e1914ac91e629ef5855f6c507517ab7f245e9aff6fe4a6538eb4bab9c2e", func := "loop.example/g01204/laws.FnExactBetterMark", spec := "fnExactBetterMark", inPlace := ["math.Float32bits", "math.Float64bits", "math.Float64frombits"], unfollowed := true, recurses := true, apart := false }
def FnExactBetterMarkSaid : Prop := fnExactBetterMarkRow.holds Try.pinned (OpenSpec.ofChange fnExactBetterMarkSpec)

/-- ITS FALSE NEIGHBOUR: 'it returns false'. Refute it at one input. -/
def fnExactBetterMarkWrong : ChangeSpec := { name := "fnExactBetterMark", fn := fun _ => fun
  | [d1, d2] => { results := [.lit (.bool false)], args := [d1, d2] }
  | _ => none }
def FnExactBetterMarkWrongFalsely : Prop := fnExactBetterMarkRow.holds Try.pinned (OpenSpec.ofChange fnExactBetterMarkWrong)

/-- 'laws.FnExactMarkIn': WHATEVER THE INPUT: true; the input reads as it did. -/
def fnExactMarkInSpec : ChangeSpec := { name := "fnExactMarkIn", fn := fun _ => fun
  | [d1, d2] => { results := [.lit (.bool true)], args := [d1, d2] }
  | _ => none }
def fnExactMarkInRow : OpenClaim := { program := "ytmcbeaihjdnelaa", sum := "14366e1914ac91e629ef5855f6c507517ab7f245e9aff6fe4a6538eb4bab9c2e", func := "loop.example/g01204/laws.FnExactMarkIn", spec := "fnExactMarkIn", inPlace := ["math.Float64bits", "math.Float64frombits"], unfollowed := true, recurses := true, apart := false }
def FnExactMarkInSaid : Prop := fnExactMarkInRow.holds Try.pinned (OpenSpec.ofChange fnExactMarkInSpec)

/-- ITS FALSE NEIGHBOUR: 'it returns false'. Refute it at one input. -/
def fnExactMarkInWrong : ChangeSpec := { name := "fnExactMarkIn", fn := fun _ => fun
  | [d1, d2] => { results := [.lit (.bool false)], args := [d1, d2] }
  | _ => none }
def FnExactMarkInWrongFalsely : Prop := fnExactMarkInRow.holds Try.pinned (OpenSpec.ofChange fnExactMarkInWrong)

/-- 'laws.FnExactCorrectBy': WHATEVER THE INPUT: true; the input reads as it did. -/
def fnExactCorrectBySpec : ChangeSpec := { name := "fnExactCorrectBy", fn := fun _ => fun
  | [d1, d2] => { results := [.lit (.bool true)], args := [d1, d2] }
  | _ => none }
def fnExactCorrectByRow : OpenClaim := { program := "ytmcbeaihjdnelaa", sum := "14366e1914ac91e629ef5855f6c507517ab7f245e9aff6fe4a6538eb4bab9c2e", func := "loop.example/g01204/laws.FnExactCorrectBy", spec := "fnExactCorrectBy", inPlace := ["math.Float64bits", "math.Float64frombits"], unfollowed := true, recurses := true, apart := false }
def FnExactCorrectBySaid : Prop := fnExactCorrectByRow.holds Try.pinned (OpenSpec.ofChange fnExactCorrectBySpec)

/-- ITS FALSE NEIGHBOUR: 'it returns false'. Refute it at one input. -/
def fnExactCorrectByWrong : ChangeSpec := { name := "fnExactCorrectBy", fn := fun _ => fun
  | [d1, d2] => { results := [.lit (.bool false)], args := [d1, d2] }
  | _ => none }
def FnExactCorrectByWrongFalsely : Prop := fnExactCorrectByRow.holds Try.pinned (OpenSpec.ofChange fnExactCorrectByWrong)

/-- 'laws.FnExactValueAt': WHATEVER THE INPUT: true; the input reads as it did. -/
def fnExactValueAtSpec : ChangeSpec := { name := "fnExactValueAt", fn := fun _ => fun
  | [d1, d2, d3] => { results := [.lit (.bool true)], args := [d1, d2, d3] }
  | _ => none }
def fnExactValueAtRow : OpenClaim := { program := "ytmcbeaihjdnelaa", sum := "14366e1914ac91e629ef5855f6c507517ab7f245e9aff6fe4a6538eb4bab9c2e", func := "loop.example/g01204/laws.FnExactValueAt", spec := "fnExactValueAt", inPlace := ["math.Float64bits", "math.Float64frombits"], unfollowed := true, recurses := true, apart := false }
def FnExactValueAtSaid : Prop := fnExactValueAtRow.holds Try.pinned (OpenSpec.ofChange fnExactValueAtSpec)

/-- ITS FALSE NEIGHBOUR: 'it returns false'. Refute it at one input. -/
def fnExactValueAtWrong : ChangeSpec := { name := "fnExactValueAt", fn := fun _ => fun
  | [d1, d2, d3] => { results := [.lit (.bool false)], args := [d1, d2, d3] }
  | _ => none }
def FnExactValueAtWrongFalsely : Prop := fnExactValueAtRow.holds Try.pinned (OpenSpec.ofChange fnExactValueAtWrong)

/-- 'laws.FnExactInsertReading': WHATEVER THE INPUT: true; the input reads as it did. -/
def fnExactInsertReadingSpec : ChangeSpec := { name := "fnExactInsertReading", fn := fun _ => fun
  | [d1, d2] => { results := [.lit (.bool true)], args := [d1, d2] }
  | _ => none }
def fnExactInsertReadingRow : OpenClaim := { program := "ytmcbeaihjdnelaa", sum := "14366e1914ac91e629ef5855f6c507517ab7f245e9aff6fe4a6538eb4bab9c2e", func := "loop.example/g01204/laws.FnExactInsertReading", spec := "fnExactInsertReading", unfollowed := true, recurses := true, apart := false }
def FnExactInsertReadingSaid : Prop := fnExactInsertReadingRow.holds Try.pinned (OpenSpec.ofChange fnExactInsertReadingSpec)

/-- ITS FALSE NEIGHBOUR: 'it returns false'. Refute it at one input. -/
def fnExactInsertReadingWrong : ChangeSpec := { name := "fnExactInsertReading", fn := fun _ => fun
  | [d1, d2] => { results := [.lit (.bool false)], args := [d1, d2] }
  | _ => none }
def FnExactInsertReadingWrongFalsely : Prop := fnExactInsertReadingRow.holds Try.pinned (OpenSpec.ofChange fnExactInsertReadingWrong)

/-- 'laws.FnExactMergeFeeds': WHATEVER THE INPUT: true; the input reads as it did. -/
def fnExactMergeFeedsSpec : ChangeSpec := { name := "fnExactMergeFeeds", fn := fun _ => fun
  | [d1, d2] => { results := [.lit (.bool true)], args := [d1, d2] }
  | _ => none }
def fnExactMergeFeedsRow : OpenClaim := { program := "ytmcbeaihjdnelaa", sum := "14366e1914ac91e629ef5855f6c507517ab7f245e9aff6fe4a6538eb4bab9c2e", func := "loop.example/g01204/laws.FnExactMergeFeeds", spec := "fnExactMergeFeeds", unfollowed := true, recurses := true, apart := false }
def FnExactMergeFeedsSaid : Prop := fnExactMergeFeedsRow.holds Try.pinned (OpenSpec.ofChange fnExactMergeFeedsSpec)

/-- ITS FALSE NEIGHBOUR: 'it returns false'. Refute it at one input. -/
def fnExactMergeFeedsWrong : ChangeSpec := { name := "fnExactMergeFeeds", fn := fun _ => fun
  | [d1, d2] => { results := [.lit (.bool false)], args := [d1, d2] }
  | _ => none }
def FnExactMergeFeedsWrongFalsely : Prop := fnExactMergeFeedsRow.holds Try.pinned (OpenSpec.ofChange fnExactMergeFeedsWrong)

/-- 'laws.FnExactTrackOf': WHATEVER THE INPUT: true; the input reads as it did. -/
def fnExactTrackOfSpec : ChangeSpec := { name := "fnExactTrackOf", fn := fun _ => fun
  | [d] => { results := [.lit (.bool true)], args := [d] }
  | _ => none }
def fnExactTrackOfRow : OpenClaim := { program := "ytmcbeaihjdnelaa", sum := "14366e1914ac91e629ef5855f6c507517ab7f245e9aff6fe4a6538eb4bab9c2e", func := "loop.example/g01204/laws.FnExactTrackOf", spec := "fnExactTrackOf", inPlace := ["math.Float64bits", "math.Float64frombits"], apart := false }
def FnExactTrackOfSaid : Prop := fnExactTrackOfRow.holds Try.pinned (OpenSpec.ofChange fnExactTrackOfSpec)

/-- ITS FALSE NEIGHBOUR: 'it returns false'. Refute it at one input. -/
def fnExactTrackOfWrong : ChangeSpec := { name := "fnExactTrackOf", fn := fun _ => fun
  | [d] => { results := [.lit (.bool false)], args := [d] }
  | _ => none }
def FnExactTrackOfWrongFalsely : Prop := fnExactTrackOfRow.holds Try.pinned (OpenSpec.ofChange fnExactTrackOfWrong)

/- THE SECOND FORM. 'bulk': how many values and letters a reading holds, each counted each time it is reached (what is shared counts as often as it is met; a slice's spare places count too). A statement '..UptoSaid' is the law's where the arguments, and the package variables that the reading takes, are together of bulk at most 1048576: NARROWER than '..Said'. Prove '..Said' where nothing that the law and all that it calls make is longer than what came in: it says more and counts as full. Else prove '..UptoSaid'. A law counts once. -/
mutual
def uptoBulk {H : Type} : DataW H → Nat
  | .lit (.string bytes) => bytes.length + 1
  | .lit _ => 1
  | .nil => 1
  | .ptr d => uptoBulk d + 1
  | .slice elems spare => uptoBulkAll elems + uptoBulkAll spare + 1
  | .agg parts => uptoBulkAll parts + 1
  | .iface _ d => uptoBulk d + 1
  | .map entries => uptoBulkEntries entries + 1
  | .held _ => 1
def uptoBulkAll {H : Type} : List (DataW H) → Nat
  | [] => 0
  | d :: r => uptoBulk d + uptoBulkAll r
def uptoBulkEntries {H : Type} : List (Lit × DataW H) → Nat
  | [] => 0
  | x :: r => uptoBulkEntry x + uptoBulkEntries r
def uptoBulkEntry {H : Type} : Lit × DataW H → Nat
  | (.string bytes, d) => bytes.length + uptoBulk d + 1
  | (_, d) => uptoBulk d + 1
 end
def uptoSmall : (H : Type) → List (DataW H) → Bool := fun _ ds => decide (uptoBulkAll ds ≤ 1048576)
def OpenSpec.upto (s : _root_.Go.ChangeSpec) : _root_.Go.OpenSpec := { _root_.Go.OpenSpec.ofChange s with cond := some uptoSmall }

/-- 'laws.FnExactMeanOfFeed', WHERE WHAT IT READS IS OF BULK AT MOST 1048576: true; the input reads as it did. -/
def fnExactMeanOfFeedUptoRow : OpenClaim := { program := "ytmcbeaihjdnelaa", sum := "14366e1914ac91e629ef5855f6c507517ab7f245e9aff6fe4a6538eb4bab9c2e", func := "loop.example/g01204/laws.FnExactMeanOfFeed", spec := "fnExactMeanOfFeed", inPlace := ["math.Float64bits", "math.Float64frombits"], apart := false, narrowed := true }
def FnExactMeanOfFeedUptoSaid : Prop := fnExactMeanOfFeedUptoRow.holds Try.pinned (OpenSpec.upto fnExactMeanOfFeedSpec)

/-- 'laws.FnExactBetterMark', WHERE WHAT IT READS IS OF BULK AT MOST 1048576: true; the input reads as it did. -/
def fnExactBetterMarkUptoRow : OpenClaim := { program := "ytmcbeaihjdnelaa", sum := "14366e1914ac91e629ef5855f6c507517ab7f245e9aff6fe4a6538eb4bab9c2e", func := "loop.example/g01204/laws.FnExactBetterMark", spec := "fnExactBetterMark", inPlace := ["math.Float32bits", "math.Float64bits", "math.Float64frombits"], unfollowed := true, recurses := true, apart := false, narrowed := true }
def FnExactBetterMarkUptoSaid : Prop := fnExactBetterMarkUptoRow.holds Try.pinned (OpenSpec.upto fnExactBetterMarkSpec)

/-- 'laws.FnExactMarkIn', WHERE WHAT IT READS IS OF BULK AT MOST 1048576: true; the input reads as it did. -/
def fnExactMarkInUptoRow : OpenClaim := { program := "ytmcbeaihjdnelaa", sum := "14366e1914ac91e629ef5855f6c507517ab7f245e9aff6fe4a6538eb4bab9c2e", func := "loop.example/g01204/laws.FnExactMarkIn", spec := "fnExactMarkIn", inPlace := ["math.Float64bits", "math.Float64frombits"], unfollowed := true, recurses := true, apart := false, narrowed := true }
def FnExactMarkInUptoSaid : Prop := fnExactMarkInUptoRow.holds Try.pinned (OpenSpec.upto fnExactMarkInSpec)

/-- 'laws.FnExactCorrectBy', WHERE WHAT IT READS IS OF BULK AT MOST 1048576: true; the input reads as it did. -/
def fnExactCorrectByUptoRow : OpenClaim := { program := "ytmcbeaihjdnelaa", sum := "14366e1914ac91e629ef5855f6c507517ab7f245e9aff6fe4a6538eb4bab9c2e", func := "loop.example/g01204/laws.FnExactCorrectBy", spec := "fnExactCorrectBy", inPlace := ["math.Float64bits", "math.Float64frombits"], unfollowed := true, recurses := true, apart := false, narrowed := true }
def FnExactCorrectByUptoSaid : Prop := fnExactCorrectByUptoRow.holds Try.pinned (OpenSpec.upto fnExactCorrectBySpec)

/-- 'laws.FnExactValueAt', WHERE WHAT IT READS IS OF BULK AT MOST 1048576: true; the input reads as it did. -/
def fnExactValueAtUptoRow : OpenClaim := { program := "ytmcbeaihjdnelaa", sum := "14366e1914ac91e629ef5855f6c507517ab7f245e9aff6fe4a6538eb4bab9c2e", func := "loop.example/g01204/laws.FnExactValueAt", spec := "fnExactValueAt", inPlace := ["math.Float64bits", "math.Float64frombits"], unfollowed := true, recurses := true, apart := false, narrowed := true }
def FnExactValueAtUptoSaid : Prop := fnExactValueAtUptoRow.holds Try.pinned (OpenSpec.upto fnExactValueAtSpec)

/-- 'laws.FnExactInsertReading', WHERE WHAT IT READS IS OF BULK AT MOST 1048576: true; the input reads as it did. -/
def fnExactInsertReadingUptoRow : OpenClaim := { program := "ytmcbeaihjdnelaa", sum := "14366e1914ac91e629ef5855f6c507517ab7f245e9aff6fe4a6538eb4bab9c2e", func := "loop.example/g01204/laws.FnExactInsertReading", spec := "fnExactInsertReading", unfollowed := true, recurses := true, apart := false, narrowed := true }
def FnExactInsertReadingUptoSaid : Prop := fnExactInsertReadingUptoRow.holds Try.pinned (OpenSpec.upto fnExactInsertReadingSpec)

/-- 'laws.FnExactMergeFeeds', WHERE WHAT IT READS IS OF BULK AT MOST 1048576: true; the input reads as it did. -/
def fnExactMergeFeedsUptoRow : OpenClaim := { program := "ytmcbeaihjdnelaa", sum := "14366e1914ac91e629ef5855f6c507517ab7f245e9aff6fe4a6538eb4bab9c2e", func := "loop.example/g01204/laws.FnExactMergeFeeds", spec := "fnExactMergeFeeds", unfollowed := true, recurses := true, apart := false, narrowed := true }
def FnExactMergeFeedsUptoSaid : Prop := fnExactMergeFeedsUptoRow.holds Try.pinned (OpenSpec.upto fnExactMergeFeedsSpec)

/-- 'laws.FnExactTrackOf', WHERE WHAT IT READS IS OF BULK AT MOST 1048576: true; the input reads as it did. -/
def fnExactTrackOfUptoRow : OpenClaim := { program := "ytmcbeaihjdnelaa", sum := "14366e1914ac91e629ef5855f6c507517ab7f245e9aff6fe4a6538eb4bab9c2e", func := "loop.example/g01204/laws.FnExactTrackOf", spec := "fnExactTrackOf", inPlace := ["math.Float64bits", "math.Float64frombits"], apart := false, narrowed := true }
def FnExactTrackOfUptoSaid : Prop := fnExactTrackOfUptoRow.holds Try.pinned (OpenSpec.upto fnExactTrackOfSpec)

end Rows
end Go.Proofs.Ytmcbeaihjdnelaa
