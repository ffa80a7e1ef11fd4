/-
  No cell of these rows narrows 'for every input' (looked for: loops, veiled, ifaces, maps, wideKeys, modest, calm, conditions, laid).
  DERIVED. THE GIVEN ROWS OF THIS SEAT. 4 by the template 'for every input the law returns true; each argument reads behind the call as it read before'; 0 by the template 'total and deterministic' (their statements: YtifaojlgofibmabTotals.lean).
  GIVEN WITH THE SEED: the statements are not yours to turn. If you find one false, say at which input.
  Laid BY PROGRAM, IN A SANDBOX (cutbox-rows.mjs): the forced cells as the released guide's own fill.sh prints them over the translation 8c494d300bd5e490… (all of the seat's roots in one cut). By AI agents, Wed Nov 11 2026. No macro, syntax, notation, axiom, sorry.
-/
import Derived.Test.YtifaojlgofibmabChecked
import GoSem.Claim
import GoSem.ClaimJoined
import GoSem.ClaimMapViews
import Derived.JoinedTies
import Derived.KernelRfl
namespace Go.Proofs.Ytifaojlgofibmab
/- THE CELL 'sum', in the pinned program and in every row, IS THE sha256 OF THE DUMP (.gsa) THAT YtifaojlgofibmabProg.lean LOADS. Nothing in Lean hashes anything: it is a label: what it is worth is what the hold of that sum in a sandbox is worth. -/
noncomputable def Try.pinned : Pinned := { name := "ytifaojlgofibmab", sum := "8c494d300bd5e490b0214e5da32098c9490f13767c22d99579389785ca0ebe07", checked := Try.checked }
namespace Rows
def none {H : Type} : Left H := { results := [], args := [] }

/-- 'laws.FnExactValidCurve': WHATEVER THE INPUT: true; the input reads as it did. -/
def fnExactValidCurveSpec : ChangeSpec := { name := "fnExactValidCurve", fn := fun _ => fun
  | [d] => { results := [.lit (.bool true)], args := [d] }
  | _ => none }
def fnExactValidCurveRow : OpenClaim := { program := "ytifaojlgofibmab", sum := "8c494d300bd5e490b0214e5da32098c9490f13767c22d99579389785ca0ebe07", func := "loop.example/g01204/laws.FnExactValidCurve", spec := "fnExactValidCurve", inPlace := ["math.Float64bits", "math.Float64frombits"], apart := false }
def FnExactValidCurveSaid : Prop := fnExactValidCurveRow.holds Try.pinned (OpenSpec.ofChange fnExactValidCurveSpec)

/-- ITS FALSE NEIGHBOUR: 'it returns false'. Refute it at one input. -/
def fnExactValidCurveWrong : ChangeSpec := { name := "fnExactValidCurve", fn := fun _ => fun
  | [d] => { results := [.lit (.bool false)], args := [d] }
  | _ => none }
def FnExactValidCurveWrongFalsely : Prop := fnExactValidCurveRow.holds Try.pinned (OpenSpec.ofChange fnExactValidCurveWrong)

/-- 'laws.FnExactFitCurveLine': WHATEVER THE INPUT: true; the input reads as it did. -/
def fnExactFitCurveLineSpec : ChangeSpec := { name := "fnExactFitCurveLine", fn := fun _ => fun
  | [d] => { results := [.lit (.bool true)], args := [d] }
  | _ => none }
def fnExactFitCurveLineRow : OpenClaim := { program := "ytifaojlgofibmab", sum := "8c494d300bd5e490b0214e5da32098c9490f13767c22d99579389785ca0ebe07", func := "loop.example/g01204/laws.FnExactFitCurveLine", spec := "fnExactFitCurveLine", inPlace := ["math.Float64bits", "math.Float64frombits"], apart := false }
def FnExactFitCurveLineSaid : Prop := fnExactFitCurveLineRow.holds Try.pinned (OpenSpec.ofChange fnExactFitCurveLineSpec)

/-- ITS FALSE NEIGHBOUR: 'it returns false'. Refute it at one input. -/
def fnExactFitCurveLineWrong : ChangeSpec := { name := "fnExactFitCurveLine", fn := fun _ => fun
  | [d] => { results := [.lit (.bool false)], args := [d] }
  | _ => none }
def FnExactFitCurveLineWrongFalsely : Prop := fnExactFitCurveLineRow.holds Try.pinned (OpenSpec.ofChange fnExactFitCurveLineWrong)

/-- 'laws.FnExactMeanOfFeed': WHATEVER THE INPUT: true; the input reads as it did. -/
def fnExactMeanOfFeedSpec : ChangeSpec := { name := "fnExactMeanOfFeed", fn := fun _ => fun
  | [d1, d2] => { results := [.lit (.bool true)], args := [d1, d2] }
  | _ => none }
def fnExactMeanOfFeedRow : OpenClaim := { program := "ytifaojlgofibmab", sum := "8c494d300bd5e490b0214e5da32098c9490f13767c22d99579389785ca0ebe07", func := "loop.example/g01204/laws.FnExactMeanOfFeed", spec := "fnExactMeanOfFeed", inPlace := ["math.Float64bits", "math.Float64frombits"], apart := false }
def FnExactMeanOfFeedSaid : Prop := fnExactMeanOfFeedRow.holds Try.pinned (OpenSpec.ofChange fnExactMeanOfFeedSpec)

/-- ITS FALSE NEIGHBOUR: 'it returns false'. Refute it at one input. -/
def fnExactMeanOfFeedWrong : ChangeSpec := { name := "fnExactMeanOfFeed", fn := fun _ => fun
  | [d1, d2] => { results := [.lit (.bool false)], args := [d1, d2] }
  | _ => none }
def FnExactMeanOfFeedWrongFalsely : Prop := fnExactMeanOfFeedRow.holds Try.pinned (OpenSpec.ofChange fnExactMeanOfFeedWrong)

/-- 'laws.FnExactTrackOf': WHATEVER THE INPUT: true; the input reads as it did. -/
def fnExactTrackOfSpec : ChangeSpec := { name := "fnExactTrackOf", fn := fun _ => fun
  | [d] => { results := [.lit (.bool true)], args := [d] }
  | _ => none }
def fnExactTrackOfRow : OpenClaim := { program := "ytifaojlgofibmab", sum := "8c494d300bd5e490b0214e5da32098c9490f13767c22d99579389785ca0ebe07", func := "loop.example/g01204/laws.FnExactTrackOf", spec := "fnExactTrackOf", inPlace := ["math.Float64bits", "math.Float64frombits"], apart := false }
def FnExactTrackOfSaid : Prop := fnExactTrackOfRow.holds Try.pinned (OpenSpec.ofChange fnExactTrackOfSpec)

/-- ITS FALSE NEIGHBOUR: 'it returns false'. Refute it at one input. -/
def fnExactTrackOfWrong : ChangeSpec := { name := "fnExactTrackOf", fn := fun _ => fun
  | [d] => { results := [.lit (.bool false)], args := [d] }
  | _ => none }
def FnExactTrackOfWrongFalsely : Prop := fnExactTrackOfRow.holds Try.pinned (OpenSpec.ofChange fnExactTrackOfWrong)

/- THE SECOND FORM. 'bulk': how many values and letters a reading holds, each counted each time it is reached (what is shared counts as often as it is met; a slice's spare places count too). A statement '..UptoSaid' is the law's where the arguments, and the package variables that the reading takes, are together of bulk at most 1048576: NARROWER than '..Said'. Prove '..Said' where nothing that the law and all that it calls make is longer than what came in: it says more and counts as full. Else prove '..UptoSaid'. A law counts once. -/
mutual
def uptoBulk {H : Type} : DataW H → Nat
  | .lit (.string bytes) => bytes.length + 1
  | .lit _ => 1
  | .nil => 1
  | .ptr d => uptoBulk d + 1
  | .slice elems spare => uptoBulkAll elems + uptoBulkAll spare + 1
  | .agg parts => uptoBulkAll parts + 1
  | .iface _ d => uptoBulk d + 1
  | .map entries => uptoBulkEntries entries + 1
  | .held _ => 1
def uptoBulkAll {H : Type} : List (DataW H) → Nat
  | [] => 0
  | d :: r => uptoBulk d + uptoBulkAll r
def uptoBulkEntries {H : Type} : List (Lit × DataW H) → Nat
  | [] => 0
  | x :: r => uptoBulkEntry x + uptoBulkEntries r
def uptoBulkEntry {H : Type} : Lit × DataW H → Nat
  | (.string bytes, d) => bytes.length + uptoBulk d + 1
  | (_, d) => uptoBulk d + 1
 end
def uptoSmall : (H : Type) → List (DataW H) → Bool := fun _ ds => decide (uptoBulkAll ds ≤ 1048576)
def OpenSpec.upto (s : _root_.Go.ChangeSpec) : _root_.Go.OpenSpec := { _root_.Go.OpenSpec.ofChange s with cond := some uptoSmall }

/-- 'laws.FnExactValidCurve', WHERE WHAT IT READS IS OF BULK AT MOST 1048576: true; the input reads as it did. -/
def fnExactValidCurveUptoRow : OpenClaim := { program := "ytifaojlgofibmab", sum := "8c494d300bd5e490b0214e5da32098c9490f13767c22d99579389785ca0ebe07", func := "loop.example/g01204/laws.FnExactValidCurve", spec := "fnExactValidCurve", inPlace := ["math.Float64bits", "math.Float64frombits"], apart := false, narrowed := true }
def FnExactValidCurveUptoSaid : Prop := fnExactValidCurveUptoRow.holds Try.pinned (OpenSpec.upto fnExactValidCurveSpec)

/-- 'laws.FnExactFitCurveLine', WHERE WHAT IT READS IS OF BULK AT MOST 1048576: true; the input reads as it did. -/
def fnExactFitCurveLineUptoRow : OpenClaim := { program := "ytifaojlgofibmab", sum := "8c494d300bd5e490b0214e5da32098c9490f13767c22d99579389785ca0ebe07", func := "loop.example/g01204/laws.FnExactFitCurveLine", spec := "fnExactFitCurveLine", inPlace := ["math.Float64bits", "math.Float64frombits"], apart := false, narrowed := true }
def FnExactFitCurveLineUptoSaid : Prop := fnExactFitCurveLineUptoRow.holds Try.pinned (OpenSpec.upto fnExactFitCurveLineSpec)

/-- 'laws.FnExactMeanOfFeed', WHERE WHAT IT READS IS OF BULK AT MOST 1048576: true; the input reads as it did. -/
def fnExactMeanOfFeedUptoRow : OpenClaim := { program := "ytifaojlgofibmab", sum := "8c494d300bd5e490b0214e5da32098c9490f13767c22d99579389785ca0ebe07", func := "loop.example/g01204/laws.FnExactMeanOfFeed", spec := "fnExactMeanOfFeed", inPlace := ["math.Float64bits", "math.Float64frombits"], apart := false, narrowed := true }
def FnExactMeanOfFeedUptoSaid : Prop := fnExactMeanOfFeedUptoRow.holds Try.pinned (OpenSpec.upto fnExactMeanOfFeedSpec)

/-- 'laws.FnExactTrackOf', WHERE WHAT IT READS IS OF BULK AT MOST 1048576: true; the input reads as it did. -/
def fnExactTrackOfUptoRow : OpenClaim := { program := "ytifaojlgofibmab", sum := "8c494d300bd5e490b0214e5da32098c9490f13767c22d99579389785ca0ebe07", func := "loop.example/g01204/laws.FnExactTrackOf", spec := "fnExactTrackOf", inPlace := ["math.Float64bits", "math.Float64frombits"], apart := false, narrowed := true }
def FnExactTrackOfUptoSaid : Prop := fnExactTrackOfUptoRow.holds Try.pinned (OpenSpec.upto fnExactTrackOfSpec)

end Rows
end Go.Proofs.Ytifaojlgofibmab
