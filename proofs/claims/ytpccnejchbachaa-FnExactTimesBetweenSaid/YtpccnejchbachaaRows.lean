/-
  No cell of these rows narrows 'for every input' (looked for: loops, veiled, ifaces, maps, wideKeys, modest, calm, conditions, laid).
  DERIVED. THE GIVEN ROWS OF THIS SEAT. 4 by the template 'for every input the law returns true; each argument reads behind the call as it read before'; 0 by the template 'total and deterministic' (their statements: YtpccnejchbachaaTotals.lean).
  GIVEN WITH THE SEED: the statements are not yours to turn. If you find one false, say at which input.
  Laid BY PROGRAM, IN A SANDBOX (cutbox-rows.mjs): the forced cells as the released guide's own fill.sh prints them over the translation 7ba99ef531295b9d… (all of the seat's roots in one cut). By AI agents, Wed Nov 11 2026. No macro, syntax, notation, axiom, sorry.
-/
import Derived.Test.YtpccnejchbachaaChecked
import GoSem.Claim
import GoSem.ClaimJoined
import GoSem.ClaimMapViews
import Derived.JoinedTies
import Derived.KernelRfl
namespace Go.Proofs.Ytpccnejchbachaa
/- THE CELL 'sum', in the pinned program and in every row, IS THE sha256 OF THE DUMP (.gsa) THAT YtpccnejchbachaaProg.lean LOADS. Nothing in Lean hashes anything: it is a label: what it is worth is what the hold of that sum in a sandbox is worth. -/
noncomputable def Try.pinned : Pinned := { name := "ytpccnejchbachaa", sum := "7ba99ef531295b9d57644429ae3744a7bfc960cbbda2468ac25937397d7f6bf9", checked := Try.checked }
namespace Rows
def none {H : Type} : Left H := { results := [], args := [] }

/-- 'laws.FnExactTimesBetween': WHATEVER THE INPUT: true; the input reads as it did. -/
def fnExactTimesBetweenSpec : ChangeSpec := { name := "fnExactTimesBetween", fn := fun _ => fun
  | [d1, d2, d3] => { results := [.lit (.bool true)], args := [d1, d2, d3] }
  | _ => none }
def fnExactTimesBetweenRow : OpenClaim := { program := "ytpccnejchbachaa", sum := "7ba99ef531295b9d57644429ae3744a7bfc960cbbda2468ac25937397d7f6bf9", func := "loop.example/g01204/laws.FnExactTimesBetween", spec := "fnExactTimesBetween", inPlace := ["math.Float64bits", "math.Float64frombits"], plainKeys := false, apart := false }
def FnExactTimesBetweenSaid : Prop := fnExactTimesBetweenRow.holds Try.pinned (OpenSpec.ofChange fnExactTimesBetweenSpec)

/-- ITS FALSE NEIGHBOUR: 'it returns false'. Refute it at one input. -/
def fnExactTimesBetweenWrong : ChangeSpec := { name := "fnExactTimesBetween", fn := fun _ => fun
  | [d1, d2, d3] => { results := [.lit (.bool false)], args := [d1, d2, d3] }
  | _ => none }
def FnExactTimesBetweenWrongFalsely : Prop := fnExactTimesBetweenRow.holds Try.pinned (OpenSpec.ofChange fnExactTimesBetweenWrong)

/-- 'laws.FnExactPointsOf': WHATEVER THE INPUT: true; the input reads as it did. -/
def fnExactPointsOfSpec : ChangeSpec := { name := "fnExactPointsOf", fn := fun _ => fun
  | [d1, d2, d3] => { results := [.lit (.bool true)], args := [d1, d2, d3] }
  | _ => none }
def fnExactPointsOfRow : OpenClaim := { program := "ytpccnejchbachaa", sum := "7ba99ef531295b9d57644429ae3744a7bfc960cbbda2468ac25937397d7f6bf9", func := "loop.example/g01204/laws.FnExactPointsOf", spec := "fnExactPointsOf", inPlace := ["math.Float64bits", "math.Float64frombits"], plainKeys := false, apart := false }
def FnExactPointsOfSaid : Prop := fnExactPointsOfRow.holds Try.pinned (OpenSpec.ofChange fnExactPointsOfSpec)

/-- ITS FALSE NEIGHBOUR: 'it returns false'. Refute it at one input. -/
def fnExactPointsOfWrong : ChangeSpec := { name := "fnExactPointsOf", fn := fun _ => fun
  | [d1, d2, d3] => { results := [.lit (.bool false)], args := [d1, d2, d3] }
  | _ => none }
def FnExactPointsOfWrongFalsely : Prop := fnExactPointsOfRow.holds Try.pinned (OpenSpec.ofChange fnExactPointsOfWrong)

/-- 'laws.FnExactNearestMark': WHATEVER THE INPUT: true; the input reads as it did. -/
def fnExactNearestMarkSpec : ChangeSpec := { name := "fnExactNearestMark", fn := fun _ => fun
  | [d1, d2, d3] => { results := [.lit (.bool true)], args := [d1, d2, d3] }
  | _ => none }
def fnExactNearestMarkRow : OpenClaim := { program := "ytpccnejchbachaa", sum := "7ba99ef531295b9d57644429ae3744a7bfc960cbbda2468ac25937397d7f6bf9", func := "loop.example/g01204/laws.FnExactNearestMark", spec := "fnExactNearestMark", inPlace := ["math.archFloor", "math.Float64bits", "math.Float64frombits", "math.archTrunc", "math.sqrt"], unfollowed := true, recurses := true, plainKeys := false, apart := false }
def FnExactNearestMarkSaid : Prop := fnExactNearestMarkRow.holds Try.pinned (OpenSpec.ofChange fnExactNearestMarkSpec)

/-- ITS FALSE NEIGHBOUR: 'it returns false'. Refute it at one input. -/
def fnExactNearestMarkWrong : ChangeSpec := { name := "fnExactNearestMark", fn := fun _ => fun
  | [d1, d2, d3] => { results := [.lit (.bool false)], args := [d1, d2, d3] }
  | _ => none }
def FnExactNearestMarkWrongFalsely : Prop := fnExactNearestMarkRow.holds Try.pinned (OpenSpec.ofChange fnExactNearestMarkWrong)

/-- 'laws.FnExactInsertReading': WHATEVER THE INPUT: true; the input reads as it did. -/
def fnExactInsertReadingSpec : ChangeSpec := { name := "fnExactInsertReading", fn := fun _ => fun
  | [d1, d2] => { results := [.lit (.bool true)], args := [d1, d2] }
  | _ => none }
def fnExactInsertReadingRow : OpenClaim := { program := "ytpccnejchbachaa", sum := "7ba99ef531295b9d57644429ae3744a7bfc960cbbda2468ac25937397d7f6bf9", func := "loop.example/g01204/laws.FnExactInsertReading", spec := "fnExactInsertReading", unfollowed := true, recurses := true, plainKeys := false, apart := false }
def FnExactInsertReadingSaid : Prop := fnExactInsertReadingRow.holds Try.pinned (OpenSpec.ofChange fnExactInsertReadingSpec)

/-- ITS FALSE NEIGHBOUR: 'it returns false'. Refute it at one input. -/
def fnExactInsertReadingWrong : ChangeSpec := { name := "fnExactInsertReading", fn := fun _ => fun
  | [d1, d2] => { results := [.lit (.bool false)], args := [d1, d2] }
  | _ => none }
def FnExactInsertReadingWrongFalsely : Prop := fnExactInsertReadingRow.holds Try.pinned (OpenSpec.ofChange fnExactInsertReadingWrong)

/- THE SECOND FORM. 'bulk': how many values and letters a reading holds, each counted each time it is reached (what is shared counts as often as it is met; a slice's spare places count too). A statement '..UptoSaid' is the law's where the arguments, and the package variables that the reading takes, are together of bulk at most 1048576: NARROWER than '..Said'. Prove '..Said' where nothing that the law and all that it calls make is longer than what came in: it says more and counts as full. Else prove '..UptoSaid'. A law counts once. -/
mutual
def uptoBulk {H : Type} : DataW H → Nat
  | .lit (.string bytes) => bytes.length + 1
  | .lit _ => 1
  | .nil => 1
  | .ptr d => uptoBulk d + 1
  | .slice elems spare => uptoBulkAll elems + uptoBulkAll spare + 1
  | .agg parts => uptoBulkAll parts + 1
  | .iface _ d => uptoBulk d + 1
  | .map entries => uptoBulkEntries entries + 1
  | .held _ => 1
def uptoBulkAll {H : Type} : List (DataW H) → Nat
  | [] => 0
  | d :: r => uptoBulk d + uptoBulkAll r
def uptoBulkEntries {H : Type} : List (Lit × DataW H) → Nat
  | [] => 0
  | x :: r => uptoBulkEntry x + uptoBulkEntries r
def uptoBulkEntry {H : Type} : Lit × DataW H → Nat
  | (.string bytes, d) => bytes.length + uptoBulk d + 1
  | (_, d) => uptoBulk d + 1
 end
def uptoSmall : (H : Type) → List (DataW H) → Bool := fun _ ds => decide (uptoBulkAll ds ≤ 1048576)
def OpenSpec.upto (s : _root_.Go.ChangeSpec) : _root_.Go.OpenSpec := { _root_.Go.OpenSpec.ofChange s with cond := some uptoSmall }

/-- 'laws.FnExactTimesBetween', WHERE WHAT IT READS IS OF BULK AT MOST 1048576: true; the input reads as it did. -/
def fnExactTimesBetweenUptoRow : OpenClaim := { program := "ytpccnejchbachaa", sum := "7ba99ef531295b9d57644429ae3744a7bfc960cbbda2468ac25937397d7f6bf9", func := "loop.example/g01204/laws.FnExactTimesBetween", spec := "fnExactTimesBetween", inPlace := ["math.Float64bits", "math.Float64frombits"], plainKeys := false, apart := false, narrowed := true }
def FnExactTimesBetweenUptoSaid : Prop := fnExactTimesBetweenUptoRow.holds Try.pinned (OpenSpec.upto fnExactTimesBetweenSpec)

/-- 'laws.FnExactPointsOf', WHERE WHAT IT READS IS OF BULK AT MOST 1048576: true; the input reads as it did. -/
def fnExactPointsOfUptoRow : OpenClaim := { program := "ytpccnejchbachaa", sum := "7ba99ef531295b9d57644429ae3744a7bfc960cbbda2468ac25937397d7f6bf9", func := "loop.example/g01204/laws.FnExactPointsOf", spec := "fnExactPointsOf", inPlace := ["math.Float64bits", "math.Float64frombits"], plainKeys := false, apart := false, narrowed := true }
def FnExactPointsOfUptoSaid : Prop := fnExactPointsOfUptoRow.holds Try.pinned (OpenSpec.upto fnExactPointsOfSpec)

/-- 'laws.FnExactNearestMark', WHERE WHAT IT READS IS OF BULK AT MOST 1048576: true; the input reads as it did. -/
def fnExactNearestMarkUptoRow : OpenClaim := { program := "ytpccnejchbachaa", sum := "7ba99ef531295b9d57644429ae3744a7bfc960cbbda2468ac25937397d7f6bf9", func := "loop.example/g01204/laws.FnExactNearestMark", spec := "fnExactNearestMark", inPlace := ["math.archFloor", "math.Float64bits", "math.Float64frombits", "math.archTrunc", "math.sqrt"], unfollowed := true, recurses := true, plainKeys := false, apart := false, narrowed := true }
def FnExactNearestMarkUptoSaid : Prop := fnExactNearestMarkUptoRow.holds Try.pinned (OpenSpec.upto fnExactNearestMarkSpec)

/-- 'laws.FnExactInsertReading', WHERE WHAT IT READS IS OF BULK AT MOST 1048576: true; the input reads as it did. -/
def fnExactInsertReadingUptoRow : OpenClaim := { program := "ytpccnejchbachaa", sum := "7ba99ef531295b9d57644429ae3744a7bfc960cbbda2468ac25937397d7f6bf9", func := "loop.example/g01204/laws.FnExactInsertReading", spec := "fnExactInsertReading", unfollowed := true, recurses := true, plainKeys := false, apart := false, narrowed := true }
def FnExactInsertReadingUptoSaid : Prop := fnExactInsertReadingUptoRow.holds Try.pinned (OpenSpec.upto fnExactInsertReadingSpec)

end Rows
end Go.Proofs.Ytpccnejchbachaa
