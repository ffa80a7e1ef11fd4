/-
  No cell of these rows narrows 'for every input' (looked for: loops, veiled, ifaces, maps, wideKeys, modest, calm, conditions, laid).
  DERIVED. THE GIVEN ROWS OF THIS SEAT. 8 by the template 'for every input the law returns true; each argument reads behind the call as it read before'; 0 by the template 'total and deterministic' (their statements: YteidjmliepmlmaaTotals.lean).
  GIVEN WITH THE SEED: the statements are not yours to turn. If you find one false, say at which input.
  Laid BY PROGRAM, IN A SANDBOX (cutbox-rows.mjs): the forced cells as the released guide's own fill.sh prints them over the translation 84a876ee73af8b6b… (all of the seat's roots in one cut). By AI agents, Wed Nov 11 2026. No macro, syntax, notation, axiom, sorry.
-/
import Derived.Test.YteidjmliepmlmaaChecked
import GoSem.Claim
import GoSem.ClaimJoined
import GoSem.ClaimMapViews
import Derived.JoinedTies
import Derived.KernelRfl
namespace Go.Proofs.Yteidjmliepmlmaa
/- THE CELL 'sum', in the pinned program and in every row, IS THE sha256 OF THE DUMP (.gsa) THAT YteidjmliepmlmaaProg.lean LOADS. Nothing in Lean hashes anything: it is a label: what it is worth is what the hold of that sum in a sandbox is worth. -/
noncomputable def Try.pinned : Pinned := { name := "yteidjmliepmlmaa", sum := "84a876ee73af8b6b4fd365b2cd22e101b6bb16c6381b34bfe6de83cf130fa963", checked := Try.checked }
namespace Rows
def none {H : Type} : Left H := { results := [], args := [] }

/-- 'laws.FnExactWithCost': WHATEVER THE INPUT: true; the input reads as it did. -/
def fnExactWithCostSpec : ChangeSpec := { name := "fnExactWithCost", fn := fun _ => fun
  | [d1, d2, d3] => { results := [.lit (.bool true)], args := [d1, d2, d3] }
  | _ => none }
def fnExactWithCostRow : OpenClaim := { program := "yteidjmliepmlmaa", sum := "84a876ee73af8b6b4fd365b2cd22e101b6bb16c6381b34bfe6de83cf130fa963", func := "loop.example/g01204/laws.FnExactWithCost", spec := "fnExactWithCost", unfollowed := true, recurses := true, apart := false }
def FnExactWithCostSaid : Prop := fnExactWithCostRow.holds Try.pinned (OpenSpec.ofChange fnExactWithCostSpec)

/-- ITS FALSE NEIGHBOUR: 'it returns false'. Refute it at one input. -/
def fnExactWithCostWrong : ChangeSpec := { name := "fnExactWithCost", fn := fun _ => fun
  | [d1, d2, d3] => { results := [.lit (.bool false)], args := [d1, d2, d3] }
  | _ => none }
def FnExactWithCostWrongFalsely : Prop := fnExactWithCostRow.holds Try.pinned (OpenSpec.ofChange fnExactWithCostWrong)

/-- 'laws.FnExactGrowWalls': WHATEVER THE INPUT: true; the input reads as it did. -/
def fnExactGrowWallsSpec : ChangeSpec := { name := "fnExactGrowWalls", fn := fun _ => fun
  | [d1, d2] => { results := [.lit (.bool true)], args := [d1, d2] }
  | _ => none }
def fnExactGrowWallsRow : OpenClaim := { program := "yteidjmliepmlmaa", sum := "84a876ee73af8b6b4fd365b2cd22e101b6bb16c6381b34bfe6de83cf130fa963", func := "loop.example/g01204/laws.FnExactGrowWalls", spec := "fnExactGrowWalls", apart := false }
def FnExactGrowWallsSaid : Prop := fnExactGrowWallsRow.holds Try.pinned (OpenSpec.ofChange fnExactGrowWallsSpec)

/-- ITS FALSE NEIGHBOUR: 'it returns false'. Refute it at one input. -/
def fnExactGrowWallsWrong : ChangeSpec := { name := "fnExactGrowWalls", fn := fun _ => fun
  | [d1, d2] => { results := [.lit (.bool false)], args := [d1, d2] }
  | _ => none }
def FnExactGrowWallsWrongFalsely : Prop := fnExactGrowWallsRow.holds Try.pinned (OpenSpec.ofChange fnExactGrowWallsWrong)

/-- 'laws.FnExactValidRoute': WHATEVER THE INPUT: true; the input reads as it did. -/
def fnExactValidRouteSpec : ChangeSpec := { name := "fnExactValidRoute", fn := fun _ => fun
  | [d1, d2] => { results := [.lit (.bool true)], args := [d1, d2] }
  | _ => none }
def fnExactValidRouteRow : OpenClaim := { program := "yteidjmliepmlmaa", sum := "84a876ee73af8b6b4fd365b2cd22e101b6bb16c6381b34bfe6de83cf130fa963", func := "loop.example/g01204/laws.FnExactValidRoute", spec := "fnExactValidRoute", apart := false }
def FnExactValidRouteSaid : Prop := fnExactValidRouteRow.holds Try.pinned (OpenSpec.ofChange fnExactValidRouteSpec)

/-- ITS FALSE NEIGHBOUR: 'it returns false'. Refute it at one input. -/
def fnExactValidRouteWrong : ChangeSpec := { name := "fnExactValidRoute", fn := fun _ => fun
  | [d1, d2] => { results := [.lit (.bool false)], args := [d1, d2] }
  | _ => none }
def FnExactValidRouteWrongFalsely : Prop := fnExactValidRouteRow.holds Try.pinned (OpenSpec.ofChange fnExactValidRouteWrong)

/-- 'laws.FnExactSpotsBetween': WHATEVER THE INPUT: true; the input reads as it did. -/
def fnExactSpotsBetweenSpec : ChangeSpec := { name := "fnExactSpotsBetween", fn := fun _ => fun
  | [d1, d2] => { results := [.lit (.bool true)], args := [d1, d2] }
  | _ => none }
def fnExactSpotsBetweenRow : OpenClaim := { program := "yteidjmliepmlmaa", sum := "84a876ee73af8b6b4fd365b2cd22e101b6bb16c6381b34bfe6de83cf130fa963", func := "loop.example/g01204/laws.FnExactSpotsBetween", spec := "fnExactSpotsBetween", apart := false }
def FnExactSpotsBetweenSaid : Prop := fnExactSpotsBetweenRow.holds Try.pinned (OpenSpec.ofChange fnExactSpotsBetweenSpec)

/-- ITS FALSE NEIGHBOUR: 'it returns false'. Refute it at one input. -/
def fnExactSpotsBetweenWrong : ChangeSpec := { name := "fnExactSpotsBetween", fn := fun _ => fun
  | [d1, d2] => { results := [.lit (.bool false)], args := [d1, d2] }
  | _ => none }
def FnExactSpotsBetweenWrongFalsely : Prop := fnExactSpotsBetweenRow.holds Try.pinned (OpenSpec.ofChange fnExactSpotsBetweenWrong)

/-- 'laws.FnExactSeesSpot': WHATEVER THE INPUT: true; the input reads as it did. -/
def fnExactSeesSpotSpec : ChangeSpec := { name := "fnExactSeesSpot", fn := fun _ => fun
  | [d1, d2, d3] => { results := [.lit (.bool true)], args := [d1, d2, d3] }
  | _ => none }
def fnExactSeesSpotRow : OpenClaim := { program := "yteidjmliepmlmaa", sum := "84a876ee73af8b6b4fd365b2cd22e101b6bb16c6381b34bfe6de83cf130fa963", func := "loop.example/g01204/laws.FnExactSeesSpot", spec := "fnExactSeesSpot", apart := false }
def FnExactSeesSpotSaid : Prop := fnExactSeesSpotRow.holds Try.pinned (OpenSpec.ofChange fnExactSeesSpotSpec)

/-- ITS FALSE NEIGHBOUR: 'it returns false'. Refute it at one input. -/
def fnExactSeesSpotWrong : ChangeSpec := { name := "fnExactSeesSpot", fn := fun _ => fun
  | [d1, d2, d3] => { results := [.lit (.bool false)], args := [d1, d2, d3] }
  | _ => none }
def FnExactSeesSpotWrongFalsely : Prop := fnExactSeesSpotRow.holds Try.pinned (OpenSpec.ofChange fnExactSeesSpotWrong)

/-- 'laws.FnExactShortenRoute': WHATEVER THE INPUT: true; the input reads as it did. -/
def fnExactShortenRouteSpec : ChangeSpec := { name := "fnExactShortenRoute", fn := fun _ => fun
  | [d1, d2] => { results := [.lit (.bool true)], args := [d1, d2] }
  | _ => none }
def fnExactShortenRouteRow : OpenClaim := { program := "yteidjmliepmlmaa", sum := "84a876ee73af8b6b4fd365b2cd22e101b6bb16c6381b34bfe6de83cf130fa963", func := "loop.example/g01204/laws.FnExactShortenRoute", spec := "fnExactShortenRoute", apart := false }
def FnExactShortenRouteSaid : Prop := fnExactShortenRouteRow.holds Try.pinned (OpenSpec.ofChange fnExactShortenRouteSpec)

/-- ITS FALSE NEIGHBOUR: 'it returns false'. Refute it at one input. -/
def fnExactShortenRouteWrong : ChangeSpec := { name := "fnExactShortenRoute", fn := fun _ => fun
  | [d1, d2] => { results := [.lit (.bool false)], args := [d1, d2] }
  | _ => none }
def FnExactShortenRouteWrongFalsely : Prop := fnExactShortenRouteRow.holds Try.pinned (OpenSpec.ofChange fnExactShortenRouteWrong)

/-- 'laws.FnExactPointsOf': WHATEVER THE INPUT: true; the input reads as it did. -/
def fnExactPointsOfSpec : ChangeSpec := { name := "fnExactPointsOf", fn := fun _ => fun
  | [d1, d2, d3] => { results := [.lit (.bool true)], args := [d1, d2, d3] }
  | _ => none }
def fnExactPointsOfRow : OpenClaim := { program := "yteidjmliepmlmaa", sum := "84a876ee73af8b6b4fd365b2cd22e101b6bb16c6381b34bfe6de83cf130fa963", func := "loop.example/g01204/laws.FnExactPointsOf", spec := "fnExactPointsOf", inPlace := ["math.Float64bits", "math.Float64frombits"], apart := false }
def FnExactPointsOfSaid : Prop := fnExactPointsOfRow.holds Try.pinned (OpenSpec.ofChange fnExactPointsOfSpec)

/-- ITS FALSE NEIGHBOUR: 'it returns false'. Refute it at one input. -/
def fnExactPointsOfWrong : ChangeSpec := { name := "fnExactPointsOf", fn := fun _ => fun
  | [d1, d2, d3] => { results := [.lit (.bool false)], args := [d1, d2, d3] }
  | _ => none }
def FnExactPointsOfWrongFalsely : Prop := fnExactPointsOfRow.holds Try.pinned (OpenSpec.ofChange fnExactPointsOfWrong)

/-- 'laws.FnExactAheadOnWay': WHATEVER THE INPUT: true; the input reads as it did. -/
def fnExactAheadOnWaySpec : ChangeSpec := { name := "fnExactAheadOnWay", fn := fun _ => fun
  | [d1, d2, d3] => { results := [.lit (.bool true)], args := [d1, d2, d3] }
  | _ => none }
def fnExactAheadOnWayRow : OpenClaim := { program := "yteidjmliepmlmaa", sum := "84a876ee73af8b6b4fd365b2cd22e101b6bb16c6381b34bfe6de83cf130fa963", func := "loop.example/g01204/laws.FnExactAheadOnWay", spec := "fnExactAheadOnWay", inPlace := ["math.sqrt", "math.Float64bits", "math.Float64frombits"], apart := false }
def FnExactAheadOnWaySaid : Prop := fnExactAheadOnWayRow.holds Try.pinned (OpenSpec.ofChange fnExactAheadOnWaySpec)

/-- ITS FALSE NEIGHBOUR: 'it returns false'. Refute it at one input. -/
def fnExactAheadOnWayWrong : ChangeSpec := { name := "fnExactAheadOnWay", fn := fun _ => fun
  | [d1, d2, d3] => { results := [.lit (.bool false)], args := [d1, d2, d3] }
  | _ => none }
def FnExactAheadOnWayWrongFalsely : Prop := fnExactAheadOnWayRow.holds Try.pinned (OpenSpec.ofChange fnExactAheadOnWayWrong)

/- THE SECOND FORM. 'bulk': how many values and letters a reading holds, each counted each time it is reached (what is shared counts as often as it is met; a slice's spare places count too). A statement '..UptoSaid' is the law's where the arguments, and the package variables that the reading takes, are together of bulk at most 1048576: NARROWER than '..Said'. Prove '..Said' where nothing that the law and all that it calls make is longer than what came in: it says more and counts as full. Else prove '..UptoSaid'. A law counts once. -/
mutual
def uptoBulk {H : Type} : DataW H → Nat
  | .lit (.string bytes) => bytes.length + 1
  | .lit _ => 1
  | .nil => 1
  | .ptr d => uptoBulk d + 1
  | .slice elems spare => uptoBulkAll elems + uptoBulkAll spare + 1
  | .agg parts => uptoBulkAll parts + 1
  | .iface _ d => uptoBulk d + 1
  | .map entries => uptoBulkEntries entries + 1
  | .held _ => 1
def uptoBulkAll {H : Type} : List (DataW H) → Nat
  | [] => 0
  | d :: r => uptoBulk d + uptoBulkAll r
def uptoBulkEntries {H : Type} : List (Lit × DataW H) → Nat
  | [] => 0
  | x :: r => uptoBulkEntry x + uptoBulkEntries r
def uptoBulkEntry {H : Type} : Lit × DataW H → Nat
  | (.string bytes, d) => bytes.length + uptoBulk d + 1
  | (_, d) => uptoBulk d + 1
 end
def uptoSmall : (H : Type) → List (DataW H) → Bool := fun _ ds => decide (uptoBulkAll ds ≤ 1048576)
def OpenSpec.upto (s : _root_.Go.ChangeSpec) : _root_.Go.OpenSpec := { _root_.Go.OpenSpec.ofChange s with cond := some uptoSmall }

/-- 'laws.FnExactWithCost', WHERE WHAT IT READS IS OF BULK AT MOST 1048576: true; the input reads as it did. -/
def fnExactWithCostUptoRow : OpenClaim := { program := "yteidjmliepmlmaa", sum := "84a876ee73af8b6b4fd365b2cd22e101b6bb16c6381b34bfe6de83cf130fa963", func := "loop.example/g01204/laws.FnExactWithCost", spec := "fnExactWithCost", unfollowed := true, recurses := true, apart := false, narrowed := true }
def FnExactWithCostUptoSaid : Prop := fnExactWithCostUptoRow.holds Try.pinned (OpenSpec.upto fnExactWithCostSpec)

/-- 'laws.FnExactGrowWalls', WHERE WHAT IT READS IS OF BULK AT MOST 1048576: true; the input reads as it did. -/
def fnExactGrowWallsUptoRow : OpenClaim := { program := "yteidjmliepmlmaa", sum := "84a876ee73af8b6b4fd365b2cd22e101b6bb16c6381b34bfe6de83cf130fa963", func := "loop.example/g01204/laws.FnExactGrowWalls", spec := "fnExactGrowWalls", apart := false, narrowed := true }
def FnExactGrowWallsUptoSaid : Prop := fnExactGrowWallsUptoRow.holds Try.pinned (OpenSpec.upto fnExactGrowWallsSpec)

/-- 'laws.FnExactValidRoute', WHERE WHAT IT READS IS OF BULK AT MOST 1048576: true; the input reads as it did. -/
def fnExactValidRouteUptoRow : OpenClaim := { program := "yteidjmliepmlmaa", sum := "84a876ee73af8b6b4fd365b2cd22e101b6bb16c6381b34bfe6de83cf130fa963", func := "loop.example/g01204/laws.FnExactValidRoute", spec := "fnExactValidRoute", apart := false, narrowed := true }
def FnExactValidRouteUptoSaid : Prop := fnExactValidRouteUptoRow.holds Try.pinned (OpenSpec.upto fnExactValidRouteSpec)

/-- 'laws.FnExactSpotsBetween', WHERE WHAT IT READS IS OF BULK AT MOST 1048576: true; the input reads as it did. -/
def fnExactSpotsBetweenUptoRow : OpenClaim := { program := "yteidjmliepmlmaa", sum := "84a876ee73af8b6b4fd365b2cd22e101b6bb16c6381b34bfe6de83cf130fa963", func := "loop.example/g01204/laws.FnExactSpotsBetween", spec := "fnExactSpotsBetween", apart := false, narrowed := true }
def FnExactSpotsBetweenUptoSaid : Prop := fnExactSpotsBetweenUptoRow.holds Try.pinned (OpenSpec.upto fnExactSpotsBetweenSpec)

/-- 'laws.FnExactSeesSpot', WHERE WHAT IT READS IS OF BULK AT MOST 1048576: true; the input reads as it did. -/
def fnExactSeesSpotUptoRow : OpenClaim := { program := "yteidjmliepmlmaa", sum := "84a876ee73af8b6b4fd365b2cd22e101b6bb16c6381b34bfe6de83cf130fa963", func := "loop.example/g01204/laws.FnExactSeesSpot", spec := "fnExactSeesSpot", apart := false, narrowed := true }
def FnExactSeesSpotUptoSaid : Prop := fnExactSeesSpotUptoRow.holds Try.pinned (OpenSpec.upto fnExactSeesSpotSpec)

/-- 'laws.FnExactShortenRoute', WHERE WHAT IT READS IS OF BULK AT MOST 1048576: true; the input reads as it did. -/
def fnExactShortenRouteUptoRow : OpenClaim := { program := "yteidjmliepmlmaa", sum := "84a876ee73af8b6b4fd365b2cd22e101b6bb16c6381b34bfe6de83cf130fa963", func := "loop.example/g01204/laws.FnExactShortenRoute", spec := "fnExactShortenRoute", apart := false, narrowed := true }
def FnExactShortenRouteUptoSaid : Prop := fnExactShortenRouteUptoRow.holds Try.pinned (OpenSpec.upto fnExactShortenRouteSpec)

/-- 'laws.FnExactPointsOf', WHERE WHAT IT READS IS OF BULK AT MOST 1048576: true; the input reads as it did. -/
def fnExactPointsOfUptoRow : OpenClaim := { program := "yteidjmliepmlmaa", sum := "84a876ee73af8b6b4fd365b2cd22e101b6bb16c6381b34bfe6de83cf130fa963", func := "loop.example/g01204/laws.FnExactPointsOf", spec := "fnExactPointsOf", inPlace := ["math.Float64bits", "math.Float64frombits"], apart := false, narrowed := true }
def FnExactPointsOfUptoSaid : Prop := fnExactPointsOfUptoRow.holds Try.pinned (OpenSpec.upto fnExactPointsOfSpec)

/-- 'laws.FnExactAheadOnWay', WHERE WHAT IT READS IS OF BULK AT MOST 1048576: true; the input reads as it did. -/
def fnExactAheadOnWayUptoRow : OpenClaim := { program := "yteidjmliepmlmaa", sum := "84a876ee73af8b6b4fd365b2cd22e101b6bb16c6381b34bfe6de83cf130fa963", func := "loop.example/g01204/laws.FnExactAheadOnWay", spec := "fnExactAheadOnWay", inPlace := ["math.sqrt", "math.Float64bits", "math.Float64frombits"], apart := false, narrowed := true }
def FnExactAheadOnWayUptoSaid : Prop := fnExactAheadOnWayUptoRow.holds Try.pinned (OpenSpec.upto fnExactAheadOnWaySpec)

end Rows
end Go.Proofs.Yteidjmliepmlmaa
