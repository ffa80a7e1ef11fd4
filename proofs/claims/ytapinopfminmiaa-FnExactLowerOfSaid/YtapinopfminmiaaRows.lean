/-
  No cell of these rows narrows 'for every input' (looked for: loops, veiled, ifaces, maps, wideKeys, modest, calm, conditions, laid).
  DERIVED. THE GIVEN ROWS OF THIS SEAT. 12 by the template 'for every input the law returns true; each argument reads behind the call as it read before'; 0 by the template 'total and deterministic' (their statements: YtapinopfminmiaaTotals.lean).
  GIVEN WITH THE SEED: the statements are not yours to turn. If you find one false, say at which input.
  Laid BY PROGRAM, IN A SANDBOX (cutbox-rows.mjs): the forced cells as the released guide's own fill.sh prints them over the translation 123cb7641021a376… (all of the seat's roots in one cut). By AI agents, Wed Nov 11 2026. No macro, syntax, notation, axiom, sorry.
-/
import Derived.Test.YtapinopfminmiaaChecked
import GoSem.Claim
import GoSem.ClaimJoined
import GoSem.ClaimMapViews
import Derived.JoinedTies
import Derived.KernelRfl
namespace Go.Proofs.Ytapinopfminmiaa
/- THE CELL 'sum', in the pinned program and in every row, IS THE sha256 OF THE DUMP (.gsa) THAT YtapinopfminmiaaProg.lean LOADS. Nothing in Lean hashes anything: it is a label: what it is worth is what the hold of that sum in a sandbox is worth. -/
noncomputable def Try.pinned : Pinned := { name := "ytapinopfminmiaa", sum := "123cb7641021a37670004ab6e66ef89b3818eb75e05a407f72b2e98a14b7e9ef", checked := Try.checked }
namespace Rows
def none {H : Type} : Left H := { results := [], args := [] }

/-- 'laws.FnExactLowerOf': WHATEVER THE INPUT: true; the input reads as it did. -/
def fnExactLowerOfSpec : ChangeSpec := { name := "fnExactLowerOf", fn := fun _ => fun
  | [d] => { results := [.lit (.bool true)], args := [d] }
  | _ => none }
def fnExactLowerOfRow : OpenClaim := { program := "ytapinopfminmiaa", sum := "123cb7641021a37670004ab6e66ef89b3818eb75e05a407f72b2e98a14b7e9ef", func := "loop.example/g01204/laws.FnExactLowerOf", spec := "fnExactLowerOf", inPlace := ["math.sqrt", "math.Float64bits", "math.Float64frombits"], unfollowed := true, recurses := true, apart := false }
def FnExactLowerOfSaid : Prop := fnExactLowerOfRow.holds Try.pinned (OpenSpec.ofChange fnExactLowerOfSpec)

/-- ITS FALSE NEIGHBOUR: 'it returns false'. Refute it at one input. -/
def fnExactLowerOfWrong : ChangeSpec := { name := "fnExactLowerOf", fn := fun _ => fun
  | [d] => { results := [.lit (.bool false)], args := [d] }
  | _ => none }
def FnExactLowerOfWrongFalsely : Prop := fnExactLowerOfRow.holds Try.pinned (OpenSpec.ofChange fnExactLowerOfWrong)

/-- 'laws.FnExactPredict': WHATEVER THE INPUT: true; the input reads as it did. -/
def fnExactPredictSpec : ChangeSpec := { name := "fnExactPredict", fn := fun _ => fun
  | [d1, d2, d3] => { results := [.lit (.bool true)], args := [d1, d2, d3] }
  | _ => none }
def fnExactPredictRow : OpenClaim := { program := "ytapinopfminmiaa", sum := "123cb7641021a37670004ab6e66ef89b3818eb75e05a407f72b2e98a14b7e9ef", func := "loop.example/g01204/laws.FnExactPredict", spec := "fnExactPredict", inPlace := ["math.sqrt", "math.Float64bits", "math.Float64frombits"], unfollowed := true, recurses := true, apart := false }
def FnExactPredictSaid : Prop := fnExactPredictRow.holds Try.pinned (OpenSpec.ofChange fnExactPredictSpec)

/-- ITS FALSE NEIGHBOUR: 'it returns false'. Refute it at one input. -/
def fnExactPredictWrong : ChangeSpec := { name := "fnExactPredict", fn := fun _ => fun
  | [d1, d2, d3] => { results := [.lit (.bool false)], args := [d1, d2, d3] }
  | _ => none }
def FnExactPredictWrongFalsely : Prop := fnExactPredictRow.holds Try.pinned (OpenSpec.ofChange fnExactPredictWrong)

/-- 'laws.FnExactUpdate': WHATEVER THE INPUT: true; the input reads as it did. -/
def fnExactUpdateSpec : ChangeSpec := { name := "fnExactUpdate", fn := fun _ => fun
  | [d1, d2] => { results := [.lit (.bool true)], args := [d1, d2] }
  | _ => none }
def fnExactUpdateRow : OpenClaim := { program := "ytapinopfminmiaa", sum := "123cb7641021a37670004ab6e66ef89b3818eb75e05a407f72b2e98a14b7e9ef", func := "loop.example/g01204/laws.FnExactUpdate", spec := "fnExactUpdate", inPlace := ["math.sqrt", "math.Float64bits", "math.Float64frombits"], unfollowed := true, recurses := true, apart := false }
def FnExactUpdateSaid : Prop := fnExactUpdateRow.holds Try.pinned (OpenSpec.ofChange fnExactUpdateSpec)

/-- ITS FALSE NEIGHBOUR: 'it returns false'. Refute it at one input. -/
def fnExactUpdateWrong : ChangeSpec := { name := "fnExactUpdate", fn := fun _ => fun
  | [d1, d2] => { results := [.lit (.bool false)], args := [d1, d2] }
  | _ => none }
def FnExactUpdateWrongFalsely : Prop := fnExactUpdateRow.holds Try.pinned (OpenSpec.ofChange fnExactUpdateWrong)

/-- 'laws.FnExactUpdateGated': WHATEVER THE INPUT: true; the input reads as it did. -/
def fnExactUpdateGatedSpec : ChangeSpec := { name := "fnExactUpdateGated", fn := fun _ => fun
  | [d1, d2, d3] => { results := [.lit (.bool true)], args := [d1, d2, d3] }
  | _ => none }
def fnExactUpdateGatedRow : OpenClaim := { program := "ytapinopfminmiaa", sum := "123cb7641021a37670004ab6e66ef89b3818eb75e05a407f72b2e98a14b7e9ef", func := "loop.example/g01204/laws.FnExactUpdateGated", spec := "fnExactUpdateGated", inPlace := ["math.sqrt", "math.Float64bits", "math.Float64frombits"], unfollowed := true, recurses := true, apart := false }
def FnExactUpdateGatedSaid : Prop := fnExactUpdateGatedRow.holds Try.pinned (OpenSpec.ofChange fnExactUpdateGatedSpec)

/-- ITS FALSE NEIGHBOUR: 'it returns false'. Refute it at one input. -/
def fnExactUpdateGatedWrong : ChangeSpec := { name := "fnExactUpdateGated", fn := fun _ => fun
  | [d1, d2, d3] => { results := [.lit (.bool false)], args := [d1, d2, d3] }
  | _ => none }
def FnExactUpdateGatedWrongFalsely : Prop := fnExactUpdateGatedRow.holds Try.pinned (OpenSpec.ofChange fnExactUpdateGatedWrong)

/-- 'laws.FnExactUpdateAll': WHATEVER THE INPUT: true; the input reads as it did. -/
def fnExactUpdateAllSpec : ChangeSpec := { name := "fnExactUpdateAll", fn := fun _ => fun
  | [d1, d2] => { results := [.lit (.bool true)], args := [d1, d2] }
  | _ => none }
def fnExactUpdateAllRow : OpenClaim := { program := "ytapinopfminmiaa", sum := "123cb7641021a37670004ab6e66ef89b3818eb75e05a407f72b2e98a14b7e9ef", func := "loop.example/g01204/laws.FnExactUpdateAll", spec := "fnExactUpdateAll", inPlace := ["math.sqrt", "math.Float64bits", "math.Float64frombits"], unfollowed := true, recurses := true, apart := false }
def FnExactUpdateAllSaid : Prop := fnExactUpdateAllRow.holds Try.pinned (OpenSpec.ofChange fnExactUpdateAllSpec)

/-- ITS FALSE NEIGHBOUR: 'it returns false'. Refute it at one input. -/
def fnExactUpdateAllWrong : ChangeSpec := { name := "fnExactUpdateAll", fn := fun _ => fun
  | [d1, d2] => { results := [.lit (.bool false)], args := [d1, d2] }
  | _ => none }
def FnExactUpdateAllWrongFalsely : Prop := fnExactUpdateAllRow.holds Try.pinned (OpenSpec.ofChange fnExactUpdateAllWrong)

/-- 'laws.FnExactInverseRoot': WHATEVER THE INPUT: true; the input reads as it did. -/
def fnExactInverseRootSpec : ChangeSpec := { name := "fnExactInverseRoot", fn := fun _ => fun
  | [d] => { results := [.lit (.bool true)], args := [d] }
  | _ => none }
def fnExactInverseRootRow : OpenClaim := { program := "ytapinopfminmiaa", sum := "123cb7641021a37670004ab6e66ef89b3818eb75e05a407f72b2e98a14b7e9ef", func := "loop.example/g01204/laws.FnExactInverseRoot", spec := "fnExactInverseRoot", inPlace := ["math.Float64bits", "math.Float64frombits"], apart := false }
def FnExactInverseRootSaid : Prop := fnExactInverseRootRow.holds Try.pinned (OpenSpec.ofChange fnExactInverseRootSpec)

/-- ITS FALSE NEIGHBOUR: 'it returns false'. Refute it at one input. -/
def fnExactInverseRootWrong : ChangeSpec := { name := "fnExactInverseRoot", fn := fun _ => fun
  | [d] => { results := [.lit (.bool false)], args := [d] }
  | _ => none }
def FnExactInverseRootWrongFalsely : Prop := fnExactInverseRootRow.holds Try.pinned (OpenSpec.ofChange fnExactInverseRootWrong)

/-- 'laws.FnExactFuseStates': WHATEVER THE INPUT: true; the input reads as it did. -/
def fnExactFuseStatesSpec : ChangeSpec := { name := "fnExactFuseStates", fn := fun _ => fun
  | [d1, d2] => { results := [.lit (.bool true)], args := [d1, d2] }
  | _ => none }
def fnExactFuseStatesRow : OpenClaim := { program := "ytapinopfminmiaa", sum := "123cb7641021a37670004ab6e66ef89b3818eb75e05a407f72b2e98a14b7e9ef", func := "loop.example/g01204/laws.FnExactFuseStates", spec := "fnExactFuseStates", inPlace := ["math.sqrt", "math.Float64bits", "math.Float64frombits"], unfollowed := true, recurses := true, apart := false }
def FnExactFuseStatesSaid : Prop := fnExactFuseStatesRow.holds Try.pinned (OpenSpec.ofChange fnExactFuseStatesSpec)

/-- ITS FALSE NEIGHBOUR: 'it returns false'. Refute it at one input. -/
def fnExactFuseStatesWrong : ChangeSpec := { name := "fnExactFuseStates", fn := fun _ => fun
  | [d1, d2] => { results := [.lit (.bool false)], args := [d1, d2] }
  | _ => none }
def FnExactFuseStatesWrongFalsely : Prop := fnExactFuseStatesRow.holds Try.pinned (OpenSpec.ofChange fnExactFuseStatesWrong)

/-- 'laws.FnExactDistanceBetween': WHATEVER THE INPUT: true; the input reads as it did. -/
def fnExactDistanceBetweenSpec : ChangeSpec := { name := "fnExactDistanceBetween", fn := fun _ => fun
  | [d1, d2] => { results := [.lit (.bool true)], args := [d1, d2] }
  | _ => none }
def fnExactDistanceBetweenRow : OpenClaim := { program := "ytapinopfminmiaa", sum := "123cb7641021a37670004ab6e66ef89b3818eb75e05a407f72b2e98a14b7e9ef", func := "loop.example/g01204/laws.FnExactDistanceBetween", spec := "fnExactDistanceBetween", inPlace := ["math.sqrt", "math.Float64bits", "math.Float64frombits"], apart := false }
def FnExactDistanceBetweenSaid : Prop := fnExactDistanceBetweenRow.holds Try.pinned (OpenSpec.ofChange fnExactDistanceBetweenSpec)

/-- ITS FALSE NEIGHBOUR: 'it returns false'. Refute it at one input. -/
def fnExactDistanceBetweenWrong : ChangeSpec := { name := "fnExactDistanceBetween", fn := fun _ => fun
  | [d1, d2] => { results := [.lit (.bool false)], args := [d1, d2] }
  | _ => none }
def FnExactDistanceBetweenWrongFalsely : Prop := fnExactDistanceBetweenRow.holds Try.pinned (OpenSpec.ofChange fnExactDistanceBetweenWrong)

/-- 'laws.FnExactDifferenceOf': WHATEVER THE INPUT: true; the input reads as it did. -/
def fnExactDifferenceOfSpec : ChangeSpec := { name := "fnExactDifferenceOf", fn := fun _ => fun
  | [d1, d2] => { results := [.lit (.bool true)], args := [d1, d2] }
  | _ => none }
def fnExactDifferenceOfRow : OpenClaim := { program := "ytapinopfminmiaa", sum := "123cb7641021a37670004ab6e66ef89b3818eb75e05a407f72b2e98a14b7e9ef", func := "loop.example/g01204/laws.FnExactDifferenceOf", spec := "fnExactDifferenceOf", inPlace := ["math.Float64bits", "math.Float64frombits"], apart := false }
def FnExactDifferenceOfSaid : Prop := fnExactDifferenceOfRow.holds Try.pinned (OpenSpec.ofChange fnExactDifferenceOfSpec)

/-- ITS FALSE NEIGHBOUR: 'it returns false'. Refute it at one input. -/
def fnExactDifferenceOfWrong : ChangeSpec := { name := "fnExactDifferenceOf", fn := fun _ => fun
  | [d1, d2] => { results := [.lit (.bool false)], args := [d1, d2] }
  | _ => none }
def FnExactDifferenceOfWrongFalsely : Prop := fnExactDifferenceOfRow.holds Try.pinned (OpenSpec.ofChange fnExactDifferenceOfWrong)

/-- 'laws.FnExactGateOf': WHATEVER THE INPUT: true; the input reads as it did. -/
def fnExactGateOfSpec : ChangeSpec := { name := "fnExactGateOf", fn := fun _ => fun
  | [d1, d2] => { results := [.lit (.bool true)], args := [d1, d2] }
  | _ => none }
def fnExactGateOfRow : OpenClaim := { program := "ytapinopfminmiaa", sum := "123cb7641021a37670004ab6e66ef89b3818eb75e05a407f72b2e98a14b7e9ef", func := "loop.example/g01204/laws.FnExactGateOf", spec := "fnExactGateOf", inPlace := ["math.Float64bits", "math.Float64frombits"], apart := false }
def FnExactGateOfSaid : Prop := fnExactGateOfRow.holds Try.pinned (OpenSpec.ofChange fnExactGateOfSpec)

/-- ITS FALSE NEIGHBOUR: 'it returns false'. Refute it at one input. -/
def fnExactGateOfWrong : ChangeSpec := { name := "fnExactGateOf", fn := fun _ => fun
  | [d1, d2] => { results := [.lit (.bool false)], args := [d1, d2] }
  | _ => none }
def FnExactGateOfWrongFalsely : Prop := fnExactGateOfRow.holds Try.pinned (OpenSpec.ofChange fnExactGateOfWrong)

/-- 'laws.FnExactValidClue': WHATEVER THE INPUT: true; the input reads as it did. -/
def fnExactValidClueSpec : ChangeSpec := { name := "fnExactValidClue", fn := fun _ => fun
  | [d] => { results := [.lit (.bool true)], args := [d] }
  | _ => none }
def fnExactValidClueRow : OpenClaim := { program := "ytapinopfminmiaa", sum := "123cb7641021a37670004ab6e66ef89b3818eb75e05a407f72b2e98a14b7e9ef", func := "loop.example/g01204/laws.FnExactValidClue", spec := "fnExactValidClue", inPlace := ["math.Float64bits", "math.Float64frombits"], apart := false }
def FnExactValidClueSaid : Prop := fnExactValidClueRow.holds Try.pinned (OpenSpec.ofChange fnExactValidClueSpec)

/-- ITS FALSE NEIGHBOUR: 'it returns false'. Refute it at one input. -/
def fnExactValidClueWrong : ChangeSpec := { name := "fnExactValidClue", fn := fun _ => fun
  | [d] => { results := [.lit (.bool false)], args := [d] }
  | _ => none }
def FnExactValidClueWrongFalsely : Prop := fnExactValidClueRow.holds Try.pinned (OpenSpec.ofChange fnExactValidClueWrong)

/-- 'laws.FnExactClueAt': WHATEVER THE INPUT: true; the input reads as it did. -/
def fnExactClueAtSpec : ChangeSpec := { name := "fnExactClueAt", fn := fun _ => fun
  | [d1, d2, d3] => { results := [.lit (.bool true)], args := [d1, d2, d3] }
  | _ => none }
def fnExactClueAtRow : OpenClaim := { program := "ytapinopfminmiaa", sum := "123cb7641021a37670004ab6e66ef89b3818eb75e05a407f72b2e98a14b7e9ef", func := "loop.example/g01204/laws.FnExactClueAt", spec := "fnExactClueAt", inPlace := ["math.Float64bits", "math.Float64frombits"], apart := false }
def FnExactClueAtSaid : Prop := fnExactClueAtRow.holds Try.pinned (OpenSpec.ofChange fnExactClueAtSpec)

/-- ITS FALSE NEIGHBOUR: 'it returns false'. Refute it at one input. -/
def fnExactClueAtWrong : ChangeSpec := { name := "fnExactClueAt", fn := fun _ => fun
  | [d1, d2, d3] => { results := [.lit (.bool false)], args := [d1, d2, d3] }
  | _ => none }
def FnExactClueAtWrongFalsely : Prop := fnExactClueAtRow.holds Try.pinned (OpenSpec.ofChange fnExactClueAtWrong)

/- THE SECOND FORM. 'bulk': how many values and letters a reading holds, each counted each time it is reached (what is shared counts as often as it is met; a slice's spare places count too). A statement '..UptoSaid' is the law's where the arguments, and the package variables that the reading takes, are together of bulk at most 1048576: NARROWER than '..Said'. Prove '..Said' where nothing that the law and all that it calls make is longer than what came in: it says more and counts as full. Else prove '..UptoSaid'. A law counts once. -/
mutual
def uptoBulk {H : Type} : DataW H → Nat
  | .lit (.string bytes) => bytes.length + 1
  | .lit _ => 1
  | .nil => 1
  | .ptr d => uptoBulk d + 1
  | .slice elems spare => uptoBulkAll elems + uptoBulkAll spare + 1
  | .agg parts => uptoBulkAll parts + 1
  | .iface _ d => uptoBulk d + 1
  | .map entries => uptoBulkEntries entries + 1
  | .held _ => 1
def uptoBulkAll {H : Type} : List (DataW H) → Nat
  | [] => 0
  | d :: r => uptoBulk d + uptoBulkAll r
def uptoBulkEntries {H : Type} : List (Lit × DataW H) → Nat
  | [] => 0
  | x :: r => uptoBulkEntry x + uptoBulkEntries r
def uptoBulkEntry {H : Type} : Lit × DataW H → Nat
  | (.string bytes, d) => bytes.length + uptoBulk d + 1
  | (_, d) => uptoBulk d + 1
 end
def uptoSmall : (H : Type) → List (DataW H) → Bool := fun _ ds => decide (uptoBulkAll ds ≤ 1048576)
def OpenSpec.upto (s : _root_.Go.ChangeSpec) : _root_.Go.OpenSpec := { _root_.Go.OpenSpec.ofChange s with cond := some uptoSmall }

/-- 'laws.FnExactLowerOf', WHERE WHAT IT READS IS OF BULK AT MOST 1048576: true; the input reads as it did. -/
def fnExactLowerOfUptoRow : OpenClaim := { program := "ytapinopfminmiaa", sum := "123cb7641021a37670004ab6e66ef89b3818eb75e05a407f72b2e98a14b7e9ef", func := "loop.example/g01204/laws.FnExactLowerOf", spec := "fnExactLowerOf", inPlace := ["math.sqrt", "math.Float64bits", "math.Float64frombits"], unfollowed := true, recurses := true, apart := false, narrowed := true }
def FnExactLowerOfUptoSaid : Prop := fnExactLowerOfUptoRow.holds Try.pinned (OpenSpec.upto fnExactLowerOfSpec)

/-- 'laws.FnExactPredict', WHERE WHAT IT READS IS OF BULK AT MOST 1048576: true; the input reads as it did. -/
def fnExactPredictUptoRow : OpenClaim := { program := "ytapinopfminmiaa", sum := "123cb7641021a37670004ab6e66ef89b3818eb75e05a407f72b2e98a14b7e9ef", func := "loop.example/g01204/laws.FnExactPredict", spec := "fnExactPredict", inPlace := ["math.sqrt", "math.Float64bits", "math.Float64frombits"], unfollowed := true, recurses := true, apart := false, narrowed := true }
def FnExactPredictUptoSaid : Prop := fnExactPredictUptoRow.holds Try.pinned (OpenSpec.upto fnExactPredictSpec)

/-- 'laws.FnExactUpdate', WHERE WHAT IT READS IS OF BULK AT MOST 1048576: true; the input reads as it did. -/
def fnExactUpdateUptoRow : OpenClaim := { program := "ytapinopfminmiaa", sum := "123cb7641021a37670004ab6e66ef89b3818eb75e05a407f72b2e98a14b7e9ef", func := "loop.example/g01204/laws.FnExactUpdate", spec := "fnExactUpdate", inPlace := ["math.sqrt", "math.Float64bits", "math.Float64frombits"], unfollowed := true, recurses := true, apart := false, narrowed := true }
def FnExactUpdateUptoSaid : Prop := fnExactUpdateUptoRow.holds Try.pinned (OpenSpec.upto fnExactUpdateSpec)

/-- 'laws.FnExactUpdateGated', WHERE WHAT IT READS IS OF BULK AT MOST 1048576: true; the input reads as it did. -/
def fnExactUpdateGatedUptoRow : OpenClaim := { program := "ytapinopfminmiaa", sum := "123cb7641021a37670004ab6e66ef89b3818eb75e05a407f72b2e98a14b7e9ef", func := "loop.example/g01204/laws.FnExactUpdateGated", spec := "fnExactUpdateGated", inPlace := ["math.sqrt", "math.Float64bits", "math.Float64frombits"], unfollowed := true, recurses := true, apart := false, narrowed := true }
def FnExactUpdateGatedUptoSaid : Prop := fnExactUpdateGatedUptoRow.holds Try.pinned (OpenSpec.upto fnExactUpdateGatedSpec)

/-- 'laws.FnExactUpdateAll', WHERE WHAT IT READS IS OF BULK AT MOST 1048576: true; the input reads as it did. -/
def fnExactUpdateAllUptoRow : OpenClaim := { program := "ytapinopfminmiaa", sum := "123cb7641021a37670004ab6e66ef89b3818eb75e05a407f72b2e98a14b7e9ef", func := "loop.example/g01204/laws.FnExactUpdateAll", spec := "fnExactUpdateAll", inPlace := ["math.sqrt", "math.Float64bits", "math.Float64frombits"], unfollowed := true, recurses := true, apart := false, narrowed := true }
def FnExactUpdateAllUptoSaid : Prop := fnExactUpdateAllUptoRow.holds Try.pinned (OpenSpec.upto fnExactUpdateAllSpec)

/-- 'laws.FnExactInverseRoot', WHERE WHAT IT READS IS OF BULK AT MOST 1048576: true; the input reads as it did. -/
def fnExactInverseRootUptoRow : OpenClaim := { program := "ytapinopfminmiaa", sum := "123cb7641021a37670004ab6e66ef89b3818eb75e05a407f72b2e98a14b7e9ef", func := "loop.example/g01204/laws.FnExactInverseRoot", spec := "fnExactInverseRoot", inPlace := ["math.Float64bits", "math.Float64frombits"], apart := false, narrowed := true }
def FnExactInverseRootUptoSaid : Prop := fnExactInverseRootUptoRow.holds Try.pinned (OpenSpec.upto fnExactInverseRootSpec)

/-- 'laws.FnExactFuseStates', WHERE WHAT IT READS IS OF BULK AT MOST 1048576: true; the input reads as it did. -/
def fnExactFuseStatesUptoRow : OpenClaim := { program := "ytapinopfminmiaa", sum := "123cb7641021a37670004ab6e66ef89b3818eb75e05a407f72b2e98a14b7e9ef", func := "loop.example/g01204/laws.FnExactFuseStates", spec := "fnExactFuseStates", inPlace := ["math.sqrt", "math.Float64bits", "math.Float64frombits"], unfollowed := true, recurses := true, apart := false, narrowed := true }
def FnExactFuseStatesUptoSaid : Prop := fnExactFuseStatesUptoRow.holds Try.pinned (OpenSpec.upto fnExactFuseStatesSpec)

/-- 'laws.FnExactDistanceBetween', WHERE WHAT IT READS IS OF BULK AT MOST 1048576: true; the input reads as it did. -/
def fnExactDistanceBetweenUptoRow : OpenClaim := { program := "ytapinopfminmiaa", sum := "123cb7641021a37670004ab6e66ef89b3818eb75e05a407f72b2e98a14b7e9ef", func := "loop.example/g01204/laws.FnExactDistanceBetween", spec := "fnExactDistanceBetween", inPlace := ["math.sqrt", "math.Float64bits", "math.Float64frombits"], apart := false, narrowed := true }
def FnExactDistanceBetweenUptoSaid : Prop := fnExactDistanceBetweenUptoRow.holds Try.pinned (OpenSpec.upto fnExactDistanceBetweenSpec)

/-- 'laws.FnExactDifferenceOf', WHERE WHAT IT READS IS OF BULK AT MOST 1048576: true; the input reads as it did. -/
def fnExactDifferenceOfUptoRow : OpenClaim := { program := "ytapinopfminmiaa", sum := "123cb7641021a37670004ab6e66ef89b3818eb75e05a407f72b2e98a14b7e9ef", func := "loop.example/g01204/laws.FnExactDifferenceOf", spec := "fnExactDifferenceOf", inPlace := ["math.Float64bits", "math.Float64frombits"], apart := false, narrowed := true }
def FnExactDifferenceOfUptoSaid : Prop := fnExactDifferenceOfUptoRow.holds Try.pinned (OpenSpec.upto fnExactDifferenceOfSpec)

/-- 'laws.FnExactGateOf', WHERE WHAT IT READS IS OF BULK AT MOST 1048576: true; the input reads as it did. -/
def fnExactGateOfUptoRow : OpenClaim := { program := "ytapinopfminmiaa", sum := "123cb7641021a37670004ab6e66ef89b3818eb75e05a407f72b2e98a14b7e9ef", func := "loop.example/g01204/laws.FnExactGateOf", spec := "fnExactGateOf", inPlace := ["math.Float64bits", "math.Float64frombits"], apart := false, narrowed := true }
def FnExactGateOfUptoSaid : Prop := fnExactGateOfUptoRow.holds Try.pinned (OpenSpec.upto fnExactGateOfSpec)

/-- 'laws.FnExactValidClue', WHERE WHAT IT READS IS OF BULK AT MOST 1048576: true; the input reads as it did. -/
def fnExactValidClueUptoRow : OpenClaim := { program := "ytapinopfminmiaa", sum := "123cb7641021a37670004ab6e66ef89b3818eb75e05a407f72b2e98a14b7e9ef", func := "loop.example/g01204/laws.FnExactValidClue", spec := "fnExactValidClue", inPlace := ["math.Float64bits", "math.Float64frombits"], apart := false, narrowed := true }
def FnExactValidClueUptoSaid : Prop := fnExactValidClueUptoRow.holds Try.pinned (OpenSpec.upto fnExactValidClueSpec)

/-- 'laws.FnExactClueAt', WHERE WHAT IT READS IS OF BULK AT MOST 1048576: true; the input reads as it did. -/
def fnExactClueAtUptoRow : OpenClaim := { program := "ytapinopfminmiaa", sum := "123cb7641021a37670004ab6e66ef89b3818eb75e05a407f72b2e98a14b7e9ef", func := "loop.example/g01204/laws.FnExactClueAt", spec := "fnExactClueAt", inPlace := ["math.Float64bits", "math.Float64frombits"], apart := false, narrowed := true }
def FnExactClueAtUptoSaid : Prop := fnExactClueAtUptoRow.holds Try.pinned (OpenSpec.upto fnExactClueAtSpec)

end Rows
end Go.Proofs.Ytapinopfminmiaa
