/-
  No cell of these rows narrows 'for every input' (looked for: loops, veiled, ifaces, maps, wideKeys, modest, calm, conditions, laid).
  DERIVED. THE GIVEN ROWS OF THIS SEAT. 7 by the template 'for every input the law returns true; each argument reads behind the call as it read before'; 0 by the template 'total and deterministic' (their statements: YtifaojlgofibmaaTotals.lean).
  GIVEN WITH THE SEED: the statements are not yours to turn. If you find one false, say at which input.
  Laid BY PROGRAM, IN A SANDBOX (cutbox-rows.mjs): the forced cells as the released guide's own fill.sh prints them over the translation 83725f570b0913ec… (all of the seat's roots in one cut). By AI agents, Wed Nov 11 2026. No macro, syntax, notation, axiom, sorry.
-/
import Derived.Test.YtifaojlgofibmaaChecked
import GoSem.Claim
import GoSem.ClaimJoined
import GoSem.ClaimMapViews
import Derived.JoinedTies
import Derived.KernelRfl
namespace Go.Proofs.Ytifaojlgofibmaa
/- THE CELL 'sum', in the pinned program and in every row, IS THE sha256 OF THE DUMP (.gsa) THAT YtifaojlgofibmaaProg.lean LOADS. Nothing in Lean hashes anything: it is a label: what it is worth is what the hold of that sum in a sandbox is worth. -/
noncomputable def Try.pinned : Pinned := { name := "ytifaojlgofibmaa", sum := "83725f570b0913ec3a833679f90a3af8f118062bb5434c1e2293588f67d2782e", checked := Try.checked }
namespace Rows
def none {H : Type} : Left H := { results := [], args := [] }

/-- 'laws.FnExactValidDeed': WHATEVER THE INPUT: true; the input reads as it did. -/
def fnExactValidDeedSpec : ChangeSpec := { name := "fnExactValidDeed", fn := fun _ => fun
  | [d] => { results := [.lit (.bool true)], args := [d] }
  | _ => none }
def fnExactValidDeedRow : OpenClaim := { program := "ytifaojlgofibmaa", sum := "83725f570b0913ec3a833679f90a3af8f118062bb5434c1e2293588f67d2782e", func := "loop.example/g01204/laws.FnExactValidDeed", spec := "fnExactValidDeed", apart := false }
def FnExactValidDeedSaid : Prop := fnExactValidDeedRow.holds Try.pinned (OpenSpec.ofChange fnExactValidDeedSpec)

/-- ITS FALSE NEIGHBOUR: 'it returns false'. Refute it at one input. -/
def fnExactValidDeedWrong : ChangeSpec := { name := "fnExactValidDeed", fn := fun _ => fun
  | [d] => { results := [.lit (.bool false)], args := [d] }
  | _ => none }
def FnExactValidDeedWrongFalsely : Prop := fnExactValidDeedRow.holds Try.pinned (OpenSpec.ofChange fnExactValidDeedWrong)

/-- 'laws.FnExactValidFleet': WHATEVER THE INPUT: true; the input reads as it did. -/
def fnExactValidFleetSpec : ChangeSpec := { name := "fnExactValidFleet", fn := fun _ => fun
  | [d] => { results := [.lit (.bool true)], args := [d] }
  | _ => none }
def fnExactValidFleetRow : OpenClaim := { program := "ytifaojlgofibmaa", sum := "83725f570b0913ec3a833679f90a3af8f118062bb5434c1e2293588f67d2782e", func := "loop.example/g01204/laws.FnExactValidFleet", spec := "fnExactValidFleet", inPlace := ["math.archFloor", "math.Float64bits", "math.Float64frombits", "math.archTrunc"], apart := false }
def FnExactValidFleetSaid : Prop := fnExactValidFleetRow.holds Try.pinned (OpenSpec.ofChange fnExactValidFleetSpec)

/-- ITS FALSE NEIGHBOUR: 'it returns false'. Refute it at one input. -/
def fnExactValidFleetWrong : ChangeSpec := { name := "fnExactValidFleet", fn := fun _ => fun
  | [d] => { results := [.lit (.bool false)], args := [d] }
  | _ => none }
def FnExactValidFleetWrongFalsely : Prop := fnExactValidFleetRow.holds Try.pinned (OpenSpec.ofChange fnExactValidFleetWrong)

/-- 'laws.FnExactCellOf': WHATEVER THE INPUT: true; the input reads as it did. -/
def fnExactCellOfSpec : ChangeSpec := { name := "fnExactCellOf", fn := fun _ => fun
  | [d1, d2] => { results := [.lit (.bool true)], args := [d1, d2] }
  | _ => none }
def fnExactCellOfRow : OpenClaim := { program := "ytifaojlgofibmaa", sum := "83725f570b0913ec3a833679f90a3af8f118062bb5434c1e2293588f67d2782e", func := "loop.example/g01204/laws.FnExactCellOf", spec := "fnExactCellOf", inPlace := ["math.archFloor", "math.Float64bits", "math.Float64frombits", "math.archTrunc"], apart := false }
def FnExactCellOfSaid : Prop := fnExactCellOfRow.holds Try.pinned (OpenSpec.ofChange fnExactCellOfSpec)

/-- ITS FALSE NEIGHBOUR: 'it returns false'. Refute it at one input. -/
def fnExactCellOfWrong : ChangeSpec := { name := "fnExactCellOf", fn := fun _ => fun
  | [d1, d2] => { results := [.lit (.bool false)], args := [d1, d2] }
  | _ => none }
def FnExactCellOfWrongFalsely : Prop := fnExactCellOfRow.holds Try.pinned (OpenSpec.ofChange fnExactCellOfWrong)

/-- 'laws.FnExactForgetBefore': WHATEVER THE INPUT: true; the input reads as it did. -/
def fnExactForgetBeforeSpec : ChangeSpec := { name := "fnExactForgetBefore", fn := fun _ => fun
  | [d1, d2] => { results := [.lit (.bool true)], args := [d1, d2] }
  | _ => none }
def fnExactForgetBeforeRow : OpenClaim := { program := "ytifaojlgofibmaa", sum := "83725f570b0913ec3a833679f90a3af8f118062bb5434c1e2293588f67d2782e", func := "loop.example/g01204/laws.FnExactForgetBefore", spec := "fnExactForgetBefore", inPlace := ["math.Float64bits", "math.Float64frombits"], unfollowed := true, recurses := true, apart := false }
def FnExactForgetBeforeSaid : Prop := fnExactForgetBeforeRow.holds Try.pinned (OpenSpec.ofChange fnExactForgetBeforeSpec)

/-- ITS FALSE NEIGHBOUR: 'it returns false'. Refute it at one input. -/
def fnExactForgetBeforeWrong : ChangeSpec := { name := "fnExactForgetBefore", fn := fun _ => fun
  | [d1, d2] => { results := [.lit (.bool false)], args := [d1, d2] }
  | _ => none }
def FnExactForgetBeforeWrongFalsely : Prop := fnExactForgetBeforeRow.holds Try.pinned (OpenSpec.ofChange fnExactForgetBeforeWrong)

/-- 'laws.FnExactLeaveLighter': WHATEVER THE INPUT: true; the input reads as it did. -/
def fnExactLeaveLighterSpec : ChangeSpec := { name := "fnExactLeaveLighter", fn := fun _ => fun
  | [d1, d2] => { results := [.lit (.bool true)], args := [d1, d2] }
  | _ => none }
def fnExactLeaveLighterRow : OpenClaim := { program := "ytifaojlgofibmaa", sum := "83725f570b0913ec3a833679f90a3af8f118062bb5434c1e2293588f67d2782e", func := "loop.example/g01204/laws.FnExactLeaveLighter", spec := "fnExactLeaveLighter", inPlace := ["math.Float64bits", "math.Float64frombits"], unfollowed := true, recurses := true, apart := false }
def FnExactLeaveLighterSaid : Prop := fnExactLeaveLighterRow.holds Try.pinned (OpenSpec.ofChange fnExactLeaveLighterSpec)

/-- ITS FALSE NEIGHBOUR: 'it returns false'. Refute it at one input. -/
def fnExactLeaveLighterWrong : ChangeSpec := { name := "fnExactLeaveLighter", fn := fun _ => fun
  | [d1, d2] => { results := [.lit (.bool false)], args := [d1, d2] }
  | _ => none }
def FnExactLeaveLighterWrongFalsely : Prop := fnExactLeaveLighterRow.holds Try.pinned (OpenSpec.ofChange fnExactLeaveLighterWrong)

/-- 'laws.FnExactMarksWithin': WHATEVER THE INPUT: true; the input reads as it did. -/
def fnExactMarksWithinSpec : ChangeSpec := { name := "fnExactMarksWithin", fn := fun _ => fun
  | [d1, d2, d3] => { results := [.lit (.bool true)], args := [d1, d2, d3] }
  | _ => none }
def fnExactMarksWithinRow : OpenClaim := { program := "ytifaojlgofibmaa", sum := "83725f570b0913ec3a833679f90a3af8f118062bb5434c1e2293588f67d2782e", func := "loop.example/g01204/laws.FnExactMarksWithin", spec := "fnExactMarksWithin", inPlace := ["math.sqrt", "math.Float64bits", "math.Float64frombits"], unfollowed := true, recurses := true, apart := false }
def FnExactMarksWithinSaid : Prop := fnExactMarksWithinRow.holds Try.pinned (OpenSpec.ofChange fnExactMarksWithinSpec)

/-- ITS FALSE NEIGHBOUR: 'it returns false'. Refute it at one input. -/
def fnExactMarksWithinWrong : ChangeSpec := { name := "fnExactMarksWithin", fn := fun _ => fun
  | [d1, d2, d3] => { results := [.lit (.bool false)], args := [d1, d2, d3] }
  | _ => none }
def FnExactMarksWithinWrongFalsely : Prop := fnExactMarksWithinRow.holds Try.pinned (OpenSpec.ofChange fnExactMarksWithinWrong)

/-- 'laws.FnExactCentreOf': WHATEVER THE INPUT: true; the input reads as it did. -/
def fnExactCentreOfSpec : ChangeSpec := { name := "fnExactCentreOf", fn := fun _ => fun
  | [d] => { results := [.lit (.bool true)], args := [d] }
  | _ => none }
def fnExactCentreOfRow : OpenClaim := { program := "ytifaojlgofibmaa", sum := "83725f570b0913ec3a833679f90a3af8f118062bb5434c1e2293588f67d2782e", func := "loop.example/g01204/laws.FnExactCentreOf", spec := "fnExactCentreOf", inPlace := ["math.Float64bits", "math.Float64frombits"], apart := false }
def FnExactCentreOfSaid : Prop := fnExactCentreOfRow.holds Try.pinned (OpenSpec.ofChange fnExactCentreOfSpec)

/-- ITS FALSE NEIGHBOUR: 'it returns false'. Refute it at one input. -/
def fnExactCentreOfWrong : ChangeSpec := { name := "fnExactCentreOf", fn := fun _ => fun
  | [d] => { results := [.lit (.bool false)], args := [d] }
  | _ => none }
def FnExactCentreOfWrongFalsely : Prop := fnExactCentreOfRow.holds Try.pinned (OpenSpec.ofChange fnExactCentreOfWrong)

/- THE SECOND FORM. 'bulk': how many values and letters a reading holds, each counted each time it is reached (what is shared counts as often as it is met; a slice's spare places count too). A statement '..UptoSaid' is the law's where the arguments, and the package variables that the reading takes, are together of bulk at most 1048576: NARROWER than '..Said'. Prove '..Said' where nothing that the law and all that it calls make is longer than what came in: it says more and counts as full. Else prove '..UptoSaid'. A law counts once. -/
mutual
def uptoBulk {H : Type} : DataW H → Nat
  | .lit (.string bytes) => bytes.length + 1
  | .lit _ => 1
  | .nil => 1
  | .ptr d => uptoBulk d + 1
  | .slice elems spare => uptoBulkAll elems + uptoBulkAll spare + 1
  | .agg parts => uptoBulkAll parts + 1
  | .iface _ d => uptoBulk d + 1
  | .map entries => uptoBulkEntries entries + 1
  | .held _ => 1
def uptoBulkAll {H : Type} : List (DataW H) → Nat
  | [] => 0
  | d :: r => uptoBulk d + uptoBulkAll r
def uptoBulkEntries {H : Type} : List (Lit × DataW H) → Nat
  | [] => 0
  | x :: r => uptoBulkEntry x + uptoBulkEntries r
def uptoBulkEntry {H : Type} : Lit × DataW H → Nat
  | (.string bytes, d) => bytes.length + uptoBulk d + 1
  | (_, d) => uptoBulk d + 1
 end
def uptoSmall : (H : Type) → List (DataW H) → Bool := fun _ ds => decide (uptoBulkAll ds ≤ 1048576)
def OpenSpec.upto (s : _root_.Go.ChangeSpec) : _root_.Go.OpenSpec := { _root_.Go.OpenSpec.ofChange s with cond := some uptoSmall }

/-- 'laws.FnExactValidDeed', WHERE WHAT IT READS IS OF BULK AT MOST 1048576: true; the input reads as it did. -/
def fnExactValidDeedUptoRow : OpenClaim := { program := "ytifaojlgofibmaa", sum := "83725f570b0913ec3a833679f90a3af8f118062bb5434c1e2293588f67d2782e", func := "loop.example/g01204/laws.FnExactValidDeed", spec := "fnExactValidDeed", apart := false, narrowed := true }
def FnExactValidDeedUptoSaid : Prop := fnExactValidDeedUptoRow.holds Try.pinned (OpenSpec.upto fnExactValidDeedSpec)

/-- 'laws.FnExactValidFleet', WHERE WHAT IT READS IS OF BULK AT MOST 1048576: true; the input reads as it did. -/
def fnExactValidFleetUptoRow : OpenClaim := { program := "ytifaojlgofibmaa", sum := "83725f570b0913ec3a833679f90a3af8f118062bb5434c1e2293588f67d2782e", func := "loop.example/g01204/laws.FnExactValidFleet", spec := "fnExactValidFleet", inPlace := ["math.archFloor", "math.Float64bits", "math.Float64frombits", "math.archTrunc"], apart := false, narrowed := true }
def FnExactValidFleetUptoSaid : Prop := fnExactValidFleetUptoRow.holds Try.pinned (OpenSpec.upto fnExactValidFleetSpec)

/-- 'laws.FnExactCellOf', WHERE WHAT IT READS IS OF BULK AT MOST 1048576: true; the input reads as it did. -/
def fnExactCellOfUptoRow : OpenClaim := { program := "ytifaojlgofibmaa", sum := "83725f570b0913ec3a833679f90a3af8f118062bb5434c1e2293588f67d2782e", func := "loop.example/g01204/laws.FnExactCellOf", spec := "fnExactCellOf", inPlace := ["math.archFloor", "math.Float64bits", "math.Float64frombits", "math.archTrunc"], apart := false, narrowed := true }
def FnExactCellOfUptoSaid : Prop := fnExactCellOfUptoRow.holds Try.pinned (OpenSpec.upto fnExactCellOfSpec)

/-- 'laws.FnExactForgetBefore', WHERE WHAT IT READS IS OF BULK AT MOST 1048576: true; the input reads as it did. -/
def fnExactForgetBeforeUptoRow : OpenClaim := { program := "ytifaojlgofibmaa", sum := "83725f570b0913ec3a833679f90a3af8f118062bb5434c1e2293588f67d2782e", func := "loop.example/g01204/laws.FnExactForgetBefore", spec := "fnExactForgetBefore", inPlace := ["math.Float64bits", "math.Float64frombits"], unfollowed := true, recurses := true, apart := false, narrowed := true }
def FnExactForgetBeforeUptoSaid : Prop := fnExactForgetBeforeUptoRow.holds Try.pinned (OpenSpec.upto fnExactForgetBeforeSpec)

/-- 'laws.FnExactLeaveLighter', WHERE WHAT IT READS IS OF BULK AT MOST 1048576: true; the input reads as it did. -/
def fnExactLeaveLighterUptoRow : OpenClaim := { program := "ytifaojlgofibmaa", sum := "83725f570b0913ec3a833679f90a3af8f118062bb5434c1e2293588f67d2782e", func := "loop.example/g01204/laws.FnExactLeaveLighter", spec := "fnExactLeaveLighter", inPlace := ["math.Float64bits", "math.Float64frombits"], unfollowed := true, recurses := true, apart := false, narrowed := true }
def FnExactLeaveLighterUptoSaid : Prop := fnExactLeaveLighterUptoRow.holds Try.pinned (OpenSpec.upto fnExactLeaveLighterSpec)

/-- 'laws.FnExactMarksWithin', WHERE WHAT IT READS IS OF BULK AT MOST 1048576: true; the input reads as it did. -/
def fnExactMarksWithinUptoRow : OpenClaim := { program := "ytifaojlgofibmaa", sum := "83725f570b0913ec3a833679f90a3af8f118062bb5434c1e2293588f67d2782e", func := "loop.example/g01204/laws.FnExactMarksWithin", spec := "fnExactMarksWithin", inPlace := ["math.sqrt", "math.Float64bits", "math.Float64frombits"], unfollowed := true, recurses := true, apart := false, narrowed := true }
def FnExactMarksWithinUptoSaid : Prop := fnExactMarksWithinUptoRow.holds Try.pinned (OpenSpec.upto fnExactMarksWithinSpec)

/-- 'laws.FnExactCentreOf', WHERE WHAT IT READS IS OF BULK AT MOST 1048576: true; the input reads as it did. -/
def fnExactCentreOfUptoRow : OpenClaim := { program := "ytifaojlgofibmaa", sum := "83725f570b0913ec3a833679f90a3af8f118062bb5434c1e2293588f67d2782e", func := "loop.example/g01204/laws.FnExactCentreOf", spec := "fnExactCentreOf", inPlace := ["math.Float64bits", "math.Float64frombits"], apart := false, narrowed := true }
def FnExactCentreOfUptoSaid : Prop := fnExactCentreOfUptoRow.holds Try.pinned (OpenSpec.upto fnExactCentreOfSpec)

end Rows
end Go.Proofs.Ytifaojlgofibmaa
