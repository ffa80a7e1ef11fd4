/-
  No cell of these rows narrows 'for every input' (looked for: loops, veiled, ifaces, maps, wideKeys, modest, calm, conditions, laid).
  DERIVED. THE GIVEN ROWS OF THIS SEAT. 8 by the template 'for every input the law returns true; each argument reads behind the call as it read before'; 0 by the template 'total and deterministic' (their statements: YtbcnafanjemaeacTotals.lean).
  GIVEN WITH THE SEED: the statements are not yours to turn. If you find one false, say at which input.
  Laid BY PROGRAM, IN A SANDBOX (cutbox-rows.mjs): the forced cells as the released guide's own fill.sh prints them over the translation 14c08cd7914cdb92… (all of the seat's roots in one cut). By AI agents, Wed Nov 11 2026. No macro, syntax, notation, axiom, sorry.
-/
import Derived.Test.YtbcnafanjemaeacChecked
import GoSem.Claim
import GoSem.ClaimJoined
import GoSem.ClaimMapViews
import Derived.JoinedTies
import Derived.KernelRfl
namespace Go.Proofs.Ytbcnafanjemaeac
/- THE CELL 'sum', in the pinned program and in every row, IS THE sha256 OF THE DUMP (.gsa) THAT YtbcnafanjemaeacProg.lean LOADS. Nothing in Lean hashes anything: it is a label: what it is worth is what the hold of that sum in a sandbox is worth. -/
noncomputable def Try.pinned : Pinned := { name := "ytbcnafanjemaeac", sum := "14c08cd7914cdb92d6b0b12d0ce90235d8f9d81b96363874f64e3a9e149e9dfa", checked := Try.checked }
namespace Rows
def none {H : Type} : Left H := { results := [], args := [] }

/-- 'laws.FnExactIsFiniteMat': WHATEVER THE INPUT: true; the input reads as it did. -/
def fnExactIsFiniteMatSpec : ChangeSpec := { name := "fnExactIsFiniteMat", fn := fun _ => fun
  | [d] => { results := [.lit (.bool true)], args := [d] }
  | _ => none }
def fnExactIsFiniteMatRow : OpenClaim := { program := "ytbcnafanjemaeac", sum := "14c08cd7914cdb92d6b0b12d0ce90235d8f9d81b96363874f64e3a9e149e9dfa", func := "loop.example/g01204/laws.FnExactIsFiniteMat", spec := "fnExactIsFiniteMat", inPlace := ["math.Float64bits", "math.Float64frombits"], apart := false }
def FnExactIsFiniteMatSaid : Prop := fnExactIsFiniteMatRow.holds Try.pinned (OpenSpec.ofChange fnExactIsFiniteMatSpec)

/-- ITS FALSE NEIGHBOUR: 'it returns false'. Refute it at one input. -/
def fnExactIsFiniteMatWrong : ChangeSpec := { name := "fnExactIsFiniteMat", fn := fun _ => fun
  | [d] => { results := [.lit (.bool false)], args := [d] }
  | _ => none }
def FnExactIsFiniteMatWrongFalsely : Prop := fnExactIsFiniteMatRow.holds Try.pinned (OpenSpec.ofChange fnExactIsFiniteMatWrong)

/-- 'laws.FnExactSameMat': WHATEVER THE INPUT: true; the input reads as it did. -/
def fnExactSameMatSpec : ChangeSpec := { name := "fnExactSameMat", fn := fun _ => fun
  | [d1, d2] => { results := [.lit (.bool true)], args := [d1, d2] }
  | _ => none }
def fnExactSameMatRow : OpenClaim := { program := "ytbcnafanjemaeac", sum := "14c08cd7914cdb92d6b0b12d0ce90235d8f9d81b96363874f64e3a9e149e9dfa", func := "loop.example/g01204/laws.FnExactSameMat", spec := "fnExactSameMat", inPlace := ["math.Float32bits"], apart := false }
def FnExactSameMatSaid : Prop := fnExactSameMatRow.holds Try.pinned (OpenSpec.ofChange fnExactSameMatSpec)

/-- ITS FALSE NEIGHBOUR: 'it returns false'. Refute it at one input. -/
def fnExactSameMatWrong : ChangeSpec := { name := "fnExactSameMat", fn := fun _ => fun
  | [d1, d2] => { results := [.lit (.bool false)], args := [d1, d2] }
  | _ => none }
def FnExactSameMatWrongFalsely : Prop := fnExactSameMatRow.holds Try.pinned (OpenSpec.ofChange fnExactSameMatWrong)

/-- 'laws.FnExactAddMat': WHATEVER THE INPUT: true; the input reads as it did. -/
def fnExactAddMatSpec : ChangeSpec := { name := "fnExactAddMat", fn := fun _ => fun
  | [d1, d2] => { results := [.lit (.bool true)], args := [d1, d2] }
  | _ => none }
def fnExactAddMatRow : OpenClaim := { program := "ytbcnafanjemaeac", sum := "14c08cd7914cdb92d6b0b12d0ce90235d8f9d81b96363874f64e3a9e149e9dfa", func := "loop.example/g01204/laws.FnExactAddMat", spec := "fnExactAddMat", apart := false }
def FnExactAddMatSaid : Prop := fnExactAddMatRow.holds Try.pinned (OpenSpec.ofChange fnExactAddMatSpec)

/-- ITS FALSE NEIGHBOUR: 'it returns false'. Refute it at one input. -/
def fnExactAddMatWrong : ChangeSpec := { name := "fnExactAddMat", fn := fun _ => fun
  | [d1, d2] => { results := [.lit (.bool false)], args := [d1, d2] }
  | _ => none }
def FnExactAddMatWrongFalsely : Prop := fnExactAddMatRow.holds Try.pinned (OpenSpec.ofChange fnExactAddMatWrong)

/-- 'laws.FnExactScaleMat': WHATEVER THE INPUT: true; the input reads as it did. -/
def fnExactScaleMatSpec : ChangeSpec := { name := "fnExactScaleMat", fn := fun _ => fun
  | [d1, d2] => { results := [.lit (.bool true)], args := [d1, d2] }
  | _ => none }
def fnExactScaleMatRow : OpenClaim := { program := "ytbcnafanjemaeac", sum := "14c08cd7914cdb92d6b0b12d0ce90235d8f9d81b96363874f64e3a9e149e9dfa", func := "loop.example/g01204/laws.FnExactScaleMat", spec := "fnExactScaleMat", apart := false }
def FnExactScaleMatSaid : Prop := fnExactScaleMatRow.holds Try.pinned (OpenSpec.ofChange fnExactScaleMatSpec)

/-- ITS FALSE NEIGHBOUR: 'it returns false'. Refute it at one input. -/
def fnExactScaleMatWrong : ChangeSpec := { name := "fnExactScaleMat", fn := fun _ => fun
  | [d1, d2] => { results := [.lit (.bool false)], args := [d1, d2] }
  | _ => none }
def FnExactScaleMatWrongFalsely : Prop := fnExactScaleMatRow.holds Try.pinned (OpenSpec.ofChange fnExactScaleMatWrong)

/-- 'laws.FnExactOuterOf': WHATEVER THE INPUT: true; the input reads as it did. -/
def fnExactOuterOfSpec : ChangeSpec := { name := "fnExactOuterOf", fn := fun _ => fun
  | [d1, d2] => { results := [.lit (.bool true)], args := [d1, d2] }
  | _ => none }
def fnExactOuterOfRow : OpenClaim := { program := "ytbcnafanjemaeac", sum := "14c08cd7914cdb92d6b0b12d0ce90235d8f9d81b96363874f64e3a9e149e9dfa", func := "loop.example/g01204/laws.FnExactOuterOf", spec := "fnExactOuterOf", apart := false }
def FnExactOuterOfSaid : Prop := fnExactOuterOfRow.holds Try.pinned (OpenSpec.ofChange fnExactOuterOfSpec)

/-- ITS FALSE NEIGHBOUR: 'it returns false'. Refute it at one input. -/
def fnExactOuterOfWrong : ChangeSpec := { name := "fnExactOuterOf", fn := fun _ => fun
  | [d1, d2] => { results := [.lit (.bool false)], args := [d1, d2] }
  | _ => none }
def FnExactOuterOfWrongFalsely : Prop := fnExactOuterOfRow.holds Try.pinned (OpenSpec.ofChange fnExactOuterOfWrong)

/-- 'laws.FnExactMulMatVec': WHATEVER THE INPUT: true; the input reads as it did. -/
def fnExactMulMatVecSpec : ChangeSpec := { name := "fnExactMulMatVec", fn := fun _ => fun
  | [d1, d2] => { results := [.lit (.bool true)], args := [d1, d2] }
  | _ => none }
def fnExactMulMatVecRow : OpenClaim := { program := "ytbcnafanjemaeac", sum := "14c08cd7914cdb92d6b0b12d0ce90235d8f9d81b96363874f64e3a9e149e9dfa", func := "loop.example/g01204/laws.FnExactMulMatVec", spec := "fnExactMulMatVec", apart := false }
def FnExactMulMatVecSaid : Prop := fnExactMulMatVecRow.holds Try.pinned (OpenSpec.ofChange fnExactMulMatVecSpec)

/-- ITS FALSE NEIGHBOUR: 'it returns false'. Refute it at one input. -/
def fnExactMulMatVecWrong : ChangeSpec := { name := "fnExactMulMatVec", fn := fun _ => fun
  | [d1, d2] => { results := [.lit (.bool false)], args := [d1, d2] }
  | _ => none }
def FnExactMulMatVecWrongFalsely : Prop := fnExactMulMatVecRow.holds Try.pinned (OpenSpec.ofChange fnExactMulMatVecWrong)

/-- 'laws.FnExactMulMat': WHATEVER THE INPUT: true; the input reads as it did. -/
def fnExactMulMatSpec : ChangeSpec := { name := "fnExactMulMat", fn := fun _ => fun
  | [d1, d2] => { results := [.lit (.bool true)], args := [d1, d2] }
  | _ => none }
def fnExactMulMatRow : OpenClaim := { program := "ytbcnafanjemaeac", sum := "14c08cd7914cdb92d6b0b12d0ce90235d8f9d81b96363874f64e3a9e149e9dfa", func := "loop.example/g01204/laws.FnExactMulMat", spec := "fnExactMulMat", apart := false }
def FnExactMulMatSaid : Prop := fnExactMulMatRow.holds Try.pinned (OpenSpec.ofChange fnExactMulMatSpec)

/-- ITS FALSE NEIGHBOUR: 'it returns false'. Refute it at one input. -/
def fnExactMulMatWrong : ChangeSpec := { name := "fnExactMulMat", fn := fun _ => fun
  | [d1, d2] => { results := [.lit (.bool false)], args := [d1, d2] }
  | _ => none }
def FnExactMulMatWrongFalsely : Prop := fnExactMulMatRow.holds Try.pinned (OpenSpec.ofChange fnExactMulMatWrong)

/-- 'laws.FnExactDeterminantOf': WHATEVER THE INPUT: true; the input reads as it did. -/
def fnExactDeterminantOfSpec : ChangeSpec := { name := "fnExactDeterminantOf", fn := fun _ => fun
  | [d] => { results := [.lit (.bool true)], args := [d] }
  | _ => none }
def fnExactDeterminantOfRow : OpenClaim := { program := "ytbcnafanjemaeac", sum := "14c08cd7914cdb92d6b0b12d0ce90235d8f9d81b96363874f64e3a9e149e9dfa", func := "loop.example/g01204/laws.FnExactDeterminantOf", spec := "fnExactDeterminantOf", apart := false }
def FnExactDeterminantOfSaid : Prop := fnExactDeterminantOfRow.holds Try.pinned (OpenSpec.ofChange fnExactDeterminantOfSpec)

/-- ITS FALSE NEIGHBOUR: 'it returns false'. Refute it at one input. -/
def fnExactDeterminantOfWrong : ChangeSpec := { name := "fnExactDeterminantOf", fn := fun _ => fun
  | [d] => { results := [.lit (.bool false)], args := [d] }
  | _ => none }
def FnExactDeterminantOfWrongFalsely : Prop := fnExactDeterminantOfRow.holds Try.pinned (OpenSpec.ofChange fnExactDeterminantOfWrong)

/- THE SECOND FORM. 'bulk': how many values and letters a reading holds, each counted each time it is reached (what is shared counts as often as it is met; a slice's spare places count too). A statement '..UptoSaid' is the law's where the arguments, and the package variables that the reading takes, are together of bulk at most 1048576: NARROWER than '..Said'. Prove '..Said' where nothing that the law and all that it calls make is longer than what came in: it says more and counts as full. Else prove '..UptoSaid'. A law counts once. -/
mutual
def uptoBulk {H : Type} : DataW H → Nat
  | .lit (.string bytes) => bytes.length + 1
  | .lit _ => 1
  | .nil => 1
  | .ptr d => uptoBulk d + 1
  | .slice elems spare => uptoBulkAll elems + uptoBulkAll spare + 1
  | .agg parts => uptoBulkAll parts + 1
  | .iface _ d => uptoBulk d + 1
  | .map entries => uptoBulkEntries entries + 1
  | .held _ => 1
def uptoBulkAll {H : Type} : List (DataW H) → Nat
  | [] => 0
  | d :: r => uptoBulk d + uptoBulkAll r
def uptoBulkEntries {H : Type} : List (Lit × DataW H) → Nat
  | [] => 0
  | x :: r => uptoBulkEntry x + uptoBulkEntries r
def uptoBulkEntry {H : Type} : Lit × DataW H → Nat
  | (.string bytes, d) => bytes.length + uptoBulk d + 1
  | (_, d) => uptoBulk d + 1
 end
def uptoSmall : (H : Type) → List (DataW H) → Bool := fun _ ds => decide (uptoBulkAll ds ≤ 1048576)
def OpenSpec.upto (s : _root_.Go.ChangeSpec) : _root_.Go.OpenSpec := { _root_.Go.OpenSpec.ofChange s with cond := some uptoSmall }

/-- 'laws.FnExactIsFiniteMat', WHERE WHAT IT READS IS OF BULK AT MOST 1048576: true; the input reads as it did. -/
def fnExactIsFiniteMatUptoRow : OpenClaim := { program := "ytbcnafanjemaeac", sum := "14c08cd7914cdb92d6b0b12d0ce90235d8f9d81b96363874f64e3a9e149e9dfa", func := "loop.example/g01204/laws.FnExactIsFiniteMat", spec := "fnExactIsFiniteMat", inPlace := ["math.Float64bits", "math.Float64frombits"], apart := false, narrowed := true }
def FnExactIsFiniteMatUptoSaid : Prop := fnExactIsFiniteMatUptoRow.holds Try.pinned (OpenSpec.upto fnExactIsFiniteMatSpec)

/-- 'laws.FnExactSameMat', WHERE WHAT IT READS IS OF BULK AT MOST 1048576: true; the input reads as it did. -/
def fnExactSameMatUptoRow : OpenClaim := { program := "ytbcnafanjemaeac", sum := "14c08cd7914cdb92d6b0b12d0ce90235d8f9d81b96363874f64e3a9e149e9dfa", func := "loop.example/g01204/laws.FnExactSameMat", spec := "fnExactSameMat", inPlace := ["math.Float32bits"], apart := false, narrowed := true }
def FnExactSameMatUptoSaid : Prop := fnExactSameMatUptoRow.holds Try.pinned (OpenSpec.upto fnExactSameMatSpec)

/-- 'laws.FnExactAddMat', WHERE WHAT IT READS IS OF BULK AT MOST 1048576: true; the input reads as it did. -/
def fnExactAddMatUptoRow : OpenClaim := { program := "ytbcnafanjemaeac", sum := "14c08cd7914cdb92d6b0b12d0ce90235d8f9d81b96363874f64e3a9e149e9dfa", func := "loop.example/g01204/laws.FnExactAddMat", spec := "fnExactAddMat", apart := false, narrowed := true }
def FnExactAddMatUptoSaid : Prop := fnExactAddMatUptoRow.holds Try.pinned (OpenSpec.upto fnExactAddMatSpec)

/-- 'laws.FnExactScaleMat', WHERE WHAT IT READS IS OF BULK AT MOST 1048576: true; the input reads as it did. -/
def fnExactScaleMatUptoRow : OpenClaim := { program := "ytbcnafanjemaeac", sum := "14c08cd7914cdb92d6b0b12d0ce90235d8f9d81b96363874f64e3a9e149e9dfa", func := "loop.example/g01204/laws.FnExactScaleMat", spec := "fnExactScaleMat", apart := false, narrowed := true }
def FnExactScaleMatUptoSaid : Prop := fnExactScaleMatUptoRow.holds Try.pinned (OpenSpec.upto fnExactScaleMatSpec)

/-- 'laws.FnExactOuterOf', WHERE WHAT IT READS IS OF BULK AT MOST 1048576: true; the input reads as it did. -/
def fnExactOuterOfUptoRow : OpenClaim := { program := "ytbcnafanjemaeac", sum := "14c08cd7914cdb92d6b0b12d0ce90235d8f9d81b96363874f64e3a9e149e9dfa", func := "loop.example/g01204/laws.FnExactOuterOf", spec := "fnExactOuterOf", apart := false, narrowed := true }
def FnExactOuterOfUptoSaid : Prop := fnExactOuterOfUptoRow.holds Try.pinned (OpenSpec.upto fnExactOuterOfSpec)

/-- 'laws.FnExactMulMatVec', WHERE WHAT IT READS IS OF BULK AT MOST 1048576: true; the input reads as it did. -/
def fnExactMulMatVecUptoRow : OpenClaim := { program := "ytbcnafanjemaeac", sum := "14c08cd7914cdb92d6b0b12d0ce90235d8f9d81b96363874f64e3a9e149e9dfa", func := "loop.example/g01204/laws.FnExactMulMatVec", spec := "fnExactMulMatVec", apart := false, narrowed := true }
def FnExactMulMatVecUptoSaid : Prop := fnExactMulMatVecUptoRow.holds Try.pinned (OpenSpec.upto fnExactMulMatVecSpec)

/-- 'laws.FnExactMulMat', WHERE WHAT IT READS IS OF BULK AT MOST 1048576: true; the input reads as it did. -/
def fnExactMulMatUptoRow : OpenClaim := { program := "ytbcnafanjemaeac", sum := "14c08cd7914cdb92d6b0b12d0ce90235d8f9d81b96363874f64e3a9e149e9dfa", func := "loop.example/g01204/laws.FnExactMulMat", spec := "fnExactMulMat", apart := false, narrowed := true }
def FnExactMulMatUptoSaid : Prop := fnExactMulMatUptoRow.holds Try.pinned (OpenSpec.upto fnExactMulMatSpec)

/-- 'laws.FnExactDeterminantOf', WHERE WHAT IT READS IS OF BULK AT MOST 1048576: true; the input reads as it did. -/
def fnExactDeterminantOfUptoRow : OpenClaim := { program := "ytbcnafanjemaeac", sum := "14c08cd7914cdb92d6b0b12d0ce90235d8f9d81b96363874f64e3a9e149e9dfa", func := "loop.example/g01204/laws.FnExactDeterminantOf", spec := "fnExactDeterminantOf", apart := false, narrowed := true }
def FnExactDeterminantOfUptoSaid : Prop := fnExactDeterminantOfUptoRow.holds Try.pinned (OpenSpec.upto fnExactDeterminantOfSpec)

end Rows
end Go.Proofs.Ytbcnafanjemaeac
