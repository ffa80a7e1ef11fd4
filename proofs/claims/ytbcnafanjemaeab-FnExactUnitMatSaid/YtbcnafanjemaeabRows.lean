/-
  No cell of these rows narrows 'for every input' (looked for: loops, veiled, ifaces, maps, wideKeys, modest, calm, conditions, laid).
  DERIVED. THE GIVEN ROWS OF THIS SEAT. 9 by the template 'for every input the law returns true; each argument reads behind the call as it read before'; 0 by the template 'total and deterministic' (their statements: YtbcnafanjemaeabTotals.lean).
  GIVEN WITH THE SEED: the statements are not yours to turn. If you find one false, say at which input.
  Laid BY PROGRAM, IN A SANDBOX (cutbox-rows.mjs): the forced cells as the released guide's own fill.sh prints them over the translation ffc226739c3a362c… (all of the seat's roots in one cut). By AI agents, Wed Nov 11 2026. No macro, syntax, notation, axiom, sorry.
-/
import Derived.Test.YtbcnafanjemaeabChecked
import GoSem.Claim
import GoSem.ClaimJoined
import GoSem.ClaimMapViews
import Derived.JoinedTies
import Derived.KernelRfl
namespace Go.Proofs.Ytbcnafanjemaeab
/- THE CELL 'sum', in the pinned program and in every row, IS THE sha256 OF THE DUMP (.gsa) THAT YtbcnafanjemaeabProg.lean LOADS. Nothing in Lean hashes anything: it is a label: what it is worth is what the hold of that sum in a sandbox is worth. -/
noncomputable def Try.pinned : Pinned := { name := "ytbcnafanjemaeab", sum := "ffc226739c3a362c5be7eb24880f2f6434ce5274e80f2006aeae8d668fb7dfc0", checked := Try.checked }
namespace Rows
def none {H : Type} : Left H := { results := [], args := [] }

/-- 'laws.FnExactSolveMat': WHATEVER THE INPUT: true; the input reads as it did. -/
def fnExactSolveMatSpec : ChangeSpec := { name := "fnExactSolveMat", fn := fun _ => fun
  | [d1, d2] => { results := [.lit (.bool true)], args := [d1, d2] }
  | _ => none }
def fnExactSolveMatRow : OpenClaim := { program := "ytbcnafanjemaeab", sum := "ffc226739c3a362c5be7eb24880f2f6434ce5274e80f2006aeae8d668fb7dfc0", func := "loop.example/g01204/laws.FnExactSolveMat", spec := "fnExactSolveMat", inPlace := ["math.Float32bits", "math.Float32frombits", "math.Float64bits", "math.Float64frombits"], apart := false }
def FnExactSolveMatSaid : Prop := fnExactSolveMatRow.holds Try.pinned (OpenSpec.ofChange fnExactSolveMatSpec)

/-- ITS FALSE NEIGHBOUR: 'it returns false'. Refute it at one input. -/
def fnExactSolveMatWrong : ChangeSpec := { name := "fnExactSolveMat", fn := fun _ => fun
  | [d1, d2] => { results := [.lit (.bool false)], args := [d1, d2] }
  | _ => none }
def FnExactSolveMatWrongFalsely : Prop := fnExactSolveMatRow.holds Try.pinned (OpenSpec.ofChange fnExactSolveMatWrong)

/-- 'laws.FnExactInverseMat': WHATEVER THE INPUT: true; the input reads as it did. -/
def fnExactInverseMatSpec : ChangeSpec := { name := "fnExactInverseMat", fn := fun _ => fun
  | [d] => { results := [.lit (.bool true)], args := [d] }
  | _ => none }
def fnExactInverseMatRow : OpenClaim := { program := "ytbcnafanjemaeab", sum := "ffc226739c3a362c5be7eb24880f2f6434ce5274e80f2006aeae8d668fb7dfc0", func := "loop.example/g01204/laws.FnExactInverseMat", spec := "fnExactInverseMat", inPlace := ["math.Float32bits", "math.Float32frombits", "math.Float64bits", "math.Float64frombits"], apart := false }
def FnExactInverseMatSaid : Prop := fnExactInverseMatRow.holds Try.pinned (OpenSpec.ofChange fnExactInverseMatSpec)

/-- ITS FALSE NEIGHBOUR: 'it returns false'. Refute it at one input. -/
def fnExactInverseMatWrong : ChangeSpec := { name := "fnExactInverseMat", fn := fun _ => fun
  | [d] => { results := [.lit (.bool false)], args := [d] }
  | _ => none }
def FnExactInverseMatWrongFalsely : Prop := fnExactInverseMatRow.holds Try.pinned (OpenSpec.ofChange fnExactInverseMatWrong)

/-- 'laws.FnExactRootMat': WHATEVER THE INPUT: true; the input reads as it did. -/
def fnExactRootMatSpec : ChangeSpec := { name := "fnExactRootMat", fn := fun _ => fun
  | [d] => { results := [.lit (.bool true)], args := [d] }
  | _ => none }
def fnExactRootMatRow : OpenClaim := { program := "ytbcnafanjemaeab", sum := "ffc226739c3a362c5be7eb24880f2f6434ce5274e80f2006aeae8d668fb7dfc0", func := "loop.example/g01204/laws.FnExactRootMat", spec := "fnExactRootMat", inPlace := ["math.sqrt", "math.Float64bits", "math.Float64frombits"], apart := false }
def FnExactRootMatSaid : Prop := fnExactRootMatRow.holds Try.pinned (OpenSpec.ofChange fnExactRootMatSpec)

/-- ITS FALSE NEIGHBOUR: 'it returns false'. Refute it at one input. -/
def fnExactRootMatWrong : ChangeSpec := { name := "fnExactRootMat", fn := fun _ => fun
  | [d] => { results := [.lit (.bool false)], args := [d] }
  | _ => none }
def FnExactRootMatWrongFalsely : Prop := fnExactRootMatRow.holds Try.pinned (OpenSpec.ofChange fnExactRootMatWrong)

/-- 'laws.FnExactNumberText': WHATEVER THE INPUT: true; the input reads as it did. -/
def fnExactNumberTextSpec : ChangeSpec := { name := "fnExactNumberText", fn := fun _ => fun
  | [d] => { results := [.lit (.bool true)], args := [d] }
  | _ => none }
def fnExactNumberTextRow : OpenClaim := { program := "ytbcnafanjemaeab", sum := "ffc226739c3a362c5be7eb24880f2f6434ce5274e80f2006aeae8d668fb7dfc0", func := "loop.example/g01204/laws.FnExactNumberText", spec := "fnExactNumberText", inPlace := ["math.Float32bits"], apart := false }
def FnExactNumberTextSaid : Prop := fnExactNumberTextRow.holds Try.pinned (OpenSpec.ofChange fnExactNumberTextSpec)

/-- ITS FALSE NEIGHBOUR: 'it returns false'. Refute it at one input. -/
def fnExactNumberTextWrong : ChangeSpec := { name := "fnExactNumberText", fn := fun _ => fun
  | [d] => { results := [.lit (.bool false)], args := [d] }
  | _ => none }
def FnExactNumberTextWrongFalsely : Prop := fnExactNumberTextRow.holds Try.pinned (OpenSpec.ofChange fnExactNumberTextWrong)

/-- 'laws.FnExactVecText': WHATEVER THE INPUT: true; the input reads as it did. -/
def fnExactVecTextSpec : ChangeSpec := { name := "fnExactVecText", fn := fun _ => fun
  | [d] => { results := [.lit (.bool true)], args := [d] }
  | _ => none }
def fnExactVecTextRow : OpenClaim := { program := "ytbcnafanjemaeab", sum := "ffc226739c3a362c5be7eb24880f2f6434ce5274e80f2006aeae8d668fb7dfc0", func := "loop.example/g01204/laws.FnExactVecText", spec := "fnExactVecText", inPlace := ["math.Float32bits", "internal/abi.NoEscape", "internal/bytealg.MakeNoZero"], apart := false }
def FnExactVecTextSaid : Prop := fnExactVecTextRow.holds Try.pinned (OpenSpec.ofChange fnExactVecTextSpec)

/-- ITS FALSE NEIGHBOUR: 'it returns false'. Refute it at one input. -/
def fnExactVecTextWrong : ChangeSpec := { name := "fnExactVecText", fn := fun _ => fun
  | [d] => { results := [.lit (.bool false)], args := [d] }
  | _ => none }
def FnExactVecTextWrongFalsely : Prop := fnExactVecTextRow.holds Try.pinned (OpenSpec.ofChange fnExactVecTextWrong)

/-- 'laws.FnExactMatText': WHATEVER THE INPUT: true; the input reads as it did. -/
def fnExactMatTextSpec : ChangeSpec := { name := "fnExactMatText", fn := fun _ => fun
  | [d] => { results := [.lit (.bool true)], args := [d] }
  | _ => none }
def fnExactMatTextRow : OpenClaim := { program := "ytbcnafanjemaeab", sum := "ffc226739c3a362c5be7eb24880f2f6434ce5274e80f2006aeae8d668fb7dfc0", func := "loop.example/g01204/laws.FnExactMatText", spec := "fnExactMatText", inPlace := ["math.Float32bits", "internal/abi.NoEscape", "internal/bytealg.MakeNoZero"], apart := false }
def FnExactMatTextSaid : Prop := fnExactMatTextRow.holds Try.pinned (OpenSpec.ofChange fnExactMatTextSpec)

/-- ITS FALSE NEIGHBOUR: 'it returns false'. Refute it at one input. -/
def fnExactMatTextWrong : ChangeSpec := { name := "fnExactMatText", fn := fun _ => fun
  | [d] => { results := [.lit (.bool false)], args := [d] }
  | _ => none }
def FnExactMatTextWrongFalsely : Prop := fnExactMatTextRow.holds Try.pinned (OpenSpec.ofChange fnExactMatTextWrong)

/-- 'laws.FnExactTransposeMat': WHATEVER THE INPUT: true; the input reads as it did. -/
def fnExactTransposeMatSpec : ChangeSpec := { name := "fnExactTransposeMat", fn := fun _ => fun
  | [d] => { results := [.lit (.bool true)], args := [d] }
  | _ => none }
def fnExactTransposeMatRow : OpenClaim := { program := "ytbcnafanjemaeab", sum := "ffc226739c3a362c5be7eb24880f2f6434ce5274e80f2006aeae8d668fb7dfc0", func := "loop.example/g01204/laws.FnExactTransposeMat", spec := "fnExactTransposeMat", apart := false }
def FnExactTransposeMatSaid : Prop := fnExactTransposeMatRow.holds Try.pinned (OpenSpec.ofChange fnExactTransposeMatSpec)

/-- ITS FALSE NEIGHBOUR: 'it returns false'. Refute it at one input. -/
def fnExactTransposeMatWrong : ChangeSpec := { name := "fnExactTransposeMat", fn := fun _ => fun
  | [d] => { results := [.lit (.bool false)], args := [d] }
  | _ => none }
def FnExactTransposeMatWrongFalsely : Prop := fnExactTransposeMatRow.holds Try.pinned (OpenSpec.ofChange fnExactTransposeMatWrong)

/-- 'laws.FnExactUnitMat': WHATEVER THE INPUT: true; the input reads as it did. -/
def fnExactUnitMatSpec : ChangeSpec := { name := "fnExactUnitMat", fn := fun _ => fun
  | [] => { results := [.lit (.bool true)], args := [] }
  | _ => none }
def fnExactUnitMatRow : OpenClaim := { program := "ytbcnafanjemaeab", sum := "ffc226739c3a362c5be7eb24880f2f6434ce5274e80f2006aeae8d668fb7dfc0", func := "loop.example/g01204/laws.FnExactUnitMat", spec := "fnExactUnitMat", apart := false }
def FnExactUnitMatSaid : Prop := fnExactUnitMatRow.holds Try.pinned (OpenSpec.ofChange fnExactUnitMatSpec)

/-- ITS FALSE NEIGHBOUR: 'it returns false'. Refute it at one input. -/
def fnExactUnitMatWrong : ChangeSpec := { name := "fnExactUnitMat", fn := fun _ => fun
  | [] => { results := [.lit (.bool false)], args := [] }
  | _ => none }
def FnExactUnitMatWrongFalsely : Prop := fnExactUnitMatRow.holds Try.pinned (OpenSpec.ofChange fnExactUnitMatWrong)

/-- 'laws.FnExactTraceOf': WHATEVER THE INPUT: true; the input reads as it did. -/
def fnExactTraceOfSpec : ChangeSpec := { name := "fnExactTraceOf", fn := fun _ => fun
  | [d] => { results := [.lit (.bool true)], args := [d] }
  | _ => none }
def fnExactTraceOfRow : OpenClaim := { program := "ytbcnafanjemaeab", sum := "ffc226739c3a362c5be7eb24880f2f6434ce5274e80f2006aeae8d668fb7dfc0", func := "loop.example/g01204/laws.FnExactTraceOf", spec := "fnExactTraceOf", apart := false }
def FnExactTraceOfSaid : Prop := fnExactTraceOfRow.holds Try.pinned (OpenSpec.ofChange fnExactTraceOfSpec)

/-- ITS FALSE NEIGHBOUR: 'it returns false'. Refute it at one input. -/
def fnExactTraceOfWrong : ChangeSpec := { name := "fnExactTraceOf", fn := fun _ => fun
  | [d] => { results := [.lit (.bool false)], args := [d] }
  | _ => none }
def FnExactTraceOfWrongFalsely : Prop := fnExactTraceOfRow.holds Try.pinned (OpenSpec.ofChange fnExactTraceOfWrong)

/- THE SECOND FORM. 'bulk': how many values and letters a reading holds, each counted each time it is reached (what is shared counts as often as it is met; a slice's spare places count too). A statement '..UptoSaid' is the law's where the arguments, and the package variables that the reading takes, are together of bulk at most 1048576: NARROWER than '..Said'. Prove '..Said' where nothing that the law and all that it calls make is longer than what came in: it says more and counts as full. Else prove '..UptoSaid'. A law counts once. -/
mutual
def uptoBulk {H : Type} : DataW H → Nat
  | .lit (.string bytes) => bytes.length + 1
  | .lit _ => 1
  | .nil => 1
  | .ptr d => uptoBulk d + 1
  | .slice elems spare => uptoBulkAll elems + uptoBulkAll spare + 1
  | .agg parts => uptoBulkAll parts + 1
  | .iface _ d => uptoBulk d + 1
  | .map entries => uptoBulkEntries entries + 1
  | .held _ => 1
def uptoBulkAll {H : Type} : List (DataW H) → Nat
  | [] => 0
  | d :: r => uptoBulk d + uptoBulkAll r
def uptoBulkEntries {H : Type} : List (Lit × DataW H) → Nat
  | [] => 0
  | x :: r => uptoBulkEntry x + uptoBulkEntries r
def uptoBulkEntry {H : Type} : Lit × DataW H → Nat
  | (.string bytes, d) => bytes.length + uptoBulk d + 1
  | (_, d) => uptoBulk d + 1
 end
def uptoSmall : (H : Type) → List (DataW H) → Bool := fun _ ds => decide (uptoBulkAll ds ≤ 1048576)
def OpenSpec.upto (s : _root_.Go.ChangeSpec) : _root_.Go.OpenSpec := { _root_.Go.OpenSpec.ofChange s with cond := some uptoSmall }

/-- 'laws.FnExactSolveMat', WHERE WHAT IT READS IS OF BULK AT MOST 1048576: true; the input reads as it did. -/
def fnExactSolveMatUptoRow : OpenClaim := { program := "ytbcnafanjemaeab", sum := "ffc226739c3a362c5be7eb24880f2f6434ce5274e80f2006aeae8d668fb7dfc0", func := "loop.example/g01204/laws.FnExactSolveMat", spec := "fnExactSolveMat", inPlace := ["math.Float32bits", "math.Float32frombits", "math.Float64bits", "math.Float64frombits"], apart := false, narrowed := true }
def FnExactSolveMatUptoSaid : Prop := fnExactSolveMatUptoRow.holds Try.pinned (OpenSpec.upto fnExactSolveMatSpec)

/-- 'laws.FnExactInverseMat', WHERE WHAT IT READS IS OF BULK AT MOST 1048576: true; the input reads as it did. -/
def fnExactInverseMatUptoRow : OpenClaim := { program := "ytbcnafanjemaeab", sum := "ffc226739c3a362c5be7eb24880f2f6434ce5274e80f2006aeae8d668fb7dfc0", func := "loop.example/g01204/laws.FnExactInverseMat", spec := "fnExactInverseMat", inPlace := ["math.Float32bits", "math.Float32frombits", "math.Float64bits", "math.Float64frombits"], apart := false, narrowed := true }
def FnExactInverseMatUptoSaid : Prop := fnExactInverseMatUptoRow.holds Try.pinned (OpenSpec.upto fnExactInverseMatSpec)

/-- 'laws.FnExactRootMat', WHERE WHAT IT READS IS OF BULK AT MOST 1048576: true; the input reads as it did. -/
def fnExactRootMatUptoRow : OpenClaim := { program := "ytbcnafanjemaeab", sum := "ffc226739c3a362c5be7eb24880f2f6434ce5274e80f2006aeae8d668fb7dfc0", func := "loop.example/g01204/laws.FnExactRootMat", spec := "fnExactRootMat", inPlace := ["math.sqrt", "math.Float64bits", "math.Float64frombits"], apart := false, narrowed := true }
def FnExactRootMatUptoSaid : Prop := fnExactRootMatUptoRow.holds Try.pinned (OpenSpec.upto fnExactRootMatSpec)

/-- 'laws.FnExactNumberText', WHERE WHAT IT READS IS OF BULK AT MOST 1048576: true; the input reads as it did. -/
def fnExactNumberTextUptoRow : OpenClaim := { program := "ytbcnafanjemaeab", sum := "ffc226739c3a362c5be7eb24880f2f6434ce5274e80f2006aeae8d668fb7dfc0", func := "loop.example/g01204/laws.FnExactNumberText", spec := "fnExactNumberText", inPlace := ["math.Float32bits"], apart := false, narrowed := true }
def FnExactNumberTextUptoSaid : Prop := fnExactNumberTextUptoRow.holds Try.pinned (OpenSpec.upto fnExactNumberTextSpec)

/-- 'laws.FnExactVecText', WHERE WHAT IT READS IS OF BULK AT MOST 1048576: true; the input reads as it did. -/
def fnExactVecTextUptoRow : OpenClaim := { program := "ytbcnafanjemaeab", sum := "ffc226739c3a362c5be7eb24880f2f6434ce5274e80f2006aeae8d668fb7dfc0", func := "loop.example/g01204/laws.FnExactVecText", spec := "fnExactVecText", inPlace := ["math.Float32bits", "internal/abi.NoEscape", "internal/bytealg.MakeNoZero"], apart := false, narrowed := true }
def FnExactVecTextUptoSaid : Prop := fnExactVecTextUptoRow.holds Try.pinned (OpenSpec.upto fnExactVecTextSpec)

/-- 'laws.FnExactMatText', WHERE WHAT IT READS IS OF BULK AT MOST 1048576: true; the input reads as it did. -/
def fnExactMatTextUptoRow : OpenClaim := { program := "ytbcnafanjemaeab", sum := "ffc226739c3a362c5be7eb24880f2f6434ce5274e80f2006aeae8d668fb7dfc0", func := "loop.example/g01204/laws.FnExactMatText", spec := "fnExactMatText", inPlace := ["math.Float32bits", "internal/abi.NoEscape", "internal/bytealg.MakeNoZero"], apart := false, narrowed := true }
def FnExactMatTextUptoSaid : Prop := fnExactMatTextUptoRow.holds Try.pinned (OpenSpec.upto fnExactMatTextSpec)

/-- 'laws.FnExactTransposeMat', WHERE WHAT IT READS IS OF BULK AT MOST 1048576: true; the input reads as it did. -/
def fnExactTransposeMatUptoRow : OpenClaim := { program := "ytbcnafanjemaeab", sum := "ffc226739c3a362c5be7eb24880f2f6434ce5274e80f2006aeae8d668fb7dfc0", func := "loop.example/g01204/laws.FnExactTransposeMat", spec := "fnExactTransposeMat", apart := false, narrowed := true }
def FnExactTransposeMatUptoSaid : Prop := fnExactTransposeMatUptoRow.holds Try.pinned (OpenSpec.upto fnExactTransposeMatSpec)

/-- 'laws.FnExactUnitMat', WHERE WHAT IT READS IS OF BULK AT MOST 1048576: true; the input reads as it did. -/
def fnExactUnitMatUptoRow : OpenClaim := { program := "ytbcnafanjemaeab", sum := "ffc226739c3a362c5be7eb24880f2f6434ce5274e80f2006aeae8d668fb7dfc0", func := "loop.example/g01204/laws.FnExactUnitMat", spec := "fnExactUnitMat", apart := false, narrowed := true }
def FnExactUnitMatUptoSaid : Prop := fnExactUnitMatUptoRow.holds Try.pinned (OpenSpec.upto fnExactUnitMatSpec)

/-- 'laws.FnExactTraceOf', WHERE WHAT IT READS IS OF BULK AT MOST 1048576: true; the input reads as it did. -/
def fnExactTraceOfUptoRow : OpenClaim := { program := "ytbcnafanjemaeab", sum := "ffc226739c3a362c5be7eb24880f2f6434ce5274e80f2006aeae8d668fb7dfc0", func := "loop.example/g01204/laws.FnExactTraceOf", spec := "fnExactTraceOf", apart := false, narrowed := true }
def FnExactTraceOfUptoSaid : Prop := fnExactTraceOfUptoRow.holds Try.pinned (OpenSpec.upto fnExactTraceOfSpec)

end Rows
end Go.Proofs.Ytbcnafanjemaeab
