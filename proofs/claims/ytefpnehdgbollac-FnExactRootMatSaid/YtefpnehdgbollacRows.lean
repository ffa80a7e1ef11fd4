/-
  No cell of these rows narrows 'for every input' (looked for: loops, veiled, ifaces, maps, wideKeys, modest, calm, conditions, laid).
  DERIVED. THE GIVEN ROWS OF THIS SEAT. 6 by the template 'for every input the law returns true; each argument reads behind the call as it read before'; 0 by the template 'total and deterministic' (their statements: YtefpnehdgbollacTotals.lean).
  GIVEN WITH THE SEED: the statements are not yours to turn. If you find one false, say at which input.
  Laid BY PROGRAM, IN A SANDBOX (cutbox-rows.mjs): the forced cells as the released guide's own fill.sh prints them over the translation c0d2dad4b6152fbf… (all of the seat's roots in one cut). By AI agents, Wed Nov 11 2026. No macro, syntax, notation, axiom, sorry.
-/
import Derived.Test.YtefpnehdgbollacChecked
import GoSem.Claim
import GoSem.ClaimJoined
import GoSem.ClaimMapViews
import Derived.JoinedTies
import Derived.KernelRfl
namespace Go.Proofs.Ytefpnehdgbollac
/- THE CELL 'sum', in the pinned program and in every row, IS THE sha256 OF THE DUMP (.gsa) THAT YtefpnehdgbollacProg.lean LOADS. Nothing in Lean hashes anything: it is a label: what it is worth is what the hold of that sum in a sandbox is worth. -/
noncomputable def Try.pinned : Pinned := { name := "ytefpnehdgbollac", sum := "c0d2dad4b6152fbfc44af1bf6e1cbd713559578e70a51c5b74ff14a28ffac523", checked := Try.checked }
namespace Rows
def none {H : Type} : Left H := { results := [], args := [] }

/-- 'laws.FnExactSolveMat': WHATEVER THE INPUT: true; the input reads as it did. -/
def fnExactSolveMatSpec : ChangeSpec := { name := "fnExactSolveMat", fn := fun _ => fun
  | [d1, d2] => { results := [.lit (.bool true)], args := [d1, d2] }
  | _ => none }
def fnExactSolveMatRow : OpenClaim := { program := "ytefpnehdgbollac", sum := "c0d2dad4b6152fbfc44af1bf6e1cbd713559578e70a51c5b74ff14a28ffac523", func := "loop.example/g01204/laws.FnExactSolveMat", spec := "fnExactSolveMat", inPlace := ["math.Float32bits", "math.Float32frombits", "math.Float64bits", "math.Float64frombits"], apart := false }
def FnExactSolveMatSaid : Prop := fnExactSolveMatRow.holds Try.pinned (OpenSpec.ofChange fnExactSolveMatSpec)

/-- ITS FALSE NEIGHBOUR: 'it returns false'. Refute it at one input. -/
def fnExactSolveMatWrong : ChangeSpec := { name := "fnExactSolveMat", fn := fun _ => fun
  | [d1, d2] => { results := [.lit (.bool false)], args := [d1, d2] }
  | _ => none }
def FnExactSolveMatWrongFalsely : Prop := fnExactSolveMatRow.holds Try.pinned (OpenSpec.ofChange fnExactSolveMatWrong)

/-- 'laws.FnExactInverseMat': WHATEVER THE INPUT: true; the input reads as it did. -/
def fnExactInverseMatSpec : ChangeSpec := { name := "fnExactInverseMat", fn := fun _ => fun
  | [d] => { results := [.lit (.bool true)], args := [d] }
  | _ => none }
def fnExactInverseMatRow : OpenClaim := { program := "ytefpnehdgbollac", sum := "c0d2dad4b6152fbfc44af1bf6e1cbd713559578e70a51c5b74ff14a28ffac523", func := "loop.example/g01204/laws.FnExactInverseMat", spec := "fnExactInverseMat", inPlace := ["math.Float32bits", "math.Float32frombits", "math.Float64bits", "math.Float64frombits"], apart := false }
def FnExactInverseMatSaid : Prop := fnExactInverseMatRow.holds Try.pinned (OpenSpec.ofChange fnExactInverseMatSpec)

/-- ITS FALSE NEIGHBOUR: 'it returns false'. Refute it at one input. -/
def fnExactInverseMatWrong : ChangeSpec := { name := "fnExactInverseMat", fn := fun _ => fun
  | [d] => { results := [.lit (.bool false)], args := [d] }
  | _ => none }
def FnExactInverseMatWrongFalsely : Prop := fnExactInverseMatRow.holds Try.pinned (OpenSpec.ofChange fnExactInverseMatWrong)

/-- 'laws.FnExactRootMat': WHATEVER THE INPUT: true; the input reads as it did. -/
def fnExactRootMatSpec : ChangeSpec := { name := "fnExactRootMat", fn := fun _ => fun
  | [d] => { results := [.lit (.bool true)], args := [d] }
  | _ => none }
def fnExactRootMatRow : OpenClaim := { program := "ytefpnehdgbollac", sum := "c0d2dad4b6152fbfc44af1bf6e1cbd713559578e70a51c5b74ff14a28ffac523", func := "loop.example/g01204/laws.FnExactRootMat", spec := "fnExactRootMat", inPlace := ["math.sqrt", "math.Float64bits", "math.Float64frombits"], apart := false }
def FnExactRootMatSaid : Prop := fnExactRootMatRow.holds Try.pinned (OpenSpec.ofChange fnExactRootMatSpec)

/-- ITS FALSE NEIGHBOUR: 'it returns false'. Refute it at one input. -/
def fnExactRootMatWrong : ChangeSpec := { name := "fnExactRootMat", fn := fun _ => fun
  | [d] => { results := [.lit (.bool false)], args := [d] }
  | _ => none }
def FnExactRootMatWrongFalsely : Prop := fnExactRootMatRow.holds Try.pinned (OpenSpec.ofChange fnExactRootMatWrong)

/-- 'laws.FnExactNumberText': WHATEVER THE INPUT: true; the input reads as it did. -/
def fnExactNumberTextSpec : ChangeSpec := { name := "fnExactNumberText", fn := fun _ => fun
  | [d] => { results := [.lit (.bool true)], args := [d] }
  | _ => none }
def fnExactNumberTextRow : OpenClaim := { program := "ytefpnehdgbollac", sum := "c0d2dad4b6152fbfc44af1bf6e1cbd713559578e70a51c5b74ff14a28ffac523", func := "loop.example/g01204/laws.FnExactNumberText", spec := "fnExactNumberText", inPlace := ["math.Float32bits"], apart := false }
def FnExactNumberTextSaid : Prop := fnExactNumberTextRow.holds Try.pinned (OpenSpec.ofChange fnExactNumberTextSpec)

/-- ITS FALSE NEIGHBOUR: 'it returns false'. Refute it at one input. -/
def fnExactNumberTextWrong : ChangeSpec := { name := "fnExactNumberText", fn := fun _ => fun
  | [d] => { results := [.lit (.bool false)], args := [d] }
  | _ => none }
def FnExactNumberTextWrongFalsely : Prop := fnExactNumberTextRow.holds Try.pinned (OpenSpec.ofChange fnExactNumberTextWrong)

/-- 'laws.FnExactVecText': WHATEVER THE INPUT: true; the input reads as it did. -/
def fnExactVecTextSpec : ChangeSpec := { name := "fnExactVecText", fn := fun _ => fun
  | [d] => { results := [.lit (.bool true)], args := [d] }
  | _ => none }
def fnExactVecTextRow : OpenClaim := { program := "ytefpnehdgbollac", sum := "c0d2dad4b6152fbfc44af1bf6e1cbd713559578e70a51c5b74ff14a28ffac523", func := "loop.example/g01204/laws.FnExactVecText", spec := "fnExactVecText", inPlace := ["math.Float32bits", "internal/abi.NoEscape", "internal/bytealg.MakeNoZero"], apart := false }
def FnExactVecTextSaid : Prop := fnExactVecTextRow.holds Try.pinned (OpenSpec.ofChange fnExactVecTextSpec)

/-- ITS FALSE NEIGHBOUR: 'it returns false'. Refute it at one input. -/
def fnExactVecTextWrong : ChangeSpec := { name := "fnExactVecText", fn := fun _ => fun
  | [d] => { results := [.lit (.bool false)], args := [d] }
  | _ => none }
def FnExactVecTextWrongFalsely : Prop := fnExactVecTextRow.holds Try.pinned (OpenSpec.ofChange fnExactVecTextWrong)

/-- 'laws.FnExactMatText': WHATEVER THE INPUT: true; the input reads as it did. -/
def fnExactMatTextSpec : ChangeSpec := { name := "fnExactMatText", fn := fun _ => fun
  | [d] => { results := [.lit (.bool true)], args := [d] }
  | _ => none }
def fnExactMatTextRow : OpenClaim := { program := "ytefpnehdgbollac", sum := "c0d2dad4b6152fbfc44af1bf6e1cbd713559578e70a51c5b74ff14a28ffac523", func := "loop.example/g01204/laws.FnExactMatText", spec := "fnExactMatText", inPlace := ["math.Float32bits", "internal/abi.NoEscape", "internal/bytealg.MakeNoZero"], apart := false }
def FnExactMatTextSaid : Prop := fnExactMatTextRow.holds Try.pinned (OpenSpec.ofChange fnExactMatTextSpec)

/-- ITS FALSE NEIGHBOUR: 'it returns false'. Refute it at one input. -/
def fnExactMatTextWrong : ChangeSpec := { name := "fnExactMatText", fn := fun _ => fun
  | [d] => { results := [.lit (.bool false)], args := [d] }
  | _ => none }
def FnExactMatTextWrongFalsely : Prop := fnExactMatTextRow.holds Try.pinned (OpenSpec.ofChange fnExactMatTextWrong)

/- THE SECOND FORM. 'bulk': how many values and letters a reading holds, each counted each time it is reached (what is shared counts as often as it is met; a slice's spare places count too). A statement '..UptoSaid' is the law's where the arguments, and the package variables that the reading takes, are together of bulk at most 1048576: NARROWER than '..Said'. Prove '..Said' where nothing that the law and all that it calls make is longer than what came in: it says more and counts as full. Else prove '..UptoSaid'. A law counts once. -/
mutual
def uptoBulk {H : Type} : DataW H → Nat
  | .lit (.string bytes) => bytes.length + 1
  | .lit _ => 1
  | .nil => 1
  | .ptr d => uptoBulk d + 1
  | .slice elems spare => uptoBulkAll elems + uptoBulkAll spare + 1
  | .agg parts => uptoBulkAll parts + 1
  | .iface _ d => uptoBulk d + 1
  | .map entries => uptoBulkEntries entries + 1
  | .held _ => 1
def uptoBulkAll {H : Type} : List (DataW H) → Nat
  | [] => 0
  | d :: r => uptoBulk d + uptoBulkAll r
def uptoBulkEntries {H : Type} : List (Lit × DataW H) → Nat
  | [] => 0
  | x :: r => uptoBulkEntry x + uptoBulkEntries r
def uptoBulkEntry {H : Type} : Lit × DataW H → Nat
  | (.string bytes, d) => bytes.length + uptoBulk d + 1
  | (_, d) => uptoBulk d + 1
 end
def uptoSmall : (H : Type) → List (DataW H) → Bool := fun _ ds => decide (uptoBulkAll ds ≤ 1048576)
def OpenSpec.upto (s : _root_.Go.ChangeSpec) : _root_.Go.OpenSpec := { _root_.Go.OpenSpec.ofChange s with cond := some uptoSmall }

/-- 'laws.FnExactSolveMat', WHERE WHAT IT READS IS OF BULK AT MOST 1048576: true; the input reads as it did. -/
def fnExactSolveMatUptoRow : OpenClaim := { program := "ytefpnehdgbollac", sum := "c0d2dad4b6152fbfc44af1bf6e1cbd713559578e70a51c5b74ff14a28ffac523", func := "loop.example/g01204/laws.FnExactSolveMat", spec := "fnExactSolveMat", inPlace := ["math.Float32bits", "math.Float32frombits", "math.Float64bits", "math.Float64frombits"], apart := false, narrowed := true }
def FnExactSolveMatUptoSaid : Prop := fnExactSolveMatUptoRow.holds Try.pinned (OpenSpec.upto fnExactSolveMatSpec)

/-- 'laws.FnExactInverseMat', WHERE WHAT IT READS IS OF BULK AT MOST 1048576: true; the input reads as it did. -/
def fnExactInverseMatUptoRow : OpenClaim := { program := "ytefpnehdgbollac", sum := "c0d2dad4b6152fbfc44af1bf6e1cbd713559578e70a51c5b74ff14a28ffac523", func := "loop.example/g01204/laws.FnExactInverseMat", spec := "fnExactInverseMat", inPlace := ["math.Float32bits", "math.Float32frombits", "math.Float64bits", "math.Float64frombits"], apart := false, narrowed := true }
def FnExactInverseMatUptoSaid : Prop := fnExactInverseMatUptoRow.holds Try.pinned (OpenSpec.upto fnExactInverseMatSpec)

/-- 'laws.FnExactRootMat', WHERE WHAT IT READS IS OF BULK AT MOST 1048576: true; the input reads as it did. -/
def fnExactRootMatUptoRow : OpenClaim := { program := "ytefpnehdgbollac", sum := "c0d2dad4b6152fbfc44af1bf6e1cbd713559578e70a51c5b74ff14a28ffac523", func := "loop.example/g01204/laws.FnExactRootMat", spec := "fnExactRootMat", inPlace := ["math.sqrt", "math.Float64bits", "math.Float64frombits"], apart := false, narrowed := true }
def FnExactRootMatUptoSaid : Prop := fnExactRootMatUptoRow.holds Try.pinned (OpenSpec.upto fnExactRootMatSpec)

/-- 'laws.FnExactNumberText', WHERE WHAT IT READS IS OF BULK AT MOST 1048576: true; the input reads as it did. -/
def fnExactNumberTextUptoRow : OpenClaim := { program := "ytefpnehdgbollac", sum := "c0d2dad4b6152fbfc44af1bf6e1cbd713559578e70a51c5b74ff14a28ffac523", func := "loop.example/g01204/laws.FnExactNumberText", spec := "fnExactNumberText", inPlace := ["math.Float32bits"], apart := false, narrowed := true }
def FnExactNumberTextUptoSaid : Prop := fnExactNumberTextUptoRow.holds Try.pinned (OpenSpec.upto fnExactNumberTextSpec)

/-- 'laws.FnExactVecText', WHERE WHAT IT READS IS OF BULK AT MOST 1048576: true; the input reads as it did. -/
def fnExactVecTextUptoRow : OpenClaim := { program := "ytefpnehdgbollac", sum := "c0d2dad4b6152fbfc44af1bf6e1cbd713559578e70a51c5b74ff14a28ffac523", func := "loop.example/g01204/laws.FnExactVecText", spec := "fnExactVecText", inPlace := ["math.Float32bits", "internal/abi.NoEscape", "internal/bytealg.MakeNoZero"], apart := false, narrowed := true }
def FnExactVecTextUptoSaid : Prop := fnExactVecTextUptoRow.holds Try.pinned (OpenSpec.upto fnExactVecTextSpec)

/-- 'laws.FnExactMatText', WHERE WHAT IT READS IS OF BULK AT MOST 1048576: true; the input reads as it did. -/
def fnExactMatTextUptoRow : OpenClaim := { program := "ytefpnehdgbollac", sum := "c0d2dad4b6152fbfc44af1bf6e1cbd713559578e70a51c5b74ff14a28ffac523", func := "loop.example/g01204/laws.FnExactMatText", spec := "fnExactMatText", inPlace := ["math.Float32bits", "internal/abi.NoEscape", "internal/bytealg.MakeNoZero"], apart := false, narrowed := true }
def FnExactMatTextUptoSaid : Prop := fnExactMatTextUptoRow.holds Try.pinned (OpenSpec.upto fnExactMatTextSpec)

end Rows
end Go.Proofs.Ytefpnehdgbollac
