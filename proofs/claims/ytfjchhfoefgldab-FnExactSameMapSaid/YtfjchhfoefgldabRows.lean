/-
  No cell of these rows narrows 'for every input' (looked for: loops, veiled, ifaces, maps, wideKeys, modest, calm, conditions, laid).
  DERIVED. THE GIVEN ROWS OF THIS SEAT. 12 by the template 'for every input the law returns true; each argument reads behind the call as it read before'; 0 by the template 'total and deterministic' (their statements: YtfjchhfoefgldabTotals.lean).
  GIVEN WITH THE SEED: the statements are not yours to turn. If you find one false, say at which input.
  Laid BY PROGRAM, IN A SANDBOX (cutbox-rows.mjs): the forced cells as the released guide's own fill.sh prints them over the translation b63a4ead9bcab649… (all of the seat's roots in one cut). By AI agents, Wed Nov 11 2026. No macro, syntax, notation, axiom, sorry.
-/
import Derived.Test.YtfjchhfoefgldabChecked
import GoSem.Claim
import GoSem.ClaimJoined
import GoSem.ClaimMapViews
import Derived.JoinedTies
import Derived.KernelRfl
namespace Go.Proofs.Ytfjchhfoefgldab
/- THE CELL 'sum', in the pinned program and in every row, IS THE sha256 OF THE DUMP (.gsa) THAT YtfjchhfoefgldabProg.lean LOADS. Nothing in Lean hashes anything: it is a label: what it is worth is what the hold of that sum in a sandbox is worth. -/
noncomputable def Try.pinned : Pinned := { name := "ytfjchhfoefgldab", sum := "b63a4ead9bcab649f1225efe27b3a7f90a18e71ea85623e9f138e55bc0c90b29", checked := Try.checked }
namespace Rows
def none {H : Type} : Left H := { results := [], args := [] }

/-- 'laws.FnExactValidMap': WHATEVER THE INPUT: true; the input reads as it did. -/
def fnExactValidMapSpec : ChangeSpec := { name := "fnExactValidMap", fn := fun _ => fun
  | [d] => { results := [.lit (.bool true)], args := [d] }
  | _ => none }
def fnExactValidMapRow : OpenClaim := { program := "ytfjchhfoefgldab", sum := "b63a4ead9bcab649f1225efe27b3a7f90a18e71ea85623e9f138e55bc0c90b29", func := "loop.example/g01204/laws.FnExactValidMap", spec := "fnExactValidMap", inPlace := ["math.Float64bits", "math.Float64frombits"], apart := false }
def FnExactValidMapSaid : Prop := fnExactValidMapRow.holds Try.pinned (OpenSpec.ofChange fnExactValidMapSpec)

/-- ITS FALSE NEIGHBOUR: 'it returns false'. Refute it at one input. -/
def fnExactValidMapWrong : ChangeSpec := { name := "fnExactValidMap", fn := fun _ => fun
  | [d] => { results := [.lit (.bool false)], args := [d] }
  | _ => none }
def FnExactValidMapWrongFalsely : Prop := fnExactValidMapRow.holds Try.pinned (OpenSpec.ofChange fnExactValidMapWrong)

/-- 'laws.FnExactSameMap': WHATEVER THE INPUT: true; the input reads as it did. -/
def fnExactSameMapSpec : ChangeSpec := { name := "fnExactSameMap", fn := fun _ => fun
  | [d1, d2] => { results := [.lit (.bool true)], args := [d1, d2] }
  | _ => none }
def fnExactSameMapRow : OpenClaim := { program := "ytfjchhfoefgldab", sum := "b63a4ead9bcab649f1225efe27b3a7f90a18e71ea85623e9f138e55bc0c90b29", func := "loop.example/g01204/laws.FnExactSameMap", spec := "fnExactSameMap", inPlace := ["math.Float32bits"], unfollowed := true, recurses := true, apart := false }
def FnExactSameMapSaid : Prop := fnExactSameMapRow.holds Try.pinned (OpenSpec.ofChange fnExactSameMapSpec)

/-- ITS FALSE NEIGHBOUR: 'it returns false'. Refute it at one input. -/
def fnExactSameMapWrong : ChangeSpec := { name := "fnExactSameMap", fn := fun _ => fun
  | [d1, d2] => { results := [.lit (.bool false)], args := [d1, d2] }
  | _ => none }
def FnExactSameMapWrongFalsely : Prop := fnExactSameMapRow.holds Try.pinned (OpenSpec.ofChange fnExactSameMapWrong)

/-- 'laws.FnExactForgetBefore': WHATEVER THE INPUT: true; the input reads as it did. -/
def fnExactForgetBeforeSpec : ChangeSpec := { name := "fnExactForgetBefore", fn := fun _ => fun
  | [d1, d2] => { results := [.lit (.bool true)], args := [d1, d2] }
  | _ => none }
def fnExactForgetBeforeRow : OpenClaim := { program := "ytfjchhfoefgldab", sum := "b63a4ead9bcab649f1225efe27b3a7f90a18e71ea85623e9f138e55bc0c90b29", func := "loop.example/g01204/laws.FnExactForgetBefore", spec := "fnExactForgetBefore", inPlace := ["math.Float64bits", "math.Float64frombits"], unfollowed := true, recurses := true, apart := false }
def FnExactForgetBeforeSaid : Prop := fnExactForgetBeforeRow.holds Try.pinned (OpenSpec.ofChange fnExactForgetBeforeSpec)

/-- ITS FALSE NEIGHBOUR: 'it returns false'. Refute it at one input. -/
def fnExactForgetBeforeWrong : ChangeSpec := { name := "fnExactForgetBefore", fn := fun _ => fun
  | [d1, d2] => { results := [.lit (.bool false)], args := [d1, d2] }
  | _ => none }
def FnExactForgetBeforeWrongFalsely : Prop := fnExactForgetBeforeRow.holds Try.pinned (OpenSpec.ofChange fnExactForgetBeforeWrong)

/-- 'laws.FnExactLeaveLighter': WHATEVER THE INPUT: true; the input reads as it did. -/
def fnExactLeaveLighterSpec : ChangeSpec := { name := "fnExactLeaveLighter", fn := fun _ => fun
  | [d1, d2] => { results := [.lit (.bool true)], args := [d1, d2] }
  | _ => none }
def fnExactLeaveLighterRow : OpenClaim := { program := "ytfjchhfoefgldab", sum := "b63a4ead9bcab649f1225efe27b3a7f90a18e71ea85623e9f138e55bc0c90b29", func := "loop.example/g01204/laws.FnExactLeaveLighter", spec := "fnExactLeaveLighter", inPlace := ["math.Float64bits", "math.Float64frombits"], unfollowed := true, recurses := true, apart := false }
def FnExactLeaveLighterSaid : Prop := fnExactLeaveLighterRow.holds Try.pinned (OpenSpec.ofChange fnExactLeaveLighterSpec)

/-- ITS FALSE NEIGHBOUR: 'it returns false'. Refute it at one input. -/
def fnExactLeaveLighterWrong : ChangeSpec := { name := "fnExactLeaveLighter", fn := fun _ => fun
  | [d1, d2] => { results := [.lit (.bool false)], args := [d1, d2] }
  | _ => none }
def FnExactLeaveLighterWrongFalsely : Prop := fnExactLeaveLighterRow.holds Try.pinned (OpenSpec.ofChange fnExactLeaveLighterWrong)

/-- 'laws.FnExactMarksWithin': WHATEVER THE INPUT: true; the input reads as it did. -/
def fnExactMarksWithinSpec : ChangeSpec := { name := "fnExactMarksWithin", fn := fun _ => fun
  | [d1, d2, d3] => { results := [.lit (.bool true)], args := [d1, d2, d3] }
  | _ => none }
def fnExactMarksWithinRow : OpenClaim := { program := "ytfjchhfoefgldab", sum := "b63a4ead9bcab649f1225efe27b3a7f90a18e71ea85623e9f138e55bc0c90b29", func := "loop.example/g01204/laws.FnExactMarksWithin", spec := "fnExactMarksWithin", inPlace := ["math.sqrt", "math.Float64bits", "math.Float64frombits"], unfollowed := true, recurses := true, apart := false }
def FnExactMarksWithinSaid : Prop := fnExactMarksWithinRow.holds Try.pinned (OpenSpec.ofChange fnExactMarksWithinSpec)

/-- ITS FALSE NEIGHBOUR: 'it returns false'. Refute it at one input. -/
def fnExactMarksWithinWrong : ChangeSpec := { name := "fnExactMarksWithin", fn := fun _ => fun
  | [d1, d2, d3] => { results := [.lit (.bool false)], args := [d1, d2, d3] }
  | _ => none }
def FnExactMarksWithinWrongFalsely : Prop := fnExactMarksWithinRow.holds Try.pinned (OpenSpec.ofChange fnExactMarksWithinWrong)

/-- 'laws.FnExactCentreOf': WHATEVER THE INPUT: true; the input reads as it did. -/
def fnExactCentreOfSpec : ChangeSpec := { name := "fnExactCentreOf", fn := fun _ => fun
  | [d] => { results := [.lit (.bool true)], args := [d] }
  | _ => none }
def fnExactCentreOfRow : OpenClaim := { program := "ytfjchhfoefgldab", sum := "b63a4ead9bcab649f1225efe27b3a7f90a18e71ea85623e9f138e55bc0c90b29", func := "loop.example/g01204/laws.FnExactCentreOf", spec := "fnExactCentreOf", inPlace := ["math.Float64bits", "math.Float64frombits"], apart := false }
def FnExactCentreOfSaid : Prop := fnExactCentreOfRow.holds Try.pinned (OpenSpec.ofChange fnExactCentreOfSpec)

/-- ITS FALSE NEIGHBOUR: 'it returns false'. Refute it at one input. -/
def fnExactCentreOfWrong : ChangeSpec := { name := "fnExactCentreOf", fn := fun _ => fun
  | [d] => { results := [.lit (.bool false)], args := [d] }
  | _ => none }
def FnExactCentreOfWrongFalsely : Prop := fnExactCentreOfRow.holds Try.pinned (OpenSpec.ofChange fnExactCentreOfWrong)

/-- 'laws.FnExactMarkIn': WHATEVER THE INPUT: true; the input reads as it did. -/
def fnExactMarkInSpec : ChangeSpec := { name := "fnExactMarkIn", fn := fun _ => fun
  | [d1, d2] => { results := [.lit (.bool true)], args := [d1, d2] }
  | _ => none }
def fnExactMarkInRow : OpenClaim := { program := "ytfjchhfoefgldab", sum := "b63a4ead9bcab649f1225efe27b3a7f90a18e71ea85623e9f138e55bc0c90b29", func := "loop.example/g01204/laws.FnExactMarkIn", spec := "fnExactMarkIn", inPlace := ["math.Float64bits", "math.Float64frombits"], unfollowed := true, recurses := true, apart := false }
def FnExactMarkInSaid : Prop := fnExactMarkInRow.holds Try.pinned (OpenSpec.ofChange fnExactMarkInSpec)

/-- ITS FALSE NEIGHBOUR: 'it returns false'. Refute it at one input. -/
def fnExactMarkInWrong : ChangeSpec := { name := "fnExactMarkIn", fn := fun _ => fun
  | [d1, d2] => { results := [.lit (.bool false)], args := [d1, d2] }
  | _ => none }
def FnExactMarkInWrongFalsely : Prop := fnExactMarkInRow.holds Try.pinned (OpenSpec.ofChange fnExactMarkInWrong)

/-- 'laws.FnExactNumberText': WHATEVER THE INPUT: true; the input reads as it did. -/
def fnExactNumberTextSpec : ChangeSpec := { name := "fnExactNumberText", fn := fun _ => fun
  | [d] => { results := [.lit (.bool true)], args := [d] }
  | _ => none }
def fnExactNumberTextRow : OpenClaim := { program := "ytfjchhfoefgldab", sum := "b63a4ead9bcab649f1225efe27b3a7f90a18e71ea85623e9f138e55bc0c90b29", func := "loop.example/g01204/laws.FnExactNumberText", spec := "fnExactNumberText", inPlace := ["math.Float32bits"], apart := false }
def FnExactNumberTextSaid : Prop := fnExactNumberTextRow.holds Try.pinned (OpenSpec.ofChange fnExactNumberTextSpec)

/-- ITS FALSE NEIGHBOUR: 'it returns false'. Refute it at one input. -/
def fnExactNumberTextWrong : ChangeSpec := { name := "fnExactNumberText", fn := fun _ => fun
  | [d] => { results := [.lit (.bool false)], args := [d] }
  | _ => none }
def FnExactNumberTextWrongFalsely : Prop := fnExactNumberTextRow.holds Try.pinned (OpenSpec.ofChange fnExactNumberTextWrong)

/-- 'laws.FnExactVecText': WHATEVER THE INPUT: true; the input reads as it did. -/
def fnExactVecTextSpec : ChangeSpec := { name := "fnExactVecText", fn := fun _ => fun
  | [d] => { results := [.lit (.bool true)], args := [d] }
  | _ => none }
def fnExactVecTextRow : OpenClaim := { program := "ytfjchhfoefgldab", sum := "b63a4ead9bcab649f1225efe27b3a7f90a18e71ea85623e9f138e55bc0c90b29", func := "loop.example/g01204/laws.FnExactVecText", spec := "fnExactVecText", inPlace := ["math.Float32bits", "internal/abi.NoEscape", "internal/bytealg.MakeNoZero"], apart := false }
def FnExactVecTextSaid : Prop := fnExactVecTextRow.holds Try.pinned (OpenSpec.ofChange fnExactVecTextSpec)

/-- ITS FALSE NEIGHBOUR: 'it returns false'. Refute it at one input. -/
def fnExactVecTextWrong : ChangeSpec := { name := "fnExactVecText", fn := fun _ => fun
  | [d] => { results := [.lit (.bool false)], args := [d] }
  | _ => none }
def FnExactVecTextWrongFalsely : Prop := fnExactVecTextRow.holds Try.pinned (OpenSpec.ofChange fnExactVecTextWrong)

/-- 'laws.FnExactMatText': WHATEVER THE INPUT: true; the input reads as it did. -/
def fnExactMatTextSpec : ChangeSpec := { name := "fnExactMatText", fn := fun _ => fun
  | [d] => { results := [.lit (.bool true)], args := [d] }
  | _ => none }
def fnExactMatTextRow : OpenClaim := { program := "ytfjchhfoefgldab", sum := "b63a4ead9bcab649f1225efe27b3a7f90a18e71ea85623e9f138e55bc0c90b29", func := "loop.example/g01204/laws.FnExactMatText", spec := "fnExactMatText", inPlace := ["math.Float32bits", "internal/abi.NoEscape", "internal/bytealg.MakeNoZero"], apart := false }
def FnExactMatTextSaid : Prop := fnExactMatTextRow.holds Try.pinned (OpenSpec.ofChange fnExactMatTextSpec)

/-- ITS FALSE NEIGHBOUR: 'it returns false'. Refute it at one input. -/
def fnExactMatTextWrong : ChangeSpec := { name := "fnExactMatText", fn := fun _ => fun
  | [d] => { results := [.lit (.bool false)], args := [d] }
  | _ => none }
def FnExactMatTextWrongFalsely : Prop := fnExactMatTextRow.holds Try.pinned (OpenSpec.ofChange fnExactMatTextWrong)

/-- 'laws.FnExactTurnText': WHATEVER THE INPUT: true; the input reads as it did. -/
def fnExactTurnTextSpec : ChangeSpec := { name := "fnExactTurnText", fn := fun _ => fun
  | [d] => { results := [.lit (.bool true)], args := [d] }
  | _ => none }
def fnExactTurnTextRow : OpenClaim := { program := "ytfjchhfoefgldab", sum := "b63a4ead9bcab649f1225efe27b3a7f90a18e71ea85623e9f138e55bc0c90b29", func := "loop.example/g01204/laws.FnExactTurnText", spec := "fnExactTurnText", inPlace := ["math.Float32bits", "internal/abi.NoEscape", "internal/bytealg.MakeNoZero"], apart := false }
def FnExactTurnTextSaid : Prop := fnExactTurnTextRow.holds Try.pinned (OpenSpec.ofChange fnExactTurnTextSpec)

/-- ITS FALSE NEIGHBOUR: 'it returns false'. Refute it at one input. -/
def fnExactTurnTextWrong : ChangeSpec := { name := "fnExactTurnText", fn := fun _ => fun
  | [d] => { results := [.lit (.bool false)], args := [d] }
  | _ => none }
def FnExactTurnTextWrongFalsely : Prop := fnExactTurnTextRow.holds Try.pinned (OpenSpec.ofChange fnExactTurnTextWrong)

/-- 'laws.FnExactMeanOfFeed': WHATEVER THE INPUT: true; the input reads as it did. -/
def fnExactMeanOfFeedSpec : ChangeSpec := { name := "fnExactMeanOfFeed", fn := fun _ => fun
  | [d1, d2] => { results := [.lit (.bool true)], args := [d1, d2] }
  | _ => none }
def fnExactMeanOfFeedRow : OpenClaim := { program := "ytfjchhfoefgldab", sum := "b63a4ead9bcab649f1225efe27b3a7f90a18e71ea85623e9f138e55bc0c90b29", func := "loop.example/g01204/laws.FnExactMeanOfFeed", spec := "fnExactMeanOfFeed", inPlace := ["math.Float64bits", "math.Float64frombits"], apart := false }
def FnExactMeanOfFeedSaid : Prop := fnExactMeanOfFeedRow.holds Try.pinned (OpenSpec.ofChange fnExactMeanOfFeedSpec)

/-- ITS FALSE NEIGHBOUR: 'it returns false'. Refute it at one input. -/
def fnExactMeanOfFeedWrong : ChangeSpec := { name := "fnExactMeanOfFeed", fn := fun _ => fun
  | [d1, d2] => { results := [.lit (.bool false)], args := [d1, d2] }
  | _ => none }
def FnExactMeanOfFeedWrongFalsely : Prop := fnExactMeanOfFeedRow.holds Try.pinned (OpenSpec.ofChange fnExactMeanOfFeedWrong)

/- THE SECOND FORM. 'bulk': how many values and letters a reading holds, each counted each time it is reached (what is shared counts as often as it is met; a slice's spare places count too). A statement '..UptoSaid' is the law's where the arguments, and the package variables that the reading takes, are together of bulk at most 1048576: NARROWER than '..Said'. Prove '..Said' where nothing that the law and all that it calls make is longer than what came in: it says more and counts as full. Else prove '..UptoSaid'. A law counts once. -/
mutual
def uptoBulk {H : Type} : DataW H → Nat
  | .lit (.string bytes) => bytes.length + 1
  | .lit _ => 1
  | .nil => 1
  | .ptr d => uptoBulk d + 1
  | .slice elems spare => uptoBulkAll elems + uptoBulkAll spare + 1
  | .agg parts => uptoBulkAll parts + 1
  | .iface _ d => uptoBulk d + 1
  | .map entries => uptoBulkEntries entries + 1
  | .held _ => 1
def uptoBulkAll {H : Type} : List (DataW H) → Nat
  | [] => 0
  | d :: r => uptoBulk d + uptoBulkAll r
def uptoBulkEntries {H : Type} : List (Lit × DataW H) → Nat
  | [] => 0
  | x :: r => uptoBulkEntry x + uptoBulkEntries r
def uptoBulkEntry {H : Type} : Lit × DataW H → Nat
  | (.string bytes, d) => bytes.length + uptoBulk d + 1
  | (_, d) => uptoBulk d + 1
 end
def uptoSmall : (H : Type) → List (DataW H) → Bool := fun _ ds => decide (uptoBulkAll ds ≤ 1048576)
def OpenSpec.upto (s : _root_.Go.ChangeSpec) : _root_.Go.OpenSpec := { _root_.Go.OpenSpec.ofChange s with cond := some uptoSmall }

/-- 'laws.FnExactValidMap', WHERE WHAT IT READS IS OF BULK AT MOST 1048576: true; the input reads as it did. -/
def fnExactValidMapUptoRow : OpenClaim := { program := "ytfjchhfoefgldab", sum := "b63a4ead9bcab649f1225efe27b3a7f90a18e71ea85623e9f138e55bc0c90b29", func := "loop.example/g01204/laws.FnExactValidMap", spec := "fnExactValidMap", inPlace := ["math.Float64bits", "math.Float64frombits"], apart := false, narrowed := true }
def FnExactValidMapUptoSaid : Prop := fnExactValidMapUptoRow.holds Try.pinned (OpenSpec.upto fnExactValidMapSpec)

/-- 'laws.FnExactSameMap', WHERE WHAT IT READS IS OF BULK AT MOST 1048576: true; the input reads as it did. -/
def fnExactSameMapUptoRow : OpenClaim := { program := "ytfjchhfoefgldab", sum := "b63a4ead9bcab649f1225efe27b3a7f90a18e71ea85623e9f138e55bc0c90b29", func := "loop.example/g01204/laws.FnExactSameMap", spec := "fnExactSameMap", inPlace := ["math.Float32bits"], unfollowed := true, recurses := true, apart := false, narrowed := true }
def FnExactSameMapUptoSaid : Prop := fnExactSameMapUptoRow.holds Try.pinned (OpenSpec.upto fnExactSameMapSpec)

/-- 'laws.FnExactForgetBefore', WHERE WHAT IT READS IS OF BULK AT MOST 1048576: true; the input reads as it did. -/
def fnExactForgetBeforeUptoRow : OpenClaim := { program := "ytfjchhfoefgldab", sum := "b63a4ead9bcab649f1225efe27b3a7f90a18e71ea85623e9f138e55bc0c90b29", func := "loop.example/g01204/laws.FnExactForgetBefore", spec := "fnExactForgetBefore", inPlace := ["math.Float64bits", "math.Float64frombits"], unfollowed := true, recurses := true, apart := false, narrowed := true }
def FnExactForgetBeforeUptoSaid : Prop := fnExactForgetBeforeUptoRow.holds Try.pinned (OpenSpec.upto fnExactForgetBeforeSpec)

/-- 'laws.FnExactLeaveLighter', WHERE WHAT IT READS IS OF BULK AT MOST 1048576: true; the input reads as it did. -/
def fnExactLeaveLighterUptoRow : OpenClaim := { program := "ytfjchhfoefgldab", sum := "b63a4ead9bcab649f1225efe27b3a7f90a18e71ea85623e9f138e55bc0c90b29", func := "loop.example/g01204/laws.FnExactLeaveLighter", spec := "fnExactLeaveLighter", inPlace := ["math.Float64bits", "math.Float64frombits"], unfollowed := true, recurses := true, apart := false, narrowed := true }
def FnExactLeaveLighterUptoSaid : Prop := fnExactLeaveLighterUptoRow.holds Try.pinned (OpenSpec.upto fnExactLeaveLighterSpec)

/-- 'laws.FnExactMarksWithin', WHERE WHAT IT READS IS OF BULK AT MOST 1048576: true; the input reads as it did. -/
def fnExactMarksWithinUptoRow : OpenClaim := { program := "ytfjchhfoefgldab", sum := "b63a4ead9bcab649f1225efe27b3a7f90a18e71ea85623e9f138e55bc0c90b29", func := "loop.example/g01204/laws.FnExactMarksWithin", spec := "fnExactMarksWithin", inPlace := ["math.sqrt", "math.Float64bits", "math.Float64frombits"], unfollowed := true, recurses := true, apart := false, narrowed := true }
def FnExactMarksWithinUptoSaid : Prop := fnExactMarksWithinUptoRow.holds Try.pinned (OpenSpec.upto fnExactMarksWithinSpec)

/-- 'laws.FnExactCentreOf', WHERE WHAT IT READS IS OF BULK AT MOST 1048576: true; the input reads as it did. -/
def fnExactCentreOfUptoRow : OpenClaim := { program := "ytfjchhfoefgldab", sum := "b63a4ead9bcab649f1225efe27b3a7f90a18e71ea85623e9f138e55bc0c90b29", func := "loop.example/g01204/laws.FnExactCentreOf", spec := "fnExactCentreOf", inPlace := ["math.Float64bits", "math.Float64frombits"], apart := false, narrowed := true }
def FnExactCentreOfUptoSaid : Prop := fnExactCentreOfUptoRow.holds Try.pinned (OpenSpec.upto fnExactCentreOfSpec)

/-- 'laws.FnExactMarkIn', WHERE WHAT IT READS IS OF BULK AT MOST 1048576: true; the input reads as it did. -/
def fnExactMarkInUptoRow : OpenClaim := { program := "ytfjchhfoefgldab", sum := "b63a4ead9bcab649f1225efe27b3a7f90a18e71ea85623e9f138e55bc0c90b29", func := "loop.example/g01204/laws.FnExactMarkIn", spec := "fnExactMarkIn", inPlace := ["math.Float64bits", "math.Float64frombits"], unfollowed := true, recurses := true, apart := false, narrowed := true }
def FnExactMarkInUptoSaid : Prop := fnExactMarkInUptoRow.holds Try.pinned (OpenSpec.upto fnExactMarkInSpec)

/-- 'laws.FnExactNumberText', WHERE WHAT IT READS IS OF BULK AT MOST 1048576: true; the input reads as it did. -/
def fnExactNumberTextUptoRow : OpenClaim := { program := "ytfjchhfoefgldab", sum := "b63a4ead9bcab649f1225efe27b3a7f90a18e71ea85623e9f138e55bc0c90b29", func := "loop.example/g01204/laws.FnExactNumberText", spec := "fnExactNumberText", inPlace := ["math.Float32bits"], apart := false, narrowed := true }
def FnExactNumberTextUptoSaid : Prop := fnExactNumberTextUptoRow.holds Try.pinned (OpenSpec.upto fnExactNumberTextSpec)

/-- 'laws.FnExactVecText', WHERE WHAT IT READS IS OF BULK AT MOST 1048576: true; the input reads as it did. -/
def fnExactVecTextUptoRow : OpenClaim := { program := "ytfjchhfoefgldab", sum := "b63a4ead9bcab649f1225efe27b3a7f90a18e71ea85623e9f138e55bc0c90b29", func := "loop.example/g01204/laws.FnExactVecText", spec := "fnExactVecText", inPlace := ["math.Float32bits", "internal/abi.NoEscape", "internal/bytealg.MakeNoZero"], apart := false, narrowed := true }
def FnExactVecTextUptoSaid : Prop := fnExactVecTextUptoRow.holds Try.pinned (OpenSpec.upto fnExactVecTextSpec)

/-- 'laws.FnExactMatText', WHERE WHAT IT READS IS OF BULK AT MOST 1048576: true; the input reads as it did. -/
def fnExactMatTextUptoRow : OpenClaim := { program := "ytfjchhfoefgldab", sum := "b63a4ead9bcab649f1225efe27b3a7f90a18e71ea85623e9f138e55bc0c90b29", func := "loop.example/g01204/laws.FnExactMatText", spec := "fnExactMatText", inPlace := ["math.Float32bits", "internal/abi.NoEscape", "internal/bytealg.MakeNoZero"], apart := false, narrowed := true }
def FnExactMatTextUptoSaid : Prop := fnExactMatTextUptoRow.holds Try.pinned (OpenSpec.upto fnExactMatTextSpec)

/-- 'laws.FnExactTurnText', WHERE WHAT IT READS IS OF BULK AT MOST 1048576: true; the input reads as it did. -/
def fnExactTurnTextUptoRow : OpenClaim := { program := "ytfjchhfoefgldab", sum := "b63a4ead9bcab649f1225efe27b3a7f90a18e71ea85623e9f138e55bc0c90b29", func := "loop.example/g01204/laws.FnExactTurnText", spec := "fnExactTurnText", inPlace := ["math.Float32bits", "internal/abi.NoEscape", "internal/bytealg.MakeNoZero"], apart := false, narrowed := true }
def FnExactTurnTextUptoSaid : Prop := fnExactTurnTextUptoRow.holds Try.pinned (OpenSpec.upto fnExactTurnTextSpec)

/-- 'laws.FnExactMeanOfFeed', WHERE WHAT IT READS IS OF BULK AT MOST 1048576: true; the input reads as it did. -/
def fnExactMeanOfFeedUptoRow : OpenClaim := { program := "ytfjchhfoefgldab", sum := "b63a4ead9bcab649f1225efe27b3a7f90a18e71ea85623e9f138e55bc0c90b29", func := "loop.example/g01204/laws.FnExactMeanOfFeed", spec := "fnExactMeanOfFeed", inPlace := ["math.Float64bits", "math.Float64frombits"], apart := false, narrowed := true }
def FnExactMeanOfFeedUptoSaid : Prop := fnExactMeanOfFeedUptoRow.holds Try.pinned (OpenSpec.upto fnExactMeanOfFeedSpec)

end Rows
end Go.Proofs.Ytfjchhfoefgldab
