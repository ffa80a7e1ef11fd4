/- Contracts of sameFloat, toVec, eqVec and of the plain functions on vectors. No condition. -/
import Derived.Test.YtdahlpljgcibfaaA0
import Derived.Test.YtdahlpljgcibfaaSp
namespace Go.Proofs.Ytdahlpljgcibfaa
open Go Go.RowKit
set_option linter.unusedVariables false
set_option maxRecDepth 100000

/-- Two narrow words that are the same number. -/
theorem wide_same {a b : Nat} (h : can .f32 a = can .f32 b) {x y : Nat} (hx : FIs .f64 x ((can .f32 a).map wide)) (hy : FIs .f64 y ((can .f32 b).map wide)) : can .f64 x = can .f64 y := by
  rw [hx.out, hy.out, h]

theorem fop_congr {op : BinOp} {x x' y y' : Option Nat} (h1 : x = x') (h2 : y = y') : fop op .f32 x y = fop op .f32 x' y' := by rw [h1, h2]

def r_AddVec (a b c d e f : Nat) (v : Value) : Prop := ∃ x y z, v = .agg #[.float .f32 x, .float .f32 y, .float .f32 z] ∧ FIs .f32 x (fop .add .f32 (can .f32 a) (can .f32 d)) ∧ FIs .f32 y (fop .add .f32 (can .f32 b) (can .f32 e)) ∧ FIs .f32 z (fop .add .f32 (can .f32 c) (can .f32 f))

def r_SubVec (a b c d e f : Nat) (v : Value) : Prop := ∃ x y z, v = .agg #[.float .f32 x, .float .f32 y, .float .f32 z] ∧ FIs .f32 x (fop .sub .f32 (can .f32 a) (can .f32 d)) ∧ FIs .f32 y (fop .sub .f32 (can .f32 b) (can .f32 e)) ∧ FIs .f32 z (fop .sub .f32 (can .f32 c) (can .f32 f))

def r_ScaleVec (a b c d : Nat) (v : Value) : Prop := ∃ x y z, v = .agg #[.float .f32 x, .float .f32 y, .float .f32 z] ∧ FIs .f32 x (fop .mul .f32 (can .f32 a) (can .f32 d)) ∧ FIs .f32 y (fop .mul .f32 (can .f32 b) (can .f32 d)) ∧ FIs .f32 z (fop .mul .f32 (can .f32 c) (can .f32 d))

def fdot (a b c d e f : Option Nat) : Option Nat := fop .add .f32 (fop .add .f32 (fop .mul .f32 a d) (fop .mul .f32 b e)) (fop .mul .f32 c f)

def r_DotVec (a b c d e f : Nat) (v : Value) : Prop := ∃ x, v = .float .f32 x ∧ FIs .f32 x (fdot (can .f32 a) (can .f32 b) (can .f32 c) (can .f32 d) (can .f32 e) (can .f32 f))

def r_CrossVec (a b c d e f : Nat) (v : Value) : Prop := ∃ x y z, v = .agg #[.float .f32 x, .float .f32 y, .float .f32 z] ∧ FIs .f32 x (fop .sub .f32 (fop .mul .f32 (can .f32 b) (can .f32 f)) (fop .mul .f32 (can .f32 c) (can .f32 e))) ∧ FIs .f32 y (fop .sub .f32 (fop .mul .f32 (can .f32 c) (can .f32 d)) (fop .mul .f32 (can .f32 a) (can .f32 f))) ∧ FIs .f32 z (fop .sub .f32 (fop .mul .f32 (can .f32 a) (can .f32 e)) (fop .mul .f32 (can .f32 b) (can .f32 d)))

end Go.Proofs.Ytdahlpljgcibfaa
