/- Contracts of sameFloat, toVec, eqVec and of the plain functions on vectors. No condition. -/
import Derived.Test.YteidjmliepmlmaaA0
import Derived.Test.YteidjmliepmlmaaSp
namespace Go.Proofs.Yteidjmliepmlmaa
open Go Go.RowKit
set_option linter.unusedVariables false
set_option maxRecDepth 100000

/-- Two wide words that are the same number are so for the law. -/
theorem c_sameFloat (a b : Nat) (w : World) (h : can .f64 a = can .f64 b) :
    Calls Try.prog 84 #[.float .f64 a, .float .f64 b] w fun e w' => e = .returned (.bool true) ∧ Stays w w' := by
  have hn := neq_self .f64 a
  have hm := neq_self .f64 b
  cases hc : can .f64 a with
  | none =>
    have h1 : (FloatKind.f64.format.order a a != some Ordering.eq) = true := by rw [hn, hc]; rfl
    have h2 : (FloatKind.f64.format.order b b != some Ordering.eq) = true := by rw [hm, ← h, hc]; rfl
    clear hn hm hc h
    go_enter Try.func84, Try.ntmps84
    go_wp2
    go_ret
    exact ⟨rfl, by (repeat (first | exact Stays.refl _ | (with_reducible refine Stays.drewN ?_ _) | (with_reducible refine Stays.alloc ?_ _) | (with_reducible refine Stays.drew ?_) | (refine Stays.trans ?_ ‹Stays _ _›)))⟩
  | some c =>
    obtain ⟨rfl, hna⟩ := can_some hc
    obtain ⟨rfl, _⟩ := can_some (h.symm.trans hc)
    have h1 : (FloatKind.f64.format.order c c != some Ordering.eq) = false := by rw [hn, hc]; rfl
    have h3 : FloatKind.f64.format.order c c = some Ordering.eq := order_self hna
    clear hn hm hc h hna
    cases hz : (FloatKind.f64.format.order c 0 == some Ordering.eq)
    · go_enter Try.func84, Try.ntmps84
      go_wp2
      go_ret
      exact ⟨ret_b (by simp), by (repeat (first | exact Stays.refl _ | (with_reducible refine Stays.drewN ?_ _) | (with_reducible refine Stays.alloc ?_ _) | (with_reducible refine Stays.drew ?_) | (refine Stays.trans ?_ ‹Stays _ _›)))⟩
    · go_enter Try.func84, Try.ntmps84
      go_wp2_with ((with_reducible refine wpList_fop rfl _ _ _ _ _ rfl rfl _ _ _ rfl rfl ?_); intro r n hr)
      go_ret
      refine ⟨ret_b (beq_iff_eq.2 ?_), by (repeat (first | exact Stays.refl _ | (with_reducible refine Stays.drewN ?_ _) | (with_reducible refine Stays.alloc ?_ _) | (with_reducible refine Stays.drew ?_) | (refine Stays.trans ?_ ‹Stays _ _›)))⟩
      rename_i r1 _ hr1
      rw [order_can, order_can .f64 r 0, hr1.out, hr.out]

/-- Two narrow words that are the same number. -/
theorem wide_same {a b : Nat} (h : can .f32 a = can .f32 b) {x y : Nat} (hx : FIs .f64 x ((can .f32 a).map wide)) (hy : FIs .f64 y ((can .f32 b).map wide)) : can .f64 x = can .f64 y := by
  rw [hx.out, hy.out, h]

theorem fop_congr {op : BinOp} {x x' y y' : Option Nat} (h1 : x = x') (h2 : y = y') : fop op .f32 x y = fop op .f32 x' y' := by rw [h1, h2]

def r_AddVec (a b c d e f : Nat) (v : Value) : Prop := ∃ x y z, v = .agg #[.float .f32 x, .float .f32 y, .float .f32 z] ∧ FIs .f32 x (fop .add .f32 (can .f32 a) (can .f32 d)) ∧ FIs .f32 y (fop .add .f32 (can .f32 b) (can .f32 e)) ∧ FIs .f32 z (fop .add .f32 (can .f32 c) (can .f32 f))

def r_SubVec (a b c d e f : Nat) (v : Value) : Prop := ∃ x y z, v = .agg #[.float .f32 x, .float .f32 y, .float .f32 z] ∧ FIs .f32 x (fop .sub .f32 (can .f32 a) (can .f32 d)) ∧ FIs .f32 y (fop .sub .f32 (can .f32 b) (can .f32 e)) ∧ FIs .f32 z (fop .sub .f32 (can .f32 c) (can .f32 f))

def r_ScaleVec (a b c d : Nat) (v : Value) : Prop := ∃ x y z, v = .agg #[.float .f32 x, .float .f32 y, .float .f32 z] ∧ FIs .f32 x (fop .mul .f32 (can .f32 a) (can .f32 d)) ∧ FIs .f32 y (fop .mul .f32 (can .f32 b) (can .f32 d)) ∧ FIs .f32 z (fop .mul .f32 (can .f32 c) (can .f32 d))

def fdot (a b c d e f : Option Nat) : Option Nat := fop .add .f32 (fop .add .f32 (fop .mul .f32 a d) (fop .mul .f32 b e)) (fop .mul .f32 c f)

def r_DotVec (a b c d e f : Nat) (v : Value) : Prop := ∃ x, v = .float .f32 x ∧ FIs .f32 x (fdot (can .f32 a) (can .f32 b) (can .f32 c) (can .f32 d) (can .f32 e) (can .f32 f))

def r_CrossVec (a b c d e f : Nat) (v : Value) : Prop := ∃ x y z, v = .agg #[.float .f32 x, .float .f32 y, .float .f32 z] ∧ FIs .f32 x (fop .sub .f32 (fop .mul .f32 (can .f32 b) (can .f32 f)) (fop .mul .f32 (can .f32 c) (can .f32 e))) ∧ FIs .f32 y (fop .sub .f32 (fop .mul .f32 (can .f32 c) (can .f32 d)) (fop .mul .f32 (can .f32 a) (can .f32 f))) ∧ FIs .f32 z (fop .sub .f32 (fop .mul .f32 (can .f32 a) (can .f32 e)) (fop .mul .f32 (can .f32 b) (can .f32 d)))

end Go.Proofs.Yteidjmliepmlmaa
