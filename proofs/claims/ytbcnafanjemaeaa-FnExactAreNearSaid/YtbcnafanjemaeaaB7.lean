/- Contracts: AreNear. No condition. -/
import Derived.Deep.RegionWith
import Derived.Test.YtbcnafanjemaeaaB3
namespace Go.Proofs.Ytbcnafanjemaeaa
open Go Go.RowKit
set_option linter.unusedVariables false

/-- The difference of two numbers is at most the bound in size. -/
def nearB (x y b : Option Nat) : Bool := (ford .f32 ((fop .sub .f32 x y).map bare) b == some Ordering.lt) || (ford .f32 ((fop .sub .f32 x y).map bare) b == some Ordering.eq)

theorem near_of {x y b r s : Nat} (hr : FIs .f32 r (fop .sub .f32 (can .f32 x) (can .f32 y))) (hs : FIs .f32 s ((can .f32 r).map bare)) :
    (FloatKind.f32.format.order s b == some Ordering.lt || FloatKind.f32.format.order s b == some Ordering.eq) = nearB (can .f32 x) (can .f32 y) (can .f32 b) := by
  unfold nearB
  rw [order_can, hs.out, hr.out]

def r_AreNear (a b c d e f g : Nat) (v : Value) : Prop := v = .bool (nearB (can .f32 a) (can .f32 d) (can .f32 g) && nearB (can .f32 b) (can .f32 e) (can .f32 g) && nearB (can .f32 c) (can .f32 f) (can .f32 g))

theorem c_implAreNear (a b c d e f g : Nat) (w : World) :
    Calls Try.prog 41 #[.agg #[.float .f32 a, .float .f32 b, .float .f32 c], .agg #[.float .f32 d, .float .f32 e, .float .f32 f], .float .f32 g] w fun en w' => ∃ v, en = .returned v ∧ r_AreNear a b c d e f g v ∧ Stays w w' := by
  unfold r_AreNear
  cases ha : nearB (can .f32 a) (can .f32 d) (can .f32 g) <;> cases hb : nearB (can .f32 b) (can .f32 e) (can .f32 g)
  all_goals
    have Ha : Hid (nearB (can .f32 a) (can .f32 d) (can .f32 g) = _) := ha
    have Hb : Hid (nearB (can .f32 b) (can .f32 e) (can .f32 g) = _) := hb
    clear ha hb
    go_enter Try.func41, Try.ntmps41
    go_wp2_with fail
    refine (c_implSubVec _ _ _ _ _ _ _).mono ?_
    rintro en w1 ⟨v, rfl, ⟨x, y, z, rfl, hx, hy, hz⟩, hw1⟩
    have hst : Stays w w1 := Stays.trans (by (repeat (first | exact Stays.refl _ | (with_reducible refine Stays.drewN ?_ _) | (with_reducible refine Stays.alloc ?_ _) | (with_reducible refine Stays.drew ?_) | (refine Stays.trans ?_ ‹Stays _ _›)))) hw1
    clear hw1
    have u0 : (w1.alloc (.cells #[.float .f32 x, .float .f32 y, .float .f32 z] 28)).heap[w1.heap.size]? = some (.cells #[.float .f32 x, .float .f32 y, .float .f32 z] 28 (0, 0)) := by (repeat (first | (refine heap_top _ _ _ ?_; simp; done) | (with_reducible refine heap_drawn _ _ _ ?_) | (with_reducible refine heap_under _ _ _ ?_ ?_; (simp <;> omega))))
    have hA : Hid (∀ w2, Stays (w1.alloc (.cells #[.float .f32 x, .float .f32 y, .float .f32 z] 28)) w2 → ∀ i, w2.cell? ⟨w1.heap.size, i, none⟩ = #[.float .f32 x, .float .f32 y, .float .f32 z][i]?) := fun w2 h => row_of h u0
    clear u0
    have hS : Stays (w1.alloc (.cells #[.float .f32 x, .float .f32 y, .float .f32 z] 28)) (w1.alloc (.cells #[.float .f32 x, .float .f32 y, .float .f32 z] 28)) := Stays.refl _
    have Nx : Hid (∀ s, FIs .f32 s ((can .f32 x).map bare) → _) := fun s hs => (near_of (b := g) hx hs).trans Ha.out
    have Ny : Hid (∀ s, FIs .f32 s ((can .f32 y).map bare) → _) := fun s hs => (near_of (b := g) hy hs).trans Hb.out
    have Nz : Hid (∀ s, FIs .f32 s ((can .f32 z).map bare) → _) := fun s hs => near_of (b := g) hz hs
    clear hx hy hz Ha Hb
    go_wp2_with (first | (go_at_call_of 55 (Value.float .f32 x); refine (c_sizeOf _ _).mono ?_; rintro en w2 ⟨s, rfl, hs, hw2⟩; have hsx := Nx.out s hs; replace hS := Stays.trans hS hw2; clear hw2; have hc := hA.out _ hS) | (go_at_call_of 55 (Value.float .f32 y); refine (c_sizeOf _ _).mono ?_; rintro en w2 ⟨s2, rfl, hs2, hw2⟩; have hsy := Ny.out s2 hs2; replace hS := Stays.trans hS hw2; clear hw2; have hc := hA.out _ hS) | (go_at_call_of 55 (Value.float .f32 z); refine (c_sizeOf _ _).mono ?_; rintro en w2 ⟨s3, rfl, hs3, hw2⟩; have hsz := Nz.out s3 hs3; replace hS := Stays.trans hS hw2; clear hw2; have hc := hA.out _ hS))
    go_ret
    refine ⟨_, rfl, rfl, Stays.trans (Stays.alloc hst _) hS⟩
end Go.Proofs.Ytbcnafanjemaeaa
