/- Contracts: UnitMat, TraceOf. No condition. -/
import Derived.Test.YtbcnafanjemaeabB1
import Derived.Test.YtbcnafanjemaeabSp
namespace Go.Proofs.Ytbcnafanjemaeab
open Go Go.RowKit
set_option linter.unusedVariables false

theorem is_self {b : Nat} (h : b < 2 ^ FloatKind.f32.format.width) : FIs .f32 b (can .f32 b) := ⟨rfl, h⟩

def r_UnitMat (v : Value) : Prop := ∃ x0 x1 x2 x3 x4 x5 x6 x7 x8, v = .agg #[.float .f32 x0, .float .f32 x1, .float .f32 x2, .float .f32 x3, .float .f32 x4, .float .f32 x5, .float .f32 x6, .float .f32 x7, .float .f32 x8] ∧ FIs .f32 x0 (can .f32 1065353216) ∧ FIs .f32 x1 (can .f32 0) ∧ FIs .f32 x2 (can .f32 0) ∧ FIs .f32 x3 (can .f32 0) ∧ FIs .f32 x4 (can .f32 1065353216) ∧ FIs .f32 x5 (can .f32 0) ∧ FIs .f32 x6 (can .f32 0) ∧ FIs .f32 x7 (can .f32 0) ∧ FIs .f32 x8 (can .f32 1065353216)

theorem unit_is : r_UnitMat (.agg #[.float .f32 1065353216, .float .f32 0, .float .f32 0, .float .f32 0, .float .f32 1065353216, .float .f32 0, .float .f32 0, .float .f32 0, .float .f32 1065353216]) :=
  ⟨_, _, _, _, _, _, _, _, _, rfl, is_self (by decide), is_self (by decide), is_self (by decide), is_self (by decide), is_self (by decide), is_self (by decide), is_self (by decide), is_self (by decide), is_self (by decide)⟩

theorem c_specl01Unit (w : World) :
    Calls Try.prog 42 #[] w fun en w' => ∃ v, en = .returned v ∧ v = .agg #[.float .f32 1065353216, .float .f32 0, .float .f32 0, .float .f32 0, .float .f32 1065353216, .float .f32 0, .float .f32 0, .float .f32 0, .float .f32 1065353216] ∧ Stays w w' := by
  go_enter Try.func42, Try.ntmps42
  go_wp2
  apply end_agg rfl rfl rfl Try.underlying28 rfl (t := 28)
  case hg => (repeat (first | (refine heap_top _ _ _ ?_; simp; done) | (with_reducible refine heap_drawn _ _ _ ?_) | (with_reducible refine heap_under _ _ _ ?_ ?_; (simp <;> omega))))
  case hi => kernel_rfl
  case hR => exact ⟨_, rfl, rfl, by (repeat (first | exact Stays.refl _ | (with_reducible refine Stays.drewN ?_ _) | (with_reducible refine Stays.alloc ?_ _) | (with_reducible refine Stays.drew ?_) | (refine Stays.trans ?_ ‹Stays _ _›)))⟩

theorem c_implUnitMat0 (w : World) :
    Calls Try.prog 31 #[] w fun en w' => ∃ v, en = .returned v ∧ v = .agg #[.float .f32 1065353216, .float .f32 0, .float .f32 0, .float .f32 0, .float .f32 1065353216, .float .f32 0, .float .f32 0, .float .f32 0, .float .f32 1065353216] ∧ Stays w w' := by
  go_enter Try.func31, Try.ntmps31
  go_wp2
  apply end_agg rfl rfl rfl Try.underlying28 rfl (t := 28)
  case hg => (repeat (first | (refine heap_top _ _ _ ?_; simp; done) | (with_reducible refine heap_drawn _ _ _ ?_) | (with_reducible refine heap_under _ _ _ ?_ ?_; (simp <;> omega))))
  case hi => kernel_rfl
  case hR => exact ⟨_, rfl, rfl, by (repeat (first | exact Stays.refl _ | (with_reducible refine Stays.drewN ?_ _) | (with_reducible refine Stays.alloc ?_ _) | (with_reducible refine Stays.drew ?_) | (refine Stays.trans ?_ ‹Stays _ _›)))⟩

theorem c_implUnitMat (w : World) : Calls Try.prog 31 #[] w fun en w' => ∃ v, en = .returned v ∧ r_UnitMat v ∧ Stays w w' :=
  (c_implUnitMat0 w).mono fun en w' ⟨v, he, hv, hs⟩ => ⟨v, he, hv ▸ unit_is, hs⟩

theorem c_specUnitMat (w : World) : Calls Try.prog 30 #[] w fun en w' => ∃ v, en = .returned v ∧ r_UnitMat v ∧ Stays w w' := by
  have u0 : (w.alloc (.cells #[.float .f32 0, .float .f32 0, .float .f32 0, .float .f32 0, .float .f32 0, .float .f32 0, .float .f32 0, .float .f32 0, .float .f32 0] 28)).heap[w.heap.size]? = some (.cells #[.float .f32 0, .float .f32 0, .float .f32 0, .float .f32 0, .float .f32 0, .float .f32 0, .float .f32 0, .float .f32 0, .float .f32 0] 28 (0, 0)) := by (repeat (first | (refine heap_top _ _ _ ?_; simp; done) | (with_reducible refine heap_drawn _ _ _ ?_) | (with_reducible refine heap_under _ _ _ ?_ ?_; (simp <;> omega))))
  have hend : Hid (∀ w1, Stays (w.alloc (.cells #[.float .f32 0, .float .f32 0, .float .f32 0, .float .f32 0, .float .f32 0, .float .f32 0, .float .f32 0, .float .f32 0, .float .f32 0] 28)) w1 → w1.heap[w.heap.size]? = some (.cells #[.float .f32 0, .float .f32 0, .float .f32 0, .float .f32 0, .float .f32 0, .float .f32 0, .float .f32 0, .float .f32 0, .float .f32 0] 28 (0, 0)) ∧ Stays w w1) := fun w1 h => ⟨h.heap (in_heap u0) u0, Stays.trans (by (repeat (first | exact Stays.refl _ | (with_reducible refine Stays.drewN ?_ _) | (with_reducible refine Stays.alloc ?_ _) | (with_reducible refine Stays.drew ?_) | (refine Stays.trans ?_ ‹Stays _ _›)))) h⟩
  clear u0
  go_enter Try.func30, Try.ntmps30
  go_wp2_with (first | (go_at_call 42; refine (c_specl01Unit _).mono ?_; rintro en w1 ⟨v, rfl, rfl, hw1⟩; obtain ⟨hres, hst⟩ := hend.out _ hw1; clear hw1) | ((refine wpList_store_row rfl _ _ _ rfl _ _ _ rfl rfl hres ?hi ?ho ?h1 ?hB hst ?_); (case hi => kernel_rfl); (case ho => rfl); (case h1 => first | rfl | simp [Value.oneCell']); (case hB => first | omega | (simp <;> omega)); intro w2 hw2 hq2 _ _))
  apply end_agg rfl rfl rfl Try.underlying28 rfl (t := 28)
  case hg => exact hq2
  case hi => kernel_rfl
  case hR => exact ⟨_, rfl, unit_is, hw2⟩

def r_TraceOf (a0 a1 a2 a3 a4 a5 a6 a7 a8 : Nat) (v : Value) : Prop := ∃ x, v = .float .f32 x ∧ FIs .f32 x (fop .add .f32 (fop .add .f32 (can .f32 a0) (can .f32 a4)) (can .f32 a8))

theorem c_specTraceOf (a0 a1 a2 a3 a4 a5 a6 a7 a8 : Nat) (w : World) :
    Calls Try.prog 32 #[.agg #[.float .f32 a0, .float .f32 a1, .float .f32 a2, .float .f32 a3, .float .f32 a4, .float .f32 a5, .float .f32 a6, .float .f32 a7, .float .f32 a8]] w fun en w' => ∃ v, en = .returned v ∧ r_TraceOf a0 a1 a2 a3 a4 a5 a6 a7 a8 v ∧ Stays w w' := by
  go_enter Try.func32, Try.ntmps32
  go_wp2_with ((with_reducible refine wpList_fop rfl _ _ _ _ _ rfl rfl _ _ _ rfl rfl ?_); intro r n hr)
  go_ret
  rename_i r1 _ h1
  exact ⟨_, rfl, ⟨_, rfl, hr.of_eq (by rw [h1.out])⟩, by (repeat (first | exact Stays.refl _ | (with_reducible refine Stays.drewN ?_ _) | (with_reducible refine Stays.alloc ?_ _) | (with_reducible refine Stays.drew ?_) | (refine Stays.trans ?_ ‹Stays _ _›)))⟩

theorem c_implTraceOf (a0 a1 a2 a3 a4 a5 a6 a7 a8 : Nat) (w : World) :
    Calls Try.prog 33 #[.agg #[.float .f32 a0, .float .f32 a1, .float .f32 a2, .float .f32 a3, .float .f32 a4, .float .f32 a5, .float .f32 a6, .float .f32 a7, .float .f32 a8]] w fun en w' => ∃ v, en = .returned v ∧ r_TraceOf a0 a1 a2 a3 a4 a5 a6 a7 a8 v ∧ Stays w w' := by
  go_enter Try.func33, Try.ntmps33
  go_wp2_with ((with_reducible refine wpList_fop rfl _ _ _ _ _ rfl rfl _ _ _ rfl rfl ?_); intro r n hr)
  go_ret
  rename_i r1 _ h1
  exact ⟨_, rfl, ⟨_, rfl, hr.of_eq (by rw [h1.out])⟩, by (repeat (first | exact Stays.refl _ | (with_reducible refine Stays.drewN ?_ _) | (with_reducible refine Stays.alloc ?_ _) | (with_reducible refine Stays.drew ?_) | (refine Stays.trans ?_ ‹Stays _ _›)))⟩

end Go.Proofs.Ytbcnafanjemaeab
