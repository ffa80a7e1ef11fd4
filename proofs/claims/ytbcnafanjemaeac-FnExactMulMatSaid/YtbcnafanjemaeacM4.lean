/- Contracts: AddMat, ScaleMat, OuterOf. No condition. -/
import Derived.Test.YtbcnafanjemaeacB1
import Derived.Test.YtbcnafanjemaeacSp
namespace Go.Proofs.Ytbcnafanjemaeac
open Go Go.RowKit
set_option linter.unusedVariables false

theorem product_comm (x y : Ieee.Datum) : x.product y = y.product x := by
  cases x <;> cases y <;> simp [Ieee.Datum.product, Bool.xor_comm, Nat.mul_comm, Int.add_comm]

theorem fop_mul_comm (x y : Option Nat) : fop .mul .f32 x y = fop .mul .f32 y x := by
  cases x <;> cases y <;> first | rfl | skip
  rename_i a b
  show ((Ieee.single.read a).product (Ieee.single.read b)).map Ieee.single.write = ((Ieee.single.read b).product (Ieee.single.read a)).map Ieee.single.write
  rw [product_comm]

def r_AddMat (a0 a1 a2 a3 a4 a5 a6 a7 a8 b0 b1 b2 b3 b4 b5 b6 b7 b8 : Nat) (v : Value) : Prop := ∃ x0 x1 x2 x3 x4 x5 x6 x7 x8, v = .agg #[.float .f32 x0, .float .f32 x1, .float .f32 x2, .float .f32 x3, .float .f32 x4, .float .f32 x5, .float .f32 x6, .float .f32 x7, .float .f32 x8] ∧ FIs .f32 x0 (fop .add .f32 (can .f32 a0) (can .f32 b0)) ∧ FIs .f32 x1 (fop .add .f32 (can .f32 a1) (can .f32 b1)) ∧ FIs .f32 x2 (fop .add .f32 (can .f32 a2) (can .f32 b2)) ∧ FIs .f32 x3 (fop .add .f32 (can .f32 a3) (can .f32 b3)) ∧ FIs .f32 x4 (fop .add .f32 (can .f32 a4) (can .f32 b4)) ∧ FIs .f32 x5 (fop .add .f32 (can .f32 a5) (can .f32 b5)) ∧ FIs .f32 x6 (fop .add .f32 (can .f32 a6) (can .f32 b6)) ∧ FIs .f32 x7 (fop .add .f32 (can .f32 a7) (can .f32 b7)) ∧ FIs .f32 x8 (fop .add .f32 (can .f32 a8) (can .f32 b8))

set_option maxHeartbeats 2000000 in
theorem c_specAddMat (a0 a1 a2 a3 a4 a5 a6 a7 a8 b0 b1 b2 b3 b4 b5 b6 b7 b8 : Nat) (w : World) :
    Calls Try.prog 16 #[.agg #[.float .f32 a0, .float .f32 a1, .float .f32 a2, .float .f32 a3, .float .f32 a4, .float .f32 a5, .float .f32 a6, .float .f32 a7, .float .f32 a8], .agg #[.float .f32 b0, .float .f32 b1, .float .f32 b2, .float .f32 b3, .float .f32 b4, .float .f32 b5, .float .f32 b6, .float .f32 b7, .float .f32 b8]] w fun en w' => ∃ v, en = .returned v ∧ r_AddMat a0 a1 a2 a3 a4 a5 a6 a7 a8 b0 b1 b2 b3 b4 b5 b6 b7 b8 v ∧ Stays w w' := by
  have q0 : (((w.alloc (.cells #[.float .f32 a0, .float .f32 a1, .float .f32 a2, .float .f32 a3, .float .f32 a4, .float .f32 a5, .float .f32 a6, .float .f32 a7, .float .f32 a8] 26)).alloc (.cells #[.float .f32 b0, .float .f32 b1, .float .f32 b2, .float .f32 b3, .float .f32 b4, .float .f32 b5, .float .f32 b6, .float .f32 b7, .float .f32 b8] 26)).alloc (.cells #[.float .f32 0, .float .f32 0, .float .f32 0, .float .f32 0, .float .f32 0, .float .f32 0, .float .f32 0, .float .f32 0, .float .f32 0] 26)).heap[w.heap.size]? = some (.cells #[.float .f32 a0, .float .f32 a1, .float .f32 a2, .float .f32 a3, .float .f32 a4, .float .f32 a5, .float .f32 a6, .float .f32 a7, .float .f32 a8] 26 (0, 0)) := by (repeat (first | (refine heap_top _ _ _ ?_; simp; done) | (with_reducible refine heap_drawn _ _ _ ?_) | (with_reducible refine heap_under _ _ _ ?_ ?_; (simp <;> omega))))
  have q1 : (((w.alloc (.cells #[.float .f32 a0, .float .f32 a1, .float .f32 a2, .float .f32 a3, .float .f32 a4, .float .f32 a5, .float .f32 a6, .float .f32 a7, .float .f32 a8] 26)).alloc (.cells #[.float .f32 b0, .float .f32 b1, .float .f32 b2, .float .f32 b3, .float .f32 b4, .float .f32 b5, .float .f32 b6, .float .f32 b7, .float .f32 b8] 26)).alloc (.cells #[.float .f32 0, .float .f32 0, .float .f32 0, .float .f32 0, .float .f32 0, .float .f32 0, .float .f32 0, .float .f32 0, .float .f32 0] 26)).heap[w.heap.size + 1]? = some (.cells #[.float .f32 b0, .float .f32 b1, .float .f32 b2, .float .f32 b3, .float .f32 b4, .float .f32 b5, .float .f32 b6, .float .f32 b7, .float .f32 b8] 26 (0, 0)) := by (repeat (first | (refine heap_top _ _ _ ?_; simp; done) | (with_reducible refine heap_drawn _ _ _ ?_) | (with_reducible refine heap_under _ _ _ ?_ ?_; (simp <;> omega))))
  have q2 : (((w.alloc (.cells #[.float .f32 a0, .float .f32 a1, .float .f32 a2, .float .f32 a3, .float .f32 a4, .float .f32 a5, .float .f32 a6, .float .f32 a7, .float .f32 a8] 26)).alloc (.cells #[.float .f32 b0, .float .f32 b1, .float .f32 b2, .float .f32 b3, .float .f32 b4, .float .f32 b5, .float .f32 b6, .float .f32 b7, .float .f32 b8] 26)).alloc (.cells #[.float .f32 0, .float .f32 0, .float .f32 0, .float .f32 0, .float .f32 0, .float .f32 0, .float .f32 0, .float .f32 0, .float .f32 0] 26)).heap[w.heap.size + 1 + 1]? = some (.cells #[.float .f32 0, .float .f32 0, .float .f32 0, .float .f32 0, .float .f32 0, .float .f32 0, .float .f32 0, .float .f32 0, .float .f32 0] 26 (0, 0)) := by (repeat (first | (refine heap_top _ _ _ ?_; simp; done) | (with_reducible refine heap_drawn _ _ _ ?_) | (with_reducible refine heap_under _ _ _ ?_ ?_; (simp <;> omega))))
  have hst : Stays w (((w.alloc (.cells #[.float .f32 a0, .float .f32 a1, .float .f32 a2, .float .f32 a3, .float .f32 a4, .float .f32 a5, .float .f32 a6, .float .f32 a7, .float .f32 a8] 26)).alloc (.cells #[.float .f32 b0, .float .f32 b1, .float .f32 b2, .float .f32 b3, .float .f32 b4, .float .f32 b5, .float .f32 b6, .float .f32 b7, .float .f32 b8] 26)).alloc (.cells #[.float .f32 0, .float .f32 0, .float .f32 0, .float .f32 0, .float .f32 0, .float .f32 0, .float .f32 0, .float .f32 0, .float .f32 0] 26)) := by (repeat (first | exact Stays.refl _ | (with_reducible refine Stays.drewN ?_ _) | (with_reducible refine Stays.alloc ?_ _) | (with_reducible refine Stays.drew ?_) | (refine Stays.trans ?_ ‹Stays _ _›)))
  go_enter Try.func16, Try.ntmps16
  go_wp2
  refine wp_loop_rounds 4 ?_
  rw [rounds_succ]
  go_wp2
  refine wp_loop_rounds 4 ?_
  rw [rounds_succ]
  go_wp2
  have hcells := fun w1 (hw1 : Stays (((w.alloc (.cells #[.float .f32 a0, .float .f32 a1, .float .f32 a2, .float .f32 a3, .float .f32 a4, .float .f32 a5, .float .f32 a6, .float .f32 a7, .float .f32 a8] 26)).alloc (.cells #[.float .f32 b0, .float .f32 b1, .float .f32 b2, .float .f32 b3, .float .f32 b4, .float .f32 b5, .float .f32 b6, .float .f32 b7, .float .f32 b8] 26)).alloc (.cells #[.float .f32 0, .float .f32 0, .float .f32 0, .float .f32 0, .float .f32 0, .float .f32 0, .float .f32 0, .float .f32 0, .float .f32 0] 26)) w1) => (And.intro (row_of hw1 q0) (row_of hw1 q1))
  refine wp_region_soft_tail 15 (Stays.refl _) (fun _ _ _ => False) [] (by kernel_rfl) (by kernel_rfl) (fun _ h => by cases h) ?_
  simp only [List.take_succ_cons, List.take_zero, List.drop_succ_cons, List.drop_zero]
  repeat (first | ((with_reducible apply soft_det rfl); (case hA => rfl); (case h => (intro w1 hw1; have hc := hcells w1 hw1; go_simp; exact rfl)); go_simp) | ((with_reducible refine soft_fop rfl ?hA _ _ _ _ _ rfl rfl _ _ _ rfl rfl ?_); (case hA => rfl); intro r hr; go_simp))
  refine soft_nil ?_
  rintro w2 ⟨hw2, _⟩
  replace q0 := hw2.heap (in_heap q0) q0
  replace q1 := hw2.heap (in_heap q1) q1
  replace q2 := hw2.heap (in_heap q2) q2
  replace hst := Stays.trans hst hw2
  clear hcells hw2
  have hcm := fun i => cell_of_row w2 _ i _ _ _ q0
  have hfm := fun i => frozen_of_row w2 _ i _ _ q0
  go_wp2
  clear hcm hfm
  have p0 := heap_setCell_same w2 (w.heap.size) 0 _ _ (.float .f32 r) q0
  have p1 := (heap_setCell_other w2 ⟨w.heap.size, 0, none⟩ (w.heap.size + 1) (.float .f32 r) (by simp <;> omega)).trans q1
  have p2 := (heap_setCell_other w2 ⟨w.heap.size, 0, none⟩ (w.heap.size + 1 + 1) (.float .f32 r) (by simp <;> omega)).trans q2
  have pst := Stays.setCell hst ⟨w.heap.size, 0, none⟩ (.float .f32 r) (by simp <;> omega)
  have f0 := hr
  clear hr hst q0 q1 q2
  simp at p0
  obtain ⟨wk0, hwk⟩ : ∃ x, x = w2.setCell ⟨w.heap.size, 0, none⟩ (.float .f32 r) := ⟨_, rfl⟩
  rw [← hwk] at p0 p1 p2 pst ⊢
  clear hwk
  have q0 := p0
  have q1 := p1
  have q2 := p2
  have hst := pst
  clear pst p0 p1 p2
  rw [rounds_succ]
  go_wp2
  have hcells := fun w1 (hw1 : Stays wk0 w1) => (And.intro (row_of hw1 q0) (row_of hw1 q1))
  refine wp_region_soft_tail 15 (Stays.refl _) (fun _ _ _ => False) [] (by kernel_rfl) (by kernel_rfl) (fun _ h => by cases h) ?_
  simp only [List.take_succ_cons, List.take_zero, List.drop_succ_cons, List.drop_zero]
  repeat (first | ((with_reducible apply soft_det rfl); (case hA => rfl); (case h => (intro w1 hw1; have hc := hcells w1 hw1; go_simp; exact rfl)); go_simp) | ((with_reducible refine soft_fop rfl ?hA _ _ _ _ _ rfl rfl _ _ _ rfl rfl ?_); (case hA => rfl); intro r hr; go_simp))
  refine soft_nil ?_
  rintro w2 ⟨hw2, _⟩
  replace q0 := hw2.heap (in_heap q0) q0
  replace q1 := hw2.heap (in_heap q1) q1
  replace q2 := hw2.heap (in_heap q2) q2
  replace hst := Stays.trans hst hw2
  clear hcells hw2
  have hcm := fun i => cell_of_row w2 _ i _ _ _ q0
  have hfm := fun i => frozen_of_row w2 _ i _ _ q0
  go_wp2
  clear hcm hfm
  have p0 := heap_setCell_same w2 (w.heap.size) 1 _ _ (.float .f32 r) q0
  have p1 := (heap_setCell_other w2 ⟨w.heap.size, 1, none⟩ (w.heap.size + 1) (.float .f32 r) (by simp <;> omega)).trans q1
  have p2 := (heap_setCell_other w2 ⟨w.heap.size, 1, none⟩ (w.heap.size + 1 + 1) (.float .f32 r) (by simp <;> omega)).trans q2
  have pst := Stays.setCell hst ⟨w.heap.size, 1, none⟩ (.float .f32 r) (by simp <;> omega)
  have f1 := hr
  clear hr hst q0 q1 q2
  simp at p0
  obtain ⟨wk1, hwk⟩ : ∃ x, x = w2.setCell ⟨w.heap.size, 1, none⟩ (.float .f32 r) := ⟨_, rfl⟩
  rw [← hwk] at p0 p1 p2 pst ⊢
  clear hwk
  have q0 := p0
  have q1 := p1
  have q2 := p2
  have hst := pst
  clear pst p0 p1 p2
  rw [rounds_succ]
  go_wp2
  have hcells := fun w1 (hw1 : Stays wk1 w1) => (And.intro (row_of hw1 q0) (row_of hw1 q1))
  refine wp_region_soft_tail 15 (Stays.refl _) (fun _ _ _ => False) [] (by kernel_rfl) (by kernel_rfl) (fun _ h => by cases h) ?_
  simp only [List.take_succ_cons, List.take_zero, List.drop_succ_cons, List.drop_zero]
  repeat (first | ((with_reducible apply soft_det rfl); (case hA => rfl); (case h => (intro w1 hw1; have hc := hcells w1 hw1; go_simp; exact rfl)); go_simp) | ((with_reducible refine soft_fop rfl ?hA _ _ _ _ _ rfl rfl _ _ _ rfl rfl ?_); (case hA => rfl); intro r hr; go_simp))
  refine soft_nil ?_
  rintro w2 ⟨hw2, _⟩
  replace q0 := hw2.heap (in_heap q0) q0
  replace q1 := hw2.heap (in_heap q1) q1
  replace q2 := hw2.heap (in_heap q2) q2
  replace hst := Stays.trans hst hw2
  clear hcells hw2
  have hcm := fun i => cell_of_row w2 _ i _ _ _ q0
  have hfm := fun i => frozen_of_row w2 _ i _ _ q0
  go_wp2
  clear hcm hfm
  have p0 := heap_setCell_same w2 (w.heap.size) 2 _ _ (.float .f32 r) q0
  have p1 := (heap_setCell_other w2 ⟨w.heap.size, 2, none⟩ (w.heap.size + 1) (.float .f32 r) (by simp <;> omega)).trans q1
  have p2 := (heap_setCell_other w2 ⟨w.heap.size, 2, none⟩ (w.heap.size + 1 + 1) (.float .f32 r) (by simp <;> omega)).trans q2
  have pst := Stays.setCell hst ⟨w.heap.size, 2, none⟩ (.float .f32 r) (by simp <;> omega)
  have f2 := hr
  clear hr hst q0 q1 q2
  simp at p0
  obtain ⟨wk2, hwk⟩ : ∃ x, x = w2.setCell ⟨w.heap.size, 2, none⟩ (.float .f32 r) := ⟨_, rfl⟩
  rw [← hwk] at p0 p1 p2 pst ⊢
  clear hwk
  have q0 := p0
  have q1 := p1
  have q2 := p2
  have hst := pst
  clear pst p0 p1 p2
  rw [rounds_succ]
  go_wp2
  rw [rounds_succ]
  go_wp2
  refine wp_loop_rounds 4 ?_
  rw [rounds_succ]
  go_wp2
  have hcells := fun w1 (hw1 : Stays wk2 w1) => (And.intro (row_of hw1 q0) (row_of hw1 q1))
  refine wp_region_soft_tail 15 (Stays.refl _) (fun _ _ _ => False) [] (by kernel_rfl) (by kernel_rfl) (fun _ h => by cases h) ?_
  simp only [List.take_succ_cons, List.take_zero, List.drop_succ_cons, List.drop_zero]
  repeat (first | ((with_reducible apply soft_det rfl); (case hA => rfl); (case h => (intro w1 hw1; have hc := hcells w1 hw1; go_simp; exact rfl)); go_simp) | ((with_reducible refine soft_fop rfl ?hA _ _ _ _ _ rfl rfl _ _ _ rfl rfl ?_); (case hA => rfl); intro r hr; go_simp))
  refine soft_nil ?_
  rintro w2 ⟨hw2, _⟩
  replace q0 := hw2.heap (in_heap q0) q0
  replace q1 := hw2.heap (in_heap q1) q1
  replace q2 := hw2.heap (in_heap q2) q2
  replace hst := Stays.trans hst hw2
  clear hcells hw2
  have hcm := fun i => cell_of_row w2 _ i _ _ _ q0
  have hfm := fun i => frozen_of_row w2 _ i _ _ q0
  go_wp2
  clear hcm hfm
  have p0 := heap_setCell_same w2 (w.heap.size) 3 _ _ (.float .f32 r) q0
  have p1 := (heap_setCell_other w2 ⟨w.heap.size, 3, none⟩ (w.heap.size + 1) (.float .f32 r) (by simp <;> omega)).trans q1
  have p2 := (heap_setCell_other w2 ⟨w.heap.size, 3, none⟩ (w.heap.size + 1 + 1) (.float .f32 r) (by simp <;> omega)).trans q2
  have pst := Stays.setCell hst ⟨w.heap.size, 3, none⟩ (.float .f32 r) (by simp <;> omega)
  have f3 := hr
  clear hr hst q0 q1 q2
  simp at p0
  obtain ⟨wk3, hwk⟩ : ∃ x, x = w2.setCell ⟨w.heap.size, 3, none⟩ (.float .f32 r) := ⟨_, rfl⟩
  rw [← hwk] at p0 p1 p2 pst ⊢
  clear hwk
  have q0 := p0
  have q1 := p1
  have q2 := p2
  have hst := pst
  clear pst p0 p1 p2
  rw [rounds_succ]
  go_wp2
  have hcells := fun w1 (hw1 : Stays wk3 w1) => (And.intro (row_of hw1 q0) (row_of hw1 q1))
  refine wp_region_soft_tail 15 (Stays.refl _) (fun _ _ _ => False) [] (by kernel_rfl) (by kernel_rfl) (fun _ h => by cases h) ?_
  simp only [List.take_succ_cons, List.take_zero, List.drop_succ_cons, List.drop_zero]
  repeat (first | ((with_reducible apply soft_det rfl); (case hA => rfl); (case h => (intro w1 hw1; have hc := hcells w1 hw1; go_simp; exact rfl)); go_simp) | ((with_reducible refine soft_fop rfl ?hA _ _ _ _ _ rfl rfl _ _ _ rfl rfl ?_); (case hA => rfl); intro r hr; go_simp))
  refine soft_nil ?_
  rintro w2 ⟨hw2, _⟩
  replace q0 := hw2.heap (in_heap q0) q0
  replace q1 := hw2.heap (in_heap q1) q1
  replace q2 := hw2.heap (in_heap q2) q2
  replace hst := Stays.trans hst hw2
  clear hcells hw2
  have hcm := fun i => cell_of_row w2 _ i _ _ _ q0
  have hfm := fun i => frozen_of_row w2 _ i _ _ q0
  go_wp2
  clear hcm hfm
  have p0 := heap_setCell_same w2 (w.heap.size) 4 _ _ (.float .f32 r) q0
  have p1 := (heap_setCell_other w2 ⟨w.heap.size, 4, none⟩ (w.heap.size + 1) (.float .f32 r) (by simp <;> omega)).trans q1
  have p2 := (heap_setCell_other w2 ⟨w.heap.size, 4, none⟩ (w.heap.size + 1 + 1) (.float .f32 r) (by simp <;> omega)).trans q2
  have pst := Stays.setCell hst ⟨w.heap.size, 4, none⟩ (.float .f32 r) (by simp <;> omega)
  have f4 := hr
  clear hr hst q0 q1 q2
  simp at p0
  obtain ⟨wk4, hwk⟩ : ∃ x, x = w2.setCell ⟨w.heap.size, 4, none⟩ (.float .f32 r) := ⟨_, rfl⟩
  rw [← hwk] at p0 p1 p2 pst ⊢
  clear hwk
  have q0 := p0
  have q1 := p1
  have q2 := p2
  have hst := pst
  clear pst p0 p1 p2
  rw [rounds_succ]
  go_wp2
  have hcells := fun w1 (hw1 : Stays wk4 w1) => (And.intro (row_of hw1 q0) (row_of hw1 q1))
  refine wp_region_soft_tail 15 (Stays.refl _) (fun _ _ _ => False) [] (by kernel_rfl) (by kernel_rfl) (fun _ h => by cases h) ?_
  simp only [List.take_succ_cons, List.take_zero, List.drop_succ_cons, List.drop_zero]
  repeat (first | ((with_reducible apply soft_det rfl); (case hA => rfl); (case h => (intro w1 hw1; have hc := hcells w1 hw1; go_simp; exact rfl)); go_simp) | ((with_reducible refine soft_fop rfl ?hA _ _ _ _ _ rfl rfl _ _ _ rfl rfl ?_); (case hA => rfl); intro r hr; go_simp))
  refine soft_nil ?_
  rintro w2 ⟨hw2, _⟩
  replace q0 := hw2.heap (in_heap q0) q0
  replace q1 := hw2.heap (in_heap q1) q1
  replace q2 := hw2.heap (in_heap q2) q2
  replace hst := Stays.trans hst hw2
  clear hcells hw2
  have hcm := fun i => cell_of_row w2 _ i _ _ _ q0
  have hfm := fun i => frozen_of_row w2 _ i _ _ q0
  go_wp2
  clear hcm hfm
  have p0 := heap_setCell_same w2 (w.heap.size) 5 _ _ (.float .f32 r) q0
  have p1 := (heap_setCell_other w2 ⟨w.heap.size, 5, none⟩ (w.heap.size + 1) (.float .f32 r) (by simp <;> omega)).trans q1
  have p2 := (heap_setCell_other w2 ⟨w.heap.size, 5, none⟩ (w.heap.size + 1 + 1) (.float .f32 r) (by simp <;> omega)).trans q2
  have pst := Stays.setCell hst ⟨w.heap.size, 5, none⟩ (.float .f32 r) (by simp <;> omega)
  have f5 := hr
  clear hr hst q0 q1 q2
  simp at p0
  obtain ⟨wk5, hwk⟩ : ∃ x, x = w2.setCell ⟨w.heap.size, 5, none⟩ (.float .f32 r) := ⟨_, rfl⟩
  rw [← hwk] at p0 p1 p2 pst ⊢
  clear hwk
  have q0 := p0
  have q1 := p1
  have q2 := p2
  have hst := pst
  clear pst p0 p1 p2
  rw [rounds_succ]
  go_wp2
  rw [rounds_succ]
  go_wp2
  refine wp_loop_rounds 4 ?_
  rw [rounds_succ]
  go_wp2
  have hcells := fun w1 (hw1 : Stays wk5 w1) => (And.intro (row_of hw1 q0) (row_of hw1 q1))
  refine wp_region_soft_tail 15 (Stays.refl _) (fun _ _ _ => False) [] (by kernel_rfl) (by kernel_rfl) (fun _ h => by cases h) ?_
  simp only [List.take_succ_cons, List.take_zero, List.drop_succ_cons, List.drop_zero]
  repeat (first | ((with_reducible apply soft_det rfl); (case hA => rfl); (case h => (intro w1 hw1; have hc := hcells w1 hw1; go_simp; exact rfl)); go_simp) | ((with_reducible refine soft_fop rfl ?hA _ _ _ _ _ rfl rfl _ _ _ rfl rfl ?_); (case hA => rfl); intro r hr; go_simp))
  refine soft_nil ?_
  rintro w2 ⟨hw2, _⟩
  replace q0 := hw2.heap (in_heap q0) q0
  replace q1 := hw2.heap (in_heap q1) q1
  replace q2 := hw2.heap (in_heap q2) q2
  replace hst := Stays.trans hst hw2
  clear hcells hw2
  have hcm := fun i => cell_of_row w2 _ i _ _ _ q0
  have hfm := fun i => frozen_of_row w2 _ i _ _ q0
  go_wp2
  clear hcm hfm
  have p0 := heap_setCell_same w2 (w.heap.size) 6 _ _ (.float .f32 r) q0
  have p1 := (heap_setCell_other w2 ⟨w.heap.size, 6, none⟩ (w.heap.size + 1) (.float .f32 r) (by simp <;> omega)).trans q1
  have p2 := (heap_setCell_other w2 ⟨w.heap.size, 6, none⟩ (w.heap.size + 1 + 1) (.float .f32 r) (by simp <;> omega)).trans q2
  have pst := Stays.setCell hst ⟨w.heap.size, 6, none⟩ (.float .f32 r) (by simp <;> omega)
  have f6 := hr
  clear hr hst q0 q1 q2
  simp at p0
  obtain ⟨wk6, hwk⟩ : ∃ x, x = w2.setCell ⟨w.heap.size, 6, none⟩ (.float .f32 r) := ⟨_, rfl⟩
  rw [← hwk] at p0 p1 p2 pst ⊢
  clear hwk
  have q0 := p0
  have q1 := p1
  have q2 := p2
  have hst := pst
  clear pst p0 p1 p2
  rw [rounds_succ]
  go_wp2
  have hcells := fun w1 (hw1 : Stays wk6 w1) => (And.intro (row_of hw1 q0) (row_of hw1 q1))
  refine wp_region_soft_tail 15 (Stays.refl _) (fun _ _ _ => False) [] (by kernel_rfl) (by kernel_rfl) (fun _ h => by cases h) ?_
  simp only [List.take_succ_cons, List.take_zero, List.drop_succ_cons, List.drop_zero]
  repeat (first | ((with_reducible apply soft_det rfl); (case hA => rfl); (case h => (intro w1 hw1; have hc := hcells w1 hw1; go_simp; exact rfl)); go_simp) | ((with_reducible refine soft_fop rfl ?hA _ _ _ _ _ rfl rfl _ _ _ rfl rfl ?_); (case hA => rfl); intro r hr; go_simp))
  refine soft_nil ?_
  rintro w2 ⟨hw2, _⟩
  replace q0 := hw2.heap (in_heap q0) q0
  replace q1 := hw2.heap (in_heap q1) q1
  replace q2 := hw2.heap (in_heap q2) q2
  replace hst := Stays.trans hst hw2
  clear hcells hw2
  have hcm := fun i => cell_of_row w2 _ i _ _ _ q0
  have hfm := fun i => frozen_of_row w2 _ i _ _ q0
  go_wp2
  clear hcm hfm
  have p0 := heap_setCell_same w2 (w.heap.size) 7 _ _ (.float .f32 r) q0
  have p1 := (heap_setCell_other w2 ⟨w.heap.size, 7, none⟩ (w.heap.size + 1) (.float .f32 r) (by simp <;> omega)).trans q1
  have p2 := (heap_setCell_other w2 ⟨w.heap.size, 7, none⟩ (w.heap.size + 1 + 1) (.float .f32 r) (by simp <;> omega)).trans q2
  have pst := Stays.setCell hst ⟨w.heap.size, 7, none⟩ (.float .f32 r) (by simp <;> omega)
  have f7 := hr
  clear hr hst q0 q1 q2
  simp at p0
  obtain ⟨wk7, hwk⟩ : ∃ x, x = w2.setCell ⟨w.heap.size, 7, none⟩ (.float .f32 r) := ⟨_, rfl⟩
  rw [← hwk] at p0 p1 p2 pst ⊢
  clear hwk
  have q0 := p0
  have q1 := p1
  have q2 := p2
  have hst := pst
  clear pst p0 p1 p2
  rw [rounds_succ]
  go_wp2
  have hcells := fun w1 (hw1 : Stays wk7 w1) => (And.intro (row_of hw1 q0) (row_of hw1 q1))
  refine wp_region_soft_tail 15 (Stays.refl _) (fun _ _ _ => False) [] (by kernel_rfl) (by kernel_rfl) (fun _ h => by cases h) ?_
  simp only [List.take_succ_cons, List.take_zero, List.drop_succ_cons, List.drop_zero]
  repeat (first | ((with_reducible apply soft_det rfl); (case hA => rfl); (case h => (intro w1 hw1; have hc := hcells w1 hw1; go_simp; exact rfl)); go_simp) | ((with_reducible refine soft_fop rfl ?hA _ _ _ _ _ rfl rfl _ _ _ rfl rfl ?_); (case hA => rfl); intro r hr; go_simp))
  refine soft_nil ?_
  rintro w2 ⟨hw2, _⟩
  replace q0 := hw2.heap (in_heap q0) q0
  replace q1 := hw2.heap (in_heap q1) q1
  replace q2 := hw2.heap (in_heap q2) q2
  replace hst := Stays.trans hst hw2
  clear hcells hw2
  have hcm := fun i => cell_of_row w2 _ i _ _ _ q0
  have hfm := fun i => frozen_of_row w2 _ i _ _ q0
  go_wp2
  clear hcm hfm
  have p0 := heap_setCell_same w2 (w.heap.size) 8 _ _ (.float .f32 r) q0
  have p1 := (heap_setCell_other w2 ⟨w.heap.size, 8, none⟩ (w.heap.size + 1) (.float .f32 r) (by simp <;> omega)).trans q1
  have p2 := (heap_setCell_other w2 ⟨w.heap.size, 8, none⟩ (w.heap.size + 1 + 1) (.float .f32 r) (by simp <;> omega)).trans q2
  have pst := Stays.setCell hst ⟨w.heap.size, 8, none⟩ (.float .f32 r) (by simp <;> omega)
  have f8 := hr
  clear hr hst q0 q1 q2
  simp at p0
  obtain ⟨wk8, hwk⟩ : ∃ x, x = w2.setCell ⟨w.heap.size, 8, none⟩ (.float .f32 r) := ⟨_, rfl⟩
  rw [← hwk] at p0 p1 p2 pst ⊢
  clear hwk
  have q0 := p0
  have q1 := p1
  have q2 := p2
  have hst := pst
  clear pst p0 p1 p2
  rw [rounds_succ]
  go_wp2
  rw [rounds_succ]
  have hout := fun i => cell_of_row _ _ i _ _ _ q0
  have hres := q2
  clear q0 q1 q2
  go_wp2_with ((refine wpList_store_row rfl _ _ _ rfl _ _ _ rfl rfl hres ?hi ?ho ?h1 ?hB hst ?_); (case hi => kernel_rfl); (case ho => rfl); (case h1 => first | rfl | simp [Value.oneCell']); (case hB => first | omega | (simp <;> omega)); intro w2 hw2 hq2 _ _)
  apply end_agg rfl rfl rfl Try.underlying26 rfl (t := 26)
  case hg => exact hq2
  case hi => kernel_rfl
  case hR => exact ⟨_, rfl, ⟨_, _, _, _, _, _, _, _, _, rfl, f0, f1, f2, f3, f4, f5, f6, f7, f8⟩, hw2⟩

theorem c_implAddMat (a0 a1 a2 a3 a4 a5 a6 a7 a8 b0 b1 b2 b3 b4 b5 b6 b7 b8 : Nat) (w : World) :
    Calls Try.prog 17 #[.agg #[.float .f32 a0, .float .f32 a1, .float .f32 a2, .float .f32 a3, .float .f32 a4, .float .f32 a5, .float .f32 a6, .float .f32 a7, .float .f32 a8], .agg #[.float .f32 b0, .float .f32 b1, .float .f32 b2, .float .f32 b3, .float .f32 b4, .float .f32 b5, .float .f32 b6, .float .f32 b7, .float .f32 b8]] w fun en w' => ∃ v, en = .returned v ∧ r_AddMat a0 a1 a2 a3 a4 a5 a6 a7 a8 b0 b1 b2 b3 b4 b5 b6 b7 b8 v ∧ Stays w w' := by
  have q0 : (((w.alloc (.cells #[.float .f32 a0, .float .f32 a1, .float .f32 a2, .float .f32 a3, .float .f32 a4, .float .f32 a5, .float .f32 a6, .float .f32 a7, .float .f32 a8] 26)).alloc (.cells #[.float .f32 b0, .float .f32 b1, .float .f32 b2, .float .f32 b3, .float .f32 b4, .float .f32 b5, .float .f32 b6, .float .f32 b7, .float .f32 b8] 26)).alloc (.cells #[.float .f32 0, .float .f32 0, .float .f32 0, .float .f32 0, .float .f32 0, .float .f32 0, .float .f32 0, .float .f32 0, .float .f32 0] 26)).heap[w.heap.size]? = some (.cells #[.float .f32 a0, .float .f32 a1, .float .f32 a2, .float .f32 a3, .float .f32 a4, .float .f32 a5, .float .f32 a6, .float .f32 a7, .float .f32 a8] 26 (0, 0)) := by (repeat (first | (refine heap_top _ _ _ ?_; simp; done) | (with_reducible refine heap_drawn _ _ _ ?_) | (with_reducible refine heap_under _ _ _ ?_ ?_; (simp <;> omega))))
  have q1 : (((w.alloc (.cells #[.float .f32 a0, .float .f32 a1, .float .f32 a2, .float .f32 a3, .float .f32 a4, .float .f32 a5, .float .f32 a6, .float .f32 a7, .float .f32 a8] 26)).alloc (.cells #[.float .f32 b0, .float .f32 b1, .float .f32 b2, .float .f32 b3, .float .f32 b4, .float .f32 b5, .float .f32 b6, .float .f32 b7, .float .f32 b8] 26)).alloc (.cells #[.float .f32 0, .float .f32 0, .float .f32 0, .float .f32 0, .float .f32 0, .float .f32 0, .float .f32 0, .float .f32 0, .float .f32 0] 26)).heap[w.heap.size + 1]? = some (.cells #[.float .f32 b0, .float .f32 b1, .float .f32 b2, .float .f32 b3, .float .f32 b4, .float .f32 b5, .float .f32 b6, .float .f32 b7, .float .f32 b8] 26 (0, 0)) := by (repeat (first | (refine heap_top _ _ _ ?_; simp; done) | (with_reducible refine heap_drawn _ _ _ ?_) | (with_reducible refine heap_under _ _ _ ?_ ?_; (simp <;> omega))))
  have q2 : (((w.alloc (.cells #[.float .f32 a0, .float .f32 a1, .float .f32 a2, .float .f32 a3, .float .f32 a4, .float .f32 a5, .float .f32 a6, .float .f32 a7, .float .f32 a8] 26)).alloc (.cells #[.float .f32 b0, .float .f32 b1, .float .f32 b2, .float .f32 b3, .float .f32 b4, .float .f32 b5, .float .f32 b6, .float .f32 b7, .float .f32 b8] 26)).alloc (.cells #[.float .f32 0, .float .f32 0, .float .f32 0, .float .f32 0, .float .f32 0, .float .f32 0, .float .f32 0, .float .f32 0, .float .f32 0] 26)).heap[w.heap.size + 1 + 1]? = some (.cells #[.float .f32 0, .float .f32 0, .float .f32 0, .float .f32 0, .float .f32 0, .float .f32 0, .float .f32 0, .float .f32 0, .float .f32 0] 26 (0, 0)) := by (repeat (first | (refine heap_top _ _ _ ?_; simp; done) | (with_reducible refine heap_drawn _ _ _ ?_) | (with_reducible refine heap_under _ _ _ ?_ ?_; (simp <;> omega))))
  have hcells := fun w1 (hw1 : Stays (((w.alloc (.cells #[.float .f32 a0, .float .f32 a1, .float .f32 a2, .float .f32 a3, .float .f32 a4, .float .f32 a5, .float .f32 a6, .float .f32 a7, .float .f32 a8] 26)).alloc (.cells #[.float .f32 b0, .float .f32 b1, .float .f32 b2, .float .f32 b3, .float .f32 b4, .float .f32 b5, .float .f32 b6, .float .f32 b7, .float .f32 b8] 26)).alloc (.cells #[.float .f32 0, .float .f32 0, .float .f32 0, .float .f32 0, .float .f32 0, .float .f32 0, .float .f32 0, .float .f32 0, .float .f32 0] 26)) w1) => (And.intro (row_of hw1 q0) (row_of hw1 q1))
  have hend : Hid (∀ w1, Stays (((w.alloc (.cells #[.float .f32 a0, .float .f32 a1, .float .f32 a2, .float .f32 a3, .float .f32 a4, .float .f32 a5, .float .f32 a6, .float .f32 a7, .float .f32 a8] 26)).alloc (.cells #[.float .f32 b0, .float .f32 b1, .float .f32 b2, .float .f32 b3, .float .f32 b4, .float .f32 b5, .float .f32 b6, .float .f32 b7, .float .f32 b8] 26)).alloc (.cells #[.float .f32 0, .float .f32 0, .float .f32 0, .float .f32 0, .float .f32 0, .float .f32 0, .float .f32 0, .float .f32 0, .float .f32 0] 26)) w1 → w1.heap[w.heap.size + 1 + 1]? = some (.cells #[.float .f32 0, .float .f32 0, .float .f32 0, .float .f32 0, .float .f32 0, .float .f32 0, .float .f32 0, .float .f32 0, .float .f32 0] 26 (0, 0)) ∧ Stays w w1) := fun w1 h => ⟨h.heap (in_heap q2) q2, Stays.trans (by (repeat (first | exact Stays.refl _ | (with_reducible refine Stays.drewN ?_ _) | (with_reducible refine Stays.alloc ?_ _) | (with_reducible refine Stays.drew ?_) | (refine Stays.trans ?_ ‹Stays _ _›)))) h⟩
  clear q0 q1 q2
  go_enter Try.func17, Try.ntmps17
  go_wp2
  refine wp_region_soft_tail 16 (Stays.refl _) (fun f args v => ∃ k0 k1 k2 l0 l1 l2, args = #[.agg #[.float .f32 k0, .float .f32 k1, .float .f32 k2], .agg #[.float .f32 l0, .float .f32 l1, .float .f32 l2]] ∧ r_AddVec k0 k1 k2 l0 l1 l2 v) [] (by kernel_rfl) (by kernel_rfl) (fun _ h => by cases h) ?_
  simp only [List.take_succ_cons, List.take_zero, List.drop_succ_cons, List.drop_zero]
  repeat ((with_reducible apply soft_det rfl); (case hA => rfl); (case h => (intro w1 hw1; have hc := hcells w1 hw1; go_simp; exact rfl)); go_simp)
  apply soft_call rfl
  case hA => rfl
  case h => (intro w1 hw1; go_simp; exact ⟨rfl, rfl⟩)
  case hc => exact fun w1 hw1 => (c_implAddVec _ _ _ _ _ _  w1).mono fun e w' ⟨v, he, hr, hw'⟩ => ⟨_, he, ⟨_, _, _, _, _, _, rfl, hr⟩, hw'⟩
  rintro v ⟨k0, k1, k2, l0, l1, l2, hk, ⟨x0, y0, z0, rfl, hx0, hy0, hz0⟩⟩; obtain ⟨⟨rfl, rfl, rfl⟩, rfl, rfl, rfl⟩ : (a0 = k0 ∧ a1 = k1 ∧ a2 = k2) ∧ b0 = l0 ∧ b1 = l1 ∧ b2 = l2 := by simpa using hk
  go_simp
  repeat ((with_reducible apply soft_det rfl); (case hA => rfl); (case h => (intro w1 hw1; have hc := hcells w1 hw1; go_simp; exact rfl)); go_simp)
  apply soft_call rfl
  case hA => rfl
  case h => (intro w1 hw1; go_simp; exact ⟨rfl, rfl⟩)
  case hc => exact fun w1 hw1 => (c_implAddVec _ _ _ _ _ _  w1).mono fun e w' ⟨v, he, hr, hw'⟩ => ⟨_, he, ⟨_, _, _, _, _, _, rfl, hr⟩, hw'⟩
  rintro v ⟨k0, k1, k2, l0, l1, l2, hk, ⟨x1, y1, z1, rfl, hx1, hy1, hz1⟩⟩; obtain ⟨⟨rfl, rfl, rfl⟩, rfl, rfl, rfl⟩ : (a3 = k0 ∧ a4 = k1 ∧ a5 = k2) ∧ b3 = l0 ∧ b4 = l1 ∧ b5 = l2 := by simpa using hk
  go_simp
  repeat ((with_reducible apply soft_det rfl); (case hA => rfl); (case h => (intro w1 hw1; have hc := hcells w1 hw1; go_simp; exact rfl)); go_simp)
  apply soft_call rfl
  case hA => rfl
  case h => (intro w1 hw1; go_simp; exact ⟨rfl, rfl⟩)
  case hc => exact fun w1 hw1 => (c_implAddVec _ _ _ _ _ _  w1).mono fun e w' ⟨v, he, hr, hw'⟩ => ⟨_, he, ⟨_, _, _, _, _, _, rfl, hr⟩, hw'⟩
  rintro v ⟨k0, k1, k2, l0, l1, l2, hk, ⟨x2, y2, z2, rfl, hx2, hy2, hz2⟩⟩; obtain ⟨⟨rfl, rfl, rfl⟩, rfl, rfl, rfl⟩ : (a6 = k0 ∧ a7 = k1 ∧ a8 = k2) ∧ b6 = l0 ∧ b7 = l1 ∧ b8 = l2 := by simpa using hk
  go_simp
  repeat ((with_reducible apply soft_det rfl); (case hA => rfl); (case h => (intro w1 hw1; have hc := hcells w1 hw1; go_simp; exact rfl)); go_simp)
  refine soft_nil ?_
  rintro w2 ⟨hw2, _⟩
  obtain ⟨hres, hst⟩ := hend.out _ hw2
  clear hcells hw2 hend
  refine wpList_store_row rfl _ _ _ rfl _ _ _ rfl rfl hres ?hi ?ho ?h1 ?hB hst ?_
  case hi => kernel_rfl
  case ho => rfl
  case h1 => first | rfl | simp [Value.oneCell']
  case hB => first | omega | (simp <;> omega)
  intro w3 hw3 hq3 _ _
  go_wp2
  apply end_agg rfl rfl rfl Try.underlying26 rfl (t := 26)
  case hg => exact hq3
  case hi => kernel_rfl
  case hR => exact ⟨_, rfl, ⟨_, _, _, _, _, _, _, _, _, rfl, hx0, hy0, hz0, hx1, hy1, hz1, hx2, hy2, hz2⟩, hw3⟩

def r_ScaleMat (a0 a1 a2 a3 a4 a5 a6 a7 a8 s : Nat) (v : Value) : Prop := ∃ x0 x1 x2 x3 x4 x5 x6 x7 x8, v = .agg #[.float .f32 x0, .float .f32 x1, .float .f32 x2, .float .f32 x3, .float .f32 x4, .float .f32 x5, .float .f32 x6, .float .f32 x7, .float .f32 x8] ∧ FIs .f32 x0 (fop .mul .f32 (can .f32 a0) (can .f32 s)) ∧ FIs .f32 x1 (fop .mul .f32 (can .f32 a1) (can .f32 s)) ∧ FIs .f32 x2 (fop .mul .f32 (can .f32 a2) (can .f32 s)) ∧ FIs .f32 x3 (fop .mul .f32 (can .f32 a3) (can .f32 s)) ∧ FIs .f32 x4 (fop .mul .f32 (can .f32 a4) (can .f32 s)) ∧ FIs .f32 x5 (fop .mul .f32 (can .f32 a5) (can .f32 s)) ∧ FIs .f32 x6 (fop .mul .f32 (can .f32 a6) (can .f32 s)) ∧ FIs .f32 x7 (fop .mul .f32 (can .f32 a7) (can .f32 s)) ∧ FIs .f32 x8 (fop .mul .f32 (can .f32 a8) (can .f32 s))

set_option maxHeartbeats 2000000 in
theorem c_specScaleMat (a0 a1 a2 a3 a4 a5 a6 a7 a8 s : Nat) (w : World) :
    Calls Try.prog 19 #[.agg #[.float .f32 a0, .float .f32 a1, .float .f32 a2, .float .f32 a3, .float .f32 a4, .float .f32 a5, .float .f32 a6, .float .f32 a7, .float .f32 a8], .float .f32 s] w fun en w' => ∃ v, en = .returned v ∧ r_ScaleMat a0 a1 a2 a3 a4 a5 a6 a7 a8 s v ∧ Stays w w' := by
  have q0 : ((w.alloc (.cells #[.float .f32 a0, .float .f32 a1, .float .f32 a2, .float .f32 a3, .float .f32 a4, .float .f32 a5, .float .f32 a6, .float .f32 a7, .float .f32 a8] 26)).alloc (.cells #[.float .f32 0, .float .f32 0, .float .f32 0, .float .f32 0, .float .f32 0, .float .f32 0, .float .f32 0, .float .f32 0, .float .f32 0] 26)).heap[w.heap.size]? = some (.cells #[.float .f32 a0, .float .f32 a1, .float .f32 a2, .float .f32 a3, .float .f32 a4, .float .f32 a5, .float .f32 a6, .float .f32 a7, .float .f32 a8] 26 (0, 0)) := by (repeat (first | (refine heap_top _ _ _ ?_; simp; done) | (with_reducible refine heap_drawn _ _ _ ?_) | (with_reducible refine heap_under _ _ _ ?_ ?_; (simp <;> omega))))
  have q1 : ((w.alloc (.cells #[.float .f32 a0, .float .f32 a1, .float .f32 a2, .float .f32 a3, .float .f32 a4, .float .f32 a5, .float .f32 a6, .float .f32 a7, .float .f32 a8] 26)).alloc (.cells #[.float .f32 0, .float .f32 0, .float .f32 0, .float .f32 0, .float .f32 0, .float .f32 0, .float .f32 0, .float .f32 0, .float .f32 0] 26)).heap[w.heap.size + 1]? = some (.cells #[.float .f32 0, .float .f32 0, .float .f32 0, .float .f32 0, .float .f32 0, .float .f32 0, .float .f32 0, .float .f32 0, .float .f32 0] 26 (0, 0)) := by (repeat (first | (refine heap_top _ _ _ ?_; simp; done) | (with_reducible refine heap_drawn _ _ _ ?_) | (with_reducible refine heap_under _ _ _ ?_ ?_; (simp <;> omega))))
  have hst : Stays w ((w.alloc (.cells #[.float .f32 a0, .float .f32 a1, .float .f32 a2, .float .f32 a3, .float .f32 a4, .float .f32 a5, .float .f32 a6, .float .f32 a7, .float .f32 a8] 26)).alloc (.cells #[.float .f32 0, .float .f32 0, .float .f32 0, .float .f32 0, .float .f32 0, .float .f32 0, .float .f32 0, .float .f32 0, .float .f32 0] 26)) := by (repeat (first | exact Stays.refl _ | (with_reducible refine Stays.drewN ?_ _) | (with_reducible refine Stays.alloc ?_ _) | (with_reducible refine Stays.drew ?_) | (refine Stays.trans ?_ ‹Stays _ _›)))
  go_enter Try.func19, Try.ntmps19
  go_wp2
  refine wp_loop_rounds 4 ?_
  rw [rounds_succ]
  go_wp2
  refine wp_loop_rounds 4 ?_
  rw [rounds_succ]
  go_wp2
  have hcells := fun w1 (hw1 : Stays ((w.alloc (.cells #[.float .f32 a0, .float .f32 a1, .float .f32 a2, .float .f32 a3, .float .f32 a4, .float .f32 a5, .float .f32 a6, .float .f32 a7, .float .f32 a8] 26)).alloc (.cells #[.float .f32 0, .float .f32 0, .float .f32 0, .float .f32 0, .float .f32 0, .float .f32 0, .float .f32 0, .float .f32 0, .float .f32 0] 26)) w1) => (row_of hw1 q0)
  refine wp_region_soft_tail 11 (Stays.refl _) (fun _ _ _ => False) [] (by kernel_rfl) (by kernel_rfl) (fun _ h => by cases h) ?_
  simp only [List.take_succ_cons, List.take_zero, List.drop_succ_cons, List.drop_zero]
  repeat (first | ((with_reducible apply soft_det rfl); (case hA => rfl); (case h => (intro w1 hw1; have hc := hcells w1 hw1; go_simp; exact rfl)); go_simp) | ((with_reducible refine soft_fop rfl ?hA _ _ _ _ _ rfl rfl _ _ _ rfl rfl ?_); (case hA => rfl); intro r hr; go_simp))
  refine soft_nil ?_
  rintro w2 ⟨hw2, _⟩
  replace q0 := hw2.heap (in_heap q0) q0
  replace q1 := hw2.heap (in_heap q1) q1
  replace hst := Stays.trans hst hw2
  clear hcells hw2
  have hcm := fun i => cell_of_row w2 _ i _ _ _ q0
  have hfm := fun i => frozen_of_row w2 _ i _ _ q0
  go_wp2
  clear hcm hfm
  have p0 := heap_setCell_same w2 (w.heap.size) 0 _ _ (.float .f32 r) q0
  have p1 := (heap_setCell_other w2 ⟨w.heap.size, 0, none⟩ (w.heap.size + 1) (.float .f32 r) (by simp <;> omega)).trans q1
  have pst := Stays.setCell hst ⟨w.heap.size, 0, none⟩ (.float .f32 r) (by simp <;> omega)
  have f0 := hr
  clear hr hst q0 q1
  simp at p0
  obtain ⟨wk0, hwk⟩ : ∃ x, x = w2.setCell ⟨w.heap.size, 0, none⟩ (.float .f32 r) := ⟨_, rfl⟩
  rw [← hwk] at p0 p1 pst ⊢
  clear hwk
  have q0 := p0
  have q1 := p1
  have hst := pst
  clear pst p0 p1
  rw [rounds_succ]
  go_wp2
  have hcells := fun w1 (hw1 : Stays wk0 w1) => (row_of hw1 q0)
  refine wp_region_soft_tail 11 (Stays.refl _) (fun _ _ _ => False) [] (by kernel_rfl) (by kernel_rfl) (fun _ h => by cases h) ?_
  simp only [List.take_succ_cons, List.take_zero, List.drop_succ_cons, List.drop_zero]
  repeat (first | ((with_reducible apply soft_det rfl); (case hA => rfl); (case h => (intro w1 hw1; have hc := hcells w1 hw1; go_simp; exact rfl)); go_simp) | ((with_reducible refine soft_fop rfl ?hA _ _ _ _ _ rfl rfl _ _ _ rfl rfl ?_); (case hA => rfl); intro r hr; go_simp))
  refine soft_nil ?_
  rintro w2 ⟨hw2, _⟩
  replace q0 := hw2.heap (in_heap q0) q0
  replace q1 := hw2.heap (in_heap q1) q1
  replace hst := Stays.trans hst hw2
  clear hcells hw2
  have hcm := fun i => cell_of_row w2 _ i _ _ _ q0
  have hfm := fun i => frozen_of_row w2 _ i _ _ q0
  go_wp2
  clear hcm hfm
  have p0 := heap_setCell_same w2 (w.heap.size) 1 _ _ (.float .f32 r) q0
  have p1 := (heap_setCell_other w2 ⟨w.heap.size, 1, none⟩ (w.heap.size + 1) (.float .f32 r) (by simp <;> omega)).trans q1
  have pst := Stays.setCell hst ⟨w.heap.size, 1, none⟩ (.float .f32 r) (by simp <;> omega)
  have f1 := hr
  clear hr hst q0 q1
  simp at p0
  obtain ⟨wk1, hwk⟩ : ∃ x, x = w2.setCell ⟨w.heap.size, 1, none⟩ (.float .f32 r) := ⟨_, rfl⟩
  rw [← hwk] at p0 p1 pst ⊢
  clear hwk
  have q0 := p0
  have q1 := p1
  have hst := pst
  clear pst p0 p1
  rw [rounds_succ]
  go_wp2
  have hcells := fun w1 (hw1 : Stays wk1 w1) => (row_of hw1 q0)
  refine wp_region_soft_tail 11 (Stays.refl _) (fun _ _ _ => False) [] (by kernel_rfl) (by kernel_rfl) (fun _ h => by cases h) ?_
  simp only [List.take_succ_cons, List.take_zero, List.drop_succ_cons, List.drop_zero]
  repeat (first | ((with_reducible apply soft_det rfl); (case hA => rfl); (case h => (intro w1 hw1; have hc := hcells w1 hw1; go_simp; exact rfl)); go_simp) | ((with_reducible refine soft_fop rfl ?hA _ _ _ _ _ rfl rfl _ _ _ rfl rfl ?_); (case hA => rfl); intro r hr; go_simp))
  refine soft_nil ?_
  rintro w2 ⟨hw2, _⟩
  replace q0 := hw2.heap (in_heap q0) q0
  replace q1 := hw2.heap (in_heap q1) q1
  replace hst := Stays.trans hst hw2
  clear hcells hw2
  have hcm := fun i => cell_of_row w2 _ i _ _ _ q0
  have hfm := fun i => frozen_of_row w2 _ i _ _ q0
  go_wp2
  clear hcm hfm
  have p0 := heap_setCell_same w2 (w.heap.size) 2 _ _ (.float .f32 r) q0
  have p1 := (heap_setCell_other w2 ⟨w.heap.size, 2, none⟩ (w.heap.size + 1) (.float .f32 r) (by simp <;> omega)).trans q1
  have pst := Stays.setCell hst ⟨w.heap.size, 2, none⟩ (.float .f32 r) (by simp <;> omega)
  have f2 := hr
  clear hr hst q0 q1
  simp at p0
  obtain ⟨wk2, hwk⟩ : ∃ x, x = w2.setCell ⟨w.heap.size, 2, none⟩ (.float .f32 r) := ⟨_, rfl⟩
  rw [← hwk] at p0 p1 pst ⊢
  clear hwk
  have q0 := p0
  have q1 := p1
  have hst := pst
  clear pst p0 p1
  rw [rounds_succ]
  go_wp2
  rw [rounds_succ]
  go_wp2
  refine wp_loop_rounds 4 ?_
  rw [rounds_succ]
  go_wp2
  have hcells := fun w1 (hw1 : Stays wk2 w1) => (row_of hw1 q0)
  refine wp_region_soft_tail 11 (Stays.refl _) (fun _ _ _ => False) [] (by kernel_rfl) (by kernel_rfl) (fun _ h => by cases h) ?_
  simp only [List.take_succ_cons, List.take_zero, List.drop_succ_cons, List.drop_zero]
  repeat (first | ((with_reducible apply soft_det rfl); (case hA => rfl); (case h => (intro w1 hw1; have hc := hcells w1 hw1; go_simp; exact rfl)); go_simp) | ((with_reducible refine soft_fop rfl ?hA _ _ _ _ _ rfl rfl _ _ _ rfl rfl ?_); (case hA => rfl); intro r hr; go_simp))
  refine soft_nil ?_
  rintro w2 ⟨hw2, _⟩
  replace q0 := hw2.heap (in_heap q0) q0
  replace q1 := hw2.heap (in_heap q1) q1
  replace hst := Stays.trans hst hw2
  clear hcells hw2
  have hcm := fun i => cell_of_row w2 _ i _ _ _ q0
  have hfm := fun i => frozen_of_row w2 _ i _ _ q0
  go_wp2
  clear hcm hfm
  have p0 := heap_setCell_same w2 (w.heap.size) 3 _ _ (.float .f32 r) q0
  have p1 := (heap_setCell_other w2 ⟨w.heap.size, 3, none⟩ (w.heap.size + 1) (.float .f32 r) (by simp <;> omega)).trans q1
  have pst := Stays.setCell hst ⟨w.heap.size, 3, none⟩ (.float .f32 r) (by simp <;> omega)
  have f3 := hr
  clear hr hst q0 q1
  simp at p0
  obtain ⟨wk3, hwk⟩ : ∃ x, x = w2.setCell ⟨w.heap.size, 3, none⟩ (.float .f32 r) := ⟨_, rfl⟩
  rw [← hwk] at p0 p1 pst ⊢
  clear hwk
  have q0 := p0
  have q1 := p1
  have hst := pst
  clear pst p0 p1
  rw [rounds_succ]
  go_wp2
  have hcells := fun w1 (hw1 : Stays wk3 w1) => (row_of hw1 q0)
  refine wp_region_soft_tail 11 (Stays.refl _) (fun _ _ _ => False) [] (by kernel_rfl) (by kernel_rfl) (fun _ h => by cases h) ?_
  simp only [List.take_succ_cons, List.take_zero, List.drop_succ_cons, List.drop_zero]
  repeat (first | ((with_reducible apply soft_det rfl); (case hA => rfl); (case h => (intro w1 hw1; have hc := hcells w1 hw1; go_simp; exact rfl)); go_simp) | ((with_reducible refine soft_fop rfl ?hA _ _ _ _ _ rfl rfl _ _ _ rfl rfl ?_); (case hA => rfl); intro r hr; go_simp))
  refine soft_nil ?_
  rintro w2 ⟨hw2, _⟩
  replace q0 := hw2.heap (in_heap q0) q0
  replace q1 := hw2.heap (in_heap q1) q1
  replace hst := Stays.trans hst hw2
  clear hcells hw2
  have hcm := fun i => cell_of_row w2 _ i _ _ _ q0
  have hfm := fun i => frozen_of_row w2 _ i _ _ q0
  go_wp2
  clear hcm hfm
  have p0 := heap_setCell_same w2 (w.heap.size) 4 _ _ (.float .f32 r) q0
  have p1 := (heap_setCell_other w2 ⟨w.heap.size, 4, none⟩ (w.heap.size + 1) (.float .f32 r) (by simp <;> omega)).trans q1
  have pst := Stays.setCell hst ⟨w.heap.size, 4, none⟩ (.float .f32 r) (by simp <;> omega)
  have f4 := hr
  clear hr hst q0 q1
  simp at p0
  obtain ⟨wk4, hwk⟩ : ∃ x, x = w2.setCell ⟨w.heap.size, 4, none⟩ (.float .f32 r) := ⟨_, rfl⟩
  rw [← hwk] at p0 p1 pst ⊢
  clear hwk
  have q0 := p0
  have q1 := p1
  have hst := pst
  clear pst p0 p1
  rw [rounds_succ]
  go_wp2
  have hcells := fun w1 (hw1 : Stays wk4 w1) => (row_of hw1 q0)
  refine wp_region_soft_tail 11 (Stays.refl _) (fun _ _ _ => False) [] (by kernel_rfl) (by kernel_rfl) (fun _ h => by cases h) ?_
  simp only [List.take_succ_cons, List.take_zero, List.drop_succ_cons, List.drop_zero]
  repeat (first | ((with_reducible apply soft_det rfl); (case hA => rfl); (case h => (intro w1 hw1; have hc := hcells w1 hw1; go_simp; exact rfl)); go_simp) | ((with_reducible refine soft_fop rfl ?hA _ _ _ _ _ rfl rfl _ _ _ rfl rfl ?_); (case hA => rfl); intro r hr; go_simp))
  refine soft_nil ?_
  rintro w2 ⟨hw2, _⟩
  replace q0 := hw2.heap (in_heap q0) q0
  replace q1 := hw2.heap (in_heap q1) q1
  replace hst := Stays.trans hst hw2
  clear hcells hw2
  have hcm := fun i => cell_of_row w2 _ i _ _ _ q0
  have hfm := fun i => frozen_of_row w2 _ i _ _ q0
  go_wp2
  clear hcm hfm
  have p0 := heap_setCell_same w2 (w.heap.size) 5 _ _ (.float .f32 r) q0
  have p1 := (heap_setCell_other w2 ⟨w.heap.size, 5, none⟩ (w.heap.size + 1) (.float .f32 r) (by simp <;> omega)).trans q1
  have pst := Stays.setCell hst ⟨w.heap.size, 5, none⟩ (.float .f32 r) (by simp <;> omega)
  have f5 := hr
  clear hr hst q0 q1
  simp at p0
  obtain ⟨wk5, hwk⟩ : ∃ x, x = w2.setCell ⟨w.heap.size, 5, none⟩ (.float .f32 r) := ⟨_, rfl⟩
  rw [← hwk] at p0 p1 pst ⊢
  clear hwk
  have q0 := p0
  have q1 := p1
  have hst := pst
  clear pst p0 p1
  rw [rounds_succ]
  go_wp2
  rw [rounds_succ]
  go_wp2
  refine wp_loop_rounds 4 ?_
  rw [rounds_succ]
  go_wp2
  have hcells := fun w1 (hw1 : Stays wk5 w1) => (row_of hw1 q0)
  refine wp_region_soft_tail 11 (Stays.refl _) (fun _ _ _ => False) [] (by kernel_rfl) (by kernel_rfl) (fun _ h => by cases h) ?_
  simp only [List.take_succ_cons, List.take_zero, List.drop_succ_cons, List.drop_zero]
  repeat (first | ((with_reducible apply soft_det rfl); (case hA => rfl); (case h => (intro w1 hw1; have hc := hcells w1 hw1; go_simp; exact rfl)); go_simp) | ((with_reducible refine soft_fop rfl ?hA _ _ _ _ _ rfl rfl _ _ _ rfl rfl ?_); (case hA => rfl); intro r hr; go_simp))
  refine soft_nil ?_
  rintro w2 ⟨hw2, _⟩
  replace q0 := hw2.heap (in_heap q0) q0
  replace q1 := hw2.heap (in_heap q1) q1
  replace hst := Stays.trans hst hw2
  clear hcells hw2
  have hcm := fun i => cell_of_row w2 _ i _ _ _ q0
  have hfm := fun i => frozen_of_row w2 _ i _ _ q0
  go_wp2
  clear hcm hfm
  have p0 := heap_setCell_same w2 (w.heap.size) 6 _ _ (.float .f32 r) q0
  have p1 := (heap_setCell_other w2 ⟨w.heap.size, 6, none⟩ (w.heap.size + 1) (.float .f32 r) (by simp <;> omega)).trans q1
  have pst := Stays.setCell hst ⟨w.heap.size, 6, none⟩ (.float .f32 r) (by simp <;> omega)
  have f6 := hr
  clear hr hst q0 q1
  simp at p0
  obtain ⟨wk6, hwk⟩ : ∃ x, x = w2.setCell ⟨w.heap.size, 6, none⟩ (.float .f32 r) := ⟨_, rfl⟩
  rw [← hwk] at p0 p1 pst ⊢
  clear hwk
  have q0 := p0
  have q1 := p1
  have hst := pst
  clear pst p0 p1
  rw [rounds_succ]
  go_wp2
  have hcells := fun w1 (hw1 : Stays wk6 w1) => (row_of hw1 q0)
  refine wp_region_soft_tail 11 (Stays.refl _) (fun _ _ _ => False) [] (by kernel_rfl) (by kernel_rfl) (fun _ h => by cases h) ?_
  simp only [List.take_succ_cons, List.take_zero, List.drop_succ_cons, List.drop_zero]
  repeat (first | ((with_reducible apply soft_det rfl); (case hA => rfl); (case h => (intro w1 hw1; have hc := hcells w1 hw1; go_simp; exact rfl)); go_simp) | ((with_reducible refine soft_fop rfl ?hA _ _ _ _ _ rfl rfl _ _ _ rfl rfl ?_); (case hA => rfl); intro r hr; go_simp))
  refine soft_nil ?_
  rintro w2 ⟨hw2, _⟩
  replace q0 := hw2.heap (in_heap q0) q0
  replace q1 := hw2.heap (in_heap q1) q1
  replace hst := Stays.trans hst hw2
  clear hcells hw2
  have hcm := fun i => cell_of_row w2 _ i _ _ _ q0
  have hfm := fun i => frozen_of_row w2 _ i _ _ q0
  go_wp2
  clear hcm hfm
  have p0 := heap_setCell_same w2 (w.heap.size) 7 _ _ (.float .f32 r) q0
  have p1 := (heap_setCell_other w2 ⟨w.heap.size, 7, none⟩ (w.heap.size + 1) (.float .f32 r) (by simp <;> omega)).trans q1
  have pst := Stays.setCell hst ⟨w.heap.size, 7, none⟩ (.float .f32 r) (by simp <;> omega)
  have f7 := hr
  clear hr hst q0 q1
  simp at p0
  obtain ⟨wk7, hwk⟩ : ∃ x, x = w2.setCell ⟨w.heap.size, 7, none⟩ (.float .f32 r) := ⟨_, rfl⟩
  rw [← hwk] at p0 p1 pst ⊢
  clear hwk
  have q0 := p0
  have q1 := p1
  have hst := pst
  clear pst p0 p1
  rw [rounds_succ]
  go_wp2
  have hcells := fun w1 (hw1 : Stays wk7 w1) => (row_of hw1 q0)
  refine wp_region_soft_tail 11 (Stays.refl _) (fun _ _ _ => False) [] (by kernel_rfl) (by kernel_rfl) (fun _ h => by cases h) ?_
  simp only [List.take_succ_cons, List.take_zero, List.drop_succ_cons, List.drop_zero]
  repeat (first | ((with_reducible apply soft_det rfl); (case hA => rfl); (case h => (intro w1 hw1; have hc := hcells w1 hw1; go_simp; exact rfl)); go_simp) | ((with_reducible refine soft_fop rfl ?hA _ _ _ _ _ rfl rfl _ _ _ rfl rfl ?_); (case hA => rfl); intro r hr; go_simp))
  refine soft_nil ?_
  rintro w2 ⟨hw2, _⟩
  replace q0 := hw2.heap (in_heap q0) q0
  replace q1 := hw2.heap (in_heap q1) q1
  replace hst := Stays.trans hst hw2
  clear hcells hw2
  have hcm := fun i => cell_of_row w2 _ i _ _ _ q0
  have hfm := fun i => frozen_of_row w2 _ i _ _ q0
  go_wp2
  clear hcm hfm
  have p0 := heap_setCell_same w2 (w.heap.size) 8 _ _ (.float .f32 r) q0
  have p1 := (heap_setCell_other w2 ⟨w.heap.size, 8, none⟩ (w.heap.size + 1) (.float .f32 r) (by simp <;> omega)).trans q1
  have pst := Stays.setCell hst ⟨w.heap.size, 8, none⟩ (.float .f32 r) (by simp <;> omega)
  have f8 := hr
  clear hr hst q0 q1
  simp at p0
  obtain ⟨wk8, hwk⟩ : ∃ x, x = w2.setCell ⟨w.heap.size, 8, none⟩ (.float .f32 r) := ⟨_, rfl⟩
  rw [← hwk] at p0 p1 pst ⊢
  clear hwk
  have q0 := p0
  have q1 := p1
  have hst := pst
  clear pst p0 p1
  rw [rounds_succ]
  go_wp2
  rw [rounds_succ]
  have hout := fun i => cell_of_row _ _ i _ _ _ q0
  have hres := q1
  clear q0 q1
  go_wp2_with ((refine wpList_store_row rfl _ _ _ rfl _ _ _ rfl rfl hres ?hi ?ho ?h1 ?hB hst ?_); (case hi => kernel_rfl); (case ho => rfl); (case h1 => first | rfl | simp [Value.oneCell']); (case hB => first | omega | (simp <;> omega)); intro w2 hw2 hq2 _ _)
  apply end_agg rfl rfl rfl Try.underlying26 rfl (t := 26)
  case hg => exact hq2
  case hi => kernel_rfl
  case hR => exact ⟨_, rfl, ⟨_, _, _, _, _, _, _, _, _, rfl, f0, f1, f2, f3, f4, f5, f6, f7, f8⟩, hw2⟩

theorem c_implScaleMat (a0 a1 a2 a3 a4 a5 a6 a7 a8 s : Nat) (w : World) :
    Calls Try.prog 20 #[.agg #[.float .f32 a0, .float .f32 a1, .float .f32 a2, .float .f32 a3, .float .f32 a4, .float .f32 a5, .float .f32 a6, .float .f32 a7, .float .f32 a8], .float .f32 s] w fun en w' => ∃ v, en = .returned v ∧ r_ScaleMat a0 a1 a2 a3 a4 a5 a6 a7 a8 s v ∧ Stays w w' := by
  have q0 : ((w.alloc (.cells #[.float .f32 a0, .float .f32 a1, .float .f32 a2, .float .f32 a3, .float .f32 a4, .float .f32 a5, .float .f32 a6, .float .f32 a7, .float .f32 a8] 26)).alloc (.cells #[.float .f32 0, .float .f32 0, .float .f32 0, .float .f32 0, .float .f32 0, .float .f32 0, .float .f32 0, .float .f32 0, .float .f32 0] 26)).heap[w.heap.size]? = some (.cells #[.float .f32 a0, .float .f32 a1, .float .f32 a2, .float .f32 a3, .float .f32 a4, .float .f32 a5, .float .f32 a6, .float .f32 a7, .float .f32 a8] 26 (0, 0)) := by (repeat (first | (refine heap_top _ _ _ ?_; simp; done) | (with_reducible refine heap_drawn _ _ _ ?_) | (with_reducible refine heap_under _ _ _ ?_ ?_; (simp <;> omega))))
  have q1 : ((w.alloc (.cells #[.float .f32 a0, .float .f32 a1, .float .f32 a2, .float .f32 a3, .float .f32 a4, .float .f32 a5, .float .f32 a6, .float .f32 a7, .float .f32 a8] 26)).alloc (.cells #[.float .f32 0, .float .f32 0, .float .f32 0, .float .f32 0, .float .f32 0, .float .f32 0, .float .f32 0, .float .f32 0, .float .f32 0] 26)).heap[w.heap.size + 1]? = some (.cells #[.float .f32 0, .float .f32 0, .float .f32 0, .float .f32 0, .float .f32 0, .float .f32 0, .float .f32 0, .float .f32 0, .float .f32 0] 26 (0, 0)) := by (repeat (first | (refine heap_top _ _ _ ?_; simp; done) | (with_reducible refine heap_drawn _ _ _ ?_) | (with_reducible refine heap_under _ _ _ ?_ ?_; (simp <;> omega))))
  have hcells := fun w1 (hw1 : Stays ((w.alloc (.cells #[.float .f32 a0, .float .f32 a1, .float .f32 a2, .float .f32 a3, .float .f32 a4, .float .f32 a5, .float .f32 a6, .float .f32 a7, .float .f32 a8] 26)).alloc (.cells #[.float .f32 0, .float .f32 0, .float .f32 0, .float .f32 0, .float .f32 0, .float .f32 0, .float .f32 0, .float .f32 0, .float .f32 0] 26)) w1) => (row_of hw1 q0)
  have hend : Hid (∀ w1, Stays ((w.alloc (.cells #[.float .f32 a0, .float .f32 a1, .float .f32 a2, .float .f32 a3, .float .f32 a4, .float .f32 a5, .float .f32 a6, .float .f32 a7, .float .f32 a8] 26)).alloc (.cells #[.float .f32 0, .float .f32 0, .float .f32 0, .float .f32 0, .float .f32 0, .float .f32 0, .float .f32 0, .float .f32 0, .float .f32 0] 26)) w1 → w1.heap[w.heap.size + 1]? = some (.cells #[.float .f32 0, .float .f32 0, .float .f32 0, .float .f32 0, .float .f32 0, .float .f32 0, .float .f32 0, .float .f32 0, .float .f32 0] 26 (0, 0)) ∧ Stays w w1) := fun w1 h => ⟨h.heap (in_heap q1) q1, Stays.trans (by (repeat (first | exact Stays.refl _ | (with_reducible refine Stays.drewN ?_ _) | (with_reducible refine Stays.alloc ?_ _) | (with_reducible refine Stays.drew ?_) | (refine Stays.trans ?_ ‹Stays _ _›)))) h⟩
  clear q0 q1
  go_enter Try.func20, Try.ntmps20
  go_wp2
  refine wp_region_soft_tail 13 (Stays.refl _) (fun f args v => ∃ k0 k1 k2 l0, args = #[.agg #[.float .f32 k0, .float .f32 k1, .float .f32 k2], .float .f32 l0] ∧ r_ScaleVec k0 k1 k2 l0 v) [] (by kernel_rfl) (by kernel_rfl) (fun _ h => by cases h) ?_
  simp only [List.take_succ_cons, List.take_zero, List.drop_succ_cons, List.drop_zero]
  repeat ((with_reducible apply soft_det rfl); (case hA => rfl); (case h => (intro w1 hw1; have hc := hcells w1 hw1; go_simp; exact rfl)); go_simp)
  apply soft_call rfl
  case hA => rfl
  case h => (intro w1 hw1; go_simp; exact ⟨rfl, rfl⟩)
  case hc => exact fun w1 hw1 => (c_implScaleVec _ _ _ _  w1).mono fun e w' ⟨v, he, hr, hw'⟩ => ⟨_, he, ⟨_, _, _, _, rfl, hr⟩, hw'⟩
  rintro v ⟨k0, k1, k2, l0, hk, ⟨x0, y0, z0, rfl, hx0, hy0, hz0⟩⟩; obtain ⟨⟨rfl, rfl, rfl⟩, rfl⟩ : (a0 = k0 ∧ a1 = k1 ∧ a2 = k2) ∧ s = l0 := by simpa using hk
  go_simp
  repeat ((with_reducible apply soft_det rfl); (case hA => rfl); (case h => (intro w1 hw1; have hc := hcells w1 hw1; go_simp; exact rfl)); go_simp)
  apply soft_call rfl
  case hA => rfl
  case h => (intro w1 hw1; go_simp; exact ⟨rfl, rfl⟩)
  case hc => exact fun w1 hw1 => (c_implScaleVec _ _ _ _  w1).mono fun e w' ⟨v, he, hr, hw'⟩ => ⟨_, he, ⟨_, _, _, _, rfl, hr⟩, hw'⟩
  rintro v ⟨k0, k1, k2, l0, hk, ⟨x1, y1, z1, rfl, hx1, hy1, hz1⟩⟩; obtain ⟨⟨rfl, rfl, rfl⟩, rfl⟩ : (a3 = k0 ∧ a4 = k1 ∧ a5 = k2) ∧ s = l0 := by simpa using hk
  go_simp
  repeat ((with_reducible apply soft_det rfl); (case hA => rfl); (case h => (intro w1 hw1; have hc := hcells w1 hw1; go_simp; exact rfl)); go_simp)
  apply soft_call rfl
  case hA => rfl
  case h => (intro w1 hw1; go_simp; exact ⟨rfl, rfl⟩)
  case hc => exact fun w1 hw1 => (c_implScaleVec _ _ _ _  w1).mono fun e w' ⟨v, he, hr, hw'⟩ => ⟨_, he, ⟨_, _, _, _, rfl, hr⟩, hw'⟩
  rintro v ⟨k0, k1, k2, l0, hk, ⟨x2, y2, z2, rfl, hx2, hy2, hz2⟩⟩; obtain ⟨⟨rfl, rfl, rfl⟩, rfl⟩ : (a6 = k0 ∧ a7 = k1 ∧ a8 = k2) ∧ s = l0 := by simpa using hk
  go_simp
  repeat ((with_reducible apply soft_det rfl); (case hA => rfl); (case h => (intro w1 hw1; have hc := hcells w1 hw1; go_simp; exact rfl)); go_simp)
  refine soft_nil ?_
  rintro w2 ⟨hw2, _⟩
  obtain ⟨hres, hst⟩ := hend.out _ hw2
  clear hcells hw2 hend
  refine wpList_store_row rfl _ _ _ rfl _ _ _ rfl rfl hres ?hi ?ho ?h1 ?hB hst ?_
  case hi => kernel_rfl
  case ho => rfl
  case h1 => first | rfl | simp [Value.oneCell']
  case hB => first | omega | (simp <;> omega)
  intro w3 hw3 hq3 _ _
  go_wp2
  apply end_agg rfl rfl rfl Try.underlying26 rfl (t := 26)
  case hg => exact hq3
  case hi => kernel_rfl
  case hR => exact ⟨_, rfl, ⟨_, _, _, _, _, _, _, _, _, rfl, hx0, hy0, hz0, hx1, hy1, hz1, hx2, hy2, hz2⟩, hw3⟩

def r_OuterOf (a0 a1 a2 b0 b1 b2 : Nat) (v : Value) : Prop := ∃ x0 x1 x2 x3 x4 x5 x6 x7 x8, v = .agg #[.float .f32 x0, .float .f32 x1, .float .f32 x2, .float .f32 x3, .float .f32 x4, .float .f32 x5, .float .f32 x6, .float .f32 x7, .float .f32 x8] ∧ FIs .f32 x0 (fop .mul .f32 (can .f32 a0) (can .f32 b0)) ∧ FIs .f32 x1 (fop .mul .f32 (can .f32 a0) (can .f32 b1)) ∧ FIs .f32 x2 (fop .mul .f32 (can .f32 a0) (can .f32 b2)) ∧ FIs .f32 x3 (fop .mul .f32 (can .f32 a1) (can .f32 b0)) ∧ FIs .f32 x4 (fop .mul .f32 (can .f32 a1) (can .f32 b1)) ∧ FIs .f32 x5 (fop .mul .f32 (can .f32 a1) (can .f32 b2)) ∧ FIs .f32 x6 (fop .mul .f32 (can .f32 a2) (can .f32 b0)) ∧ FIs .f32 x7 (fop .mul .f32 (can .f32 a2) (can .f32 b1)) ∧ FIs .f32 x8 (fop .mul .f32 (can .f32 a2) (can .f32 b2))

set_option maxHeartbeats 2000000 in
theorem c_specOuterOf (a0 a1 a2 b0 b1 b2 : Nat) (w : World) :
    Calls Try.prog 21 #[.agg #[.float .f32 a0, .float .f32 a1, .float .f32 a2], .agg #[.float .f32 b0, .float .f32 b1, .float .f32 b2]] w fun en w' => ∃ v, en = .returned v ∧ r_OuterOf a0 a1 a2 b0 b1 b2 v ∧ Stays w w' := by
  have q0 : ((((w.alloc (.cells #[.float .f32 a0, .float .f32 a1, .float .f32 a2] 35)).alloc (.cells #[.float .f32 b0, .float .f32 b1, .float .f32 b2] 35)).alloc (.cells #[.float .f32 0, .float .f32 0, .float .f32 0, .float .f32 0, .float .f32 0, .float .f32 0, .float .f32 0, .float .f32 0, .float .f32 0] 26)).alloc (.cells #[.float .f32 0, .float .f32 0, .float .f32 0, .float .f32 0, .float .f32 0, .float .f32 0, .float .f32 0, .float .f32 0, .float .f32 0] 26)).heap[w.heap.size]? = some (.cells #[.float .f32 a0, .float .f32 a1, .float .f32 a2] 35 (0, 0)) := by (repeat (first | (refine heap_top _ _ _ ?_; simp; done) | (with_reducible refine heap_drawn _ _ _ ?_) | (with_reducible refine heap_under _ _ _ ?_ ?_; (simp <;> omega))))
  have q1 : ((((w.alloc (.cells #[.float .f32 a0, .float .f32 a1, .float .f32 a2] 35)).alloc (.cells #[.float .f32 b0, .float .f32 b1, .float .f32 b2] 35)).alloc (.cells #[.float .f32 0, .float .f32 0, .float .f32 0, .float .f32 0, .float .f32 0, .float .f32 0, .float .f32 0, .float .f32 0, .float .f32 0] 26)).alloc (.cells #[.float .f32 0, .float .f32 0, .float .f32 0, .float .f32 0, .float .f32 0, .float .f32 0, .float .f32 0, .float .f32 0, .float .f32 0] 26)).heap[w.heap.size + 1]? = some (.cells #[.float .f32 b0, .float .f32 b1, .float .f32 b2] 35 (0, 0)) := by (repeat (first | (refine heap_top _ _ _ ?_; simp; done) | (with_reducible refine heap_drawn _ _ _ ?_) | (with_reducible refine heap_under _ _ _ ?_ ?_; (simp <;> omega))))
  have q2 : ((((w.alloc (.cells #[.float .f32 a0, .float .f32 a1, .float .f32 a2] 35)).alloc (.cells #[.float .f32 b0, .float .f32 b1, .float .f32 b2] 35)).alloc (.cells #[.float .f32 0, .float .f32 0, .float .f32 0, .float .f32 0, .float .f32 0, .float .f32 0, .float .f32 0, .float .f32 0, .float .f32 0] 26)).alloc (.cells #[.float .f32 0, .float .f32 0, .float .f32 0, .float .f32 0, .float .f32 0, .float .f32 0, .float .f32 0, .float .f32 0, .float .f32 0] 26)).heap[w.heap.size + 1 + 1]? = some (.cells #[.float .f32 0, .float .f32 0, .float .f32 0, .float .f32 0, .float .f32 0, .float .f32 0, .float .f32 0, .float .f32 0, .float .f32 0] 26 (0, 0)) := by (repeat (first | (refine heap_top _ _ _ ?_; simp; done) | (with_reducible refine heap_drawn _ _ _ ?_) | (with_reducible refine heap_under _ _ _ ?_ ?_; (simp <;> omega))))
  have q3 : ((((w.alloc (.cells #[.float .f32 a0, .float .f32 a1, .float .f32 a2] 35)).alloc (.cells #[.float .f32 b0, .float .f32 b1, .float .f32 b2] 35)).alloc (.cells #[.float .f32 0, .float .f32 0, .float .f32 0, .float .f32 0, .float .f32 0, .float .f32 0, .float .f32 0, .float .f32 0, .float .f32 0] 26)).alloc (.cells #[.float .f32 0, .float .f32 0, .float .f32 0, .float .f32 0, .float .f32 0, .float .f32 0, .float .f32 0, .float .f32 0, .float .f32 0] 26)).heap[w.heap.size + 1 + 1 + 1]? = some (.cells #[.float .f32 0, .float .f32 0, .float .f32 0, .float .f32 0, .float .f32 0, .float .f32 0, .float .f32 0, .float .f32 0, .float .f32 0] 26 (0, 0)) := by (repeat (first | (refine heap_top _ _ _ ?_; simp; done) | (with_reducible refine heap_drawn _ _ _ ?_) | (with_reducible refine heap_under _ _ _ ?_ ?_; (simp <;> omega))))
  have hst : Stays w ((((w.alloc (.cells #[.float .f32 a0, .float .f32 a1, .float .f32 a2] 35)).alloc (.cells #[.float .f32 b0, .float .f32 b1, .float .f32 b2] 35)).alloc (.cells #[.float .f32 0, .float .f32 0, .float .f32 0, .float .f32 0, .float .f32 0, .float .f32 0, .float .f32 0, .float .f32 0, .float .f32 0] 26)).alloc (.cells #[.float .f32 0, .float .f32 0, .float .f32 0, .float .f32 0, .float .f32 0, .float .f32 0, .float .f32 0, .float .f32 0, .float .f32 0] 26)) := by (repeat (first | exact Stays.refl _ | (with_reducible refine Stays.drewN ?_ _) | (with_reducible refine Stays.alloc ?_ _) | (with_reducible refine Stays.drew ?_) | (refine Stays.trans ?_ ‹Stays _ _›)))
  go_enter Try.func21, Try.ntmps21
  go_wp2
  refine wp_loop_rounds 4 ?_
  rw [rounds_succ]
  go_wp2
  refine wp_loop_rounds 4 ?_
  rw [rounds_succ]
  go_wp2
  have hcells := fun w1 (hw1 : Stays ((((w.alloc (.cells #[.float .f32 a0, .float .f32 a1, .float .f32 a2] 35)).alloc (.cells #[.float .f32 b0, .float .f32 b1, .float .f32 b2] 35)).alloc (.cells #[.float .f32 0, .float .f32 0, .float .f32 0, .float .f32 0, .float .f32 0, .float .f32 0, .float .f32 0, .float .f32 0, .float .f32 0] 26)).alloc (.cells #[.float .f32 0, .float .f32 0, .float .f32 0, .float .f32 0, .float .f32 0, .float .f32 0, .float .f32 0, .float .f32 0, .float .f32 0] 26)) w1) => (And.intro (row_of hw1 q0) (And.intro (row_of hw1 q1) (row_of hw1 q3)))
  refine wp_region_soft_tail 11 (Stays.refl _) (fun _ _ _ => False) [] (by kernel_rfl) (by kernel_rfl) (fun _ h => by cases h) ?_
  simp only [List.take_succ_cons, List.take_zero, List.drop_succ_cons, List.drop_zero]
  repeat (first | ((with_reducible apply soft_det rfl); (case hA => rfl); (case h => (intro w1 hw1; have hc := hcells w1 hw1; go_simp; exact rfl)); go_simp) | ((with_reducible refine soft_fop rfl ?hA _ _ _ _ _ rfl rfl _ _ _ rfl rfl ?_); (case hA => rfl); intro r hr; go_simp))
  refine soft_nil ?_
  rintro w2 ⟨hw2, _⟩
  replace q0 := hw2.heap (in_heap q0) q0
  replace q1 := hw2.heap (in_heap q1) q1
  replace q2 := hw2.heap (in_heap q2) q2
  replace q3 := hw2.heap (in_heap q3) q3
  replace hst := Stays.trans hst hw2
  clear hcells hw2
  have hcm := fun i => cell_of_row w2 _ i _ _ _ q3
  have hfm := fun i => frozen_of_row w2 _ i _ _ q3
  go_wp2
  clear hcm hfm
  have p3 := heap_setCell_same w2 (w.heap.size + 1 + 1 + 1) 0 _ _ (.float .f32 r) q3
  have p0 := (heap_setCell_other w2 ⟨w.heap.size + 1 + 1 + 1, 0, none⟩ (w.heap.size) (.float .f32 r) (by simp <;> omega)).trans q0
  have p1 := (heap_setCell_other w2 ⟨w.heap.size + 1 + 1 + 1, 0, none⟩ (w.heap.size + 1) (.float .f32 r) (by simp <;> omega)).trans q1
  have p2 := (heap_setCell_other w2 ⟨w.heap.size + 1 + 1 + 1, 0, none⟩ (w.heap.size + 1 + 1) (.float .f32 r) (by simp <;> omega)).trans q2
  have pst := Stays.setCell hst ⟨w.heap.size + 1 + 1 + 1, 0, none⟩ (.float .f32 r) (by simp <;> omega)
  have f0 := hr
  clear hr hst q0 q1 q2 q3
  simp at p3
  obtain ⟨wk0, hwk⟩ : ∃ x, x = w2.setCell ⟨w.heap.size + 1 + 1 + 1, 0, none⟩ (.float .f32 r) := ⟨_, rfl⟩
  rw [← hwk] at p0 p1 p2 p3 pst ⊢
  clear hwk
  have q0 := p0
  have q1 := p1
  have q2 := p2
  have q3 := p3
  have hst := pst
  clear pst p0 p1 p2 p3
  rw [rounds_succ]
  go_wp2
  have hcells := fun w1 (hw1 : Stays wk0 w1) => (And.intro (row_of hw1 q0) (And.intro (row_of hw1 q1) (row_of hw1 q3)))
  refine wp_region_soft_tail 11 (Stays.refl _) (fun _ _ _ => False) [] (by kernel_rfl) (by kernel_rfl) (fun _ h => by cases h) ?_
  simp only [List.take_succ_cons, List.take_zero, List.drop_succ_cons, List.drop_zero]
  repeat (first | ((with_reducible apply soft_det rfl); (case hA => rfl); (case h => (intro w1 hw1; have hc := hcells w1 hw1; go_simp; exact rfl)); go_simp) | ((with_reducible refine soft_fop rfl ?hA _ _ _ _ _ rfl rfl _ _ _ rfl rfl ?_); (case hA => rfl); intro r hr; go_simp))
  refine soft_nil ?_
  rintro w2 ⟨hw2, _⟩
  replace q0 := hw2.heap (in_heap q0) q0
  replace q1 := hw2.heap (in_heap q1) q1
  replace q2 := hw2.heap (in_heap q2) q2
  replace q3 := hw2.heap (in_heap q3) q3
  replace hst := Stays.trans hst hw2
  clear hcells hw2
  have hcm := fun i => cell_of_row w2 _ i _ _ _ q3
  have hfm := fun i => frozen_of_row w2 _ i _ _ q3
  go_wp2
  clear hcm hfm
  have p3 := heap_setCell_same w2 (w.heap.size + 1 + 1 + 1) 1 _ _ (.float .f32 r) q3
  have p0 := (heap_setCell_other w2 ⟨w.heap.size + 1 + 1 + 1, 1, none⟩ (w.heap.size) (.float .f32 r) (by simp <;> omega)).trans q0
  have p1 := (heap_setCell_other w2 ⟨w.heap.size + 1 + 1 + 1, 1, none⟩ (w.heap.size + 1) (.float .f32 r) (by simp <;> omega)).trans q1
  have p2 := (heap_setCell_other w2 ⟨w.heap.size + 1 + 1 + 1, 1, none⟩ (w.heap.size + 1 + 1) (.float .f32 r) (by simp <;> omega)).trans q2
  have pst := Stays.setCell hst ⟨w.heap.size + 1 + 1 + 1, 1, none⟩ (.float .f32 r) (by simp <;> omega)
  have f1 := hr
  clear hr hst q0 q1 q2 q3
  simp at p3
  obtain ⟨wk1, hwk⟩ : ∃ x, x = w2.setCell ⟨w.heap.size + 1 + 1 + 1, 1, none⟩ (.float .f32 r) := ⟨_, rfl⟩
  rw [← hwk] at p0 p1 p2 p3 pst ⊢
  clear hwk
  have q0 := p0
  have q1 := p1
  have q2 := p2
  have q3 := p3
  have hst := pst
  clear pst p0 p1 p2 p3
  rw [rounds_succ]
  go_wp2
  have hcells := fun w1 (hw1 : Stays wk1 w1) => (And.intro (row_of hw1 q0) (And.intro (row_of hw1 q1) (row_of hw1 q3)))
  refine wp_region_soft_tail 11 (Stays.refl _) (fun _ _ _ => False) [] (by kernel_rfl) (by kernel_rfl) (fun _ h => by cases h) ?_
  simp only [List.take_succ_cons, List.take_zero, List.drop_succ_cons, List.drop_zero]
  repeat (first | ((with_reducible apply soft_det rfl); (case hA => rfl); (case h => (intro w1 hw1; have hc := hcells w1 hw1; go_simp; exact rfl)); go_simp) | ((with_reducible refine soft_fop rfl ?hA _ _ _ _ _ rfl rfl _ _ _ rfl rfl ?_); (case hA => rfl); intro r hr; go_simp))
  refine soft_nil ?_
  rintro w2 ⟨hw2, _⟩
  replace q0 := hw2.heap (in_heap q0) q0
  replace q1 := hw2.heap (in_heap q1) q1
  replace q2 := hw2.heap (in_heap q2) q2
  replace q3 := hw2.heap (in_heap q3) q3
  replace hst := Stays.trans hst hw2
  clear hcells hw2
  have hcm := fun i => cell_of_row w2 _ i _ _ _ q3
  have hfm := fun i => frozen_of_row w2 _ i _ _ q3
  go_wp2
  clear hcm hfm
  have p3 := heap_setCell_same w2 (w.heap.size + 1 + 1 + 1) 2 _ _ (.float .f32 r) q3
  have p0 := (heap_setCell_other w2 ⟨w.heap.size + 1 + 1 + 1, 2, none⟩ (w.heap.size) (.float .f32 r) (by simp <;> omega)).trans q0
  have p1 := (heap_setCell_other w2 ⟨w.heap.size + 1 + 1 + 1, 2, none⟩ (w.heap.size + 1) (.float .f32 r) (by simp <;> omega)).trans q1
  have p2 := (heap_setCell_other w2 ⟨w.heap.size + 1 + 1 + 1, 2, none⟩ (w.heap.size + 1 + 1) (.float .f32 r) (by simp <;> omega)).trans q2
  have pst := Stays.setCell hst ⟨w.heap.size + 1 + 1 + 1, 2, none⟩ (.float .f32 r) (by simp <;> omega)
  have f2 := hr
  clear hr hst q0 q1 q2 q3
  simp at p3
  obtain ⟨wk2, hwk⟩ : ∃ x, x = w2.setCell ⟨w.heap.size + 1 + 1 + 1, 2, none⟩ (.float .f32 r) := ⟨_, rfl⟩
  rw [← hwk] at p0 p1 p2 p3 pst ⊢
  clear hwk
  have q0 := p0
  have q1 := p1
  have q2 := p2
  have q3 := p3
  have hst := pst
  clear pst p0 p1 p2 p3
  rw [rounds_succ]
  go_wp2
  rw [rounds_succ]
  go_wp2
  refine wp_loop_rounds 4 ?_
  rw [rounds_succ]
  go_wp2
  have hcells := fun w1 (hw1 : Stays wk2 w1) => (And.intro (row_of hw1 q0) (And.intro (row_of hw1 q1) (row_of hw1 q3)))
  refine wp_region_soft_tail 11 (Stays.refl _) (fun _ _ _ => False) [] (by kernel_rfl) (by kernel_rfl) (fun _ h => by cases h) ?_
  simp only [List.take_succ_cons, List.take_zero, List.drop_succ_cons, List.drop_zero]
  repeat (first | ((with_reducible apply soft_det rfl); (case hA => rfl); (case h => (intro w1 hw1; have hc := hcells w1 hw1; go_simp; exact rfl)); go_simp) | ((with_reducible refine soft_fop rfl ?hA _ _ _ _ _ rfl rfl _ _ _ rfl rfl ?_); (case hA => rfl); intro r hr; go_simp))
  refine soft_nil ?_
  rintro w2 ⟨hw2, _⟩
  replace q0 := hw2.heap (in_heap q0) q0
  replace q1 := hw2.heap (in_heap q1) q1
  replace q2 := hw2.heap (in_heap q2) q2
  replace q3 := hw2.heap (in_heap q3) q3
  replace hst := Stays.trans hst hw2
  clear hcells hw2
  have hcm := fun i => cell_of_row w2 _ i _ _ _ q3
  have hfm := fun i => frozen_of_row w2 _ i _ _ q3
  go_wp2
  clear hcm hfm
  have p3 := heap_setCell_same w2 (w.heap.size + 1 + 1 + 1) 3 _ _ (.float .f32 r) q3
  have p0 := (heap_setCell_other w2 ⟨w.heap.size + 1 + 1 + 1, 3, none⟩ (w.heap.size) (.float .f32 r) (by simp <;> omega)).trans q0
  have p1 := (heap_setCell_other w2 ⟨w.heap.size + 1 + 1 + 1, 3, none⟩ (w.heap.size + 1) (.float .f32 r) (by simp <;> omega)).trans q1
  have p2 := (heap_setCell_other w2 ⟨w.heap.size + 1 + 1 + 1, 3, none⟩ (w.heap.size + 1 + 1) (.float .f32 r) (by simp <;> omega)).trans q2
  have pst := Stays.setCell hst ⟨w.heap.size + 1 + 1 + 1, 3, none⟩ (.float .f32 r) (by simp <;> omega)
  have f3 := hr
  clear hr hst q0 q1 q2 q3
  simp at p3
  obtain ⟨wk3, hwk⟩ : ∃ x, x = w2.setCell ⟨w.heap.size + 1 + 1 + 1, 3, none⟩ (.float .f32 r) := ⟨_, rfl⟩
  rw [← hwk] at p0 p1 p2 p3 pst ⊢
  clear hwk
  have q0 := p0
  have q1 := p1
  have q2 := p2
  have q3 := p3
  have hst := pst
  clear pst p0 p1 p2 p3
  rw [rounds_succ]
  go_wp2
  have hcells := fun w1 (hw1 : Stays wk3 w1) => (And.intro (row_of hw1 q0) (And.intro (row_of hw1 q1) (row_of hw1 q3)))
  refine wp_region_soft_tail 11 (Stays.refl _) (fun _ _ _ => False) [] (by kernel_rfl) (by kernel_rfl) (fun _ h => by cases h) ?_
  simp only [List.take_succ_cons, List.take_zero, List.drop_succ_cons, List.drop_zero]
  repeat (first | ((with_reducible apply soft_det rfl); (case hA => rfl); (case h => (intro w1 hw1; have hc := hcells w1 hw1; go_simp; exact rfl)); go_simp) | ((with_reducible refine soft_fop rfl ?hA _ _ _ _ _ rfl rfl _ _ _ rfl rfl ?_); (case hA => rfl); intro r hr; go_simp))
  refine soft_nil ?_
  rintro w2 ⟨hw2, _⟩
  replace q0 := hw2.heap (in_heap q0) q0
  replace q1 := hw2.heap (in_heap q1) q1
  replace q2 := hw2.heap (in_heap q2) q2
  replace q3 := hw2.heap (in_heap q3) q3
  replace hst := Stays.trans hst hw2
  clear hcells hw2
  have hcm := fun i => cell_of_row w2 _ i _ _ _ q3
  have hfm := fun i => frozen_of_row w2 _ i _ _ q3
  go_wp2
  clear hcm hfm
  have p3 := heap_setCell_same w2 (w.heap.size + 1 + 1 + 1) 4 _ _ (.float .f32 r) q3
  have p0 := (heap_setCell_other w2 ⟨w.heap.size + 1 + 1 + 1, 4, none⟩ (w.heap.size) (.float .f32 r) (by simp <;> omega)).trans q0
  have p1 := (heap_setCell_other w2 ⟨w.heap.size + 1 + 1 + 1, 4, none⟩ (w.heap.size + 1) (.float .f32 r) (by simp <;> omega)).trans q1
  have p2 := (heap_setCell_other w2 ⟨w.heap.size + 1 + 1 + 1, 4, none⟩ (w.heap.size + 1 + 1) (.float .f32 r) (by simp <;> omega)).trans q2
  have pst := Stays.setCell hst ⟨w.heap.size + 1 + 1 + 1, 4, none⟩ (.float .f32 r) (by simp <;> omega)
  have f4 := hr
  clear hr hst q0 q1 q2 q3
  simp at p3
  obtain ⟨wk4, hwk⟩ : ∃ x, x = w2.setCell ⟨w.heap.size + 1 + 1 + 1, 4, none⟩ (.float .f32 r) := ⟨_, rfl⟩
  rw [← hwk] at p0 p1 p2 p3 pst ⊢
  clear hwk
  have q0 := p0
  have q1 := p1
  have q2 := p2
  have q3 := p3
  have hst := pst
  clear pst p0 p1 p2 p3
  rw [rounds_succ]
  go_wp2
  have hcells := fun w1 (hw1 : Stays wk4 w1) => (And.intro (row_of hw1 q0) (And.intro (row_of hw1 q1) (row_of hw1 q3)))
  refine wp_region_soft_tail 11 (Stays.refl _) (fun _ _ _ => False) [] (by kernel_rfl) (by kernel_rfl) (fun _ h => by cases h) ?_
  simp only [List.take_succ_cons, List.take_zero, List.drop_succ_cons, List.drop_zero]
  repeat (first | ((with_reducible apply soft_det rfl); (case hA => rfl); (case h => (intro w1 hw1; have hc := hcells w1 hw1; go_simp; exact rfl)); go_simp) | ((with_reducible refine soft_fop rfl ?hA _ _ _ _ _ rfl rfl _ _ _ rfl rfl ?_); (case hA => rfl); intro r hr; go_simp))
  refine soft_nil ?_
  rintro w2 ⟨hw2, _⟩
  replace q0 := hw2.heap (in_heap q0) q0
  replace q1 := hw2.heap (in_heap q1) q1
  replace q2 := hw2.heap (in_heap q2) q2
  replace q3 := hw2.heap (in_heap q3) q3
  replace hst := Stays.trans hst hw2
  clear hcells hw2
  have hcm := fun i => cell_of_row w2 _ i _ _ _ q3
  have hfm := fun i => frozen_of_row w2 _ i _ _ q3
  go_wp2
  clear hcm hfm
  have p3 := heap_setCell_same w2 (w.heap.size + 1 + 1 + 1) 5 _ _ (.float .f32 r) q3
  have p0 := (heap_setCell_other w2 ⟨w.heap.size + 1 + 1 + 1, 5, none⟩ (w.heap.size) (.float .f32 r) (by simp <;> omega)).trans q0
  have p1 := (heap_setCell_other w2 ⟨w.heap.size + 1 + 1 + 1, 5, none⟩ (w.heap.size + 1) (.float .f32 r) (by simp <;> omega)).trans q1
  have p2 := (heap_setCell_other w2 ⟨w.heap.size + 1 + 1 + 1, 5, none⟩ (w.heap.size + 1 + 1) (.float .f32 r) (by simp <;> omega)).trans q2
  have pst := Stays.setCell hst ⟨w.heap.size + 1 + 1 + 1, 5, none⟩ (.float .f32 r) (by simp <;> omega)
  have f5 := hr
  clear hr hst q0 q1 q2 q3
  simp at p3
  obtain ⟨wk5, hwk⟩ : ∃ x, x = w2.setCell ⟨w.heap.size + 1 + 1 + 1, 5, none⟩ (.float .f32 r) := ⟨_, rfl⟩
  rw [← hwk] at p0 p1 p2 p3 pst ⊢
  clear hwk
  have q0 := p0
  have q1 := p1
  have q2 := p2
  have q3 := p3
  have hst := pst
  clear pst p0 p1 p2 p3
  rw [rounds_succ]
  go_wp2
  rw [rounds_succ]
  go_wp2
  refine wp_loop_rounds 4 ?_
  rw [rounds_succ]
  go_wp2
  have hcells := fun w1 (hw1 : Stays wk5 w1) => (And.intro (row_of hw1 q0) (And.intro (row_of hw1 q1) (row_of hw1 q3)))
  refine wp_region_soft_tail 11 (Stays.refl _) (fun _ _ _ => False) [] (by kernel_rfl) (by kernel_rfl) (fun _ h => by cases h) ?_
  simp only [List.take_succ_cons, List.take_zero, List.drop_succ_cons, List.drop_zero]
  repeat (first | ((with_reducible apply soft_det rfl); (case hA => rfl); (case h => (intro w1 hw1; have hc := hcells w1 hw1; go_simp; exact rfl)); go_simp) | ((with_reducible refine soft_fop rfl ?hA _ _ _ _ _ rfl rfl _ _ _ rfl rfl ?_); (case hA => rfl); intro r hr; go_simp))
  refine soft_nil ?_
  rintro w2 ⟨hw2, _⟩
  replace q0 := hw2.heap (in_heap q0) q0
  replace q1 := hw2.heap (in_heap q1) q1
  replace q2 := hw2.heap (in_heap q2) q2
  replace q3 := hw2.heap (in_heap q3) q3
  replace hst := Stays.trans hst hw2
  clear hcells hw2
  have hcm := fun i => cell_of_row w2 _ i _ _ _ q3
  have hfm := fun i => frozen_of_row w2 _ i _ _ q3
  go_wp2
  clear hcm hfm
  have p3 := heap_setCell_same w2 (w.heap.size + 1 + 1 + 1) 6 _ _ (.float .f32 r) q3
  have p0 := (heap_setCell_other w2 ⟨w.heap.size + 1 + 1 + 1, 6, none⟩ (w.heap.size) (.float .f32 r) (by simp <;> omega)).trans q0
  have p1 := (heap_setCell_other w2 ⟨w.heap.size + 1 + 1 + 1, 6, none⟩ (w.heap.size + 1) (.float .f32 r) (by simp <;> omega)).trans q1
  have p2 := (heap_setCell_other w2 ⟨w.heap.size + 1 + 1 + 1, 6, none⟩ (w.heap.size + 1 + 1) (.float .f32 r) (by simp <;> omega)).trans q2
  have pst := Stays.setCell hst ⟨w.heap.size + 1 + 1 + 1, 6, none⟩ (.float .f32 r) (by simp <;> omega)
  have f6 := hr
  clear hr hst q0 q1 q2 q3
  simp at p3
  obtain ⟨wk6, hwk⟩ : ∃ x, x = w2.setCell ⟨w.heap.size + 1 + 1 + 1, 6, none⟩ (.float .f32 r) := ⟨_, rfl⟩
  rw [← hwk] at p0 p1 p2 p3 pst ⊢
  clear hwk
  have q0 := p0
  have q1 := p1
  have q2 := p2
  have q3 := p3
  have hst := pst
  clear pst p0 p1 p2 p3
  rw [rounds_succ]
  go_wp2
  have hcells := fun w1 (hw1 : Stays wk6 w1) => (And.intro (row_of hw1 q0) (And.intro (row_of hw1 q1) (row_of hw1 q3)))
  refine wp_region_soft_tail 11 (Stays.refl _) (fun _ _ _ => False) [] (by kernel_rfl) (by kernel_rfl) (fun _ h => by cases h) ?_
  simp only [List.take_succ_cons, List.take_zero, List.drop_succ_cons, List.drop_zero]
  repeat (first | ((with_reducible apply soft_det rfl); (case hA => rfl); (case h => (intro w1 hw1; have hc := hcells w1 hw1; go_simp; exact rfl)); go_simp) | ((with_reducible refine soft_fop rfl ?hA _ _ _ _ _ rfl rfl _ _ _ rfl rfl ?_); (case hA => rfl); intro r hr; go_simp))
  refine soft_nil ?_
  rintro w2 ⟨hw2, _⟩
  replace q0 := hw2.heap (in_heap q0) q0
  replace q1 := hw2.heap (in_heap q1) q1
  replace q2 := hw2.heap (in_heap q2) q2
  replace q3 := hw2.heap (in_heap q3) q3
  replace hst := Stays.trans hst hw2
  clear hcells hw2
  have hcm := fun i => cell_of_row w2 _ i _ _ _ q3
  have hfm := fun i => frozen_of_row w2 _ i _ _ q3
  go_wp2
  clear hcm hfm
  have p3 := heap_setCell_same w2 (w.heap.size + 1 + 1 + 1) 7 _ _ (.float .f32 r) q3
  have p0 := (heap_setCell_other w2 ⟨w.heap.size + 1 + 1 + 1, 7, none⟩ (w.heap.size) (.float .f32 r) (by simp <;> omega)).trans q0
  have p1 := (heap_setCell_other w2 ⟨w.heap.size + 1 + 1 + 1, 7, none⟩ (w.heap.size + 1) (.float .f32 r) (by simp <;> omega)).trans q1
  have p2 := (heap_setCell_other w2 ⟨w.heap.size + 1 + 1 + 1, 7, none⟩ (w.heap.size + 1 + 1) (.float .f32 r) (by simp <;> omega)).trans q2
  have pst := Stays.setCell hst ⟨w.heap.size + 1 + 1 + 1, 7, none⟩ (.float .f32 r) (by simp <;> omega)
  have f7 := hr
  clear hr hst q0 q1 q2 q3
  simp at p3
  obtain ⟨wk7, hwk⟩ : ∃ x, x = w2.setCell ⟨w.heap.size + 1 + 1 + 1, 7, none⟩ (.float .f32 r) := ⟨_, rfl⟩
  rw [← hwk] at p0 p1 p2 p3 pst ⊢
  clear hwk
  have q0 := p0
  have q1 := p1
  have q2 := p2
  have q3 := p3
  have hst := pst
  clear pst p0 p1 p2 p3
  rw [rounds_succ]
  go_wp2
  have hcells := fun w1 (hw1 : Stays wk7 w1) => (And.intro (row_of hw1 q0) (And.intro (row_of hw1 q1) (row_of hw1 q3)))
  refine wp_region_soft_tail 11 (Stays.refl _) (fun _ _ _ => False) [] (by kernel_rfl) (by kernel_rfl) (fun _ h => by cases h) ?_
  simp only [List.take_succ_cons, List.take_zero, List.drop_succ_cons, List.drop_zero]
  repeat (first | ((with_reducible apply soft_det rfl); (case hA => rfl); (case h => (intro w1 hw1; have hc := hcells w1 hw1; go_simp; exact rfl)); go_simp) | ((with_reducible refine soft_fop rfl ?hA _ _ _ _ _ rfl rfl _ _ _ rfl rfl ?_); (case hA => rfl); intro r hr; go_simp))
  refine soft_nil ?_
  rintro w2 ⟨hw2, _⟩
  replace q0 := hw2.heap (in_heap q0) q0
  replace q1 := hw2.heap (in_heap q1) q1
  replace q2 := hw2.heap (in_heap q2) q2
  replace q3 := hw2.heap (in_heap q3) q3
  replace hst := Stays.trans hst hw2
  clear hcells hw2
  have hcm := fun i => cell_of_row w2 _ i _ _ _ q3
  have hfm := fun i => frozen_of_row w2 _ i _ _ q3
  go_wp2
  clear hcm hfm
  have p3 := heap_setCell_same w2 (w.heap.size + 1 + 1 + 1) 8 _ _ (.float .f32 r) q3
  have p0 := (heap_setCell_other w2 ⟨w.heap.size + 1 + 1 + 1, 8, none⟩ (w.heap.size) (.float .f32 r) (by simp <;> omega)).trans q0
  have p1 := (heap_setCell_other w2 ⟨w.heap.size + 1 + 1 + 1, 8, none⟩ (w.heap.size + 1) (.float .f32 r) (by simp <;> omega)).trans q1
  have p2 := (heap_setCell_other w2 ⟨w.heap.size + 1 + 1 + 1, 8, none⟩ (w.heap.size + 1 + 1) (.float .f32 r) (by simp <;> omega)).trans q2
  have pst := Stays.setCell hst ⟨w.heap.size + 1 + 1 + 1, 8, none⟩ (.float .f32 r) (by simp <;> omega)
  have f8 := hr
  clear hr hst q0 q1 q2 q3
  simp at p3
  obtain ⟨wk8, hwk⟩ : ∃ x, x = w2.setCell ⟨w.heap.size + 1 + 1 + 1, 8, none⟩ (.float .f32 r) := ⟨_, rfl⟩
  rw [← hwk] at p0 p1 p2 p3 pst ⊢
  clear hwk
  have q0 := p0
  have q1 := p1
  have q2 := p2
  have q3 := p3
  have hst := pst
  clear pst p0 p1 p2 p3
  rw [rounds_succ]
  go_wp2
  rw [rounds_succ]
  have hout := fun i => cell_of_row _ _ i _ _ _ q3
  have hres := q2
  clear q0 q1 q2 q3
  go_wp2_with ((refine wpList_store_row rfl _ _ _ rfl _ _ _ rfl rfl hres ?hi ?ho ?h1 ?hB hst ?_); (case hi => kernel_rfl); (case ho => rfl); (case h1 => first | rfl | simp [Value.oneCell']); (case hB => first | omega | (simp <;> omega)); intro w2 hw2 hq2 _ _)
  apply end_agg rfl rfl rfl Try.underlying26 rfl (t := 26)
  case hg => exact hq2
  case hi => kernel_rfl
  case hR => exact ⟨_, rfl, ⟨_, _, _, _, _, _, _, _, _, rfl, f0, f1, f2, f3, f4, f5, f6, f7, f8⟩, hw2⟩

theorem c_implOuterOf (a0 a1 a2 b0 b1 b2 : Nat) (w : World) :
    Calls Try.prog 23 #[.agg #[.float .f32 a0, .float .f32 a1, .float .f32 a2], .agg #[.float .f32 b0, .float .f32 b1, .float .f32 b2]] w fun en w' => ∃ v, en = .returned v ∧ r_OuterOf a0 a1 a2 b0 b1 b2 v ∧ Stays w w' := by
  have q0 : (((w.alloc (.cells #[.float .f32 a0, .float .f32 a1, .float .f32 a2] 35)).alloc (.cells #[.float .f32 b0, .float .f32 b1, .float .f32 b2] 35)).alloc (.cells #[.float .f32 0, .float .f32 0, .float .f32 0, .float .f32 0, .float .f32 0, .float .f32 0, .float .f32 0, .float .f32 0, .float .f32 0] 26)).heap[w.heap.size]? = some (.cells #[.float .f32 a0, .float .f32 a1, .float .f32 a2] 35 (0, 0)) := by (repeat (first | (refine heap_top _ _ _ ?_; simp; done) | (with_reducible refine heap_drawn _ _ _ ?_) | (with_reducible refine heap_under _ _ _ ?_ ?_; (simp <;> omega))))
  have q1 : (((w.alloc (.cells #[.float .f32 a0, .float .f32 a1, .float .f32 a2] 35)).alloc (.cells #[.float .f32 b0, .float .f32 b1, .float .f32 b2] 35)).alloc (.cells #[.float .f32 0, .float .f32 0, .float .f32 0, .float .f32 0, .float .f32 0, .float .f32 0, .float .f32 0, .float .f32 0, .float .f32 0] 26)).heap[w.heap.size + 1]? = some (.cells #[.float .f32 b0, .float .f32 b1, .float .f32 b2] 35 (0, 0)) := by (repeat (first | (refine heap_top _ _ _ ?_; simp; done) | (with_reducible refine heap_drawn _ _ _ ?_) | (with_reducible refine heap_under _ _ _ ?_ ?_; (simp <;> omega))))
  have q2 : (((w.alloc (.cells #[.float .f32 a0, .float .f32 a1, .float .f32 a2] 35)).alloc (.cells #[.float .f32 b0, .float .f32 b1, .float .f32 b2] 35)).alloc (.cells #[.float .f32 0, .float .f32 0, .float .f32 0, .float .f32 0, .float .f32 0, .float .f32 0, .float .f32 0, .float .f32 0, .float .f32 0] 26)).heap[w.heap.size + 1 + 1]? = some (.cells #[.float .f32 0, .float .f32 0, .float .f32 0, .float .f32 0, .float .f32 0, .float .f32 0, .float .f32 0, .float .f32 0, .float .f32 0] 26 (0, 0)) := by (repeat (first | (refine heap_top _ _ _ ?_; simp; done) | (with_reducible refine heap_drawn _ _ _ ?_) | (with_reducible refine heap_under _ _ _ ?_ ?_; (simp <;> omega))))
  have hcells := fun w1 (hw1 : Stays (((w.alloc (.cells #[.float .f32 a0, .float .f32 a1, .float .f32 a2] 35)).alloc (.cells #[.float .f32 b0, .float .f32 b1, .float .f32 b2] 35)).alloc (.cells #[.float .f32 0, .float .f32 0, .float .f32 0, .float .f32 0, .float .f32 0, .float .f32 0, .float .f32 0, .float .f32 0, .float .f32 0] 26)) w1) => (And.intro (row_of hw1 q0) (row_of hw1 q1))
  have hend : Hid (∀ w1, Stays (((w.alloc (.cells #[.float .f32 a0, .float .f32 a1, .float .f32 a2] 35)).alloc (.cells #[.float .f32 b0, .float .f32 b1, .float .f32 b2] 35)).alloc (.cells #[.float .f32 0, .float .f32 0, .float .f32 0, .float .f32 0, .float .f32 0, .float .f32 0, .float .f32 0, .float .f32 0, .float .f32 0] 26)) w1 → w1.heap[w.heap.size + 1 + 1]? = some (.cells #[.float .f32 0, .float .f32 0, .float .f32 0, .float .f32 0, .float .f32 0, .float .f32 0, .float .f32 0, .float .f32 0, .float .f32 0] 26 (0, 0)) ∧ Stays w w1) := fun w1 h => ⟨h.heap (in_heap q2) q2, Stays.trans (by (repeat (first | exact Stays.refl _ | (with_reducible refine Stays.drewN ?_ _) | (with_reducible refine Stays.alloc ?_ _) | (with_reducible refine Stays.drew ?_) | (refine Stays.trans ?_ ‹Stays _ _›)))) h⟩
  clear q0 q1 q2
  go_enter Try.func23, Try.ntmps23
  go_wp2
  refine wp_region_soft_tail 13 (Stays.refl _) (fun f args v => ∃ k0 k1 k2 l0, args = #[.agg #[.float .f32 k0, .float .f32 k1, .float .f32 k2], .float .f32 l0] ∧ r_ScaleVec k0 k1 k2 l0 v) [] (by kernel_rfl) (by kernel_rfl) (fun _ h => by cases h) ?_
  simp only [List.take_succ_cons, List.take_zero, List.drop_succ_cons, List.drop_zero]
  repeat ((with_reducible apply soft_det rfl); (case hA => rfl); (case h => (intro w1 hw1; have hc := hcells w1 hw1; go_simp; exact rfl)); go_simp)
  apply soft_call rfl
  case hA => rfl
  case h => (intro w1 hw1; go_simp; exact ⟨rfl, rfl⟩)
  case hc => exact fun w1 hw1 => (c_implScaleVec _ _ _ _  w1).mono fun e w' ⟨v, he, hr, hw'⟩ => ⟨_, he, ⟨_, _, _, _, rfl, hr⟩, hw'⟩
  rintro v ⟨k0, k1, k2, l0, hk, ⟨x0, y0, z0, rfl, hx0, hy0, hz0⟩⟩; obtain ⟨⟨rfl, rfl, rfl⟩, rfl⟩ : (b0 = k0 ∧ b1 = k1 ∧ b2 = k2) ∧ a0 = l0 := by simpa using hk
  go_simp
  repeat ((with_reducible apply soft_det rfl); (case hA => rfl); (case h => (intro w1 hw1; have hc := hcells w1 hw1; go_simp; exact rfl)); go_simp)
  apply soft_call rfl
  case hA => rfl
  case h => (intro w1 hw1; go_simp; exact ⟨rfl, rfl⟩)
  case hc => exact fun w1 hw1 => (c_implScaleVec _ _ _ _  w1).mono fun e w' ⟨v, he, hr, hw'⟩ => ⟨_, he, ⟨_, _, _, _, rfl, hr⟩, hw'⟩
  rintro v ⟨k0, k1, k2, l0, hk, ⟨x1, y1, z1, rfl, hx1, hy1, hz1⟩⟩; obtain ⟨⟨rfl, rfl, rfl⟩, rfl⟩ : (b0 = k0 ∧ b1 = k1 ∧ b2 = k2) ∧ a1 = l0 := by simpa using hk
  go_simp
  repeat ((with_reducible apply soft_det rfl); (case hA => rfl); (case h => (intro w1 hw1; have hc := hcells w1 hw1; go_simp; exact rfl)); go_simp)
  apply soft_call rfl
  case hA => rfl
  case h => (intro w1 hw1; go_simp; exact ⟨rfl, rfl⟩)
  case hc => exact fun w1 hw1 => (c_implScaleVec _ _ _ _  w1).mono fun e w' ⟨v, he, hr, hw'⟩ => ⟨_, he, ⟨_, _, _, _, rfl, hr⟩, hw'⟩
  rintro v ⟨k0, k1, k2, l0, hk, ⟨x2, y2, z2, rfl, hx2, hy2, hz2⟩⟩; obtain ⟨⟨rfl, rfl, rfl⟩, rfl⟩ : (b0 = k0 ∧ b1 = k1 ∧ b2 = k2) ∧ a2 = l0 := by simpa using hk
  go_simp
  repeat ((with_reducible apply soft_det rfl); (case hA => rfl); (case h => (intro w1 hw1; have hc := hcells w1 hw1; go_simp; exact rfl)); go_simp)
  refine soft_nil ?_
  rintro w2 ⟨hw2, _⟩
  obtain ⟨hres, hst⟩ := hend.out _ hw2
  clear hcells hw2 hend
  refine wpList_store_row rfl _ _ _ rfl _ _ _ rfl rfl hres ?hi ?ho ?h1 ?hB hst ?_
  case hi => kernel_rfl
  case ho => rfl
  case h1 => first | rfl | simp [Value.oneCell']
  case hB => first | omega | (simp <;> omega)
  intro w3 hw3 hq3 _ _
  go_wp2
  apply end_agg rfl rfl rfl Try.underlying26 rfl (t := 26)
  case hg => exact hq3
  case hi => kernel_rfl
  case hR => exact ⟨_, rfl, ⟨_, _, _, _, _, _, _, _, _, rfl, hx0.of_eq (fop_mul_comm _ _), hy0.of_eq (fop_mul_comm _ _), hz0.of_eq (fop_mul_comm _ _), hx1.of_eq (fop_mul_comm _ _), hy1.of_eq (fop_mul_comm _ _), hz1.of_eq (fop_mul_comm _ _), hx2.of_eq (fop_mul_comm _ _), hy2.of_eq (fop_mul_comm _ _), hz2.of_eq (fop_mul_comm _ _)⟩, hw3⟩

end Go.Proofs.Ytbcnafanjemaeac
