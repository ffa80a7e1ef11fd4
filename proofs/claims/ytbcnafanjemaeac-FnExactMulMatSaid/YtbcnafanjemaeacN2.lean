/- Contracts: TransposeMat. No condition. -/
import Derived.Test.YtbcnafanjemaeacB1
import Derived.Test.YtbcnafanjemaeacSp
namespace Go.Proofs.Ytbcnafanjemaeac
open Go Go.RowKit
set_option linter.unusedVariables false

def t_Mat (a0 a1 a2 a3 a4 a5 a6 a7 a8 : Nat) (v : Value) : Prop := v = .agg #[.float .f32 a0, .float .f32 a3, .float .f32 a6, .float .f32 a1, .float .f32 a4, .float .f32 a7, .float .f32 a2, .float .f32 a5, .float .f32 a8]

set_option maxHeartbeats 2000000 in
theorem c_specl01Turned (a0 a1 a2 a3 a4 a5 a6 a7 a8 : Nat) (w : World) :
    Calls Try.prog 51 #[.agg #[.float .f32 a0, .float .f32 a1, .float .f32 a2, .float .f32 a3, .float .f32 a4, .float .f32 a5, .float .f32 a6, .float .f32 a7, .float .f32 a8]] w fun en w' => ∃ v, en = .returned v ∧ t_Mat a0 a1 a2 a3 a4 a5 a6 a7 a8 v ∧ Stays w w' := by
  have q0 : (((w.alloc (.cells #[.float .f32 a0, .float .f32 a1, .float .f32 a2, .float .f32 a3, .float .f32 a4, .float .f32 a5, .float .f32 a6, .float .f32 a7, .float .f32 a8] 26)).alloc (.cells #[.float .f32 0, .float .f32 0, .float .f32 0, .float .f32 0, .float .f32 0, .float .f32 0, .float .f32 0, .float .f32 0, .float .f32 0] 26)).alloc (.cells #[.float .f32 0, .float .f32 0, .float .f32 0, .float .f32 0, .float .f32 0, .float .f32 0, .float .f32 0, .float .f32 0, .float .f32 0] 26)).heap[w.heap.size]? = some (.cells #[.float .f32 a0, .float .f32 a1, .float .f32 a2, .float .f32 a3, .float .f32 a4, .float .f32 a5, .float .f32 a6, .float .f32 a7, .float .f32 a8] 26 (0, 0)) := by (repeat (first | (refine heap_top _ _ _ ?_; simp; done) | (with_reducible refine heap_drawn _ _ _ ?_) | (with_reducible refine heap_under _ _ _ ?_ ?_; (simp <;> omega))))
  have q1 : (((w.alloc (.cells #[.float .f32 a0, .float .f32 a1, .float .f32 a2, .float .f32 a3, .float .f32 a4, .float .f32 a5, .float .f32 a6, .float .f32 a7, .float .f32 a8] 26)).alloc (.cells #[.float .f32 0, .float .f32 0, .float .f32 0, .float .f32 0, .float .f32 0, .float .f32 0, .float .f32 0, .float .f32 0, .float .f32 0] 26)).alloc (.cells #[.float .f32 0, .float .f32 0, .float .f32 0, .float .f32 0, .float .f32 0, .float .f32 0, .float .f32 0, .float .f32 0, .float .f32 0] 26)).heap[w.heap.size + 1]? = some (.cells #[.float .f32 0, .float .f32 0, .float .f32 0, .float .f32 0, .float .f32 0, .float .f32 0, .float .f32 0, .float .f32 0, .float .f32 0] 26 (0, 0)) := by (repeat (first | (refine heap_top _ _ _ ?_; simp; done) | (with_reducible refine heap_drawn _ _ _ ?_) | (with_reducible refine heap_under _ _ _ ?_ ?_; (simp <;> omega))))
  have q2 : (((w.alloc (.cells #[.float .f32 a0, .float .f32 a1, .float .f32 a2, .float .f32 a3, .float .f32 a4, .float .f32 a5, .float .f32 a6, .float .f32 a7, .float .f32 a8] 26)).alloc (.cells #[.float .f32 0, .float .f32 0, .float .f32 0, .float .f32 0, .float .f32 0, .float .f32 0, .float .f32 0, .float .f32 0, .float .f32 0] 26)).alloc (.cells #[.float .f32 0, .float .f32 0, .float .f32 0, .float .f32 0, .float .f32 0, .float .f32 0, .float .f32 0, .float .f32 0, .float .f32 0] 26)).heap[w.heap.size + 1 + 1]? = some (.cells #[.float .f32 0, .float .f32 0, .float .f32 0, .float .f32 0, .float .f32 0, .float .f32 0, .float .f32 0, .float .f32 0, .float .f32 0] 26 (0, 0)) := by (repeat (first | (refine heap_top _ _ _ ?_; simp; done) | (with_reducible refine heap_drawn _ _ _ ?_) | (with_reducible refine heap_under _ _ _ ?_ ?_; (simp <;> omega))))
  have hst : Stays w (((w.alloc (.cells #[.float .f32 a0, .float .f32 a1, .float .f32 a2, .float .f32 a3, .float .f32 a4, .float .f32 a5, .float .f32 a6, .float .f32 a7, .float .f32 a8] 26)).alloc (.cells #[.float .f32 0, .float .f32 0, .float .f32 0, .float .f32 0, .float .f32 0, .float .f32 0, .float .f32 0, .float .f32 0, .float .f32 0] 26)).alloc (.cells #[.float .f32 0, .float .f32 0, .float .f32 0, .float .f32 0, .float .f32 0, .float .f32 0, .float .f32 0, .float .f32 0, .float .f32 0] 26)) := by (repeat (first | exact Stays.refl _ | (with_reducible refine Stays.drewN ?_ _) | (with_reducible refine Stays.alloc ?_ _) | (with_reducible refine Stays.drew ?_) | (refine Stays.trans ?_ ‹Stays _ _›)))
  go_enter Try.func51, Try.ntmps51
  go_wp2
  refine wp_loop_rounds 4 ?_
  rw [rounds_succ]
  go_wp2
  refine wp_loop_rounds 4 ?_
  rw [rounds_succ]
  go_wp2
  have hcells := fun w1 (hw1 : Stays (((w.alloc (.cells #[.float .f32 a0, .float .f32 a1, .float .f32 a2, .float .f32 a3, .float .f32 a4, .float .f32 a5, .float .f32 a6, .float .f32 a7, .float .f32 a8] 26)).alloc (.cells #[.float .f32 0, .float .f32 0, .float .f32 0, .float .f32 0, .float .f32 0, .float .f32 0, .float .f32 0, .float .f32 0, .float .f32 0] 26)).alloc (.cells #[.float .f32 0, .float .f32 0, .float .f32 0, .float .f32 0, .float .f32 0, .float .f32 0, .float .f32 0, .float .f32 0, .float .f32 0] 26)) w1) => (row_of hw1 q0)
  refine wp_region_soft_tail 9 (Stays.refl _) (fun _ _ _ => False) [] (by kernel_rfl) (by kernel_rfl) (fun _ h => by cases h) ?_
  simp only [List.take_succ_cons, List.take_zero, List.drop_succ_cons, List.drop_zero]
  repeat (first | ((with_reducible apply soft_det rfl); (case hA => rfl); (case h => (intro w1 hw1; have hc := hcells w1 hw1; go_simp; exact rfl)); go_simp) | ((with_reducible refine soft_fop rfl ?hA _ _ _ _ _ rfl rfl _ _ _ rfl rfl ?_); (case hA => rfl); intro r hr; go_simp))
  refine soft_nil ?_
  rintro w2 ⟨hw2, _⟩
  replace q0 := hw2.heap (in_heap q0) q0
  replace q1 := hw2.heap (in_heap q1) q1
  replace q2 := hw2.heap (in_heap q2) q2
  replace hst := Stays.trans hst hw2
  clear hcells hw2
  have hcm := fun i => cell_of_row w2 _ i _ _ _ q2
  have hfm := fun i => frozen_of_row w2 _ i _ _ q2
  go_wp2
  clear hcm hfm
  have p2 := heap_setCell_same w2 (w.heap.size + 1 + 1) 0 _ _ (.float .f32 a0) q2
  have p0 := (heap_setCell_other w2 ⟨w.heap.size + 1 + 1, 0, none⟩ (w.heap.size) (.float .f32 a0) (by simp <;> omega)).trans q0
  have p1 := (heap_setCell_other w2 ⟨w.heap.size + 1 + 1, 0, none⟩ (w.heap.size + 1) (.float .f32 a0) (by simp <;> omega)).trans q1
  have pst := Stays.setCell hst ⟨w.heap.size + 1 + 1, 0, none⟩ (.float .f32 a0) (by simp <;> omega)
  clear hst q0 q1 q2
  simp at p2
  obtain ⟨wk0, hwk⟩ : ∃ x, x = w2.setCell ⟨w.heap.size + 1 + 1, 0, none⟩ (.float .f32 a0) := ⟨_, rfl⟩
  rw [← hwk] at p0 p1 p2 pst ⊢
  clear hwk
  have q0 := p0
  have q1 := p1
  have q2 := p2
  have hst := pst
  clear pst p0 p1 p2
  rw [rounds_succ]
  go_wp2
  have hcells := fun w1 (hw1 : Stays wk0 w1) => (row_of hw1 q0)
  refine wp_region_soft_tail 9 (Stays.refl _) (fun _ _ _ => False) [] (by kernel_rfl) (by kernel_rfl) (fun _ h => by cases h) ?_
  simp only [List.take_succ_cons, List.take_zero, List.drop_succ_cons, List.drop_zero]
  repeat (first | ((with_reducible apply soft_det rfl); (case hA => rfl); (case h => (intro w1 hw1; have hc := hcells w1 hw1; go_simp; exact rfl)); go_simp) | ((with_reducible refine soft_fop rfl ?hA _ _ _ _ _ rfl rfl _ _ _ rfl rfl ?_); (case hA => rfl); intro r hr; go_simp))
  refine soft_nil ?_
  rintro w2 ⟨hw2, _⟩
  replace q0 := hw2.heap (in_heap q0) q0
  replace q1 := hw2.heap (in_heap q1) q1
  replace q2 := hw2.heap (in_heap q2) q2
  replace hst := Stays.trans hst hw2
  clear hcells hw2
  have hcm := fun i => cell_of_row w2 _ i _ _ _ q2
  have hfm := fun i => frozen_of_row w2 _ i _ _ q2
  go_wp2
  clear hcm hfm
  have p2 := heap_setCell_same w2 (w.heap.size + 1 + 1) 1 _ _ (.float .f32 a3) q2
  have p0 := (heap_setCell_other w2 ⟨w.heap.size + 1 + 1, 1, none⟩ (w.heap.size) (.float .f32 a3) (by simp <;> omega)).trans q0
  have p1 := (heap_setCell_other w2 ⟨w.heap.size + 1 + 1, 1, none⟩ (w.heap.size + 1) (.float .f32 a3) (by simp <;> omega)).trans q1
  have pst := Stays.setCell hst ⟨w.heap.size + 1 + 1, 1, none⟩ (.float .f32 a3) (by simp <;> omega)
  clear hst q0 q1 q2
  simp at p2
  obtain ⟨wk1, hwk⟩ : ∃ x, x = w2.setCell ⟨w.heap.size + 1 + 1, 1, none⟩ (.float .f32 a3) := ⟨_, rfl⟩
  rw [← hwk] at p0 p1 p2 pst ⊢
  clear hwk
  have q0 := p0
  have q1 := p1
  have q2 := p2
  have hst := pst
  clear pst p0 p1 p2
  rw [rounds_succ]
  go_wp2
  have hcells := fun w1 (hw1 : Stays wk1 w1) => (row_of hw1 q0)
  refine wp_region_soft_tail 9 (Stays.refl _) (fun _ _ _ => False) [] (by kernel_rfl) (by kernel_rfl) (fun _ h => by cases h) ?_
  simp only [List.take_succ_cons, List.take_zero, List.drop_succ_cons, List.drop_zero]
  repeat (first | ((with_reducible apply soft_det rfl); (case hA => rfl); (case h => (intro w1 hw1; have hc := hcells w1 hw1; go_simp; exact rfl)); go_simp) | ((with_reducible refine soft_fop rfl ?hA _ _ _ _ _ rfl rfl _ _ _ rfl rfl ?_); (case hA => rfl); intro r hr; go_simp))
  refine soft_nil ?_
  rintro w2 ⟨hw2, _⟩
  replace q0 := hw2.heap (in_heap q0) q0
  replace q1 := hw2.heap (in_heap q1) q1
  replace q2 := hw2.heap (in_heap q2) q2
  replace hst := Stays.trans hst hw2
  clear hcells hw2
  have hcm := fun i => cell_of_row w2 _ i _ _ _ q2
  have hfm := fun i => frozen_of_row w2 _ i _ _ q2
  go_wp2
  clear hcm hfm
  have p2 := heap_setCell_same w2 (w.heap.size + 1 + 1) 2 _ _ (.float .f32 a6) q2
  have p0 := (heap_setCell_other w2 ⟨w.heap.size + 1 + 1, 2, none⟩ (w.heap.size) (.float .f32 a6) (by simp <;> omega)).trans q0
  have p1 := (heap_setCell_other w2 ⟨w.heap.size + 1 + 1, 2, none⟩ (w.heap.size + 1) (.float .f32 a6) (by simp <;> omega)).trans q1
  have pst := Stays.setCell hst ⟨w.heap.size + 1 + 1, 2, none⟩ (.float .f32 a6) (by simp <;> omega)
  clear hst q0 q1 q2
  simp at p2
  obtain ⟨wk2, hwk⟩ : ∃ x, x = w2.setCell ⟨w.heap.size + 1 + 1, 2, none⟩ (.float .f32 a6) := ⟨_, rfl⟩
  rw [← hwk] at p0 p1 p2 pst ⊢
  clear hwk
  have q0 := p0
  have q1 := p1
  have q2 := p2
  have hst := pst
  clear pst p0 p1 p2
  rw [rounds_succ]
  go_wp2
  rw [rounds_succ]
  go_wp2
  refine wp_loop_rounds 4 ?_
  rw [rounds_succ]
  go_wp2
  have hcells := fun w1 (hw1 : Stays wk2 w1) => (row_of hw1 q0)
  refine wp_region_soft_tail 9 (Stays.refl _) (fun _ _ _ => False) [] (by kernel_rfl) (by kernel_rfl) (fun _ h => by cases h) ?_
  simp only [List.take_succ_cons, List.take_zero, List.drop_succ_cons, List.drop_zero]
  repeat (first | ((with_reducible apply soft_det rfl); (case hA => rfl); (case h => (intro w1 hw1; have hc := hcells w1 hw1; go_simp; exact rfl)); go_simp) | ((with_reducible refine soft_fop rfl ?hA _ _ _ _ _ rfl rfl _ _ _ rfl rfl ?_); (case hA => rfl); intro r hr; go_simp))
  refine soft_nil ?_
  rintro w2 ⟨hw2, _⟩
  replace q0 := hw2.heap (in_heap q0) q0
  replace q1 := hw2.heap (in_heap q1) q1
  replace q2 := hw2.heap (in_heap q2) q2
  replace hst := Stays.trans hst hw2
  clear hcells hw2
  have hcm := fun i => cell_of_row w2 _ i _ _ _ q2
  have hfm := fun i => frozen_of_row w2 _ i _ _ q2
  go_wp2
  clear hcm hfm
  have p2 := heap_setCell_same w2 (w.heap.size + 1 + 1) 3 _ _ (.float .f32 a1) q2
  have p0 := (heap_setCell_other w2 ⟨w.heap.size + 1 + 1, 3, none⟩ (w.heap.size) (.float .f32 a1) (by simp <;> omega)).trans q0
  have p1 := (heap_setCell_other w2 ⟨w.heap.size + 1 + 1, 3, none⟩ (w.heap.size + 1) (.float .f32 a1) (by simp <;> omega)).trans q1
  have pst := Stays.setCell hst ⟨w.heap.size + 1 + 1, 3, none⟩ (.float .f32 a1) (by simp <;> omega)
  clear hst q0 q1 q2
  simp at p2
  obtain ⟨wk3, hwk⟩ : ∃ x, x = w2.setCell ⟨w.heap.size + 1 + 1, 3, none⟩ (.float .f32 a1) := ⟨_, rfl⟩
  rw [← hwk] at p0 p1 p2 pst ⊢
  clear hwk
  have q0 := p0
  have q1 := p1
  have q2 := p2
  have hst := pst
  clear pst p0 p1 p2
  rw [rounds_succ]
  go_wp2
  have hcells := fun w1 (hw1 : Stays wk3 w1) => (row_of hw1 q0)
  refine wp_region_soft_tail 9 (Stays.refl _) (fun _ _ _ => False) [] (by kernel_rfl) (by kernel_rfl) (fun _ h => by cases h) ?_
  simp only [List.take_succ_cons, List.take_zero, List.drop_succ_cons, List.drop_zero]
  repeat (first | ((with_reducible apply soft_det rfl); (case hA => rfl); (case h => (intro w1 hw1; have hc := hcells w1 hw1; go_simp; exact rfl)); go_simp) | ((with_reducible refine soft_fop rfl ?hA _ _ _ _ _ rfl rfl _ _ _ rfl rfl ?_); (case hA => rfl); intro r hr; go_simp))
  refine soft_nil ?_
  rintro w2 ⟨hw2, _⟩
  replace q0 := hw2.heap (in_heap q0) q0
  replace q1 := hw2.heap (in_heap q1) q1
  replace q2 := hw2.heap (in_heap q2) q2
  replace hst := Stays.trans hst hw2
  clear hcells hw2
  have hcm := fun i => cell_of_row w2 _ i _ _ _ q2
  have hfm := fun i => frozen_of_row w2 _ i _ _ q2
  go_wp2
  clear hcm hfm
  have p2 := heap_setCell_same w2 (w.heap.size + 1 + 1) 4 _ _ (.float .f32 a4) q2
  have p0 := (heap_setCell_other w2 ⟨w.heap.size + 1 + 1, 4, none⟩ (w.heap.size) (.float .f32 a4) (by simp <;> omega)).trans q0
  have p1 := (heap_setCell_other w2 ⟨w.heap.size + 1 + 1, 4, none⟩ (w.heap.size + 1) (.float .f32 a4) (by simp <;> omega)).trans q1
  have pst := Stays.setCell hst ⟨w.heap.size + 1 + 1, 4, none⟩ (.float .f32 a4) (by simp <;> omega)
  clear hst q0 q1 q2
  simp at p2
  obtain ⟨wk4, hwk⟩ : ∃ x, x = w2.setCell ⟨w.heap.size + 1 + 1, 4, none⟩ (.float .f32 a4) := ⟨_, rfl⟩
  rw [← hwk] at p0 p1 p2 pst ⊢
  clear hwk
  have q0 := p0
  have q1 := p1
  have q2 := p2
  have hst := pst
  clear pst p0 p1 p2
  rw [rounds_succ]
  go_wp2
  have hcells := fun w1 (hw1 : Stays wk4 w1) => (row_of hw1 q0)
  refine wp_region_soft_tail 9 (Stays.refl _) (fun _ _ _ => False) [] (by kernel_rfl) (by kernel_rfl) (fun _ h => by cases h) ?_
  simp only [List.take_succ_cons, List.take_zero, List.drop_succ_cons, List.drop_zero]
  repeat (first | ((with_reducible apply soft_det rfl); (case hA => rfl); (case h => (intro w1 hw1; have hc := hcells w1 hw1; go_simp; exact rfl)); go_simp) | ((with_reducible refine soft_fop rfl ?hA _ _ _ _ _ rfl rfl _ _ _ rfl rfl ?_); (case hA => rfl); intro r hr; go_simp))
  refine soft_nil ?_
  rintro w2 ⟨hw2, _⟩
  replace q0 := hw2.heap (in_heap q0) q0
  replace q1 := hw2.heap (in_heap q1) q1
  replace q2 := hw2.heap (in_heap q2) q2
  replace hst := Stays.trans hst hw2
  clear hcells hw2
  have hcm := fun i => cell_of_row w2 _ i _ _ _ q2
  have hfm := fun i => frozen_of_row w2 _ i _ _ q2
  go_wp2
  clear hcm hfm
  have p2 := heap_setCell_same w2 (w.heap.size + 1 + 1) 5 _ _ (.float .f32 a7) q2
  have p0 := (heap_setCell_other w2 ⟨w.heap.size + 1 + 1, 5, none⟩ (w.heap.size) (.float .f32 a7) (by simp <;> omega)).trans q0
  have p1 := (heap_setCell_other w2 ⟨w.heap.size + 1 + 1, 5, none⟩ (w.heap.size + 1) (.float .f32 a7) (by simp <;> omega)).trans q1
  have pst := Stays.setCell hst ⟨w.heap.size + 1 + 1, 5, none⟩ (.float .f32 a7) (by simp <;> omega)
  clear hst q0 q1 q2
  simp at p2
  obtain ⟨wk5, hwk⟩ : ∃ x, x = w2.setCell ⟨w.heap.size + 1 + 1, 5, none⟩ (.float .f32 a7) := ⟨_, rfl⟩
  rw [← hwk] at p0 p1 p2 pst ⊢
  clear hwk
  have q0 := p0
  have q1 := p1
  have q2 := p2
  have hst := pst
  clear pst p0 p1 p2
  rw [rounds_succ]
  go_wp2
  rw [rounds_succ]
  go_wp2
  refine wp_loop_rounds 4 ?_
  rw [rounds_succ]
  go_wp2
  have hcells := fun w1 (hw1 : Stays wk5 w1) => (row_of hw1 q0)
  refine wp_region_soft_tail 9 (Stays.refl _) (fun _ _ _ => False) [] (by kernel_rfl) (by kernel_rfl) (fun _ h => by cases h) ?_
  simp only [List.take_succ_cons, List.take_zero, List.drop_succ_cons, List.drop_zero]
  repeat (first | ((with_reducible apply soft_det rfl); (case hA => rfl); (case h => (intro w1 hw1; have hc := hcells w1 hw1; go_simp; exact rfl)); go_simp) | ((with_reducible refine soft_fop rfl ?hA _ _ _ _ _ rfl rfl _ _ _ rfl rfl ?_); (case hA => rfl); intro r hr; go_simp))
  refine soft_nil ?_
  rintro w2 ⟨hw2, _⟩
  replace q0 := hw2.heap (in_heap q0) q0
  replace q1 := hw2.heap (in_heap q1) q1
  replace q2 := hw2.heap (in_heap q2) q2
  replace hst := Stays.trans hst hw2
  clear hcells hw2
  have hcm := fun i => cell_of_row w2 _ i _ _ _ q2
  have hfm := fun i => frozen_of_row w2 _ i _ _ q2
  go_wp2
  clear hcm hfm
  have p2 := heap_setCell_same w2 (w.heap.size + 1 + 1) 6 _ _ (.float .f32 a2) q2
  have p0 := (heap_setCell_other w2 ⟨w.heap.size + 1 + 1, 6, none⟩ (w.heap.size) (.float .f32 a2) (by simp <;> omega)).trans q0
  have p1 := (heap_setCell_other w2 ⟨w.heap.size + 1 + 1, 6, none⟩ (w.heap.size + 1) (.float .f32 a2) (by simp <;> omega)).trans q1
  have pst := Stays.setCell hst ⟨w.heap.size + 1 + 1, 6, none⟩ (.float .f32 a2) (by simp <;> omega)
  clear hst q0 q1 q2
  simp at p2
  obtain ⟨wk6, hwk⟩ : ∃ x, x = w2.setCell ⟨w.heap.size + 1 + 1, 6, none⟩ (.float .f32 a2) := ⟨_, rfl⟩
  rw [← hwk] at p0 p1 p2 pst ⊢
  clear hwk
  have q0 := p0
  have q1 := p1
  have q2 := p2
  have hst := pst
  clear pst p0 p1 p2
  rw [rounds_succ]
  go_wp2
  have hcells := fun w1 (hw1 : Stays wk6 w1) => (row_of hw1 q0)
  refine wp_region_soft_tail 9 (Stays.refl _) (fun _ _ _ => False) [] (by kernel_rfl) (by kernel_rfl) (fun _ h => by cases h) ?_
  simp only [List.take_succ_cons, List.take_zero, List.drop_succ_cons, List.drop_zero]
  repeat (first | ((with_reducible apply soft_det rfl); (case hA => rfl); (case h => (intro w1 hw1; have hc := hcells w1 hw1; go_simp; exact rfl)); go_simp) | ((with_reducible refine soft_fop rfl ?hA _ _ _ _ _ rfl rfl _ _ _ rfl rfl ?_); (case hA => rfl); intro r hr; go_simp))
  refine soft_nil ?_
  rintro w2 ⟨hw2, _⟩
  replace q0 := hw2.heap (in_heap q0) q0
  replace q1 := hw2.heap (in_heap q1) q1
  replace q2 := hw2.heap (in_heap q2) q2
  replace hst := Stays.trans hst hw2
  clear hcells hw2
  have hcm := fun i => cell_of_row w2 _ i _ _ _ q2
  have hfm := fun i => frozen_of_row w2 _ i _ _ q2
  go_wp2
  clear hcm hfm
  have p2 := heap_setCell_same w2 (w.heap.size + 1 + 1) 7 _ _ (.float .f32 a5) q2
  have p0 := (heap_setCell_other w2 ⟨w.heap.size + 1 + 1, 7, none⟩ (w.heap.size) (.float .f32 a5) (by simp <;> omega)).trans q0
  have p1 := (heap_setCell_other w2 ⟨w.heap.size + 1 + 1, 7, none⟩ (w.heap.size + 1) (.float .f32 a5) (by simp <;> omega)).trans q1
  have pst := Stays.setCell hst ⟨w.heap.size + 1 + 1, 7, none⟩ (.float .f32 a5) (by simp <;> omega)
  clear hst q0 q1 q2
  simp at p2
  obtain ⟨wk7, hwk⟩ : ∃ x, x = w2.setCell ⟨w.heap.size + 1 + 1, 7, none⟩ (.float .f32 a5) := ⟨_, rfl⟩
  rw [← hwk] at p0 p1 p2 pst ⊢
  clear hwk
  have q0 := p0
  have q1 := p1
  have q2 := p2
  have hst := pst
  clear pst p0 p1 p2
  rw [rounds_succ]
  go_wp2
  have hcells := fun w1 (hw1 : Stays wk7 w1) => (row_of hw1 q0)
  refine wp_region_soft_tail 9 (Stays.refl _) (fun _ _ _ => False) [] (by kernel_rfl) (by kernel_rfl) (fun _ h => by cases h) ?_
  simp only [List.take_succ_cons, List.take_zero, List.drop_succ_cons, List.drop_zero]
  repeat (first | ((with_reducible apply soft_det rfl); (case hA => rfl); (case h => (intro w1 hw1; have hc := hcells w1 hw1; go_simp; exact rfl)); go_simp) | ((with_reducible refine soft_fop rfl ?hA _ _ _ _ _ rfl rfl _ _ _ rfl rfl ?_); (case hA => rfl); intro r hr; go_simp))
  refine soft_nil ?_
  rintro w2 ⟨hw2, _⟩
  replace q0 := hw2.heap (in_heap q0) q0
  replace q1 := hw2.heap (in_heap q1) q1
  replace q2 := hw2.heap (in_heap q2) q2
  replace hst := Stays.trans hst hw2
  clear hcells hw2
  have hcm := fun i => cell_of_row w2 _ i _ _ _ q2
  have hfm := fun i => frozen_of_row w2 _ i _ _ q2
  go_wp2
  clear hcm hfm
  have p2 := heap_setCell_same w2 (w.heap.size + 1 + 1) 8 _ _ (.float .f32 a8) q2
  have p0 := (heap_setCell_other w2 ⟨w.heap.size + 1 + 1, 8, none⟩ (w.heap.size) (.float .f32 a8) (by simp <;> omega)).trans q0
  have p1 := (heap_setCell_other w2 ⟨w.heap.size + 1 + 1, 8, none⟩ (w.heap.size + 1) (.float .f32 a8) (by simp <;> omega)).trans q1
  have pst := Stays.setCell hst ⟨w.heap.size + 1 + 1, 8, none⟩ (.float .f32 a8) (by simp <;> omega)
  clear hst q0 q1 q2
  simp at p2
  obtain ⟨wk8, hwk⟩ : ∃ x, x = w2.setCell ⟨w.heap.size + 1 + 1, 8, none⟩ (.float .f32 a8) := ⟨_, rfl⟩
  rw [← hwk] at p0 p1 p2 pst ⊢
  clear hwk
  have q0 := p0
  have q1 := p1
  have q2 := p2
  have hst := pst
  clear pst p0 p1 p2
  rw [rounds_succ]
  go_wp2
  rw [rounds_succ]
  have hout := fun i => cell_of_row _ _ i _ _ _ q2
  have hres := q1
  clear q0 q1 q2
  go_wp2_with ((refine wpList_store_row rfl _ _ _ rfl _ _ _ rfl rfl hres ?hi ?ho ?h1 ?hB hst ?_); (case hi => kernel_rfl); (case ho => rfl); (case h1 => first | rfl | simp [Value.oneCell']); (case hB => first | omega | (simp <;> omega)); intro w2 hw2 hq2 _ _)
  apply end_agg rfl rfl rfl Try.underlying26 rfl (t := 26)
  case hg => exact hq2
  case hi => kernel_rfl
  case hR => exact ⟨_, rfl, rfl, hw2⟩

theorem c_implTransposed (a0 a1 a2 a3 a4 a5 a6 a7 a8 : Nat) (w : World) :
    Calls Try.prog 43 #[.agg #[.float .f32 a0, .float .f32 a1, .float .f32 a2, .float .f32 a3, .float .f32 a4, .float .f32 a5, .float .f32 a6, .float .f32 a7, .float .f32 a8]] w fun en w' => ∃ v, en = .returned v ∧ t_Mat a0 a1 a2 a3 a4 a5 a6 a7 a8 v ∧ Stays w w' := by
  have e0 : ∀ w, (Instr.index 26 (.agg #[.float .f32 a0, .float .f32 a1, .float .f32 a2, .float .f32 a3, .float .f32 a4, .float .f32 a5, .float .f32 a6, .float .f32 a7, .float .f32 a8]) (.int .i64 0)).run Try.prog w = .ok (.agg #[.float .f32 a0, .float .f32 a1, .float .f32 a2]) w := fun _ => by kernel_rfl
  have e1 : ∀ w, (Instr.index 26 (.agg #[.float .f32 a0, .float .f32 a1, .float .f32 a2, .float .f32 a3, .float .f32 a4, .float .f32 a5, .float .f32 a6, .float .f32 a7, .float .f32 a8]) (.int .i64 1)).run Try.prog w = .ok (.agg #[.float .f32 a3, .float .f32 a4, .float .f32 a5]) w := fun _ => by kernel_rfl
  have e2 : ∀ w, (Instr.index 26 (.agg #[.float .f32 a0, .float .f32 a1, .float .f32 a2, .float .f32 a3, .float .f32 a4, .float .f32 a5, .float .f32 a6, .float .f32 a7, .float .f32 a8]) (.int .i64 2)).run Try.prog w = .ok (.agg #[.float .f32 a6, .float .f32 a7, .float .f32 a8]) w := fun _ => by kernel_rfl
  have d0 : ∀ (x y z : Nat) w, (Instr.index 23 (.agg #[.float .f32 x, .float .f32 y, .float .f32 z]) (.int .i64 0)).run Try.prog w = .ok (.float .f32 x) w := fun _ _ _ _ => by kernel_rfl
  have d1 : ∀ (x y z : Nat) w, (Instr.index 23 (.agg #[.float .f32 x, .float .f32 y, .float .f32 z]) (.int .i64 1)).run Try.prog w = .ok (.float .f32 y) w := fun _ _ _ _ => by kernel_rfl
  have d2 : ∀ (x y z : Nat) w, (Instr.index 23 (.agg #[.float .f32 x, .float .f32 y, .float .f32 z]) (.int .i64 2)).run Try.prog w = .ok (.float .f32 z) w := fun _ _ _ _ => by kernel_rfl
  go_enter Try.func43, Try.ntmps43
  go_wp2
  refine wp_loop_rounds 4 ?_
  rw [rounds_succ]
  go_wp2
  refine wp_loop_rounds 4 ?_
  rw [rounds_succ]
  go_wp2
  rw [rounds_succ]
  go_wp2
  rw [rounds_succ]
  go_wp2
  rw [rounds_succ]
  go_wp2
  rw [rounds_succ]
  go_wp2
  refine wp_loop_rounds 4 ?_
  rw [rounds_succ]
  go_wp2
  rw [rounds_succ]
  go_wp2
  rw [rounds_succ]
  go_wp2
  rw [rounds_succ]
  go_wp2
  rw [rounds_succ]
  go_wp2
  refine wp_loop_rounds 4 ?_
  rw [rounds_succ]
  go_wp2
  rw [rounds_succ]
  go_wp2
  rw [rounds_succ]
  go_wp2
  rw [rounds_succ]
  go_wp2
  rw [rounds_succ]
  go_wp2
  apply end_agg rfl rfl rfl Try.underlying26 rfl (t := 26)
  case hg => (repeat (first | (refine heap_top _ _ _ ?_; simp; done) | (with_reducible refine heap_drawn _ _ _ ?_) | (with_reducible refine heap_under _ _ _ ?_ ?_; (simp <;> omega))))
  case hi => kernel_rfl
  case hR => exact ⟨_, rfl, rfl, by (repeat (first | exact Stays.refl _ | (with_reducible refine Stays.drewN ?_ _) | (with_reducible refine Stays.alloc ?_ _) | (with_reducible refine Stays.drew ?_) | (refine Stays.trans ?_ ‹Stays _ _›)))⟩

def r_TransposeMat (a0 a1 a2 a3 a4 a5 a6 a7 a8 : Nat) (v : Value) : Prop := ∃ x0 x1 x2 x3 x4 x5 x6 x7 x8, v = .agg #[.float .f32 x0, .float .f32 x1, .float .f32 x2, .float .f32 x3, .float .f32 x4, .float .f32 x5, .float .f32 x6, .float .f32 x7, .float .f32 x8] ∧ Hid (can .f32 x0 = can .f32 a0) ∧ Hid (can .f32 x1 = can .f32 a3) ∧ Hid (can .f32 x2 = can .f32 a6) ∧ Hid (can .f32 x3 = can .f32 a1) ∧ Hid (can .f32 x4 = can .f32 a4) ∧ Hid (can .f32 x5 = can .f32 a7) ∧ Hid (can .f32 x6 = can .f32 a2) ∧ Hid (can .f32 x7 = can .f32 a5) ∧ Hid (can .f32 x8 = can .f32 a8)

theorem t_is (a0 a1 a2 a3 a4 a5 a6 a7 a8 : Nat) : r_TransposeMat a0 a1 a2 a3 a4 a5 a6 a7 a8 (.agg #[.float .f32 a0, .float .f32 a3, .float .f32 a6, .float .f32 a1, .float .f32 a4, .float .f32 a7, .float .f32 a2, .float .f32 a5, .float .f32 a8]) := ⟨_, _, _, _, _, _, _, _, _, rfl, rfl, rfl, rfl, rfl, rfl, rfl, rfl, rfl, rfl⟩

theorem c_implTransposeMat (a0 a1 a2 a3 a4 a5 a6 a7 a8 : Nat) (w : World) : Calls Try.prog 43 #[.agg #[.float .f32 a0, .float .f32 a1, .float .f32 a2, .float .f32 a3, .float .f32 a4, .float .f32 a5, .float .f32 a6, .float .f32 a7, .float .f32 a8]] w fun en w' => ∃ v, en = .returned v ∧ r_TransposeMat a0 a1 a2 a3 a4 a5 a6 a7 a8 v ∧ Stays w w' :=
  (c_implTransposed a0 a1 a2 a3 a4 a5 a6 a7 a8 w).mono fun en w' ⟨v, he, hv, hs⟩ => ⟨v, he, by unfold t_Mat at hv; subst hv; exact t_is _ _ _ _ _ _ _ _ _, hs⟩

end Go.Proofs.Ytbcnafanjemaeac
