/- Contracts: MulMat. No condition. -/
import Derived.Test.YtbcnafanjemaeacM2
import Derived.Test.YtbcnafanjemaeacM4
import Derived.Test.YtbcnafanjemaeacN2
namespace Go.Proofs.Ytbcnafanjemaeac
open Go Go.RowKit
set_option linter.unusedVariables false

theorem fdot_comm (a b c d e f : Option Nat) : fdot a b c d e f = fdot d e f a b c := by
  unfold fdot
  rw [fop_mul_comm a d, fop_mul_comm b e, fop_mul_comm c f]

def r_MulMat (a0 a1 a2 a3 a4 a5 a6 a7 a8 b0 b1 b2 b3 b4 b5 b6 b7 b8 : Nat) (v : Value) : Prop := ∃ x0 x1 x2 x3 x4 x5 x6 x7 x8, v = .agg #[.float .f32 x0, .float .f32 x1, .float .f32 x2, .float .f32 x3, .float .f32 x4, .float .f32 x5, .float .f32 x6, .float .f32 x7, .float .f32 x8] ∧ FIs .f32 x0 (fdot (can .f32 a0) (can .f32 a1) (can .f32 a2) (can .f32 b0) (can .f32 b3) (can .f32 b6)) ∧ FIs .f32 x1 (fdot (can .f32 a0) (can .f32 a1) (can .f32 a2) (can .f32 b1) (can .f32 b4) (can .f32 b7)) ∧ FIs .f32 x2 (fdot (can .f32 a0) (can .f32 a1) (can .f32 a2) (can .f32 b2) (can .f32 b5) (can .f32 b8)) ∧ FIs .f32 x3 (fdot (can .f32 a3) (can .f32 a4) (can .f32 a5) (can .f32 b0) (can .f32 b3) (can .f32 b6)) ∧ FIs .f32 x4 (fdot (can .f32 a3) (can .f32 a4) (can .f32 a5) (can .f32 b1) (can .f32 b4) (can .f32 b7)) ∧ FIs .f32 x5 (fdot (can .f32 a3) (can .f32 a4) (can .f32 a5) (can .f32 b2) (can .f32 b5) (can .f32 b8)) ∧ FIs .f32 x6 (fdot (can .f32 a6) (can .f32 a7) (can .f32 a8) (can .f32 b0) (can .f32 b3) (can .f32 b6)) ∧ FIs .f32 x7 (fdot (can .f32 a6) (can .f32 a7) (can .f32 a8) (can .f32 b1) (can .f32 b4) (can .f32 b7)) ∧ FIs .f32 x8 (fdot (can .f32 a6) (can .f32 a7) (can .f32 a8) (can .f32 b2) (can .f32 b5) (can .f32 b8))

set_option maxHeartbeats 2000000 in
theorem c_specl01Mul (a0 a1 a2 a3 a4 a5 a6 a7 a8 b0 b1 b2 b3 b4 b5 b6 b7 b8 : Nat) (w : World) :
    Calls Try.prog 42 #[.agg #[.float .f32 a0, .float .f32 a1, .float .f32 a2, .float .f32 a3, .float .f32 a4, .float .f32 a5, .float .f32 a6, .float .f32 a7, .float .f32 a8], .agg #[.float .f32 b0, .float .f32 b1, .float .f32 b2, .float .f32 b3, .float .f32 b4, .float .f32 b5, .float .f32 b6, .float .f32 b7, .float .f32 b8]] w fun en w' => ∃ v, en = .returned v ∧ r_MulMat a0 a1 a2 a3 a4 a5 a6 a7 a8 b0 b1 b2 b3 b4 b5 b6 b7 b8 v ∧ Stays w w' := by
  have u0 : (((w.alloc (.cells #[.float .f32 a0, .float .f32 a1, .float .f32 a2, .float .f32 a3, .float .f32 a4, .float .f32 a5, .float .f32 a6, .float .f32 a7, .float .f32 a8] 26)).alloc (.cells #[.float .f32 b0, .float .f32 b1, .float .f32 b2, .float .f32 b3, .float .f32 b4, .float .f32 b5, .float .f32 b6, .float .f32 b7, .float .f32 b8] 26)).alloc (.cells #[.float .f32 0, .float .f32 0, .float .f32 0, .float .f32 0, .float .f32 0, .float .f32 0, .float .f32 0, .float .f32 0, .float .f32 0] 26)).heap[w.heap.size]? = some (.cells #[.float .f32 a0, .float .f32 a1, .float .f32 a2, .float .f32 a3, .float .f32 a4, .float .f32 a5, .float .f32 a6, .float .f32 a7, .float .f32 a8] 26 (0, 0)) := by (repeat (first | (refine heap_top _ _ _ ?_; simp; done) | (with_reducible refine heap_drawn _ _ _ ?_) | (with_reducible refine heap_under _ _ _ ?_ ?_; (simp <;> omega))))
  have u2 : (((w.alloc (.cells #[.float .f32 a0, .float .f32 a1, .float .f32 a2, .float .f32 a3, .float .f32 a4, .float .f32 a5, .float .f32 a6, .float .f32 a7, .float .f32 a8] 26)).alloc (.cells #[.float .f32 b0, .float .f32 b1, .float .f32 b2, .float .f32 b3, .float .f32 b4, .float .f32 b5, .float .f32 b6, .float .f32 b7, .float .f32 b8] 26)).alloc (.cells #[.float .f32 0, .float .f32 0, .float .f32 0, .float .f32 0, .float .f32 0, .float .f32 0, .float .f32 0, .float .f32 0, .float .f32 0] 26)).heap[w.heap.size + 1 + 1]? = some (.cells #[.float .f32 0, .float .f32 0, .float .f32 0, .float .f32 0, .float .f32 0, .float .f32 0, .float .f32 0, .float .f32 0, .float .f32 0] 26 (0, 0)) := by (repeat (first | (refine heap_top _ _ _ ?_; simp; done) | (with_reducible refine heap_drawn _ _ _ ?_) | (with_reducible refine heap_under _ _ _ ?_ ?_; (simp <;> omega))))
  have hst0 : Stays w (((w.alloc (.cells #[.float .f32 a0, .float .f32 a1, .float .f32 a2, .float .f32 a3, .float .f32 a4, .float .f32 a5, .float .f32 a6, .float .f32 a7, .float .f32 a8] 26)).alloc (.cells #[.float .f32 b0, .float .f32 b1, .float .f32 b2, .float .f32 b3, .float .f32 b4, .float .f32 b5, .float .f32 b6, .float .f32 b7, .float .f32 b8] 26)).alloc (.cells #[.float .f32 0, .float .f32 0, .float .f32 0, .float .f32 0, .float .f32 0, .float .f32 0, .float .f32 0, .float .f32 0, .float .f32 0] 26)) := by (repeat (first | exact Stays.refl _ | (with_reducible refine Stays.drewN ?_ _) | (with_reducible refine Stays.alloc ?_ _) | (with_reducible refine Stays.drew ?_) | (refine Stays.trans ?_ ‹Stays _ _›)))
  go_enter Try.func42, Try.ntmps42
  go_wp2_with (go_at_call 51; refine (c_specl01Turned _ _ _ _ _ _ _ _ _  _).mono ?_; rintro en w1 ⟨v, rfl, rfl, hw1⟩)
  have hz : w.heap.size + 1 + 1 < w1.heap.size := by
    have := hw1.size
    simp at this
    omega
  have q0 : ((w1.alloc (.cells #[.float .f32 b0, .float .f32 b3, .float .f32 b6, .float .f32 b1, .float .f32 b4, .float .f32 b7, .float .f32 b2, .float .f32 b5, .float .f32 b8] 26)).alloc (.cells #[.float .f32 0, .float .f32 0, .float .f32 0, .float .f32 0, .float .f32 0, .float .f32 0, .float .f32 0, .float .f32 0, .float .f32 0] 26)).heap[w.heap.size]? = some (.cells #[.float .f32 a0, .float .f32 a1, .float .f32 a2, .float .f32 a3, .float .f32 a4, .float .f32 a5, .float .f32 a6, .float .f32 a7, .float .f32 a8] 26 (0, 0)) := heap_under _ _ _ (by simp <;> omega) (heap_under _ _ _ (by omega) (hw1.heap (in_heap u0) u0))
  have q2 : ((w1.alloc (.cells #[.float .f32 b0, .float .f32 b3, .float .f32 b6, .float .f32 b1, .float .f32 b4, .float .f32 b7, .float .f32 b2, .float .f32 b5, .float .f32 b8] 26)).alloc (.cells #[.float .f32 0, .float .f32 0, .float .f32 0, .float .f32 0, .float .f32 0, .float .f32 0, .float .f32 0, .float .f32 0, .float .f32 0] 26)).heap[w.heap.size + 1 + 1]? = some (.cells #[.float .f32 0, .float .f32 0, .float .f32 0, .float .f32 0, .float .f32 0, .float .f32 0, .float .f32 0, .float .f32 0, .float .f32 0] 26 (0, 0)) := heap_under _ _ _ (by simp <;> omega) (heap_under _ _ _ (by omega) (hw1.heap (in_heap u2) u2))
  have q3 : ((w1.alloc (.cells #[.float .f32 b0, .float .f32 b3, .float .f32 b6, .float .f32 b1, .float .f32 b4, .float .f32 b7, .float .f32 b2, .float .f32 b5, .float .f32 b8] 26)).alloc (.cells #[.float .f32 0, .float .f32 0, .float .f32 0, .float .f32 0, .float .f32 0, .float .f32 0, .float .f32 0, .float .f32 0, .float .f32 0] 26)).heap[w1.heap.size]? = some (.cells #[.float .f32 b0, .float .f32 b3, .float .f32 b6, .float .f32 b1, .float .f32 b4, .float .f32 b7, .float .f32 b2, .float .f32 b5, .float .f32 b8] 26 (0, 0)) := by (repeat (first | (refine heap_top _ _ _ ?_; simp; done) | (with_reducible refine heap_drawn _ _ _ ?_) | (with_reducible refine heap_under _ _ _ ?_ ?_; (simp <;> omega))))
  have q4 : ((w1.alloc (.cells #[.float .f32 b0, .float .f32 b3, .float .f32 b6, .float .f32 b1, .float .f32 b4, .float .f32 b7, .float .f32 b2, .float .f32 b5, .float .f32 b8] 26)).alloc (.cells #[.float .f32 0, .float .f32 0, .float .f32 0, .float .f32 0, .float .f32 0, .float .f32 0, .float .f32 0, .float .f32 0, .float .f32 0] 26)).heap[w1.heap.size + 1]? = some (.cells #[.float .f32 0, .float .f32 0, .float .f32 0, .float .f32 0, .float .f32 0, .float .f32 0, .float .f32 0, .float .f32 0, .float .f32 0] 26 (0, 0)) := by (repeat (first | (refine heap_top _ _ _ ?_; simp; done) | (with_reducible refine heap_drawn _ _ _ ?_) | (with_reducible refine heap_under _ _ _ ?_ ?_; (simp <;> omega))))
  have hst : Stays w ((w1.alloc (.cells #[.float .f32 b0, .float .f32 b3, .float .f32 b6, .float .f32 b1, .float .f32 b4, .float .f32 b7, .float .f32 b2, .float .f32 b5, .float .f32 b8] 26)).alloc (.cells #[.float .f32 0, .float .f32 0, .float .f32 0, .float .f32 0, .float .f32 0, .float .f32 0, .float .f32 0, .float .f32 0, .float .f32 0] 26)) := Stays.alloc (Stays.alloc (Stays.trans hst0 hw1) _) _
  clear u0 u2 hst0 hw1
  refine wp_loop_rounds 4 ?_
  rw [rounds_succ]
  go_wp2
  refine wp_loop_rounds 4 ?_
  rw [rounds_succ]
  go_wp2
  have hcells := fun wx (hw1 : Stays ((w1.alloc (.cells #[.float .f32 b0, .float .f32 b3, .float .f32 b6, .float .f32 b1, .float .f32 b4, .float .f32 b7, .float .f32 b2, .float .f32 b5, .float .f32 b8] 26)).alloc (.cells #[.float .f32 0, .float .f32 0, .float .f32 0, .float .f32 0, .float .f32 0, .float .f32 0, .float .f32 0, .float .f32 0, .float .f32 0] 26)) wx) => And.intro (row_of hw1 q0) (row_of hw1 q3)
  refine wp_region_soft_tail 11 (Stays.refl _) (fun f args v => ∃ k0 k1 k2 l0 l1 l2, args = #[.agg #[.float .f32 k0, .float .f32 k1, .float .f32 k2], .agg #[.float .f32 l0, .float .f32 l1, .float .f32 l2]] ∧ r_DotVec k0 k1 k2 l0 l1 l2 v) [] (by kernel_rfl) (by kernel_rfl) (fun _ h => by cases h) ?_
  simp only [List.take_succ_cons, List.take_zero, List.drop_succ_cons, List.drop_zero]
  repeat ((with_reducible apply soft_det rfl); (case hA => rfl); (case h => (intro w1 hw1; have hc := hcells w1 hw1; go_simp; exact rfl)); go_simp)
  apply soft_call rfl
  case hA => rfl
  case h => (intro w1 hw1; go_simp; exact ⟨rfl, rfl⟩)
  case hc => exact fun w1 hw1 => (c_specl01Dot _ _ _ _ _ _ w1).mono fun e w' ⟨v, he, hr, hw'⟩ => ⟨_, he, ⟨_, _, _, _, _, _, rfl, hr⟩, hw'⟩
  rintro v ⟨k0, k1, k2, l0, l1, l2, hk, ⟨z0, rfl, f0⟩⟩; obtain ⟨⟨rfl, rfl, rfl⟩, rfl, rfl, rfl⟩ : (a0 = k0 ∧ a1 = k1 ∧ a2 = k2) ∧ b0 = l0 ∧ b3 = l1 ∧ b6 = l2 := by simpa using hk
  go_simp
  repeat ((with_reducible apply soft_det rfl); (case hA => rfl); (case h => (intro w1 hw1; have hc := hcells w1 hw1; go_simp; exact rfl)); go_simp)
  refine soft_nil ?_
  rintro w2 ⟨hw2, _⟩
  replace q0 := hw2.heap (in_heap q0) q0
  replace q2 := hw2.heap (in_heap q2) q2
  replace q3 := hw2.heap (in_heap q3) q3
  replace q4 := hw2.heap (in_heap q4) q4
  replace hst := Stays.trans hst hw2
  clear hcells hw2
  have hcm := fun i => cell_of_row w2 _ i _ _ _ q4
  have hfm := fun i => frozen_of_row w2 _ i _ _ q4
  go_wp2
  clear hcm hfm
  have p4 := heap_setCell_same w2 (w1.heap.size + 1) 0 _ _ (.float .f32 z0) q4
  have p0 := (heap_setCell_other w2 ⟨w1.heap.size + 1, 0, none⟩ (w.heap.size) (.float .f32 z0) (by simp <;> omega)).trans q0
  have p2 := (heap_setCell_other w2 ⟨w1.heap.size + 1, 0, none⟩ (w.heap.size + 1 + 1) (.float .f32 z0) (by simp <;> omega)).trans q2
  have p3 := (heap_setCell_other w2 ⟨w1.heap.size + 1, 0, none⟩ (w1.heap.size) (.float .f32 z0) (by simp <;> omega)).trans q3
  have pst := Stays.setCell hst ⟨w1.heap.size + 1, 0, none⟩ (.float .f32 z0) (by simp <;> omega)
  clear hst q0 q2 q3 q4
  simp at p4
  obtain ⟨wk0, hwk⟩ : ∃ x, x = w2.setCell ⟨w1.heap.size + 1, 0, none⟩ (.float .f32 z0) := ⟨_, rfl⟩
  rw [← hwk] at p0 p2 p3 p4 pst ⊢
  clear hwk
  have q0 := p0
  have q2 := p2
  have q3 := p3
  have q4 := p4
  have hst := pst
  clear pst p0 p2 p3 p4
  rw [rounds_succ]
  go_wp2
  have hcells := fun wx (hw1 : Stays wk0 wx) => And.intro (row_of hw1 q0) (row_of hw1 q3)
  refine wp_region_soft_tail 11 (Stays.refl _) (fun f args v => ∃ k0 k1 k2 l0 l1 l2, args = #[.agg #[.float .f32 k0, .float .f32 k1, .float .f32 k2], .agg #[.float .f32 l0, .float .f32 l1, .float .f32 l2]] ∧ r_DotVec k0 k1 k2 l0 l1 l2 v) [] (by kernel_rfl) (by kernel_rfl) (fun _ h => by cases h) ?_
  simp only [List.take_succ_cons, List.take_zero, List.drop_succ_cons, List.drop_zero]
  repeat ((with_reducible apply soft_det rfl); (case hA => rfl); (case h => (intro w1 hw1; have hc := hcells w1 hw1; go_simp; exact rfl)); go_simp)
  apply soft_call rfl
  case hA => rfl
  case h => (intro w1 hw1; go_simp; exact ⟨rfl, rfl⟩)
  case hc => exact fun w1 hw1 => (c_specl01Dot _ _ _ _ _ _ w1).mono fun e w' ⟨v, he, hr, hw'⟩ => ⟨_, he, ⟨_, _, _, _, _, _, rfl, hr⟩, hw'⟩
  rintro v ⟨k0, k1, k2, l0, l1, l2, hk, ⟨z1, rfl, f1⟩⟩; obtain ⟨⟨rfl, rfl, rfl⟩, rfl, rfl, rfl⟩ : (a0 = k0 ∧ a1 = k1 ∧ a2 = k2) ∧ b1 = l0 ∧ b4 = l1 ∧ b7 = l2 := by simpa using hk
  go_simp
  repeat ((with_reducible apply soft_det rfl); (case hA => rfl); (case h => (intro w1 hw1; have hc := hcells w1 hw1; go_simp; exact rfl)); go_simp)
  refine soft_nil ?_
  rintro w2 ⟨hw2, _⟩
  replace q0 := hw2.heap (in_heap q0) q0
  replace q2 := hw2.heap (in_heap q2) q2
  replace q3 := hw2.heap (in_heap q3) q3
  replace q4 := hw2.heap (in_heap q4) q4
  replace hst := Stays.trans hst hw2
  clear hcells hw2
  have hcm := fun i => cell_of_row w2 _ i _ _ _ q4
  have hfm := fun i => frozen_of_row w2 _ i _ _ q4
  go_wp2
  clear hcm hfm
  have p4 := heap_setCell_same w2 (w1.heap.size + 1) 1 _ _ (.float .f32 z1) q4
  have p0 := (heap_setCell_other w2 ⟨w1.heap.size + 1, 1, none⟩ (w.heap.size) (.float .f32 z1) (by simp <;> omega)).trans q0
  have p2 := (heap_setCell_other w2 ⟨w1.heap.size + 1, 1, none⟩ (w.heap.size + 1 + 1) (.float .f32 z1) (by simp <;> omega)).trans q2
  have p3 := (heap_setCell_other w2 ⟨w1.heap.size + 1, 1, none⟩ (w1.heap.size) (.float .f32 z1) (by simp <;> omega)).trans q3
  have pst := Stays.setCell hst ⟨w1.heap.size + 1, 1, none⟩ (.float .f32 z1) (by simp <;> omega)
  clear hst q0 q2 q3 q4
  simp at p4
  obtain ⟨wk1, hwk⟩ : ∃ x, x = w2.setCell ⟨w1.heap.size + 1, 1, none⟩ (.float .f32 z1) := ⟨_, rfl⟩
  rw [← hwk] at p0 p2 p3 p4 pst ⊢
  clear hwk
  have q0 := p0
  have q2 := p2
  have q3 := p3
  have q4 := p4
  have hst := pst
  clear pst p0 p2 p3 p4
  rw [rounds_succ]
  go_wp2
  have hcells := fun wx (hw1 : Stays wk1 wx) => And.intro (row_of hw1 q0) (row_of hw1 q3)
  refine wp_region_soft_tail 11 (Stays.refl _) (fun f args v => ∃ k0 k1 k2 l0 l1 l2, args = #[.agg #[.float .f32 k0, .float .f32 k1, .float .f32 k2], .agg #[.float .f32 l0, .float .f32 l1, .float .f32 l2]] ∧ r_DotVec k0 k1 k2 l0 l1 l2 v) [] (by kernel_rfl) (by kernel_rfl) (fun _ h => by cases h) ?_
  simp only [List.take_succ_cons, List.take_zero, List.drop_succ_cons, List.drop_zero]
  repeat ((with_reducible apply soft_det rfl); (case hA => rfl); (case h => (intro w1 hw1; have hc := hcells w1 hw1; go_simp; exact rfl)); go_simp)
  apply soft_call rfl
  case hA => rfl
  case h => (intro w1 hw1; go_simp; exact ⟨rfl, rfl⟩)
  case hc => exact fun w1 hw1 => (c_specl01Dot _ _ _ _ _ _ w1).mono fun e w' ⟨v, he, hr, hw'⟩ => ⟨_, he, ⟨_, _, _, _, _, _, rfl, hr⟩, hw'⟩
  rintro v ⟨k0, k1, k2, l0, l1, l2, hk, ⟨z2, rfl, f2⟩⟩; obtain ⟨⟨rfl, rfl, rfl⟩, rfl, rfl, rfl⟩ : (a0 = k0 ∧ a1 = k1 ∧ a2 = k2) ∧ b2 = l0 ∧ b5 = l1 ∧ b8 = l2 := by simpa using hk
  go_simp
  repeat ((with_reducible apply soft_det rfl); (case hA => rfl); (case h => (intro w1 hw1; have hc := hcells w1 hw1; go_simp; exact rfl)); go_simp)
  refine soft_nil ?_
  rintro w2 ⟨hw2, _⟩
  replace q0 := hw2.heap (in_heap q0) q0
  replace q2 := hw2.heap (in_heap q2) q2
  replace q3 := hw2.heap (in_heap q3) q3
  replace q4 := hw2.heap (in_heap q4) q4
  replace hst := Stays.trans hst hw2
  clear hcells hw2
  have hcm := fun i => cell_of_row w2 _ i _ _ _ q4
  have hfm := fun i => frozen_of_row w2 _ i _ _ q4
  go_wp2
  clear hcm hfm
  have p4 := heap_setCell_same w2 (w1.heap.size + 1) 2 _ _ (.float .f32 z2) q4
  have p0 := (heap_setCell_other w2 ⟨w1.heap.size + 1, 2, none⟩ (w.heap.size) (.float .f32 z2) (by simp <;> omega)).trans q0
  have p2 := (heap_setCell_other w2 ⟨w1.heap.size + 1, 2, none⟩ (w.heap.size + 1 + 1) (.float .f32 z2) (by simp <;> omega)).trans q2
  have p3 := (heap_setCell_other w2 ⟨w1.heap.size + 1, 2, none⟩ (w1.heap.size) (.float .f32 z2) (by simp <;> omega)).trans q3
  have pst := Stays.setCell hst ⟨w1.heap.size + 1, 2, none⟩ (.float .f32 z2) (by simp <;> omega)
  clear hst q0 q2 q3 q4
  simp at p4
  obtain ⟨wk2, hwk⟩ : ∃ x, x = w2.setCell ⟨w1.heap.size + 1, 2, none⟩ (.float .f32 z2) := ⟨_, rfl⟩
  rw [← hwk] at p0 p2 p3 p4 pst ⊢
  clear hwk
  have q0 := p0
  have q2 := p2
  have q3 := p3
  have q4 := p4
  have hst := pst
  clear pst p0 p2 p3 p4
  rw [rounds_succ]
  go_wp2
  rw [rounds_succ]
  go_wp2
  refine wp_loop_rounds 4 ?_
  rw [rounds_succ]
  go_wp2
  have hcells := fun wx (hw1 : Stays wk2 wx) => And.intro (row_of hw1 q0) (row_of hw1 q3)
  refine wp_region_soft_tail 11 (Stays.refl _) (fun f args v => ∃ k0 k1 k2 l0 l1 l2, args = #[.agg #[.float .f32 k0, .float .f32 k1, .float .f32 k2], .agg #[.float .f32 l0, .float .f32 l1, .float .f32 l2]] ∧ r_DotVec k0 k1 k2 l0 l1 l2 v) [] (by kernel_rfl) (by kernel_rfl) (fun _ h => by cases h) ?_
  simp only [List.take_succ_cons, List.take_zero, List.drop_succ_cons, List.drop_zero]
  repeat ((with_reducible apply soft_det rfl); (case hA => rfl); (case h => (intro w1 hw1; have hc := hcells w1 hw1; go_simp; exact rfl)); go_simp)
  apply soft_call rfl
  case hA => rfl
  case h => (intro w1 hw1; go_simp; exact ⟨rfl, rfl⟩)
  case hc => exact fun w1 hw1 => (c_specl01Dot _ _ _ _ _ _ w1).mono fun e w' ⟨v, he, hr, hw'⟩ => ⟨_, he, ⟨_, _, _, _, _, _, rfl, hr⟩, hw'⟩
  rintro v ⟨k0, k1, k2, l0, l1, l2, hk, ⟨z3, rfl, f3⟩⟩; obtain ⟨⟨rfl, rfl, rfl⟩, rfl, rfl, rfl⟩ : (a3 = k0 ∧ a4 = k1 ∧ a5 = k2) ∧ b0 = l0 ∧ b3 = l1 ∧ b6 = l2 := by simpa using hk
  go_simp
  repeat ((with_reducible apply soft_det rfl); (case hA => rfl); (case h => (intro w1 hw1; have hc := hcells w1 hw1; go_simp; exact rfl)); go_simp)
  refine soft_nil ?_
  rintro w2 ⟨hw2, _⟩
  replace q0 := hw2.heap (in_heap q0) q0
  replace q2 := hw2.heap (in_heap q2) q2
  replace q3 := hw2.heap (in_heap q3) q3
  replace q4 := hw2.heap (in_heap q4) q4
  replace hst := Stays.trans hst hw2
  clear hcells hw2
  have hcm := fun i => cell_of_row w2 _ i _ _ _ q4
  have hfm := fun i => frozen_of_row w2 _ i _ _ q4
  go_wp2
  clear hcm hfm
  have p4 := heap_setCell_same w2 (w1.heap.size + 1) 3 _ _ (.float .f32 z3) q4
  have p0 := (heap_setCell_other w2 ⟨w1.heap.size + 1, 3, none⟩ (w.heap.size) (.float .f32 z3) (by simp <;> omega)).trans q0
  have p2 := (heap_setCell_other w2 ⟨w1.heap.size + 1, 3, none⟩ (w.heap.size + 1 + 1) (.float .f32 z3) (by simp <;> omega)).trans q2
  have p3 := (heap_setCell_other w2 ⟨w1.heap.size + 1, 3, none⟩ (w1.heap.size) (.float .f32 z3) (by simp <;> omega)).trans q3
  have pst := Stays.setCell hst ⟨w1.heap.size + 1, 3, none⟩ (.float .f32 z3) (by simp <;> omega)
  clear hst q0 q2 q3 q4
  simp at p4
  obtain ⟨wk3, hwk⟩ : ∃ x, x = w2.setCell ⟨w1.heap.size + 1, 3, none⟩ (.float .f32 z3) := ⟨_, rfl⟩
  rw [← hwk] at p0 p2 p3 p4 pst ⊢
  clear hwk
  have q0 := p0
  have q2 := p2
  have q3 := p3
  have q4 := p4
  have hst := pst
  clear pst p0 p2 p3 p4
  rw [rounds_succ]
  go_wp2
  have hcells := fun wx (hw1 : Stays wk3 wx) => And.intro (row_of hw1 q0) (row_of hw1 q3)
  refine wp_region_soft_tail 11 (Stays.refl _) (fun f args v => ∃ k0 k1 k2 l0 l1 l2, args = #[.agg #[.float .f32 k0, .float .f32 k1, .float .f32 k2], .agg #[.float .f32 l0, .float .f32 l1, .float .f32 l2]] ∧ r_DotVec k0 k1 k2 l0 l1 l2 v) [] (by kernel_rfl) (by kernel_rfl) (fun _ h => by cases h) ?_
  simp only [List.take_succ_cons, List.take_zero, List.drop_succ_cons, List.drop_zero]
  repeat ((with_reducible apply soft_det rfl); (case hA => rfl); (case h => (intro w1 hw1; have hc := hcells w1 hw1; go_simp; exact rfl)); go_simp)
  apply soft_call rfl
  case hA => rfl
  case h => (intro w1 hw1; go_simp; exact ⟨rfl, rfl⟩)
  case hc => exact fun w1 hw1 => (c_specl01Dot _ _ _ _ _ _ w1).mono fun e w' ⟨v, he, hr, hw'⟩ => ⟨_, he, ⟨_, _, _, _, _, _, rfl, hr⟩, hw'⟩
  rintro v ⟨k0, k1, k2, l0, l1, l2, hk, ⟨z4, rfl, f4⟩⟩; obtain ⟨⟨rfl, rfl, rfl⟩, rfl, rfl, rfl⟩ : (a3 = k0 ∧ a4 = k1 ∧ a5 = k2) ∧ b1 = l0 ∧ b4 = l1 ∧ b7 = l2 := by simpa using hk
  go_simp
  repeat ((with_reducible apply soft_det rfl); (case hA => rfl); (case h => (intro w1 hw1; have hc := hcells w1 hw1; go_simp; exact rfl)); go_simp)
  refine soft_nil ?_
  rintro w2 ⟨hw2, _⟩
  replace q0 := hw2.heap (in_heap q0) q0
  replace q2 := hw2.heap (in_heap q2) q2
  replace q3 := hw2.heap (in_heap q3) q3
  replace q4 := hw2.heap (in_heap q4) q4
  replace hst := Stays.trans hst hw2
  clear hcells hw2
  have hcm := fun i => cell_of_row w2 _ i _ _ _ q4
  have hfm := fun i => frozen_of_row w2 _ i _ _ q4
  go_wp2
  clear hcm hfm
  have p4 := heap_setCell_same w2 (w1.heap.size + 1) 4 _ _ (.float .f32 z4) q4
  have p0 := (heap_setCell_other w2 ⟨w1.heap.size + 1, 4, none⟩ (w.heap.size) (.float .f32 z4) (by simp <;> omega)).trans q0
  have p2 := (heap_setCell_other w2 ⟨w1.heap.size + 1, 4, none⟩ (w.heap.size + 1 + 1) (.float .f32 z4) (by simp <;> omega)).trans q2
  have p3 := (heap_setCell_other w2 ⟨w1.heap.size + 1, 4, none⟩ (w1.heap.size) (.float .f32 z4) (by simp <;> omega)).trans q3
  have pst := Stays.setCell hst ⟨w1.heap.size + 1, 4, none⟩ (.float .f32 z4) (by simp <;> omega)
  clear hst q0 q2 q3 q4
  simp at p4
  obtain ⟨wk4, hwk⟩ : ∃ x, x = w2.setCell ⟨w1.heap.size + 1, 4, none⟩ (.float .f32 z4) := ⟨_, rfl⟩
  rw [← hwk] at p0 p2 p3 p4 pst ⊢
  clear hwk
  have q0 := p0
  have q2 := p2
  have q3 := p3
  have q4 := p4
  have hst := pst
  clear pst p0 p2 p3 p4
  rw [rounds_succ]
  go_wp2
  have hcells := fun wx (hw1 : Stays wk4 wx) => And.intro (row_of hw1 q0) (row_of hw1 q3)
  refine wp_region_soft_tail 11 (Stays.refl _) (fun f args v => ∃ k0 k1 k2 l0 l1 l2, args = #[.agg #[.float .f32 k0, .float .f32 k1, .float .f32 k2], .agg #[.float .f32 l0, .float .f32 l1, .float .f32 l2]] ∧ r_DotVec k0 k1 k2 l0 l1 l2 v) [] (by kernel_rfl) (by kernel_rfl) (fun _ h => by cases h) ?_
  simp only [List.take_succ_cons, List.take_zero, List.drop_succ_cons, List.drop_zero]
  repeat ((with_reducible apply soft_det rfl); (case hA => rfl); (case h => (intro w1 hw1; have hc := hcells w1 hw1; go_simp; exact rfl)); go_simp)
  apply soft_call rfl
  case hA => rfl
  case h => (intro w1 hw1; go_simp; exact ⟨rfl, rfl⟩)
  case hc => exact fun w1 hw1 => (c_specl01Dot _ _ _ _ _ _ w1).mono fun e w' ⟨v, he, hr, hw'⟩ => ⟨_, he, ⟨_, _, _, _, _, _, rfl, hr⟩, hw'⟩
  rintro v ⟨k0, k1, k2, l0, l1, l2, hk, ⟨z5, rfl, f5⟩⟩; obtain ⟨⟨rfl, rfl, rfl⟩, rfl, rfl, rfl⟩ : (a3 = k0 ∧ a4 = k1 ∧ a5 = k2) ∧ b2 = l0 ∧ b5 = l1 ∧ b8 = l2 := by simpa using hk
  go_simp
  repeat ((with_reducible apply soft_det rfl); (case hA => rfl); (case h => (intro w1 hw1; have hc := hcells w1 hw1; go_simp; exact rfl)); go_simp)
  refine soft_nil ?_
  rintro w2 ⟨hw2, _⟩
  replace q0 := hw2.heap (in_heap q0) q0
  replace q2 := hw2.heap (in_heap q2) q2
  replace q3 := hw2.heap (in_heap q3) q3
  replace q4 := hw2.heap (in_heap q4) q4
  replace hst := Stays.trans hst hw2
  clear hcells hw2
  have hcm := fun i => cell_of_row w2 _ i _ _ _ q4
  have hfm := fun i => frozen_of_row w2 _ i _ _ q4
  go_wp2
  clear hcm hfm
  have p4 := heap_setCell_same w2 (w1.heap.size + 1) 5 _ _ (.float .f32 z5) q4
  have p0 := (heap_setCell_other w2 ⟨w1.heap.size + 1, 5, none⟩ (w.heap.size) (.float .f32 z5) (by simp <;> omega)).trans q0
  have p2 := (heap_setCell_other w2 ⟨w1.heap.size + 1, 5, none⟩ (w.heap.size + 1 + 1) (.float .f32 z5) (by simp <;> omega)).trans q2
  have p3 := (heap_setCell_other w2 ⟨w1.heap.size + 1, 5, none⟩ (w1.heap.size) (.float .f32 z5) (by simp <;> omega)).trans q3
  have pst := Stays.setCell hst ⟨w1.heap.size + 1, 5, none⟩ (.float .f32 z5) (by simp <;> omega)
  clear hst q0 q2 q3 q4
  simp at p4
  obtain ⟨wk5, hwk⟩ : ∃ x, x = w2.setCell ⟨w1.heap.size + 1, 5, none⟩ (.float .f32 z5) := ⟨_, rfl⟩
  rw [← hwk] at p0 p2 p3 p4 pst ⊢
  clear hwk
  have q0 := p0
  have q2 := p2
  have q3 := p3
  have q4 := p4
  have hst := pst
  clear pst p0 p2 p3 p4
  rw [rounds_succ]
  go_wp2
  rw [rounds_succ]
  go_wp2
  refine wp_loop_rounds 4 ?_
  rw [rounds_succ]
  go_wp2
  have hcells := fun wx (hw1 : Stays wk5 wx) => And.intro (row_of hw1 q0) (row_of hw1 q3)
  refine wp_region_soft_tail 11 (Stays.refl _) (fun f args v => ∃ k0 k1 k2 l0 l1 l2, args = #[.agg #[.float .f32 k0, .float .f32 k1, .float .f32 k2], .agg #[.float .f32 l0, .float .f32 l1, .float .f32 l2]] ∧ r_DotVec k0 k1 k2 l0 l1 l2 v) [] (by kernel_rfl) (by kernel_rfl) (fun _ h => by cases h) ?_
  simp only [List.take_succ_cons, List.take_zero, List.drop_succ_cons, List.drop_zero]
  repeat ((with_reducible apply soft_det rfl); (case hA => rfl); (case h => (intro w1 hw1; have hc := hcells w1 hw1; go_simp; exact rfl)); go_simp)
  apply soft_call rfl
  case hA => rfl
  case h => (intro w1 hw1; go_simp; exact ⟨rfl, rfl⟩)
  case hc => exact fun w1 hw1 => (c_specl01Dot _ _ _ _ _ _ w1).mono fun e w' ⟨v, he, hr, hw'⟩ => ⟨_, he, ⟨_, _, _, _, _, _, rfl, hr⟩, hw'⟩
  rintro v ⟨k0, k1, k2, l0, l1, l2, hk, ⟨z6, rfl, f6⟩⟩; obtain ⟨⟨rfl, rfl, rfl⟩, rfl, rfl, rfl⟩ : (a6 = k0 ∧ a7 = k1 ∧ a8 = k2) ∧ b0 = l0 ∧ b3 = l1 ∧ b6 = l2 := by simpa using hk
  go_simp
  repeat ((with_reducible apply soft_det rfl); (case hA => rfl); (case h => (intro w1 hw1; have hc := hcells w1 hw1; go_simp; exact rfl)); go_simp)
  refine soft_nil ?_
  rintro w2 ⟨hw2, _⟩
  replace q0 := hw2.heap (in_heap q0) q0
  replace q2 := hw2.heap (in_heap q2) q2
  replace q3 := hw2.heap (in_heap q3) q3
  replace q4 := hw2.heap (in_heap q4) q4
  replace hst := Stays.trans hst hw2
  clear hcells hw2
  have hcm := fun i => cell_of_row w2 _ i _ _ _ q4
  have hfm := fun i => frozen_of_row w2 _ i _ _ q4
  go_wp2
  clear hcm hfm
  have p4 := heap_setCell_same w2 (w1.heap.size + 1) 6 _ _ (.float .f32 z6) q4
  have p0 := (heap_setCell_other w2 ⟨w1.heap.size + 1, 6, none⟩ (w.heap.size) (.float .f32 z6) (by simp <;> omega)).trans q0
  have p2 := (heap_setCell_other w2 ⟨w1.heap.size + 1, 6, none⟩ (w.heap.size + 1 + 1) (.float .f32 z6) (by simp <;> omega)).trans q2
  have p3 := (heap_setCell_other w2 ⟨w1.heap.size + 1, 6, none⟩ (w1.heap.size) (.float .f32 z6) (by simp <;> omega)).trans q3
  have pst := Stays.setCell hst ⟨w1.heap.size + 1, 6, none⟩ (.float .f32 z6) (by simp <;> omega)
  clear hst q0 q2 q3 q4
  simp at p4
  obtain ⟨wk6, hwk⟩ : ∃ x, x = w2.setCell ⟨w1.heap.size + 1, 6, none⟩ (.float .f32 z6) := ⟨_, rfl⟩
  rw [← hwk] at p0 p2 p3 p4 pst ⊢
  clear hwk
  have q0 := p0
  have q2 := p2
  have q3 := p3
  have q4 := p4
  have hst := pst
  clear pst p0 p2 p3 p4
  rw [rounds_succ]
  go_wp2
  have hcells := fun wx (hw1 : Stays wk6 wx) => And.intro (row_of hw1 q0) (row_of hw1 q3)
  refine wp_region_soft_tail 11 (Stays.refl _) (fun f args v => ∃ k0 k1 k2 l0 l1 l2, args = #[.agg #[.float .f32 k0, .float .f32 k1, .float .f32 k2], .agg #[.float .f32 l0, .float .f32 l1, .float .f32 l2]] ∧ r_DotVec k0 k1 k2 l0 l1 l2 v) [] (by kernel_rfl) (by kernel_rfl) (fun _ h => by cases h) ?_
  simp only [List.take_succ_cons, List.take_zero, List.drop_succ_cons, List.drop_zero]
  repeat ((with_reducible apply soft_det rfl); (case hA => rfl); (case h => (intro w1 hw1; have hc := hcells w1 hw1; go_simp; exact rfl)); go_simp)
  apply soft_call rfl
  case hA => rfl
  case h => (intro w1 hw1; go_simp; exact ⟨rfl, rfl⟩)
  case hc => exact fun w1 hw1 => (c_specl01Dot _ _ _ _ _ _ w1).mono fun e w' ⟨v, he, hr, hw'⟩ => ⟨_, he, ⟨_, _, _, _, _, _, rfl, hr⟩, hw'⟩
  rintro v ⟨k0, k1, k2, l0, l1, l2, hk, ⟨z7, rfl, f7⟩⟩; obtain ⟨⟨rfl, rfl, rfl⟩, rfl, rfl, rfl⟩ : (a6 = k0 ∧ a7 = k1 ∧ a8 = k2) ∧ b1 = l0 ∧ b4 = l1 ∧ b7 = l2 := by simpa using hk
  go_simp
  repeat ((with_reducible apply soft_det rfl); (case hA => rfl); (case h => (intro w1 hw1; have hc := hcells w1 hw1; go_simp; exact rfl)); go_simp)
  refine soft_nil ?_
  rintro w2 ⟨hw2, _⟩
  replace q0 := hw2.heap (in_heap q0) q0
  replace q2 := hw2.heap (in_heap q2) q2
  replace q3 := hw2.heap (in_heap q3) q3
  replace q4 := hw2.heap (in_heap q4) q4
  replace hst := Stays.trans hst hw2
  clear hcells hw2
  have hcm := fun i => cell_of_row w2 _ i _ _ _ q4
  have hfm := fun i => frozen_of_row w2 _ i _ _ q4
  go_wp2
  clear hcm hfm
  have p4 := heap_setCell_same w2 (w1.heap.size + 1) 7 _ _ (.float .f32 z7) q4
  have p0 := (heap_setCell_other w2 ⟨w1.heap.size + 1, 7, none⟩ (w.heap.size) (.float .f32 z7) (by simp <;> omega)).trans q0
  have p2 := (heap_setCell_other w2 ⟨w1.heap.size + 1, 7, none⟩ (w.heap.size + 1 + 1) (.float .f32 z7) (by simp <;> omega)).trans q2
  have p3 := (heap_setCell_other w2 ⟨w1.heap.size + 1, 7, none⟩ (w1.heap.size) (.float .f32 z7) (by simp <;> omega)).trans q3
  have pst := Stays.setCell hst ⟨w1.heap.size + 1, 7, none⟩ (.float .f32 z7) (by simp <;> omega)
  clear hst q0 q2 q3 q4
  simp at p4
  obtain ⟨wk7, hwk⟩ : ∃ x, x = w2.setCell ⟨w1.heap.size + 1, 7, none⟩ (.float .f32 z7) := ⟨_, rfl⟩
  rw [← hwk] at p0 p2 p3 p4 pst ⊢
  clear hwk
  have q0 := p0
  have q2 := p2
  have q3 := p3
  have q4 := p4
  have hst := pst
  clear pst p0 p2 p3 p4
  rw [rounds_succ]
  go_wp2
  have hcells := fun wx (hw1 : Stays wk7 wx) => And.intro (row_of hw1 q0) (row_of hw1 q3)
  refine wp_region_soft_tail 11 (Stays.refl _) (fun f args v => ∃ k0 k1 k2 l0 l1 l2, args = #[.agg #[.float .f32 k0, .float .f32 k1, .float .f32 k2], .agg #[.float .f32 l0, .float .f32 l1, .float .f32 l2]] ∧ r_DotVec k0 k1 k2 l0 l1 l2 v) [] (by kernel_rfl) (by kernel_rfl) (fun _ h => by cases h) ?_
  simp only [List.take_succ_cons, List.take_zero, List.drop_succ_cons, List.drop_zero]
  repeat ((with_reducible apply soft_det rfl); (case hA => rfl); (case h => (intro w1 hw1; have hc := hcells w1 hw1; go_simp; exact rfl)); go_simp)
  apply soft_call rfl
  case hA => rfl
  case h => (intro w1 hw1; go_simp; exact ⟨rfl, rfl⟩)
  case hc => exact fun w1 hw1 => (c_specl01Dot _ _ _ _ _ _ w1).mono fun e w' ⟨v, he, hr, hw'⟩ => ⟨_, he, ⟨_, _, _, _, _, _, rfl, hr⟩, hw'⟩
  rintro v ⟨k0, k1, k2, l0, l1, l2, hk, ⟨z8, rfl, f8⟩⟩; obtain ⟨⟨rfl, rfl, rfl⟩, rfl, rfl, rfl⟩ : (a6 = k0 ∧ a7 = k1 ∧ a8 = k2) ∧ b2 = l0 ∧ b5 = l1 ∧ b8 = l2 := by simpa using hk
  go_simp
  repeat ((with_reducible apply soft_det rfl); (case hA => rfl); (case h => (intro w1 hw1; have hc := hcells w1 hw1; go_simp; exact rfl)); go_simp)
  refine soft_nil ?_
  rintro w2 ⟨hw2, _⟩
  replace q0 := hw2.heap (in_heap q0) q0
  replace q2 := hw2.heap (in_heap q2) q2
  replace q3 := hw2.heap (in_heap q3) q3
  replace q4 := hw2.heap (in_heap q4) q4
  replace hst := Stays.trans hst hw2
  clear hcells hw2
  have hcm := fun i => cell_of_row w2 _ i _ _ _ q4
  have hfm := fun i => frozen_of_row w2 _ i _ _ q4
  go_wp2
  clear hcm hfm
  have p4 := heap_setCell_same w2 (w1.heap.size + 1) 8 _ _ (.float .f32 z8) q4
  have p0 := (heap_setCell_other w2 ⟨w1.heap.size + 1, 8, none⟩ (w.heap.size) (.float .f32 z8) (by simp <;> omega)).trans q0
  have p2 := (heap_setCell_other w2 ⟨w1.heap.size + 1, 8, none⟩ (w.heap.size + 1 + 1) (.float .f32 z8) (by simp <;> omega)).trans q2
  have p3 := (heap_setCell_other w2 ⟨w1.heap.size + 1, 8, none⟩ (w1.heap.size) (.float .f32 z8) (by simp <;> omega)).trans q3
  have pst := Stays.setCell hst ⟨w1.heap.size + 1, 8, none⟩ (.float .f32 z8) (by simp <;> omega)
  clear hst q0 q2 q3 q4
  simp at p4
  obtain ⟨wk8, hwk⟩ : ∃ x, x = w2.setCell ⟨w1.heap.size + 1, 8, none⟩ (.float .f32 z8) := ⟨_, rfl⟩
  rw [← hwk] at p0 p2 p3 p4 pst ⊢
  clear hwk
  have q0 := p0
  have q2 := p2
  have q3 := p3
  have q4 := p4
  have hst := pst
  clear pst p0 p2 p3 p4
  rw [rounds_succ]
  go_wp2
  rw [rounds_succ]
  have hout := fun i => cell_of_row _ _ i _ _ _ q4
  have hres := q2
  clear q0 q2 q3 q4
  go_wp2_with ((refine wpList_store_row rfl _ _ _ rfl _ _ _ rfl rfl hres ?hi ?ho ?h1 ?hB hst ?_); (case hi => kernel_rfl); (case ho => rfl); (case h1 => first | rfl | simp [Value.oneCell']); (case hB => first | omega | (simp <;> omega)); intro w2 hw2 hq2 _ _)
  apply end_agg rfl rfl rfl Try.underlying26 rfl (t := 26)
  case hg => exact hq2
  case hi => kernel_rfl
  case hR => exact ⟨_, rfl, ⟨_, _, _, _, _, _, _, _, _, rfl, f0, f1, f2, f3, f4, f5, f6, f7, f8⟩, hw2⟩

theorem c_specMulMat (a0 a1 a2 a3 a4 a5 a6 a7 a8 b0 b1 b2 b3 b4 b5 b6 b7 b8 : Nat) (w : World) : Calls Try.prog 27 #[.agg #[.float .f32 a0, .float .f32 a1, .float .f32 a2, .float .f32 a3, .float .f32 a4, .float .f32 a5, .float .f32 a6, .float .f32 a7, .float .f32 a8], .agg #[.float .f32 b0, .float .f32 b1, .float .f32 b2, .float .f32 b3, .float .f32 b4, .float .f32 b5, .float .f32 b6, .float .f32 b7, .float .f32 b8]] w fun en w' => ∃ v, en = .returned v ∧ r_MulMat a0 a1 a2 a3 a4 a5 a6 a7 a8 b0 b1 b2 b3 b4 b5 b6 b7 b8 v ∧ Stays w w' := by
  have u0 : (((w.alloc (.cells #[.float .f32 a0, .float .f32 a1, .float .f32 a2, .float .f32 a3, .float .f32 a4, .float .f32 a5, .float .f32 a6, .float .f32 a7, .float .f32 a8] 26)).alloc (.cells #[.float .f32 b0, .float .f32 b1, .float .f32 b2, .float .f32 b3, .float .f32 b4, .float .f32 b5, .float .f32 b6, .float .f32 b7, .float .f32 b8] 26)).alloc (.cells #[.float .f32 0, .float .f32 0, .float .f32 0, .float .f32 0, .float .f32 0, .float .f32 0, .float .f32 0, .float .f32 0, .float .f32 0] 26)).heap[w.heap.size + 1 + 1]? = some (.cells #[.float .f32 0, .float .f32 0, .float .f32 0, .float .f32 0, .float .f32 0, .float .f32 0, .float .f32 0, .float .f32 0, .float .f32 0] 26 (0, 0)) := by (repeat (first | (refine heap_top _ _ _ ?_; simp; done) | (with_reducible refine heap_drawn _ _ _ ?_) | (with_reducible refine heap_under _ _ _ ?_ ?_; (simp <;> omega))))
  have hend : Hid (∀ w1, Stays (((w.alloc (.cells #[.float .f32 a0, .float .f32 a1, .float .f32 a2, .float .f32 a3, .float .f32 a4, .float .f32 a5, .float .f32 a6, .float .f32 a7, .float .f32 a8] 26)).alloc (.cells #[.float .f32 b0, .float .f32 b1, .float .f32 b2, .float .f32 b3, .float .f32 b4, .float .f32 b5, .float .f32 b6, .float .f32 b7, .float .f32 b8] 26)).alloc (.cells #[.float .f32 0, .float .f32 0, .float .f32 0, .float .f32 0, .float .f32 0, .float .f32 0, .float .f32 0, .float .f32 0, .float .f32 0] 26)) w1 → w1.heap[w.heap.size + 1 + 1]? = some (.cells #[.float .f32 0, .float .f32 0, .float .f32 0, .float .f32 0, .float .f32 0, .float .f32 0, .float .f32 0, .float .f32 0, .float .f32 0] 26 (0, 0)) ∧ Stays w w1) := fun w1 h => ⟨h.heap (in_heap u0) u0, Stays.trans (by (repeat (first | exact Stays.refl _ | (with_reducible refine Stays.drewN ?_ _) | (with_reducible refine Stays.alloc ?_ _) | (with_reducible refine Stays.drew ?_) | (refine Stays.trans ?_ ‹Stays _ _›)))) h⟩
  clear u0
  go_enter Try.func27, Try.ntmps27
  go_wp2_with (first | (go_at_call 42; refine (c_specl01Mul _ _ _ _ _ _ _ _ _ _ _ _ _ _ _ _ _ _  _).mono ?_; rintro en w1 ⟨v, rfl, ⟨y0, y1, y2, y3, y4, y5, y6, y7, y8, rfl, h0, h1, h2, h3, h4, h5, h6, h7, h8⟩, hw1⟩; obtain ⟨hres, hst⟩ := hend.out _ hw1; clear hw1) | ((refine wpList_store_row rfl _ _ _ rfl _ _ _ rfl rfl hres ?hi ?ho ?h1 ?hB hst ?_); (case hi => kernel_rfl); (case ho => rfl); (case h1 => first | rfl | simp [Value.oneCell']); (case hB => first | omega | (simp <;> omega)); intro w2 hw2 hq2 _ _))
  apply end_agg rfl rfl rfl Try.underlying26 rfl (t := 26)
  case hg => exact hq2
  case hi => kernel_rfl
  case hR => exact ⟨_, rfl, ⟨_, _, _, _, _, _, _, _, _, rfl, h0, h1, h2, h3, h4, h5, h6, h7, h8⟩, hw2⟩

theorem c_implMulMat (a0 a1 a2 a3 a4 a5 a6 a7 a8 b0 b1 b2 b3 b4 b5 b6 b7 b8 : Nat) (w : World) : Calls Try.prog 28 #[.agg #[.float .f32 a0, .float .f32 a1, .float .f32 a2, .float .f32 a3, .float .f32 a4, .float .f32 a5, .float .f32 a6, .float .f32 a7, .float .f32 a8], .agg #[.float .f32 b0, .float .f32 b1, .float .f32 b2, .float .f32 b3, .float .f32 b4, .float .f32 b5, .float .f32 b6, .float .f32 b7, .float .f32 b8]] w fun en w' => ∃ v, en = .returned v ∧ r_MulMat a0 a1 a2 a3 a4 a5 a6 a7 a8 b0 b1 b2 b3 b4 b5 b6 b7 b8 v ∧ Stays w w' := by
  have u0 : (((w.alloc (.cells #[.float .f32 a0, .float .f32 a1, .float .f32 a2, .float .f32 a3, .float .f32 a4, .float .f32 a5, .float .f32 a6, .float .f32 a7, .float .f32 a8] 26)).alloc (.cells #[.float .f32 b0, .float .f32 b1, .float .f32 b2, .float .f32 b3, .float .f32 b4, .float .f32 b5, .float .f32 b6, .float .f32 b7, .float .f32 b8] 26)).alloc (.cells #[.float .f32 0, .float .f32 0, .float .f32 0, .float .f32 0, .float .f32 0, .float .f32 0, .float .f32 0, .float .f32 0, .float .f32 0] 26)).heap[w.heap.size]? = some (.cells #[.float .f32 a0, .float .f32 a1, .float .f32 a2, .float .f32 a3, .float .f32 a4, .float .f32 a5, .float .f32 a6, .float .f32 a7, .float .f32 a8] 26 (0, 0)) := by (repeat (first | (refine heap_top _ _ _ ?_; simp; done) | (with_reducible refine heap_drawn _ _ _ ?_) | (with_reducible refine heap_under _ _ _ ?_ ?_; (simp <;> omega))))
  have u2 : (((w.alloc (.cells #[.float .f32 a0, .float .f32 a1, .float .f32 a2, .float .f32 a3, .float .f32 a4, .float .f32 a5, .float .f32 a6, .float .f32 a7, .float .f32 a8] 26)).alloc (.cells #[.float .f32 b0, .float .f32 b1, .float .f32 b2, .float .f32 b3, .float .f32 b4, .float .f32 b5, .float .f32 b6, .float .f32 b7, .float .f32 b8] 26)).alloc (.cells #[.float .f32 0, .float .f32 0, .float .f32 0, .float .f32 0, .float .f32 0, .float .f32 0, .float .f32 0, .float .f32 0, .float .f32 0] 26)).heap[w.heap.size + 1 + 1]? = some (.cells #[.float .f32 0, .float .f32 0, .float .f32 0, .float .f32 0, .float .f32 0, .float .f32 0, .float .f32 0, .float .f32 0, .float .f32 0] 26 (0, 0)) := by (repeat (first | (refine heap_top _ _ _ ?_; simp; done) | (with_reducible refine heap_drawn _ _ _ ?_) | (with_reducible refine heap_under _ _ _ ?_ ?_; (simp <;> omega))))
  have hst0 : Stays w (((w.alloc (.cells #[.float .f32 a0, .float .f32 a1, .float .f32 a2, .float .f32 a3, .float .f32 a4, .float .f32 a5, .float .f32 a6, .float .f32 a7, .float .f32 a8] 26)).alloc (.cells #[.float .f32 b0, .float .f32 b1, .float .f32 b2, .float .f32 b3, .float .f32 b4, .float .f32 b5, .float .f32 b6, .float .f32 b7, .float .f32 b8] 26)).alloc (.cells #[.float .f32 0, .float .f32 0, .float .f32 0, .float .f32 0, .float .f32 0, .float .f32 0, .float .f32 0, .float .f32 0, .float .f32 0] 26)) := by (repeat (first | exact Stays.refl _ | (with_reducible refine Stays.drewN ?_ _) | (with_reducible refine Stays.alloc ?_ _) | (with_reducible refine Stays.drew ?_) | (refine Stays.trans ?_ ‹Stays _ _›)))
  go_enter Try.func28, Try.ntmps28
  go_wp2_with (go_at_call 43; refine (c_implTransposed _ _ _ _ _ _ _ _ _  _).mono ?_; rintro en w1 ⟨v, rfl, rfl, hw1⟩)
  have hz : w.heap.size + 1 + 1 < w1.heap.size := by
    have := hw1.size
    simp at this
    omega
  have q0 : (w1.alloc (.cells #[.float .f32 b0, .float .f32 b3, .float .f32 b6, .float .f32 b1, .float .f32 b4, .float .f32 b7, .float .f32 b2, .float .f32 b5, .float .f32 b8] 26)).heap[w.heap.size]? = some (.cells #[.float .f32 a0, .float .f32 a1, .float .f32 a2, .float .f32 a3, .float .f32 a4, .float .f32 a5, .float .f32 a6, .float .f32 a7, .float .f32 a8] 26 (0, 0)) := heap_under _ _ _ (by omega) (hw1.heap (in_heap u0) u0)
  have q2 : (w1.alloc (.cells #[.float .f32 b0, .float .f32 b3, .float .f32 b6, .float .f32 b1, .float .f32 b4, .float .f32 b7, .float .f32 b2, .float .f32 b5, .float .f32 b8] 26)).heap[w.heap.size + 1 + 1]? = some (.cells #[.float .f32 0, .float .f32 0, .float .f32 0, .float .f32 0, .float .f32 0, .float .f32 0, .float .f32 0, .float .f32 0, .float .f32 0] 26 (0, 0)) := heap_under _ _ _ (by omega) (hw1.heap (in_heap u2) u2)
  have q3 : (w1.alloc (.cells #[.float .f32 b0, .float .f32 b3, .float .f32 b6, .float .f32 b1, .float .f32 b4, .float .f32 b7, .float .f32 b2, .float .f32 b5, .float .f32 b8] 26)).heap[w1.heap.size]? = some (.cells #[.float .f32 b0, .float .f32 b3, .float .f32 b6, .float .f32 b1, .float .f32 b4, .float .f32 b7, .float .f32 b2, .float .f32 b5, .float .f32 b8] 26 (0, 0)) := by (repeat (first | (refine heap_top _ _ _ ?_; simp; done) | (with_reducible refine heap_drawn _ _ _ ?_) | (with_reducible refine heap_under _ _ _ ?_ ?_; (simp <;> omega))))
  have hstA : Stays w (w1.alloc (.cells #[.float .f32 b0, .float .f32 b3, .float .f32 b6, .float .f32 b1, .float .f32 b4, .float .f32 b7, .float .f32 b2, .float .f32 b5, .float .f32 b8] 26)) := Stays.alloc (Stays.trans hst0 hw1) _
  have hcells := fun wx (hw1 : Stays (w1.alloc (.cells #[.float .f32 b0, .float .f32 b3, .float .f32 b6, .float .f32 b1, .float .f32 b4, .float .f32 b7, .float .f32 b2, .float .f32 b5, .float .f32 b8] 26)) wx) => And.intro (row_of hw1 q0) (row_of hw1 q3)
  have hend : Hid (∀ wx, Stays (w1.alloc (.cells #[.float .f32 b0, .float .f32 b3, .float .f32 b6, .float .f32 b1, .float .f32 b4, .float .f32 b7, .float .f32 b2, .float .f32 b5, .float .f32 b8] 26)) wx → wx.heap[w.heap.size + 1 + 1]? = some (.cells #[.float .f32 0, .float .f32 0, .float .f32 0, .float .f32 0, .float .f32 0, .float .f32 0, .float .f32 0, .float .f32 0, .float .f32 0] 26 (0, 0)) ∧ Stays w wx) := fun wx h => ⟨h.heap (in_heap q2) q2, Stays.trans hstA h⟩
  clear u0 u2 hst0 hw1 q0 q2 q3 hstA hz
  refine wp_region_soft_tail 13 (Stays.refl _) (fun f args v => ∃ k0 k1 k2 k3 k4 k5 k6 k7 k8 l0 l1 l2, args = #[.agg #[.float .f32 k0, .float .f32 k1, .float .f32 k2, .float .f32 k3, .float .f32 k4, .float .f32 k5, .float .f32 k6, .float .f32 k7, .float .f32 k8], .agg #[.float .f32 l0, .float .f32 l1, .float .f32 l2]] ∧ r_MulMatVec k0 k1 k2 k3 k4 k5 k6 k7 k8 l0 l1 l2 v) [] (by kernel_rfl) (by kernel_rfl) (fun _ h => by cases h) ?_
  simp only [List.take_succ_cons, List.take_zero, List.drop_succ_cons, List.drop_zero]
  repeat ((with_reducible apply soft_det rfl); (case hA => rfl); (case h => (intro w1 hw1; have hc := hcells w1 hw1; go_simp; exact rfl)); go_simp)
  apply soft_call rfl
  case hA => rfl
  case h => (intro w1 hw1; go_simp; exact ⟨rfl, rfl⟩)
  case hc => exact fun w1 hw1 => (c_implMulMatVec _ _ _ _ _ _ _ _ _ _ _ _  w1).mono fun e w' ⟨v, he, hr, hw'⟩ => ⟨_, he, ⟨_, _, _, _, _, _, _, _, _, _, _, _, rfl, hr⟩, hw'⟩
  rintro v ⟨k0, k1, k2, k3, k4, k5, k6, k7, k8, l0, l1, l2, hk, ⟨x0, y0, z0, rfl, hx0, hy0, hz0⟩⟩; obtain ⟨⟨rfl, rfl, rfl, rfl, rfl, rfl, rfl, rfl, rfl⟩, rfl, rfl, rfl⟩ : (b0 = k0 ∧ b3 = k1 ∧ b6 = k2 ∧ b1 = k3 ∧ b4 = k4 ∧ b7 = k5 ∧ b2 = k6 ∧ b5 = k7 ∧ b8 = k8) ∧ a0 = l0 ∧ a1 = l1 ∧ a2 = l2 := by simpa using hk
  go_simp
  repeat ((with_reducible apply soft_det rfl); (case hA => rfl); (case h => (intro w1 hw1; have hc := hcells w1 hw1; go_simp; exact rfl)); go_simp)
  apply soft_call rfl
  case hA => rfl
  case h => (intro w1 hw1; go_simp; exact ⟨rfl, rfl⟩)
  case hc => exact fun w1 hw1 => (c_implMulMatVec _ _ _ _ _ _ _ _ _ _ _ _  w1).mono fun e w' ⟨v, he, hr, hw'⟩ => ⟨_, he, ⟨_, _, _, _, _, _, _, _, _, _, _, _, rfl, hr⟩, hw'⟩
  rintro v ⟨k0, k1, k2, k3, k4, k5, k6, k7, k8, l0, l1, l2, hk, ⟨x1, y1, z1, rfl, hx1, hy1, hz1⟩⟩; obtain ⟨⟨rfl, rfl, rfl, rfl, rfl, rfl, rfl, rfl, rfl⟩, rfl, rfl, rfl⟩ : (b0 = k0 ∧ b3 = k1 ∧ b6 = k2 ∧ b1 = k3 ∧ b4 = k4 ∧ b7 = k5 ∧ b2 = k6 ∧ b5 = k7 ∧ b8 = k8) ∧ a3 = l0 ∧ a4 = l1 ∧ a5 = l2 := by simpa using hk
  go_simp
  repeat ((with_reducible apply soft_det rfl); (case hA => rfl); (case h => (intro w1 hw1; have hc := hcells w1 hw1; go_simp; exact rfl)); go_simp)
  apply soft_call rfl
  case hA => rfl
  case h => (intro w1 hw1; go_simp; exact ⟨rfl, rfl⟩)
  case hc => exact fun w1 hw1 => (c_implMulMatVec _ _ _ _ _ _ _ _ _ _ _ _  w1).mono fun e w' ⟨v, he, hr, hw'⟩ => ⟨_, he, ⟨_, _, _, _, _, _, _, _, _, _, _, _, rfl, hr⟩, hw'⟩
  rintro v ⟨k0, k1, k2, k3, k4, k5, k6, k7, k8, l0, l1, l2, hk, ⟨x2, y2, z2, rfl, hx2, hy2, hz2⟩⟩; obtain ⟨⟨rfl, rfl, rfl, rfl, rfl, rfl, rfl, rfl, rfl⟩, rfl, rfl, rfl⟩ : (b0 = k0 ∧ b3 = k1 ∧ b6 = k2 ∧ b1 = k3 ∧ b4 = k4 ∧ b7 = k5 ∧ b2 = k6 ∧ b5 = k7 ∧ b8 = k8) ∧ a6 = l0 ∧ a7 = l1 ∧ a8 = l2 := by simpa using hk
  go_simp
  repeat ((with_reducible apply soft_det rfl); (case hA => rfl); (case h => (intro w1 hw1; have hc := hcells w1 hw1; go_simp; exact rfl)); go_simp)
  refine soft_nil ?_
  rintro w2 ⟨hw2, _⟩
  obtain ⟨hres, hst⟩ := hend.out _ hw2
  clear hcells hw2 hend
  refine wpList_store_row rfl _ _ _ rfl _ _ _ rfl rfl hres ?hi ?ho ?h1 ?hB hst ?_
  case hi => kernel_rfl
  case ho => rfl
  case h1 => first | rfl | simp [Value.oneCell']
  case hB => first | omega | (simp <;> omega)
  intro w3 hw3 hq3 _ _
  go_wp2
  apply end_agg rfl rfl rfl Try.underlying26 rfl (t := 26)
  case hg => exact hq3
  case hi => kernel_rfl
  case hR => exact ⟨_, rfl, ⟨_, _, _, _, _, _, _, _, _, rfl, hx0.of_eq (fdot_comm _ _ _ _ _ _), hy0.of_eq (fdot_comm _ _ _ _ _ _), hz0.of_eq (fdot_comm _ _ _ _ _ _), hx1.of_eq (fdot_comm _ _ _ _ _ _), hy1.of_eq (fdot_comm _ _ _ _ _ _), hz1.of_eq (fdot_comm _ _ _ _ _ _), hx2.of_eq (fdot_comm _ _ _ _ _ _), hy2.of_eq (fdot_comm _ _ _ _ _ _), hz2.of_eq (fdot_comm _ _ _ _ _ _)⟩, hw3⟩

end Go.Proofs.Ytbcnafanjemaeac
