/- Contracts of toFloat32A3, toMat, eqFloat32A3, eqMat. No condition. -/
import Derived.Test.YtbcnafanjemaeacB1
import Derived.Test.YtbcnafanjemaeacSp
namespace Go.Proofs.Ytbcnafanjemaeac
open Go Go.RowKit
set_option linter.unusedVariables false

theorem c_toFloat32A3 (a b c : Nat) (w : World) :
    Calls Try.prog 33 #[.agg #[.float .f32 a, .float .f32 b, .float .f32 c]] w fun e w' => e = .returned (.agg #[.float .f32 a, .float .f32 b, .float .f32 c]) ∧ Stays w w' := by
  go_enter Try.func33, Try.ntmps33
  go_wp2
  refine wp_loop_rounds 4 ?_
  rw [rounds_succ]
  go_wp2
  rw [rounds_succ]
  go_wp2
  rw [rounds_succ]
  go_wp2
  rw [rounds_succ]
  go_wp2
  apply end_agg rfl rfl rfl Try.underlying23 rfl (t := 23)
  case hg => (repeat (first | (refine heap_top _ _ _ ?_; simp; done) | (with_reducible refine heap_drawn _ _ _ ?_) | (with_reducible refine heap_under _ _ _ ?_ ?_; (simp <;> omega))))
  case hi => kernel_rfl
  exact ⟨rfl, by (repeat (first | exact Stays.refl _ | (with_reducible refine Stays.drewN ?_ _) | (with_reducible refine Stays.alloc ?_ _) | (with_reducible refine Stays.drew ?_) | (refine Stays.trans ?_ ‹Stays _ _›)))⟩

theorem c_eqFloat32A3 (a b c d e f : Nat) (w : World) (h0 : Hid (can .f32 a = can .f32 d)) (h1 : Hid (can .f32 b = can .f32 e)) (h2 : Hid (can .f32 c = can .f32 f)) :
    Calls Try.prog 38 #[.agg #[.float .f32 a, .float .f32 b, .float .f32 c], .agg #[.float .f32 d, .float .f32 e, .float .f32 f]] w fun e w' => e = .returned (.bool true) ∧ Stays w w' := by
  go_enter Try.func38, Try.ntmps38
  go_wp2
  refine wp_loop_rounds 4 ?_
  rw [rounds_succ]
  go_wp2
  have hcells := fun w1 (hw1 : Stays ((w.alloc (.cells #[.float .f32 a, .float .f32 b, .float .f32 c] 23)).alloc (.cells #[.float .f32 d, .float .f32 e, .float .f32 f] 23)) w1) => hw1.cells
  refine wp_region_soft_tail 9 (Stays.refl _) (fun f args v => v = .bool true) [] (by kernel_rfl) (by kernel_rfl) (fun _ h => by cases h) ?_
  simp only [List.take_succ_cons, List.take_zero, List.drop_succ_cons, List.drop_zero]
  repeat (first | ((with_reducible apply soft_det rfl); (case hA => rfl); (case h => (intro w1 hw1; have hc := hcells w1 hw1; go_simp; exact rfl)); go_simp) | ((with_reducible refine soft_widen rfl ?hA _ _ _ rfl _ rfl (some_of Try.underlying22) Try.underlying43 ?_); (case hA => rfl); intro r hr; go_simp))
  apply soft_call rfl
  case hA => rfl
  case h => intro w1 hw1; go_simp; exact ⟨rfl, rfl⟩
  case hc => exact fun w1 hw1 => (c_sameFloat _ _ w1 (wide_same h0.out ‹_› ‹_›)).mono fun e w' ⟨he, hw'⟩ => ⟨_, he, rfl, hw'⟩
  rintro v rfl
  go_simp
  (refine soft_nil ?_; rintro w2 ⟨hw2, _⟩; have hc2 := hw2.cells)
  go_wp2
  rw [rounds_succ]
  go_wp2
  refine wp_region_soft_tail 9 hw2 (fun f args v => v = .bool true) [] (by kernel_rfl) (by kernel_rfl) (fun _ h => by cases h) ?_
  simp only [List.take_succ_cons, List.take_zero, List.drop_succ_cons, List.drop_zero]
  repeat (first | ((with_reducible apply soft_det rfl); (case hA => rfl); (case h => (intro w1 hw1; have hc := hcells w1 hw1; go_simp; exact rfl)); go_simp) | ((with_reducible refine soft_widen rfl ?hA _ _ _ rfl _ rfl (some_of Try.underlying22) Try.underlying43 ?_); (case hA => rfl); intro r hr; go_simp))
  apply soft_call rfl
  case hA => rfl
  case h => intro w1 hw1; go_simp; exact ⟨rfl, rfl⟩
  case hc => exact fun w1 hw1 => (c_sameFloat _ _ w1 (wide_same h1.out ‹_› ‹_›)).mono fun e w' ⟨he, hw'⟩ => ⟨_, he, rfl, hw'⟩
  rintro v rfl
  go_simp
  (refine soft_nil ?_; rintro w2 ⟨hw2, _⟩; have hc2 := hw2.cells)
  go_wp2
  rw [rounds_succ]
  go_wp2
  refine wp_region_soft_tail 9 hw2 (fun f args v => v = .bool true) [] (by kernel_rfl) (by kernel_rfl) (fun _ h => by cases h) ?_
  simp only [List.take_succ_cons, List.take_zero, List.drop_succ_cons, List.drop_zero]
  repeat (first | ((with_reducible apply soft_det rfl); (case hA => rfl); (case h => (intro w1 hw1; have hc := hcells w1 hw1; go_simp; exact rfl)); go_simp) | ((with_reducible refine soft_widen rfl ?hA _ _ _ rfl _ rfl (some_of Try.underlying22) Try.underlying43 ?_); (case hA => rfl); intro r hr; go_simp))
  apply soft_call rfl
  case hA => rfl
  case h => intro w1 hw1; go_simp; exact ⟨rfl, rfl⟩
  case hc => exact fun w1 hw1 => (c_sameFloat _ _ w1 (wide_same h2.out ‹_› ‹_›)).mono fun e w' ⟨he, hw'⟩ => ⟨_, he, rfl, hw'⟩
  rintro v rfl
  go_simp
  (refine soft_nil ?_; rintro w2 ⟨hw2, _⟩; have hc2 := hw2.cells)
  go_wp2
  rw [rounds_succ]
  go_wp2
  go_ret
  exact ⟨rfl, Stays.trans (by (repeat (first | exact Stays.refl _ | (with_reducible refine Stays.drewN ?_ _) | (with_reducible refine Stays.alloc ?_ _) | (with_reducible refine Stays.drew ?_) | (refine Stays.trans ?_ ‹Stays _ _›)))) hw2⟩

theorem c_toMat (a0 a1 a2 a3 a4 a5 a6 a7 a8 : Nat) (w : World) :
    Calls Try.prog 12 #[.agg #[.float .f32 a0, .float .f32 a1, .float .f32 a2, .float .f32 a3, .float .f32 a4, .float .f32 a5, .float .f32 a6, .float .f32 a7, .float .f32 a8]] w fun e w' => e = .returned (.agg #[.float .f32 a0, .float .f32 a1, .float .f32 a2, .float .f32 a3, .float .f32 a4, .float .f32 a5, .float .f32 a6, .float .f32 a7, .float .f32 a8]) ∧ Stays w w' := by
  have u0 : ((w.alloc (.cells #[.float .f32 a0, .float .f32 a1, .float .f32 a2, .float .f32 a3, .float .f32 a4, .float .f32 a5, .float .f32 a6, .float .f32 a7, .float .f32 a8] 24)).alloc (.cells #[.float .f32 0, .float .f32 0, .float .f32 0, .float .f32 0, .float .f32 0, .float .f32 0, .float .f32 0, .float .f32 0, .float .f32 0] 26)).heap[w.heap.size]? = some (.cells #[.float .f32 a0, .float .f32 a1, .float .f32 a2, .float .f32 a3, .float .f32 a4, .float .f32 a5, .float .f32 a6, .float .f32 a7, .float .f32 a8] 24 (0, 0)) := by (repeat (first | (refine heap_top _ _ _ ?_; simp; done) | (with_reducible refine heap_drawn _ _ _ ?_) | (with_reducible refine heap_under _ _ _ ?_ ?_; (simp <;> omega))))
  have u1 : ((w.alloc (.cells #[.float .f32 a0, .float .f32 a1, .float .f32 a2, .float .f32 a3, .float .f32 a4, .float .f32 a5, .float .f32 a6, .float .f32 a7, .float .f32 a8] 24)).alloc (.cells #[.float .f32 0, .float .f32 0, .float .f32 0, .float .f32 0, .float .f32 0, .float .f32 0, .float .f32 0, .float .f32 0, .float .f32 0] 26)).heap[w.heap.size + 1]? = some (.cells #[.float .f32 0, .float .f32 0, .float .f32 0, .float .f32 0, .float .f32 0, .float .f32 0, .float .f32 0, .float .f32 0, .float .f32 0] 26 (0, 0)) := by (repeat (first | (refine heap_top _ _ _ ?_; simp; done) | (with_reducible refine heap_drawn _ _ _ ?_) | (with_reducible refine heap_under _ _ _ ?_ ?_; (simp <;> omega))))
  have ho : (((w.alloc (.cells #[.float .f32 a0, .float .f32 a1, .float .f32 a2, .float .f32 a3, .float .f32 a4, .float .f32 a5, .float .f32 a6, .float .f32 a7, .float .f32 a8] 24)).alloc (.cells #[.float .f32 0, .float .f32 0, .float .f32 0, .float .f32 0, .float .f32 0, .float .f32 0, .float .f32 0, .float .f32 0, .float .f32 0] 26)).alloc (.cells #[.float .f32 0, .float .f32 0, .float .f32 0, .float .f32 0, .float .f32 0, .float .f32 0, .float .f32 0, .float .f32 0, .float .f32 0] 26)).heap[w.heap.size + 1 + 1]? = some (.cells #[.float .f32 0, .float .f32 0, .float .f32 0, .float .f32 0, .float .f32 0, .float .f32 0, .float .f32 0, .float .f32 0, .float .f32 0] 26 (0, 0)) := by (repeat (first | (refine heap_top _ _ _ ?_; simp; done) | (with_reducible refine heap_drawn _ _ _ ?_) | (with_reducible refine heap_under _ _ _ ?_ ?_; (simp <;> omega))))
  have hA : Hid (∀ w1, Stays ((w.alloc (.cells #[.float .f32 a0, .float .f32 a1, .float .f32 a2, .float .f32 a3, .float .f32 a4, .float .f32 a5, .float .f32 a6, .float .f32 a7, .float .f32 a8] 24)).alloc (.cells #[.float .f32 0, .float .f32 0, .float .f32 0, .float .f32 0, .float .f32 0, .float .f32 0, .float .f32 0, .float .f32 0, .float .f32 0] 26)) w1 → (∀ i, w1.cell? ⟨w.heap.size, i, none⟩ = #[.float .f32 a0, .float .f32 a1, .float .f32 a2, .float .f32 a3, .float .f32 a4, .float .f32 a5, .float .f32 a6, .float .f32 a7, .float .f32 a8][i]?) ∧ w1.heap[w.heap.size + 1]? = some (.cells #[.float .f32 0, .float .f32 0, .float .f32 0, .float .f32 0, .float .f32 0, .float .f32 0, .float .f32 0, .float .f32 0, .float .f32 0] 26 (0, 0))) := fun w1 h => ⟨row_of h u0, h.heap (in_heap u1) u1⟩
  clear u0 u1
  have hS : Stays ((w.alloc (.cells #[.float .f32 a0, .float .f32 a1, .float .f32 a2, .float .f32 a3, .float .f32 a4, .float .f32 a5, .float .f32 a6, .float .f32 a7, .float .f32 a8] 24)).alloc (.cells #[.float .f32 0, .float .f32 0, .float .f32 0, .float .f32 0, .float .f32 0, .float .f32 0, .float .f32 0, .float .f32 0, .float .f32 0] 26)) (((w.alloc (.cells #[.float .f32 a0, .float .f32 a1, .float .f32 a2, .float .f32 a3, .float .f32 a4, .float .f32 a5, .float .f32 a6, .float .f32 a7, .float .f32 a8] 24)).alloc (.cells #[.float .f32 0, .float .f32 0, .float .f32 0, .float .f32 0, .float .f32 0, .float .f32 0, .float .f32 0, .float .f32 0, .float .f32 0] 26)).alloc (.cells #[.float .f32 0, .float .f32 0, .float .f32 0, .float .f32 0, .float .f32 0, .float .f32 0, .float .f32 0, .float .f32 0, .float .f32 0] 26)) := Stays.alloc (Stays.refl _) _
  obtain ⟨hc, hres⟩ := hA.out _ hS
  go_enter Try.func12, Try.ntmps12
  go_wp2
  refine wp_loop_rounds 4 ?_
  rw [rounds_succ]
  go_wp2_with (first | (go_at_call 33; refine (c_toFloat32A3 _ _ _ _).mono ?_; rintro en w1 ⟨rfl, hw1⟩; replace ho := hw1.heap (in_heap ho) ho; replace hS := Stays.trans hS hw1; clear hw1; try clear hc; obtain ⟨hc, hres⟩ := hA.out _ hS) | ((refine wpList_store_mid rfl _ _ _ rfl _ _ _ _ _ rfl rfl ho ?hi ?hb ?h1 ?hB hS ?_); (case hi => kernel_rfl); (case hb => simp); (case h1 => first | rfl | simp [Value.oneCell']); (case hB => first | omega | (simp <;> omega)); intro w2 hS' ho' _; clear hS ho hc; simp [splice] at ho'; have ho := ho'; have hS := hS'; clear ho' hS'; obtain ⟨hc, hres⟩ := hA.out _ hS))
  rw [rounds_succ]
  go_wp2_with (first | (go_at_call 33; refine (c_toFloat32A3 _ _ _ _).mono ?_; rintro en w1 ⟨rfl, hw1⟩; replace ho := hw1.heap (in_heap ho) ho; replace hS := Stays.trans hS hw1; clear hw1; try clear hc; obtain ⟨hc, hres⟩ := hA.out _ hS) | ((refine wpList_store_mid rfl _ _ _ rfl _ _ _ _ _ rfl rfl ho ?hi ?hb ?h1 ?hB hS ?_); (case hi => kernel_rfl); (case hb => simp); (case h1 => first | rfl | simp [Value.oneCell']); (case hB => first | omega | (simp <;> omega)); intro w2 hS' ho' _; clear hS ho hc; simp [splice] at ho'; have ho := ho'; have hS := hS'; clear ho' hS'; obtain ⟨hc, hres⟩ := hA.out _ hS))
  rw [rounds_succ]
  go_wp2_with (first | (go_at_call 33; refine (c_toFloat32A3 _ _ _ _).mono ?_; rintro en w1 ⟨rfl, hw1⟩; replace ho := hw1.heap (in_heap ho) ho; replace hS := Stays.trans hS hw1; clear hw1; try clear hc; obtain ⟨hc, hres⟩ := hA.out _ hS) | ((refine wpList_store_mid rfl _ _ _ rfl _ _ _ _ _ rfl rfl ho ?hi ?hb ?h1 ?hB hS ?_); (case hi => kernel_rfl); (case hb => simp); (case h1 => first | rfl | simp [Value.oneCell']); (case hB => first | omega | (simp <;> omega)); intro w2 hS' ho' _; clear hS ho hc; simp [splice] at ho'; have ho := ho'; have hS := hS'; clear ho' hS'; obtain ⟨hc, hres⟩ := hA.out _ hS))
  rw [rounds_succ]
  have hout := fun i => cell_of_row _ _ i _ _ _ ho
  have hst : Stays w _ := Stays.trans (by (repeat (first | exact Stays.refl _ | (with_reducible refine Stays.drewN ?_ _) | (with_reducible refine Stays.alloc ?_ _) | (with_reducible refine Stays.drew ?_) | (refine Stays.trans ?_ ‹Stays _ _›)))) hS
  clear hS ho
  go_wp2_with ((refine wpList_store_row rfl _ _ _ rfl _ _ _ rfl rfl hres ?hi ?ho ?h1 ?hB hst ?_); (case hi => kernel_rfl); (case ho => rfl); (case h1 => first | rfl | simp [Value.oneCell']); (case hB => first | omega | (simp <;> omega)); intro w2 hw2 hq2 _ _)
  apply end_agg rfl rfl rfl Try.underlying26 rfl (t := 26)
  case hg => exact hq2
  case hi => kernel_rfl
  case hR => exact ⟨rfl, hw2⟩

theorem c_eqMat (a0 a1 a2 a3 a4 a5 a6 a7 a8 b0 b1 b2 b3 b4 b5 b6 b7 b8 : Nat) (w : World) (h0 : Hid (can .f32 a0 = can .f32 b0)) (h1 : Hid (can .f32 a1 = can .f32 b1)) (h2 : Hid (can .f32 a2 = can .f32 b2)) (h3 : Hid (can .f32 a3 = can .f32 b3)) (h4 : Hid (can .f32 a4 = can .f32 b4)) (h5 : Hid (can .f32 a5 = can .f32 b5)) (h6 : Hid (can .f32 a6 = can .f32 b6)) (h7 : Hid (can .f32 a7 = can .f32 b7)) (h8 : Hid (can .f32 a8 = can .f32 b8)) :
    Calls Try.prog 18 #[.agg #[.float .f32 a0, .float .f32 a1, .float .f32 a2, .float .f32 a3, .float .f32 a4, .float .f32 a5, .float .f32 a6, .float .f32 a7, .float .f32 a8], .agg #[.float .f32 b0, .float .f32 b1, .float .f32 b2, .float .f32 b3, .float .f32 b4, .float .f32 b5, .float .f32 b6, .float .f32 b7, .float .f32 b8]] w fun e w' => e = .returned (.bool true) ∧ Stays w w' := by
  have u0 : ((w.alloc (.cells #[.float .f32 a0, .float .f32 a1, .float .f32 a2, .float .f32 a3, .float .f32 a4, .float .f32 a5, .float .f32 a6, .float .f32 a7, .float .f32 a8] 26)).alloc (.cells #[.float .f32 b0, .float .f32 b1, .float .f32 b2, .float .f32 b3, .float .f32 b4, .float .f32 b5, .float .f32 b6, .float .f32 b7, .float .f32 b8] 26)).heap[w.heap.size]? = some (.cells #[.float .f32 a0, .float .f32 a1, .float .f32 a2, .float .f32 a3, .float .f32 a4, .float .f32 a5, .float .f32 a6, .float .f32 a7, .float .f32 a8] 26 (0, 0)) := by (repeat (first | (refine heap_top _ _ _ ?_; simp; done) | (with_reducible refine heap_drawn _ _ _ ?_) | (with_reducible refine heap_under _ _ _ ?_ ?_; (simp <;> omega))))
  have u1 : ((w.alloc (.cells #[.float .f32 a0, .float .f32 a1, .float .f32 a2, .float .f32 a3, .float .f32 a4, .float .f32 a5, .float .f32 a6, .float .f32 a7, .float .f32 a8] 26)).alloc (.cells #[.float .f32 b0, .float .f32 b1, .float .f32 b2, .float .f32 b3, .float .f32 b4, .float .f32 b5, .float .f32 b6, .float .f32 b7, .float .f32 b8] 26)).heap[w.heap.size + 1]? = some (.cells #[.float .f32 b0, .float .f32 b1, .float .f32 b2, .float .f32 b3, .float .f32 b4, .float .f32 b5, .float .f32 b6, .float .f32 b7, .float .f32 b8] 26 (0, 0)) := by (repeat (first | (refine heap_top _ _ _ ?_; simp; done) | (with_reducible refine heap_drawn _ _ _ ?_) | (with_reducible refine heap_under _ _ _ ?_ ?_; (simp <;> omega))))
  have hcells := fun w1 (hw1 : Stays ((w.alloc (.cells #[.float .f32 a0, .float .f32 a1, .float .f32 a2, .float .f32 a3, .float .f32 a4, .float .f32 a5, .float .f32 a6, .float .f32 a7, .float .f32 a8] 26)).alloc (.cells #[.float .f32 b0, .float .f32 b1, .float .f32 b2, .float .f32 b3, .float .f32 b4, .float .f32 b5, .float .f32 b6, .float .f32 b7, .float .f32 b8] 26)) w1) => And.intro (row_of hw1 u0) (row_of hw1 u1)
  clear u0 u1
  go_enter Try.func18, Try.ntmps18
  go_wp2
  refine wp_loop_rounds 4 ?_
  rw [rounds_succ]
  go_wp2
  refine wp_region_soft_tail 7 (Stays.refl _) (fun f args v => v = .bool true) [] (by kernel_rfl) (by kernel_rfl) (fun _ h => by cases h) ?_
  simp only [List.take_succ_cons, List.take_zero, List.drop_succ_cons, List.drop_zero]
  repeat ((with_reducible apply soft_det rfl); (case hA => rfl); (case h => (intro w1 hw1; have hc := hcells w1 hw1; go_simp; exact rfl)); go_simp)
  apply soft_call rfl
  case hA => rfl
  case h => (intro w1 hw1; go_simp; exact ⟨rfl, rfl⟩)
  case hc => exact fun w1 hw1 => (c_eqFloat32A3 _ _ _ _ _ _ w1 h0 h1 h2).mono fun e w' ⟨he, hw'⟩ => ⟨_, he, rfl, hw'⟩
  rintro v rfl
  go_simp
  (refine soft_nil ?_; rintro w2 ⟨hw2, _⟩; have hc2 := hw2.cells)
  go_wp2
  rw [rounds_succ]
  go_wp2
  refine wp_region_soft_tail 7 hw2 (fun f args v => v = .bool true) [] (by kernel_rfl) (by kernel_rfl) (fun _ h => by cases h) ?_
  simp only [List.take_succ_cons, List.take_zero, List.drop_succ_cons, List.drop_zero]
  repeat ((with_reducible apply soft_det rfl); (case hA => rfl); (case h => (intro w1 hw1; have hc := hcells w1 hw1; go_simp; exact rfl)); go_simp)
  apply soft_call rfl
  case hA => rfl
  case h => (intro w1 hw1; go_simp; exact ⟨rfl, rfl⟩)
  case hc => exact fun w1 hw1 => (c_eqFloat32A3 _ _ _ _ _ _ w1 h3 h4 h5).mono fun e w' ⟨he, hw'⟩ => ⟨_, he, rfl, hw'⟩
  rintro v rfl
  go_simp
  (refine soft_nil ?_; rintro w2 ⟨hw2, _⟩; have hc2 := hw2.cells)
  go_wp2
  rw [rounds_succ]
  go_wp2
  refine wp_region_soft_tail 7 hw2 (fun f args v => v = .bool true) [] (by kernel_rfl) (by kernel_rfl) (fun _ h => by cases h) ?_
  simp only [List.take_succ_cons, List.take_zero, List.drop_succ_cons, List.drop_zero]
  repeat ((with_reducible apply soft_det rfl); (case hA => rfl); (case h => (intro w1 hw1; have hc := hcells w1 hw1; go_simp; exact rfl)); go_simp)
  apply soft_call rfl
  case hA => rfl
  case h => (intro w1 hw1; go_simp; exact ⟨rfl, rfl⟩)
  case hc => exact fun w1 hw1 => (c_eqFloat32A3 _ _ _ _ _ _ w1 h6 h7 h8).mono fun e w' ⟨he, hw'⟩ => ⟨_, he, rfl, hw'⟩
  rintro v rfl
  go_simp
  (refine soft_nil ?_; rintro w2 ⟨hw2, _⟩; have hc2 := hw2.cells)
  go_wp2
  rw [rounds_succ]
  go_wp2
  go_ret
  exact ⟨rfl, Stays.trans (by (repeat (first | exact Stays.refl _ | (with_reducible refine Stays.drewN ?_ _) | (with_reducible refine Stays.alloc ?_ _) | (with_reducible refine Stays.drew ?_) | (refine Stays.trans ?_ ‹Stays _ _›)))) hw2⟩

end Go.Proofs.Ytbcnafanjemaeac
