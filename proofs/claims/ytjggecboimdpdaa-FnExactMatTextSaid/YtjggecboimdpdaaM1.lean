/- Contracts of toFloat32A3, toMat, eqFloat32A3, eqMat. No condition. -/
import Derived.Test.YtjggecboimdpdaaB1
import Derived.Test.YtjggecboimdpdaaSp
namespace Go.Proofs.Ytjggecboimdpdaa
open Go Go.RowKit
set_option linter.unusedVariables false

theorem c_toFloat32A3 (a b c : Nat) (w : World) :
    Calls Try.prog 43 #[.agg #[.float .f32 a, .float .f32 b, .float .f32 c]] w fun e w' => e = .returned (.agg #[.float .f32 a, .float .f32 b, .float .f32 c]) ∧ Stays w w' := by
  go_enter Try.func43, Try.ntmps43
  go_wp2
  refine wp_loop_rounds 4 ?_
  rw [rounds_succ]
  go_wp2
  rw [rounds_succ]
  go_wp2
  rw [rounds_succ]
  go_wp2
  rw [rounds_succ]
  go_wp2
  apply end_agg rfl rfl rfl Try.underlying25 rfl (t := 25)
  case hg => (repeat (first | (refine heap_top _ _ _ ?_; simp; done) | (with_reducible refine heap_drawn _ _ _ ?_) | (with_reducible refine heap_under _ _ _ ?_ ?_; (simp <;> omega))))
  case hi => kernel_rfl
  exact ⟨rfl, by (repeat (first | exact Stays.refl _ | (with_reducible refine Stays.drewN ?_ _) | (with_reducible refine Stays.alloc ?_ _) | (with_reducible refine Stays.drew ?_) | (refine Stays.trans ?_ ‹Stays _ _›)))⟩

theorem c_toMat (a0 a1 a2 a3 a4 a5 a6 a7 a8 : Nat) (w : World) :
    Calls Try.prog 19 #[.agg #[.float .f32 a0, .float .f32 a1, .float .f32 a2, .float .f32 a3, .float .f32 a4, .float .f32 a5, .float .f32 a6, .float .f32 a7, .float .f32 a8]] w fun e w' => e = .returned (.agg #[.float .f32 a0, .float .f32 a1, .float .f32 a2, .float .f32 a3, .float .f32 a4, .float .f32 a5, .float .f32 a6, .float .f32 a7, .float .f32 a8]) ∧ Stays w w' := by
  have u0 : ((w.alloc (.cells #[.float .f32 a0, .float .f32 a1, .float .f32 a2, .float .f32 a3, .float .f32 a4, .float .f32 a5, .float .f32 a6, .float .f32 a7, .float .f32 a8] 35)).alloc (.cells #[.float .f32 0, .float .f32 0, .float .f32 0, .float .f32 0, .float .f32 0, .float .f32 0, .float .f32 0, .float .f32 0, .float .f32 0] 37)).heap[w.heap.size]? = some (.cells #[.float .f32 a0, .float .f32 a1, .float .f32 a2, .float .f32 a3, .float .f32 a4, .float .f32 a5, .float .f32 a6, .float .f32 a7, .float .f32 a8] 35 (0, 0)) := by (repeat (first | (refine heap_top _ _ _ ?_; simp; done) | (with_reducible refine heap_drawn _ _ _ ?_) | (with_reducible refine heap_under _ _ _ ?_ ?_; (simp <;> omega))))
  have u1 : ((w.alloc (.cells #[.float .f32 a0, .float .f32 a1, .float .f32 a2, .float .f32 a3, .float .f32 a4, .float .f32 a5, .float .f32 a6, .float .f32 a7, .float .f32 a8] 35)).alloc (.cells #[.float .f32 0, .float .f32 0, .float .f32 0, .float .f32 0, .float .f32 0, .float .f32 0, .float .f32 0, .float .f32 0, .float .f32 0] 37)).heap[w.heap.size + 1]? = some (.cells #[.float .f32 0, .float .f32 0, .float .f32 0, .float .f32 0, .float .f32 0, .float .f32 0, .float .f32 0, .float .f32 0, .float .f32 0] 37 (0, 0)) := by (repeat (first | (refine heap_top _ _ _ ?_; simp; done) | (with_reducible refine heap_drawn _ _ _ ?_) | (with_reducible refine heap_under _ _ _ ?_ ?_; (simp <;> omega))))
  have ho : (((w.alloc (.cells #[.float .f32 a0, .float .f32 a1, .float .f32 a2, .float .f32 a3, .float .f32 a4, .float .f32 a5, .float .f32 a6, .float .f32 a7, .float .f32 a8] 35)).alloc (.cells #[.float .f32 0, .float .f32 0, .float .f32 0, .float .f32 0, .float .f32 0, .float .f32 0, .float .f32 0, .float .f32 0, .float .f32 0] 37)).alloc (.cells #[.float .f32 0, .float .f32 0, .float .f32 0, .float .f32 0, .float .f32 0, .float .f32 0, .float .f32 0, .float .f32 0, .float .f32 0] 37)).heap[w.heap.size + 1 + 1]? = some (.cells #[.float .f32 0, .float .f32 0, .float .f32 0, .float .f32 0, .float .f32 0, .float .f32 0, .float .f32 0, .float .f32 0, .float .f32 0] 37 (0, 0)) := by (repeat (first | (refine heap_top _ _ _ ?_; simp; done) | (with_reducible refine heap_drawn _ _ _ ?_) | (with_reducible refine heap_under _ _ _ ?_ ?_; (simp <;> omega))))
  have hA : Hid (∀ w1, Stays ((w.alloc (.cells #[.float .f32 a0, .float .f32 a1, .float .f32 a2, .float .f32 a3, .float .f32 a4, .float .f32 a5, .float .f32 a6, .float .f32 a7, .float .f32 a8] 35)).alloc (.cells #[.float .f32 0, .float .f32 0, .float .f32 0, .float .f32 0, .float .f32 0, .float .f32 0, .float .f32 0, .float .f32 0, .float .f32 0] 37)) w1 → (∀ i, w1.cell? ⟨w.heap.size, i, none⟩ = #[.float .f32 a0, .float .f32 a1, .float .f32 a2, .float .f32 a3, .float .f32 a4, .float .f32 a5, .float .f32 a6, .float .f32 a7, .float .f32 a8][i]?) ∧ w1.heap[w.heap.size + 1]? = some (.cells #[.float .f32 0, .float .f32 0, .float .f32 0, .float .f32 0, .float .f32 0, .float .f32 0, .float .f32 0, .float .f32 0, .float .f32 0] 37 (0, 0))) := fun w1 h => ⟨row_of h u0, h.heap (in_heap u1) u1⟩
  clear u0 u1
  have hS : Stays ((w.alloc (.cells #[.float .f32 a0, .float .f32 a1, .float .f32 a2, .float .f32 a3, .float .f32 a4, .float .f32 a5, .float .f32 a6, .float .f32 a7, .float .f32 a8] 35)).alloc (.cells #[.float .f32 0, .float .f32 0, .float .f32 0, .float .f32 0, .float .f32 0, .float .f32 0, .float .f32 0, .float .f32 0, .float .f32 0] 37)) (((w.alloc (.cells #[.float .f32 a0, .float .f32 a1, .float .f32 a2, .float .f32 a3, .float .f32 a4, .float .f32 a5, .float .f32 a6, .float .f32 a7, .float .f32 a8] 35)).alloc (.cells #[.float .f32 0, .float .f32 0, .float .f32 0, .float .f32 0, .float .f32 0, .float .f32 0, .float .f32 0, .float .f32 0, .float .f32 0] 37)).alloc (.cells #[.float .f32 0, .float .f32 0, .float .f32 0, .float .f32 0, .float .f32 0, .float .f32 0, .float .f32 0, .float .f32 0, .float .f32 0] 37)) := Stays.alloc (Stays.refl _) _
  obtain ⟨hc, hres⟩ := hA.out _ hS
  go_enter Try.func19, Try.ntmps19
  go_wp2
  refine wp_loop_rounds 4 ?_
  rw [rounds_succ]
  go_wp2_with (first | (go_at_call 43; refine (c_toFloat32A3 _ _ _ _).mono ?_; rintro en w1 ⟨rfl, hw1⟩; replace ho := hw1.heap (in_heap ho) ho; replace hS := Stays.trans hS hw1; clear hw1; try clear hc; obtain ⟨hc, hres⟩ := hA.out _ hS) | ((refine wpList_store_mid rfl _ _ _ rfl _ _ _ _ _ rfl rfl ho ?hi ?hb ?h1 ?hB hS ?_); (case hi => kernel_rfl); (case hb => simp); (case h1 => first | rfl | simp [Value.oneCell']); (case hB => first | omega | (simp <;> omega)); intro w2 hS' ho' _; clear hS ho hc; simp [splice] at ho'; have ho := ho'; have hS := hS'; clear ho' hS'; obtain ⟨hc, hres⟩ := hA.out _ hS))
  rw [rounds_succ]
  go_wp2_with (first | (go_at_call 43; refine (c_toFloat32A3 _ _ _ _).mono ?_; rintro en w1 ⟨rfl, hw1⟩; replace ho := hw1.heap (in_heap ho) ho; replace hS := Stays.trans hS hw1; clear hw1; try clear hc; obtain ⟨hc, hres⟩ := hA.out _ hS) | ((refine wpList_store_mid rfl _ _ _ rfl _ _ _ _ _ rfl rfl ho ?hi ?hb ?h1 ?hB hS ?_); (case hi => kernel_rfl); (case hb => simp); (case h1 => first | rfl | simp [Value.oneCell']); (case hB => first | omega | (simp <;> omega)); intro w2 hS' ho' _; clear hS ho hc; simp [splice] at ho'; have ho := ho'; have hS := hS'; clear ho' hS'; obtain ⟨hc, hres⟩ := hA.out _ hS))
  rw [rounds_succ]
  go_wp2_with (first | (go_at_call 43; refine (c_toFloat32A3 _ _ _ _).mono ?_; rintro en w1 ⟨rfl, hw1⟩; replace ho := hw1.heap (in_heap ho) ho; replace hS := Stays.trans hS hw1; clear hw1; try clear hc; obtain ⟨hc, hres⟩ := hA.out _ hS) | ((refine wpList_store_mid rfl _ _ _ rfl _ _ _ _ _ rfl rfl ho ?hi ?hb ?h1 ?hB hS ?_); (case hi => kernel_rfl); (case hb => simp); (case h1 => first | rfl | simp [Value.oneCell']); (case hB => first | omega | (simp <;> omega)); intro w2 hS' ho' _; clear hS ho hc; simp [splice] at ho'; have ho := ho'; have hS := hS'; clear ho' hS'; obtain ⟨hc, hres⟩ := hA.out _ hS))
  rw [rounds_succ]
  have hout := fun i => cell_of_row _ _ i _ _ _ ho
  have hst : Stays w _ := Stays.trans (by (repeat (first | exact Stays.refl _ | (with_reducible refine Stays.drewN ?_ _) | (with_reducible refine Stays.alloc ?_ _) | (with_reducible refine Stays.drew ?_) | (refine Stays.trans ?_ ‹Stays _ _›)))) hS
  clear hS ho
  go_wp2_with ((refine wpList_store_row rfl _ _ _ rfl _ _ _ rfl rfl hres ?hi ?ho ?h1 ?hB hst ?_); (case hi => kernel_rfl); (case ho => rfl); (case h1 => first | rfl | simp [Value.oneCell']); (case hB => first | omega | (simp <;> omega)); intro w2 hw2 hq2 _ _)
  apply end_agg rfl rfl rfl Try.underlying37 rfl (t := 37)
  case hg => exact hq2
  case hi => kernel_rfl
  case hR => exact ⟨rfl, hw2⟩

end Go.Proofs.Ytjggecboimdpdaa
