/- The walks of the laws FnExactUnitMat: each returns true. No condition. -/
import Derived.Test.YtbcnafanjemaeabM1
import Derived.Test.YtbcnafanjemaeabN1
import Derived.Test.YtbcnafanjemaeabN2
import Derived.Test.YtbcnafanjemaeabSp
namespace Go.Proofs.Ytbcnafanjemaeab
open Go Go.RowKit
set_option linter.unusedVariables false

set_option maxHeartbeats 1000000 in
theorem w_UnitMat (w : World) :
    Calls Try.prog 10 #[] w fun e w' => e = .returned (.bool true) ∧ Below w.heap.size w w' := by
  go_enter Try.func10, Try.ntmps10
  apply wp_seq_k
  intro K0 hK0
  have HK0 : Hid _ := hK0
  clear hK0
  go_wp2
  refine HK0.out _ _ ?_
  clear HK0
  apply wp_seq_k
  intro K1 hK1
  have HK1 : Hid _ := hK1
  clear hK1
  have hcells := fun w1 (hw1 : Stays w w1) => trivial
  refine wp_region_soft_seq 2 (Stays.refl w) (fun f args v => (f = 30 ∧ r_UnitMat  v)) [(1, #[.float .f32 0, .float .f32 0, .float .f32 0, .float .f32 0, .float .f32 0, .float .f32 0, .float .f32 0, .float .f32 0, .float .f32 0], 28)] ?hA0 ?_
  case hA0 => simp [undef]
  simp only [List.take_succ_cons, List.take_zero, List.drop_succ_cons, List.drop_zero]
  apply soft_call rfl
  case hA => rfl
  case h => (intro w1 hw1; go_simp; exact ⟨rfl, rfl⟩)
  case hc => exact fun w1 hw1 => (c_specUnitMat  w1).mono fun e w' ⟨v, he, hr, hw'⟩ => ⟨_, he, ⟨rfl, hr⟩, hw'⟩
  rintro v ⟨_, ⟨x0_0, x0_1, x0_2, x0_3, x0_4, x0_5, x0_6, x0_7, x0_8, rfl, hx0_0, hx0_1, hx0_2, hx0_3, hx0_4, hx0_5, hx0_6, hx0_7, hx0_8⟩⟩
  go_simp
  refine soft_alloc (cs := #[.float .f32 0, .float .f32 0, .float .f32 0, .float .f32 0, .float .f32 0, .float .f32 0, .float .f32 0, .float .f32 0, .float .f32 0]) (t := 28) rfl rfl ?gA ?gh ?gK
  case gA => intro e he hd; simp at he; first | rw [he] | (rcases he with rfl | rfl <;> first | rfl | simp at hd)
  case gh => intro w1 hw1; go_simp
  case gK =>
  intro p0 hp0
  go_simp
  refine soft_nil ?_
  rintro w10 ⟨hw10, hk⟩
  have hk2 : w10.heap[p0]? = some (.cells #[.float .f32 0, .float .f32 0, .float .f32 0, .float .f32 0, .float .f32 0, .float .f32 0, .float .f32 0, .float .f32 0, .float .f32 0] 28 (0, 0)) := hk _ (List.mem_singleton.2 rfl) p0 rfl
  clear hk
  refine wpList_store_row rfl _ _ _ rfl p0 _ _ rfl rfl hk2 ?hi ?ho ?h1 hp0 hw10 ?_
  case hi => kernel_rfl
  case ho => rfl
  case h1 => first | rfl | simp [Value.oneCell']
  intro w11 hw11 hqp0 _ _
  clear hw10 hk2
  clear hcells
  go_wp2
  refine HK1.out _ _ ?_
  clear HK1
  apply wp_seq_k
  intro K2 hK2
  have HK2 : Hid _ := hK2
  clear hK2
  have hcells := fun w1 (hw1 : Stays w11 w1) => row_of hw1 hqp0
  refine wp_region_soft_seq 2 (Stays.refl w11) (fun f args v => (f = 31 ∧ r_UnitMat  v)) [(2, #[.float .f32 0, .float .f32 0, .float .f32 0, .float .f32 0, .float .f32 0, .float .f32 0, .float .f32 0, .float .f32 0, .float .f32 0], 28)] ?hA0 ?_
  case hA0 => simp [undef]
  simp only [List.take_succ_cons, List.take_zero, List.drop_succ_cons, List.drop_zero]
  apply soft_call rfl
  case hA => rfl
  case h => (intro w1 hw1; go_simp; exact ⟨rfl, rfl⟩)
  case hc => exact fun w1 hw1 => (c_implUnitMat  w1).mono fun e w' ⟨v, he, hr, hw'⟩ => ⟨_, he, ⟨rfl, hr⟩, hw'⟩
  rintro v ⟨_, ⟨x0_0', x0_1', x0_2', x0_3', x0_4', x0_5', x0_6', x0_7', x0_8', rfl, hx0_0', hx0_1', hx0_2', hx0_3', hx0_4', hx0_5', hx0_6', hx0_7', hx0_8'⟩⟩
  go_simp
  refine soft_alloc (cs := #[.float .f32 0, .float .f32 0, .float .f32 0, .float .f32 0, .float .f32 0, .float .f32 0, .float .f32 0, .float .f32 0, .float .f32 0]) (t := 28) rfl rfl ?gA ?gh ?gK
  case gA => intro e he hd; simp at he; first | rw [he] | (rcases he with rfl | rfl <;> first | rfl | simp at hd)
  case gh => intro w1 hw1; go_simp
  case gK =>
  intro p0' hp0'
  go_simp
  refine soft_nil ?_
  rintro w20 ⟨hw20, hk⟩
  have hk2 : w20.heap[p0']? = some (.cells #[.float .f32 0, .float .f32 0, .float .f32 0, .float .f32 0, .float .f32 0, .float .f32 0, .float .f32 0, .float .f32 0, .float .f32 0] 28 (0, 0)) := hk _ (List.mem_singleton.2 rfl) p0' rfl
  clear hk
  refine wpList_store_row rfl _ _ _ rfl p0' _ _ rfl rfl hk2 ?hi ?ho ?h1 hp0' hw20 ?_
  case hi => kernel_rfl
  case ho => rfl
  case h1 => first | rfl | simp [Value.oneCell']
  intro w21 hw21 hqp0' _ _
  clear hw20 hk2
  have v2_0 := hw21.heap (in_heap hqp0) hqp0
  clear hcells hqp0
  go_wp2
  refine HK2.out _ _ ?_
  clear HK2
  have g0 := row_of (Stays.refl w21) v2_0
  have g1 := row_of (Stays.refl w21) hqp0'
  clear v2_0 hqp0'
  go_wp2_with (first | (go_at_call 19; refine (c_eqMat _ _ _ _ _ _ _ _ _ _ _ _ _ _ _ _ _ _  _ (hx0_0'.out.trans hx0_0.out.symm) (hx0_1'.out.trans hx0_1.out.symm) (hx0_2'.out.trans hx0_2.out.symm) (hx0_3'.out.trans hx0_3.out.symm) (hx0_4'.out.trans hx0_4.out.symm) (hx0_5'.out.trans hx0_5.out.symm) (hx0_6'.out.trans hx0_6.out.symm) (hx0_7'.out.trans hx0_7.out.symm) (hx0_8'.out.trans hx0_8.out.symm)).mono ?_; rintro e wz ⟨rfl, hwz⟩))
  all_goals go_ret
  all_goals refine ⟨rfl, Stays.trans ((Stays.refl w).trans (hw11.trans hw21)) ?_⟩
  all_goals (repeat (first | exact Stays.refl _ | (with_reducible refine Stays.drewN ?_ _) | (with_reducible refine Stays.alloc ?_ _) | (with_reducible refine Stays.drew ?_) | (refine Stays.trans ?_ ‹Stays _ _›)))

end Go.Proofs.Ytbcnafanjemaeab
