/- The walks of the laws FnExactMulMat: each returns true. No condition. -/
import Derived.Test.YtbcnafanjemaeacM1
import Derived.Test.YtbcnafanjemaeacM8
import Derived.Test.YtbcnafanjemaeacSp
namespace Go.Proofs.Ytbcnafanjemaeac
open Go Go.RowKit
set_option linter.unusedVariables false

set_option maxHeartbeats 1000000 in
theorem w_MulMat (a0_0 a0_1 a0_2 a0_3 a0_4 a0_5 a0_6 a0_7 a0_8 : Nat) (a1_0 a1_1 a1_2 a1_3 a1_4 a1_5 a1_6 a1_7 a1_8 : Nat) (w : World) (_ : a0_0 < 2 ^ FloatKind.f32.format.width) (_ : a0_1 < 2 ^ FloatKind.f32.format.width) (_ : a0_2 < 2 ^ FloatKind.f32.format.width) (_ : a0_3 < 2 ^ FloatKind.f32.format.width) (_ : a0_4 < 2 ^ FloatKind.f32.format.width) (_ : a0_5 < 2 ^ FloatKind.f32.format.width) (_ : a0_6 < 2 ^ FloatKind.f32.format.width) (_ : a0_7 < 2 ^ FloatKind.f32.format.width) (_ : a0_8 < 2 ^ FloatKind.f32.format.width) (_ : a1_0 < 2 ^ FloatKind.f32.format.width) (_ : a1_1 < 2 ^ FloatKind.f32.format.width) (_ : a1_2 < 2 ^ FloatKind.f32.format.width) (_ : a1_3 < 2 ^ FloatKind.f32.format.width) (_ : a1_4 < 2 ^ FloatKind.f32.format.width) (_ : a1_5 < 2 ^ FloatKind.f32.format.width) (_ : a1_6 < 2 ^ FloatKind.f32.format.width) (_ : a1_7 < 2 ^ FloatKind.f32.format.width) (_ : a1_8 < 2 ^ FloatKind.f32.format.width) :
    Calls Try.prog 9 #[.agg #[.float .f32 a0_0, .float .f32 a0_1, .float .f32 a0_2, .float .f32 a0_3, .float .f32 a0_4, .float .f32 a0_5, .float .f32 a0_6, .float .f32 a0_7, .float .f32 a0_8], .agg #[.float .f32 a1_0, .float .f32 a1_1, .float .f32 a1_2, .float .f32 a1_3, .float .f32 a1_4, .float .f32 a1_5, .float .f32 a1_6, .float .f32 a1_7, .float .f32 a1_8]] w fun e w' => e = .returned (.bool true) ∧ Below w.heap.size w w' := by
  go_enter Try.func9, Try.ntmps9
  apply wp_seq_k
  intro K0 hK0
  have HK0 : Hid _ := hK0
  clear hK0
  go_wp2
  refine HK0.out _ _ ?_
  clear HK0
  apply wp_seq_k
  intro K1 hK1
  have HK1 : Hid _ := hK1
  clear hK1
  have u0 : ((w.alloc (.cells #[.float .f32 a0_0, .float .f32 a0_1, .float .f32 a0_2, .float .f32 a0_3, .float .f32 a0_4, .float .f32 a0_5, .float .f32 a0_6, .float .f32 a0_7, .float .f32 a0_8] 24)).alloc (.cells #[.float .f32 a1_0, .float .f32 a1_1, .float .f32 a1_2, .float .f32 a1_3, .float .f32 a1_4, .float .f32 a1_5, .float .f32 a1_6, .float .f32 a1_7, .float .f32 a1_8] 24)).heap[w.heap.size]? = some (.cells #[.float .f32 a0_0, .float .f32 a0_1, .float .f32 a0_2, .float .f32 a0_3, .float .f32 a0_4, .float .f32 a0_5, .float .f32 a0_6, .float .f32 a0_7, .float .f32 a0_8] 24 (0, 0)) := by (repeat (first | (refine heap_top _ _ _ ?_; simp; done) | (with_reducible refine heap_drawn _ _ _ ?_) | (with_reducible refine heap_under _ _ _ ?_ ?_; (simp <;> omega))))
  have u1 : ((w.alloc (.cells #[.float .f32 a0_0, .float .f32 a0_1, .float .f32 a0_2, .float .f32 a0_3, .float .f32 a0_4, .float .f32 a0_5, .float .f32 a0_6, .float .f32 a0_7, .float .f32 a0_8] 24)).alloc (.cells #[.float .f32 a1_0, .float .f32 a1_1, .float .f32 a1_2, .float .f32 a1_3, .float .f32 a1_4, .float .f32 a1_5, .float .f32 a1_6, .float .f32 a1_7, .float .f32 a1_8] 24)).heap[w.heap.size + 1]? = some (.cells #[.float .f32 a1_0, .float .f32 a1_1, .float .f32 a1_2, .float .f32 a1_3, .float .f32 a1_4, .float .f32 a1_5, .float .f32 a1_6, .float .f32 a1_7, .float .f32 a1_8] 24 (0, 0)) := by (repeat (first | (refine heap_top _ _ _ ?_; simp; done) | (with_reducible refine heap_drawn _ _ _ ?_) | (with_reducible refine heap_under _ _ _ ?_ ?_; (simp <;> omega))))
  have hcells := fun w1 (hw1 : Stays ((w.alloc (.cells #[.float .f32 a0_0, .float .f32 a0_1, .float .f32 a0_2, .float .f32 a0_3, .float .f32 a0_4, .float .f32 a0_5, .float .f32 a0_6, .float .f32 a0_7, .float .f32 a0_8] 24)).alloc (.cells #[.float .f32 a1_0, .float .f32 a1_1, .float .f32 a1_2, .float .f32 a1_3, .float .f32 a1_4, .float .f32 a1_5, .float .f32 a1_6, .float .f32 a1_7, .float .f32 a1_8] 24)) w1) => (And.intro (row_of hw1 u0) (row_of hw1 u1))
  refine wp_region_soft_tail 6 (Stays.refl ((w.alloc (.cells #[.float .f32 a0_0, .float .f32 a0_1, .float .f32 a0_2, .float .f32 a0_3, .float .f32 a0_4, .float .f32 a0_5, .float .f32 a0_6, .float .f32 a0_7, .float .f32 a0_8] 24)).alloc (.cells #[.float .f32 a1_0, .float .f32 a1_1, .float .f32 a1_2, .float .f32 a1_3, .float .f32 a1_4, .float .f32 a1_5, .float .f32 a1_6, .float .f32 a1_7, .float .f32 a1_8] 24))) (fun f args v => (f = 12 ∧ #[v] = args) ∨ (f = 27 ∧ r_MulMat a0_0 a0_1 a0_2 a0_3 a0_4 a0_5 a0_6 a0_7 a0_8 a1_0 a1_1 a1_2 a1_3 a1_4 a1_5 a1_6 a1_7 a1_8 v)) [(5, #[.float .f32 0, .float .f32 0, .float .f32 0, .float .f32 0, .float .f32 0, .float .f32 0, .float .f32 0, .float .f32 0, .float .f32 0], 26)] (by kernel_rfl) (by kernel_rfl) (by simp [undef]) ?_
  simp only [List.take_succ_cons, List.take_zero, List.drop_succ_cons, List.drop_zero]
  ((with_reducible apply soft_det rfl); (case hA => rfl); (case h => (intro w1 hw1; have hc := hcells w1 hw1; go_simp; exact rfl)); go_simp)
  apply soft_call rfl
  case hA => rfl
  case h => (intro w1 hw1; go_simp; exact ⟨rfl, rfl⟩)
  case hc => exact fun w1 hw1 => (c_toMat _ _ _ _ _ _ _ _ _  w1).mono fun e w' ⟨he, hw'⟩ => ⟨_, he, Or.inl ⟨rfl, rfl⟩, hw'⟩
  rintro v (⟨_, hv⟩ | ⟨hf, _⟩) <;> first | exact absurd hf (by decide) | skip; obtain rfl : v = _ := by simpa using hv
  go_simp
  ((with_reducible apply soft_det rfl); (case hA => rfl); (case h => (intro w1 hw1; have hc := hcells w1 hw1; go_simp; exact rfl)); go_simp)
  apply soft_call rfl
  case hA => rfl
  case h => (intro w1 hw1; go_simp; exact ⟨rfl, rfl⟩)
  case hc => exact fun w1 hw1 => (c_toMat _ _ _ _ _ _ _ _ _  w1).mono fun e w' ⟨he, hw'⟩ => ⟨_, he, Or.inl ⟨rfl, rfl⟩, hw'⟩
  rintro v (⟨_, hv⟩ | ⟨hf, _⟩) <;> first | exact absurd hf (by decide) | skip; obtain rfl : v = _ := by simpa using hv
  go_simp
  apply soft_call rfl
  case hA => rfl
  case h => (intro w1 hw1; go_simp; exact ⟨rfl, rfl⟩)
  case hc => exact fun w1 hw1 => (c_specMulMat _ _ _ _ _ _ _ _ _ _ _ _ _ _ _ _ _ _  w1).mono fun e w' ⟨v, he, hr, hw'⟩ => ⟨_, he, Or.inr (⟨rfl, hr⟩), hw'⟩
  rintro v (⟨hf, _⟩ | ⟨_, ⟨x0_0, x0_1, x0_2, x0_3, x0_4, x0_5, x0_6, x0_7, x0_8, rfl, hx0_0, hx0_1, hx0_2, hx0_3, hx0_4, hx0_5, hx0_6, hx0_7, hx0_8⟩⟩) <;> first | exact absurd hf (by decide) | skip
  go_simp
  refine soft_alloc (cs := #[.float .f32 0, .float .f32 0, .float .f32 0, .float .f32 0, .float .f32 0, .float .f32 0, .float .f32 0, .float .f32 0, .float .f32 0]) (t := 26) rfl rfl ?gA ?gh ?gK
  case gA => intro e he hd; simp at he; first | rw [he] | (rcases he with rfl | rfl <;> first | rfl | simp at hd)
  case gh => intro w1 hw1; go_simp
  case gK =>
  intro p0 hp0
  go_simp
  refine soft_nil ?_
  rintro w10 ⟨hw10, hk⟩
  have hk2 : w10.heap[p0]? = some (.cells #[.float .f32 0, .float .f32 0, .float .f32 0, .float .f32 0, .float .f32 0, .float .f32 0, .float .f32 0, .float .f32 0, .float .f32 0] 26 (0, 0)) := hk _ (List.mem_singleton.2 rfl) p0 rfl
  clear hk
  refine wpList_store_row rfl _ _ _ rfl p0 _ _ rfl rfl hk2 ?hi ?ho ?h1 hp0 hw10 ?_
  case hi => kernel_rfl
  case ho => rfl
  case h1 => first | rfl | simp [Value.oneCell']
  intro w11 hw11 hqp0 _ _
  clear hw10 hk2
  have v1_0 := hw11.heap (in_heap u0) u0
  have v1_1 := hw11.heap (in_heap u1) u1
  clear hcells u0 u1
  go_wp2
  refine HK1.out _ _ ?_
  clear HK1
  apply wp_seq_k
  intro K2 hK2
  have HK2 : Hid _ := hK2
  clear hK2
  have hcells := fun w1 (hw1 : Stays w11 w1) => (And.intro (row_of hw1 v1_0) (And.intro (row_of hw1 v1_1) (row_of hw1 hqp0)))
  refine wp_region_soft_tail 6 (Stays.refl w11) (fun f args v => (f = 12 ∧ #[v] = args) ∨ (f = 28 ∧ r_MulMat a0_0 a0_1 a0_2 a0_3 a0_4 a0_5 a0_6 a0_7 a0_8 a1_0 a1_1 a1_2 a1_3 a1_4 a1_5 a1_6 a1_7 a1_8 v)) [(6, #[.float .f32 0, .float .f32 0, .float .f32 0, .float .f32 0, .float .f32 0, .float .f32 0, .float .f32 0, .float .f32 0, .float .f32 0], 26)] (by kernel_rfl) (by kernel_rfl) (by simp [undef]) ?_
  simp only [List.take_succ_cons, List.take_zero, List.drop_succ_cons, List.drop_zero]
  ((with_reducible apply soft_det rfl); (case hA => rfl); (case h => (intro w1 hw1; have hc := hcells w1 hw1; go_simp; exact rfl)); go_simp)
  apply soft_call rfl
  case hA => rfl
  case h => (intro w1 hw1; go_simp; exact ⟨rfl, rfl⟩)
  case hc => exact fun w1 hw1 => (c_toMat _ _ _ _ _ _ _ _ _  w1).mono fun e w' ⟨he, hw'⟩ => ⟨_, he, Or.inl ⟨rfl, rfl⟩, hw'⟩
  rintro v (⟨_, hv⟩ | ⟨hf, _⟩) <;> first | exact absurd hf (by decide) | skip; obtain rfl : v = _ := by simpa using hv
  go_simp
  ((with_reducible apply soft_det rfl); (case hA => rfl); (case h => (intro w1 hw1; have hc := hcells w1 hw1; go_simp; exact rfl)); go_simp)
  apply soft_call rfl
  case hA => rfl
  case h => (intro w1 hw1; go_simp; exact ⟨rfl, rfl⟩)
  case hc => exact fun w1 hw1 => (c_toMat _ _ _ _ _ _ _ _ _  w1).mono fun e w' ⟨he, hw'⟩ => ⟨_, he, Or.inl ⟨rfl, rfl⟩, hw'⟩
  rintro v (⟨_, hv⟩ | ⟨hf, _⟩) <;> first | exact absurd hf (by decide) | skip; obtain rfl : v = _ := by simpa using hv
  go_simp
  apply soft_call rfl
  case hA => rfl
  case h => (intro w1 hw1; go_simp; exact ⟨rfl, rfl⟩)
  case hc => exact fun w1 hw1 => (c_implMulMat _ _ _ _ _ _ _ _ _ _ _ _ _ _ _ _ _ _  w1).mono fun e w' ⟨v, he, hr, hw'⟩ => ⟨_, he, Or.inr (⟨rfl, hr⟩), hw'⟩
  rintro v (⟨hf, _⟩ | ⟨_, ⟨x0_0', x0_1', x0_2', x0_3', x0_4', x0_5', x0_6', x0_7', x0_8', rfl, hx0_0', hx0_1', hx0_2', hx0_3', hx0_4', hx0_5', hx0_6', hx0_7', hx0_8'⟩⟩) <;> first | exact absurd hf (by decide) | skip
  go_simp
  refine soft_alloc (cs := #[.float .f32 0, .float .f32 0, .float .f32 0, .float .f32 0, .float .f32 0, .float .f32 0, .float .f32 0, .float .f32 0, .float .f32 0]) (t := 26) rfl rfl ?gA ?gh ?gK
  case gA => intro e he hd; simp at he; first | rw [he] | (rcases he with rfl | rfl <;> first | rfl | simp at hd)
  case gh => intro w1 hw1; go_simp
  case gK =>
  intro p0' hp0'
  go_simp
  refine soft_nil ?_
  rintro w20 ⟨hw20, hk⟩
  have hk2 : w20.heap[p0']? = some (.cells #[.float .f32 0, .float .f32 0, .float .f32 0, .float .f32 0, .float .f32 0, .float .f32 0, .float .f32 0, .float .f32 0, .float .f32 0] 26 (0, 0)) := hk _ (List.mem_singleton.2 rfl) p0' rfl
  clear hk
  refine wpList_store_row rfl _ _ _ rfl p0' _ _ rfl rfl hk2 ?hi ?ho ?h1 hp0' hw20 ?_
  case hi => kernel_rfl
  case ho => rfl
  case h1 => first | rfl | simp [Value.oneCell']
  intro w21 hw21 hqp0' _ _
  clear hw20 hk2
  have v2_0 := hw21.heap (in_heap v1_0) v1_0
  have v2_1 := hw21.heap (in_heap v1_1) v1_1
  have v2_2 := hw21.heap (in_heap hqp0) hqp0
  clear hcells v1_0 v1_1 hqp0
  go_wp2
  refine HK2.out _ _ ?_
  clear HK2
  have g0 := row_of (Stays.refl w21) v2_0
  have g1 := row_of (Stays.refl w21) v2_1
  have g2 := row_of (Stays.refl w21) v2_2
  have g3 := row_of (Stays.refl w21) hqp0'
  clear v2_0 v2_1 v2_2 hqp0'
  go_wp2_with (first | (go_at_call 18; refine (c_eqMat _ _ _ _ _ _ _ _ _ _ _ _ _ _ _ _ _ _  _ (hx0_0'.out.trans hx0_0.out.symm) (hx0_1'.out.trans hx0_1.out.symm) (hx0_2'.out.trans hx0_2.out.symm) (hx0_3'.out.trans hx0_3.out.symm) (hx0_4'.out.trans hx0_4.out.symm) (hx0_5'.out.trans hx0_5.out.symm) (hx0_6'.out.trans hx0_6.out.symm) (hx0_7'.out.trans hx0_7.out.symm) (hx0_8'.out.trans hx0_8.out.symm)).mono ?_; rintro e wz ⟨rfl, hwz⟩))
  all_goals go_ret
  all_goals refine ⟨rfl, Stays.trans ((((Stays.refl w).alloc _).alloc _).trans (hw11.trans hw21)) ?_⟩
  all_goals (repeat (first | exact Stays.refl _ | (with_reducible refine Stays.drewN ?_ _) | (with_reducible refine Stays.alloc ?_ _) | (with_reducible refine Stays.drew ?_) | (refine Stays.trans ?_ ‹Stays _ _›)))

end Go.Proofs.Ytbcnafanjemaeac
