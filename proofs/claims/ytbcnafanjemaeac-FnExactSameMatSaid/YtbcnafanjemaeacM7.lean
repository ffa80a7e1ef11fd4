/- The walks of the laws FnExactSameMat: each returns true. No condition. -/
import Derived.Test.YtbcnafanjemaeacM1
import Derived.Test.YtbcnafanjemaeacM6
import Derived.Test.YtbcnafanjemaeacSp
namespace Go.Proofs.Ytbcnafanjemaeac
open Go Go.RowKit
set_option linter.unusedVariables false

set_option maxHeartbeats 1000000 in
theorem w_SameMat (a0_0 a0_1 a0_2 a0_3 a0_4 a0_5 a0_6 a0_7 a0_8 : Nat) (a1_0 a1_1 a1_2 a1_3 a1_4 a1_5 a1_6 a1_7 a1_8 : Nat) (w : World) (_ : a0_0 < 2 ^ FloatKind.f32.format.width) (_ : a0_1 < 2 ^ FloatKind.f32.format.width) (_ : a0_2 < 2 ^ FloatKind.f32.format.width) (_ : a0_3 < 2 ^ FloatKind.f32.format.width) (_ : a0_4 < 2 ^ FloatKind.f32.format.width) (_ : a0_5 < 2 ^ FloatKind.f32.format.width) (_ : a0_6 < 2 ^ FloatKind.f32.format.width) (_ : a0_7 < 2 ^ FloatKind.f32.format.width) (_ : a0_8 < 2 ^ FloatKind.f32.format.width) (_ : a1_0 < 2 ^ FloatKind.f32.format.width) (_ : a1_1 < 2 ^ FloatKind.f32.format.width) (_ : a1_2 < 2 ^ FloatKind.f32.format.width) (_ : a1_3 < 2 ^ FloatKind.f32.format.width) (_ : a1_4 < 2 ^ FloatKind.f32.format.width) (_ : a1_5 < 2 ^ FloatKind.f32.format.width) (_ : a1_6 < 2 ^ FloatKind.f32.format.width) (_ : a1_7 < 2 ^ FloatKind.f32.format.width) (_ : a1_8 < 2 ^ FloatKind.f32.format.width) :
    Calls Try.prog 4 #[.agg #[.float .f32 a0_0, .float .f32 a0_1, .float .f32 a0_2, .float .f32 a0_3, .float .f32 a0_4, .float .f32 a0_5, .float .f32 a0_6, .float .f32 a0_7, .float .f32 a0_8], .agg #[.float .f32 a1_0, .float .f32 a1_1, .float .f32 a1_2, .float .f32 a1_3, .float .f32 a1_4, .float .f32 a1_5, .float .f32 a1_6, .float .f32 a1_7, .float .f32 a1_8]] w fun e w' => e = .returned (.bool true) ∧ Below w.heap.size w w' := by
  go_enter Try.func4, Try.ntmps4
  apply wp_seq_k
  intro K0 hK0
  have HK0 : Hid _ := hK0
  clear hK0
  go_wp2
  refine HK0.out _ _ ?_
  clear HK0
  apply wp_seq_k
  intro K1 hK1
  have HK1 : Hid _ := hK1
  clear hK1
  have u0 : ((w.alloc (.cells #[.float .f32 a0_0, .float .f32 a0_1, .float .f32 a0_2, .float .f32 a0_3, .float .f32 a0_4, .float .f32 a0_5, .float .f32 a0_6, .float .f32 a0_7, .float .f32 a0_8] 24)).alloc (.cells #[.float .f32 a1_0, .float .f32 a1_1, .float .f32 a1_2, .float .f32 a1_3, .float .f32 a1_4, .float .f32 a1_5, .float .f32 a1_6, .float .f32 a1_7, .float .f32 a1_8] 24)).heap[w.heap.size]? = some (.cells #[.float .f32 a0_0, .float .f32 a0_1, .float .f32 a0_2, .float .f32 a0_3, .float .f32 a0_4, .float .f32 a0_5, .float .f32 a0_6, .float .f32 a0_7, .float .f32 a0_8] 24 (0, 0)) := by (repeat (first | (refine heap_top _ _ _ ?_; simp; done) | (with_reducible refine heap_drawn _ _ _ ?_) | (with_reducible refine heap_under _ _ _ ?_ ?_; (simp <;> omega))))
  have u1 : ((w.alloc (.cells #[.float .f32 a0_0, .float .f32 a0_1, .float .f32 a0_2, .float .f32 a0_3, .float .f32 a0_4, .float .f32 a0_5, .float .f32 a0_6, .float .f32 a0_7, .float .f32 a0_8] 24)).alloc (.cells #[.float .f32 a1_0, .float .f32 a1_1, .float .f32 a1_2, .float .f32 a1_3, .float .f32 a1_4, .float .f32 a1_5, .float .f32 a1_6, .float .f32 a1_7, .float .f32 a1_8] 24)).heap[w.heap.size + 1]? = some (.cells #[.float .f32 a1_0, .float .f32 a1_1, .float .f32 a1_2, .float .f32 a1_3, .float .f32 a1_4, .float .f32 a1_5, .float .f32 a1_6, .float .f32 a1_7, .float .f32 a1_8] 24 (0, 0)) := by (repeat (first | (refine heap_top _ _ _ ?_; simp; done) | (with_reducible refine heap_drawn _ _ _ ?_) | (with_reducible refine heap_under _ _ _ ?_ ?_; (simp <;> omega))))
  have hcells := fun w1 (hw1 : Stays ((w.alloc (.cells #[.float .f32 a0_0, .float .f32 a0_1, .float .f32 a0_2, .float .f32 a0_3, .float .f32 a0_4, .float .f32 a0_5, .float .f32 a0_6, .float .f32 a0_7, .float .f32 a0_8] 24)).alloc (.cells #[.float .f32 a1_0, .float .f32 a1_1, .float .f32 a1_2, .float .f32 a1_3, .float .f32 a1_4, .float .f32 a1_5, .float .f32 a1_6, .float .f32 a1_7, .float .f32 a1_8] 24)) w1) => (And.intro (row_of hw1 u0) (row_of hw1 u1))
  refine wp_region_soft_tail 5 (Stays.refl ((w.alloc (.cells #[.float .f32 a0_0, .float .f32 a0_1, .float .f32 a0_2, .float .f32 a0_3, .float .f32 a0_4, .float .f32 a0_5, .float .f32 a0_6, .float .f32 a0_7, .float .f32 a0_8] 24)).alloc (.cells #[.float .f32 a1_0, .float .f32 a1_1, .float .f32 a1_2, .float .f32 a1_3, .float .f32 a1_4, .float .f32 a1_5, .float .f32 a1_6, .float .f32 a1_7, .float .f32 a1_8] 24))) (fun f args v => (f = 12 ∧ #[v] = args) ∨ (f = 14 ∧ r_SameMat a0_0 a0_1 a0_2 a0_3 a0_4 a0_5 a0_6 a0_7 a0_8 a1_0 a1_1 a1_2 a1_3 a1_4 a1_5 a1_6 a1_7 a1_8 v)) [] (by kernel_rfl) (by kernel_rfl) (by simp [undef]) ?_
  simp only [List.take_succ_cons, List.take_zero, List.drop_succ_cons, List.drop_zero]
  ((with_reducible apply soft_det rfl); (case hA => rfl); (case h => (intro w1 hw1; have hc := hcells w1 hw1; go_simp; exact rfl)); go_simp)
  apply soft_call rfl
  case hA => rfl
  case h => (intro w1 hw1; go_simp; exact ⟨rfl, rfl⟩)
  case hc => exact fun w1 hw1 => (c_toMat _ _ _ _ _ _ _ _ _  w1).mono fun e w' ⟨he, hw'⟩ => ⟨_, he, Or.inl ⟨rfl, rfl⟩, hw'⟩
  rintro v (⟨_, hv⟩ | ⟨hf, _⟩) <;> first | exact absurd hf (by decide) | skip; obtain rfl : v = _ := by simpa using hv
  go_simp
  ((with_reducible apply soft_det rfl); (case hA => rfl); (case h => (intro w1 hw1; have hc := hcells w1 hw1; go_simp; exact rfl)); go_simp)
  apply soft_call rfl
  case hA => rfl
  case h => (intro w1 hw1; go_simp; exact ⟨rfl, rfl⟩)
  case hc => exact fun w1 hw1 => (c_toMat _ _ _ _ _ _ _ _ _  w1).mono fun e w' ⟨he, hw'⟩ => ⟨_, he, Or.inl ⟨rfl, rfl⟩, hw'⟩
  rintro v (⟨_, hv⟩ | ⟨hf, _⟩) <;> first | exact absurd hf (by decide) | skip; obtain rfl : v = _ := by simpa using hv
  go_simp
  apply soft_call rfl
  case hA => rfl
  case h => (intro w1 hw1; go_simp; exact ⟨rfl, rfl⟩)
  case hc => exact fun w1 hw1 => (c_specSameMat _ _ _ _ _ _ _ _ _ _ _ _ _ _ _ _ _ _  w1).mono fun e w' ⟨v, he, hr, hw'⟩ => ⟨_, he, Or.inr (⟨rfl, hr⟩), hw'⟩
  rintro v (⟨hf, _⟩ | ⟨_, rfl⟩) <;> first | exact absurd hf (by decide) | skip
  go_simp
  refine soft_nil ?_
  rintro w10 ⟨hw10, hk⟩
  clear hk
  have v1_0 := hw10.heap (in_heap u0) u0
  have v1_1 := hw10.heap (in_heap u1) u1
  clear hcells u0 u1
  go_wp2
  refine HK1.out _ _ ?_
  clear HK1
  apply wp_seq_k
  intro K2 hK2
  have HK2 : Hid _ := hK2
  clear hK2
  have hcells := fun w1 (hw1 : Stays w10 w1) => (And.intro (row_of hw1 v1_0) (row_of hw1 v1_1))
  refine wp_region_soft_tail 5 (Stays.refl w10) (fun f args v => (f = 12 ∧ #[v] = args) ∨ (f = 15 ∧ r_SameMat a0_0 a0_1 a0_2 a0_3 a0_4 a0_5 a0_6 a0_7 a0_8 a1_0 a1_1 a1_2 a1_3 a1_4 a1_5 a1_6 a1_7 a1_8 v)) [] (by kernel_rfl) (by kernel_rfl) (by simp [undef]) ?_
  simp only [List.take_succ_cons, List.take_zero, List.drop_succ_cons, List.drop_zero]
  ((with_reducible apply soft_det rfl); (case hA => rfl); (case h => (intro w1 hw1; have hc := hcells w1 hw1; go_simp; exact rfl)); go_simp)
  apply soft_call rfl
  case hA => rfl
  case h => (intro w1 hw1; go_simp; exact ⟨rfl, rfl⟩)
  case hc => exact fun w1 hw1 => (c_toMat _ _ _ _ _ _ _ _ _  w1).mono fun e w' ⟨he, hw'⟩ => ⟨_, he, Or.inl ⟨rfl, rfl⟩, hw'⟩
  rintro v (⟨_, hv⟩ | ⟨hf, _⟩) <;> first | exact absurd hf (by decide) | skip; obtain rfl : v = _ := by simpa using hv
  go_simp
  ((with_reducible apply soft_det rfl); (case hA => rfl); (case h => (intro w1 hw1; have hc := hcells w1 hw1; go_simp; exact rfl)); go_simp)
  apply soft_call rfl
  case hA => rfl
  case h => (intro w1 hw1; go_simp; exact ⟨rfl, rfl⟩)
  case hc => exact fun w1 hw1 => (c_toMat _ _ _ _ _ _ _ _ _  w1).mono fun e w' ⟨he, hw'⟩ => ⟨_, he, Or.inl ⟨rfl, rfl⟩, hw'⟩
  rintro v (⟨_, hv⟩ | ⟨hf, _⟩) <;> first | exact absurd hf (by decide) | skip; obtain rfl : v = _ := by simpa using hv
  go_simp
  apply soft_call rfl
  case hA => rfl
  case h => (intro w1 hw1; go_simp; exact ⟨rfl, rfl⟩)
  case hc => exact fun w1 hw1 => (c_implSameMat _ _ _ _ _ _ _ _ _ _ _ _ _ _ _ _ _ _  w1).mono fun e w' ⟨v, he, hr, hw'⟩ => ⟨_, he, Or.inr (⟨rfl, hr⟩), hw'⟩
  rintro v (⟨hf, _⟩ | ⟨_, rfl⟩) <;> first | exact absurd hf (by decide) | skip
  go_simp
  refine soft_nil ?_
  rintro w20 ⟨hw20, hk⟩
  clear hk
  have v2_0 := hw20.heap (in_heap v1_0) v1_0
  have v2_1 := hw20.heap (in_heap v1_1) v1_1
  clear hcells v1_0 v1_1
  go_wp2
  refine HK2.out _ _ ?_
  clear HK2
  have g0 := row_of (Stays.refl w20) v2_0
  have g1 := row_of (Stays.refl w20) v2_1
  clear v2_0 v2_1
  go_wp2
  all_goals go_ret
  all_goals refine ⟨rfl, Stays.trans ((((Stays.refl w).alloc _).alloc _).trans (hw10.trans hw20)) ?_⟩
  all_goals (repeat (first | exact Stays.refl _ | (with_reducible refine Stays.drewN ?_ _) | (with_reducible refine Stays.alloc ?_ _) | (with_reducible refine Stays.drew ?_) | (refine Stays.trans ?_ ‹Stays _ _›)))

end Go.Proofs.Ytbcnafanjemaeac
