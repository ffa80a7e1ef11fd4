/- Contracts: IsFiniteMat, MulMatVec, DeterminantOf. No condition. -/
import Derived.Test.YtbcnafanjemaeacB3
import Derived.Test.YtbcnafanjemaeacSp
namespace Go.Proofs.Ytbcnafanjemaeac
open Go Go.RowKit
set_option linter.unusedVariables false

def finM (a0 a1 a2 a3 a4 a5 a6 a7 a8 : Nat) : Bool := finV a0 a1 a2 && finV a3 a4 a5 && finV a6 a7 a8

def r_IsFiniteMat (a0 a1 a2 a3 a4 a5 a6 a7 a8 : Nat) (v : Value) : Prop := v = .bool (finM a0 a1 a2 a3 a4 a5 a6 a7 a8)

theorem c_specl01Mat (a0 a1 a2 a3 a4 a5 a6 a7 a8 : Nat) (w : World) :
    Calls Try.prog 32 #[.agg #[.float .f32 a0, .float .f32 a1, .float .f32 a2, .float .f32 a3, .float .f32 a4, .float .f32 a5, .float .f32 a6, .float .f32 a7, .float .f32 a8]] w fun en w' => ∃ v, en = .returned v ∧ r_IsFiniteMat a0 a1 a2 a3 a4 a5 a6 a7 a8 v ∧ Stays w w' := by
  unfold r_IsFiniteMat finM
  have u0 : (w.alloc (.cells #[.float .f32 a0, .float .f32 a1, .float .f32 a2, .float .f32 a3, .float .f32 a4, .float .f32 a5, .float .f32 a6, .float .f32 a7, .float .f32 a8] 26)).heap[w.heap.size]? = some (.cells #[.float .f32 a0, .float .f32 a1, .float .f32 a2, .float .f32 a3, .float .f32 a4, .float .f32 a5, .float .f32 a6, .float .f32 a7, .float .f32 a8] 26 (0, 0)) := by (repeat (first | (refine heap_top _ _ _ ?_; simp; done) | (with_reducible refine heap_drawn _ _ _ ?_) | (with_reducible refine heap_under _ _ _ ?_ ?_; (simp <;> omega))))
  have hA : Hid (∀ w1, Stays (w.alloc (.cells #[.float .f32 a0, .float .f32 a1, .float .f32 a2, .float .f32 a3, .float .f32 a4, .float .f32 a5, .float .f32 a6, .float .f32 a7, .float .f32 a8] 26)) w1 → ∀ i, w1.cell? ⟨w.heap.size, i, none⟩ = #[.float .f32 a0, .float .f32 a1, .float .f32 a2, .float .f32 a3, .float .f32 a4, .float .f32 a5, .float .f32 a6, .float .f32 a7, .float .f32 a8][i]?) := fun w1 h => row_of h u0
  clear u0
  have hS : Stays (w.alloc (.cells #[.float .f32 a0, .float .f32 a1, .float .f32 a2, .float .f32 a3, .float .f32 a4, .float .f32 a5, .float .f32 a6, .float .f32 a7, .float .f32 a8] 26)) (w.alloc (.cells #[.float .f32 a0, .float .f32 a1, .float .f32 a2, .float .f32 a3, .float .f32 a4, .float .f32 a5, .float .f32 a6, .float .f32 a7, .float .f32 a8] 26)) := Stays.refl _
  cases ha : finV a0 a1 a2 <;> cases hb : finV a3 a4 a5
  all_goals
    go_enter Try.func32, Try.ntmps32
    go_wp2_with (go_at_call 47; refine (c_specl01Vec _ _ _ _).mono ?_; rintro en w1 ⟨v, rfl, rfl, hw1⟩; replace hS := Stays.trans hS hw1; clear hw1; have hc := hA.out _ hS)
    go_ret
    exact ⟨_, rfl, rfl, Stays.trans (by (repeat (first | exact Stays.refl _ | (with_reducible refine Stays.drewN ?_ _) | (with_reducible refine Stays.alloc ?_ _) | (with_reducible refine Stays.drew ?_) | (refine Stays.trans ?_ ‹Stays _ _›)))) hS⟩

theorem c_implIsFiniteMat (a0 a1 a2 a3 a4 a5 a6 a7 a8 : Nat) (w : World) :
    Calls Try.prog 13 #[.agg #[.float .f32 a0, .float .f32 a1, .float .f32 a2, .float .f32 a3, .float .f32 a4, .float .f32 a5, .float .f32 a6, .float .f32 a7, .float .f32 a8]] w fun en w' => ∃ v, en = .returned v ∧ r_IsFiniteMat a0 a1 a2 a3 a4 a5 a6 a7 a8 v ∧ Stays w w' := by
  unfold r_IsFiniteMat finM
  have u0 : (w.alloc (.cells #[.float .f32 a0, .float .f32 a1, .float .f32 a2, .float .f32 a3, .float .f32 a4, .float .f32 a5, .float .f32 a6, .float .f32 a7, .float .f32 a8] 26)).heap[w.heap.size]? = some (.cells #[.float .f32 a0, .float .f32 a1, .float .f32 a2, .float .f32 a3, .float .f32 a4, .float .f32 a5, .float .f32 a6, .float .f32 a7, .float .f32 a8] 26 (0, 0)) := by (repeat (first | (refine heap_top _ _ _ ?_; simp; done) | (with_reducible refine heap_drawn _ _ _ ?_) | (with_reducible refine heap_under _ _ _ ?_ ?_; (simp <;> omega))))
  have hA : Hid (∀ w1, Stays (w.alloc (.cells #[.float .f32 a0, .float .f32 a1, .float .f32 a2, .float .f32 a3, .float .f32 a4, .float .f32 a5, .float .f32 a6, .float .f32 a7, .float .f32 a8] 26)) w1 → ∀ i, w1.cell? ⟨w.heap.size, i, none⟩ = #[.float .f32 a0, .float .f32 a1, .float .f32 a2, .float .f32 a3, .float .f32 a4, .float .f32 a5, .float .f32 a6, .float .f32 a7, .float .f32 a8][i]?) := fun w1 h => row_of h u0
  clear u0
  have hS : Stays (w.alloc (.cells #[.float .f32 a0, .float .f32 a1, .float .f32 a2, .float .f32 a3, .float .f32 a4, .float .f32 a5, .float .f32 a6, .float .f32 a7, .float .f32 a8] 26)) (w.alloc (.cells #[.float .f32 a0, .float .f32 a1, .float .f32 a2, .float .f32 a3, .float .f32 a4, .float .f32 a5, .float .f32 a6, .float .f32 a7, .float .f32 a8] 26)) := Stays.refl _
  cases ha : finV a0 a1 a2 <;> cases hb : finV a3 a4 a5
  all_goals
    go_enter Try.func13, Try.ntmps13
    go_wp2_with (go_at_call 34; refine (c_implIsFiniteVec _ _ _ _).mono ?_; rintro en w1 ⟨v, rfl, rfl, hw1⟩; replace hS := Stays.trans hS hw1; clear hw1; have hc := hA.out _ hS)
    go_ret
    exact ⟨_, rfl, rfl, Stays.trans (by (repeat (first | exact Stays.refl _ | (with_reducible refine Stays.drewN ?_ _) | (with_reducible refine Stays.alloc ?_ _) | (with_reducible refine Stays.drew ?_) | (refine Stays.trans ?_ ‹Stays _ _›)))) hS⟩

theorem c_specIsFiniteMat (a0 a1 a2 a3 a4 a5 a6 a7 a8 : Nat) (w : World) :
    Calls Try.prog 11 #[.agg #[.float .f32 a0, .float .f32 a1, .float .f32 a2, .float .f32 a3, .float .f32 a4, .float .f32 a5, .float .f32 a6, .float .f32 a7, .float .f32 a8]] w fun en w' => ∃ v, en = .returned v ∧ r_IsFiniteMat a0 a1 a2 a3 a4 a5 a6 a7 a8 v ∧ Stays w w' := by
  go_enter Try.func11, Try.ntmps11
  go_wp2_with (go_at_call 32; refine (c_specl01Mat _ _ _ _ _ _ _ _ _ _).mono ?_; rintro en w1 ⟨v, rfl, rfl, hw1⟩)
  go_ret
  exact ⟨_, rfl, rfl, by (repeat (first | exact Stays.refl _ | (with_reducible refine Stays.drewN ?_ _) | (with_reducible refine Stays.alloc ?_ _) | (with_reducible refine Stays.drew ?_) | (refine Stays.trans ?_ ‹Stays _ _›)))⟩

def r_MulMatVec (a0 a1 a2 a3 a4 a5 a6 a7 a8 b0 b1 b2 : Nat) (v : Value) : Prop := ∃ x y z, v = .agg #[.float .f32 x, .float .f32 y, .float .f32 z] ∧ FIs .f32 x (fdot (can .f32 a0) (can .f32 a1) (can .f32 a2) (can .f32 b0) (can .f32 b1) (can .f32 b2)) ∧ FIs .f32 y (fdot (can .f32 a3) (can .f32 a4) (can .f32 a5) (can .f32 b0) (can .f32 b1) (can .f32 b2)) ∧ FIs .f32 z (fdot (can .f32 a6) (can .f32 a7) (can .f32 a8) (can .f32 b0) (can .f32 b1) (can .f32 b2))

theorem c_specl01MulVec (a0 a1 a2 a3 a4 a5 a6 a7 a8 b0 b1 b2 : Nat) (w : World) :
    Calls Try.prog 40 #[.agg #[.float .f32 a0, .float .f32 a1, .float .f32 a2, .float .f32 a3, .float .f32 a4, .float .f32 a5, .float .f32 a6, .float .f32 a7, .float .f32 a8], .agg #[.float .f32 b0, .float .f32 b1, .float .f32 b2]] w fun en w' => ∃ v, en = .returned v ∧ r_MulMatVec a0 a1 a2 a3 a4 a5 a6 a7 a8 b0 b1 b2 v ∧ Stays w w' := by
  have u0 : (((w.alloc (.cells #[.float .f32 a0, .float .f32 a1, .float .f32 a2, .float .f32 a3, .float .f32 a4, .float .f32 a5, .float .f32 a6, .float .f32 a7, .float .f32 a8] 26)).alloc (.cells #[.float .f32 b0, .float .f32 b1, .float .f32 b2] 35)).alloc (.cells #[.float .f32 0, .float .f32 0, .float .f32 0] 35)).heap[w.heap.size]? = some (.cells #[.float .f32 a0, .float .f32 a1, .float .f32 a2, .float .f32 a3, .float .f32 a4, .float .f32 a5, .float .f32 a6, .float .f32 a7, .float .f32 a8] 26 (0, 0)) := by (repeat (first | (refine heap_top _ _ _ ?_; simp; done) | (with_reducible refine heap_drawn _ _ _ ?_) | (with_reducible refine heap_under _ _ _ ?_ ?_; (simp <;> omega))))
  have u1 : (((w.alloc (.cells #[.float .f32 a0, .float .f32 a1, .float .f32 a2, .float .f32 a3, .float .f32 a4, .float .f32 a5, .float .f32 a6, .float .f32 a7, .float .f32 a8] 26)).alloc (.cells #[.float .f32 b0, .float .f32 b1, .float .f32 b2] 35)).alloc (.cells #[.float .f32 0, .float .f32 0, .float .f32 0] 35)).heap[w.heap.size + 1]? = some (.cells #[.float .f32 b0, .float .f32 b1, .float .f32 b2] 35 (0, 0)) := by (repeat (first | (refine heap_top _ _ _ ?_; simp; done) | (with_reducible refine heap_drawn _ _ _ ?_) | (with_reducible refine heap_under _ _ _ ?_ ?_; (simp <;> omega))))
  have u2 : (((w.alloc (.cells #[.float .f32 a0, .float .f32 a1, .float .f32 a2, .float .f32 a3, .float .f32 a4, .float .f32 a5, .float .f32 a6, .float .f32 a7, .float .f32 a8] 26)).alloc (.cells #[.float .f32 b0, .float .f32 b1, .float .f32 b2] 35)).alloc (.cells #[.float .f32 0, .float .f32 0, .float .f32 0] 35)).heap[w.heap.size + 1 + 1]? = some (.cells #[.float .f32 0, .float .f32 0, .float .f32 0] 35 (0, 0)) := by (repeat (first | (refine heap_top _ _ _ ?_; simp; done) | (with_reducible refine heap_drawn _ _ _ ?_) | (with_reducible refine heap_under _ _ _ ?_ ?_; (simp <;> omega))))
  have hcells := fun w1 (hw1 : Stays (((w.alloc (.cells #[.float .f32 a0, .float .f32 a1, .float .f32 a2, .float .f32 a3, .float .f32 a4, .float .f32 a5, .float .f32 a6, .float .f32 a7, .float .f32 a8] 26)).alloc (.cells #[.float .f32 b0, .float .f32 b1, .float .f32 b2] 35)).alloc (.cells #[.float .f32 0, .float .f32 0, .float .f32 0] 35)) w1) => And.intro (row_of hw1 u0) (row_of hw1 u1)
  have hend : Hid (∀ w1, Stays (((w.alloc (.cells #[.float .f32 a0, .float .f32 a1, .float .f32 a2, .float .f32 a3, .float .f32 a4, .float .f32 a5, .float .f32 a6, .float .f32 a7, .float .f32 a8] 26)).alloc (.cells #[.float .f32 b0, .float .f32 b1, .float .f32 b2] 35)).alloc (.cells #[.float .f32 0, .float .f32 0, .float .f32 0] 35)) w1 → w1.heap[w.heap.size + 1 + 1]? = some (.cells #[.float .f32 0, .float .f32 0, .float .f32 0] 35 (0, 0)) ∧ Stays w w1) := fun w1 h => ⟨h.heap (in_heap u2) u2, Stays.trans (by (repeat (first | exact Stays.refl _ | (with_reducible refine Stays.drewN ?_ _) | (with_reducible refine Stays.alloc ?_ _) | (with_reducible refine Stays.drew ?_) | (refine Stays.trans ?_ ‹Stays _ _›)))) h⟩
  clear u0 u1 u2
  go_enter Try.func40, Try.ntmps40
  go_wp2
  refine wp_region_soft_tail 13 (Stays.refl _) (fun f args v => ∃ k0 k1 k2 l0 l1 l2, args = #[.agg #[.float .f32 k0, .float .f32 k1, .float .f32 k2], .agg #[.float .f32 l0, .float .f32 l1, .float .f32 l2]] ∧ r_DotVec k0 k1 k2 l0 l1 l2 v) [] (by kernel_rfl) (by kernel_rfl) (fun _ h => by cases h) ?_
  simp only [List.take_succ_cons, List.take_zero, List.drop_succ_cons, List.drop_zero]
  repeat ((with_reducible apply soft_det rfl); (case hA => rfl); (case h => (intro w1 hw1; have hc := hcells w1 hw1; go_simp; exact rfl)); go_simp)
  apply soft_call rfl
  case hA => rfl
  case h => (intro w1 hw1; go_simp; exact ⟨rfl, rfl⟩)
  case hc => exact fun w1 hw1 => (c_specl01Dot _ _ _ _ _ _ w1).mono fun e w' ⟨v, he, hr, hw'⟩ => ⟨_, he, ⟨_, _, _, _, _, _, rfl, hr⟩, hw'⟩
  rintro v ⟨k0, k1, k2, l0, l1, l2, hk, ⟨x0, rfl, hx0⟩⟩; obtain ⟨⟨rfl, rfl, rfl⟩, rfl, rfl, rfl⟩ : (a0 = k0 ∧ a1 = k1 ∧ a2 = k2) ∧ b0 = l0 ∧ b1 = l1 ∧ b2 = l2 := by simpa using hk
  go_simp
  repeat ((with_reducible apply soft_det rfl); (case hA => rfl); (case h => (intro w1 hw1; have hc := hcells w1 hw1; go_simp; exact rfl)); go_simp)
  apply soft_call rfl
  case hA => rfl
  case h => (intro w1 hw1; go_simp; exact ⟨rfl, rfl⟩)
  case hc => exact fun w1 hw1 => (c_specl01Dot _ _ _ _ _ _ w1).mono fun e w' ⟨v, he, hr, hw'⟩ => ⟨_, he, ⟨_, _, _, _, _, _, rfl, hr⟩, hw'⟩
  rintro v ⟨k0, k1, k2, l0, l1, l2, hk, ⟨x1, rfl, hx1⟩⟩; obtain ⟨⟨rfl, rfl, rfl⟩, rfl, rfl, rfl⟩ : (a3 = k0 ∧ a4 = k1 ∧ a5 = k2) ∧ b0 = l0 ∧ b1 = l1 ∧ b2 = l2 := by simpa using hk
  go_simp
  repeat ((with_reducible apply soft_det rfl); (case hA => rfl); (case h => (intro w1 hw1; have hc := hcells w1 hw1; go_simp; exact rfl)); go_simp)
  apply soft_call rfl
  case hA => rfl
  case h => (intro w1 hw1; go_simp; exact ⟨rfl, rfl⟩)
  case hc => exact fun w1 hw1 => (c_specl01Dot _ _ _ _ _ _ w1).mono fun e w' ⟨v, he, hr, hw'⟩ => ⟨_, he, ⟨_, _, _, _, _, _, rfl, hr⟩, hw'⟩
  rintro v ⟨k0, k1, k2, l0, l1, l2, hk, ⟨x2, rfl, hx2⟩⟩; obtain ⟨⟨rfl, rfl, rfl⟩, rfl, rfl, rfl⟩ : (a6 = k0 ∧ a7 = k1 ∧ a8 = k2) ∧ b0 = l0 ∧ b1 = l1 ∧ b2 = l2 := by simpa using hk
  go_simp
  repeat ((with_reducible apply soft_det rfl); (case hA => rfl); (case h => (intro w1 hw1; have hc := hcells w1 hw1; go_simp; exact rfl)); go_simp)
  refine soft_nil ?_
  rintro w2 ⟨hw2, _⟩
  obtain ⟨hres, hst⟩ := hend.out _ hw2
  clear hcells hw2 hend
  refine wpList_store_row rfl _ _ _ rfl _ _ _ rfl rfl hres ?hi ?ho ?h1 ?hB hst ?_
  case hi => kernel_rfl
  case ho => rfl
  case h1 => first | rfl | simp [Value.oneCell']
  case hB => first | omega | (simp <;> omega)
  intro w3 hw3 hq3 _ _
  go_wp2
  apply end_agg rfl rfl rfl Try.underlying35 rfl (t := 35)
  case hg => exact hq3
  case hi => kernel_rfl
  case hR => exact ⟨_, rfl, ⟨_, _, _, rfl, hx0, hx1, hx2⟩, hw3⟩

theorem c_implMulMatVec (a0 a1 a2 a3 a4 a5 a6 a7 a8 b0 b1 b2 : Nat) (w : World) :
    Calls Try.prog 25 #[.agg #[.float .f32 a0, .float .f32 a1, .float .f32 a2, .float .f32 a3, .float .f32 a4, .float .f32 a5, .float .f32 a6, .float .f32 a7, .float .f32 a8], .agg #[.float .f32 b0, .float .f32 b1, .float .f32 b2]] w fun en w' => ∃ v, en = .returned v ∧ r_MulMatVec a0 a1 a2 a3 a4 a5 a6 a7 a8 b0 b1 b2 v ∧ Stays w w' := by
  have u0 : (((w.alloc (.cells #[.float .f32 a0, .float .f32 a1, .float .f32 a2, .float .f32 a3, .float .f32 a4, .float .f32 a5, .float .f32 a6, .float .f32 a7, .float .f32 a8] 26)).alloc (.cells #[.float .f32 b0, .float .f32 b1, .float .f32 b2] 35)).alloc (.cells #[.float .f32 0, .float .f32 0, .float .f32 0] 35)).heap[w.heap.size]? = some (.cells #[.float .f32 a0, .float .f32 a1, .float .f32 a2, .float .f32 a3, .float .f32 a4, .float .f32 a5, .float .f32 a6, .float .f32 a7, .float .f32 a8] 26 (0, 0)) := by (repeat (first | (refine heap_top _ _ _ ?_; simp; done) | (with_reducible refine heap_drawn _ _ _ ?_) | (with_reducible refine heap_under _ _ _ ?_ ?_; (simp <;> omega))))
  have u1 : (((w.alloc (.cells #[.float .f32 a0, .float .f32 a1, .float .f32 a2, .float .f32 a3, .float .f32 a4, .float .f32 a5, .float .f32 a6, .float .f32 a7, .float .f32 a8] 26)).alloc (.cells #[.float .f32 b0, .float .f32 b1, .float .f32 b2] 35)).alloc (.cells #[.float .f32 0, .float .f32 0, .float .f32 0] 35)).heap[w.heap.size + 1]? = some (.cells #[.float .f32 b0, .float .f32 b1, .float .f32 b2] 35 (0, 0)) := by (repeat (first | (refine heap_top _ _ _ ?_; simp; done) | (with_reducible refine heap_drawn _ _ _ ?_) | (with_reducible refine heap_under _ _ _ ?_ ?_; (simp <;> omega))))
  have u2 : (((w.alloc (.cells #[.float .f32 a0, .float .f32 a1, .float .f32 a2, .float .f32 a3, .float .f32 a4, .float .f32 a5, .float .f32 a6, .float .f32 a7, .float .f32 a8] 26)).alloc (.cells #[.float .f32 b0, .float .f32 b1, .float .f32 b2] 35)).alloc (.cells #[.float .f32 0, .float .f32 0, .float .f32 0] 35)).heap[w.heap.size + 1 + 1]? = some (.cells #[.float .f32 0, .float .f32 0, .float .f32 0] 35 (0, 0)) := by (repeat (first | (refine heap_top _ _ _ ?_; simp; done) | (with_reducible refine heap_drawn _ _ _ ?_) | (with_reducible refine heap_under _ _ _ ?_ ?_; (simp <;> omega))))
  have hcells := fun w1 (hw1 : Stays (((w.alloc (.cells #[.float .f32 a0, .float .f32 a1, .float .f32 a2, .float .f32 a3, .float .f32 a4, .float .f32 a5, .float .f32 a6, .float .f32 a7, .float .f32 a8] 26)).alloc (.cells #[.float .f32 b0, .float .f32 b1, .float .f32 b2] 35)).alloc (.cells #[.float .f32 0, .float .f32 0, .float .f32 0] 35)) w1) => And.intro (row_of hw1 u0) (row_of hw1 u1)
  have hend : Hid (∀ w1, Stays (((w.alloc (.cells #[.float .f32 a0, .float .f32 a1, .float .f32 a2, .float .f32 a3, .float .f32 a4, .float .f32 a5, .float .f32 a6, .float .f32 a7, .float .f32 a8] 26)).alloc (.cells #[.float .f32 b0, .float .f32 b1, .float .f32 b2] 35)).alloc (.cells #[.float .f32 0, .float .f32 0, .float .f32 0] 35)) w1 → w1.heap[w.heap.size + 1 + 1]? = some (.cells #[.float .f32 0, .float .f32 0, .float .f32 0] 35 (0, 0)) ∧ Stays w w1) := fun w1 h => ⟨h.heap (in_heap u2) u2, Stays.trans (by (repeat (first | exact Stays.refl _ | (with_reducible refine Stays.drewN ?_ _) | (with_reducible refine Stays.alloc ?_ _) | (with_reducible refine Stays.drew ?_) | (refine Stays.trans ?_ ‹Stays _ _›)))) h⟩
  clear u0 u1 u2
  go_enter Try.func25, Try.ntmps25
  go_wp2
  refine wp_region_soft_tail 13 (Stays.refl _) (fun f args v => ∃ k0 k1 k2 l0 l1 l2, args = #[.agg #[.float .f32 k0, .float .f32 k1, .float .f32 k2], .agg #[.float .f32 l0, .float .f32 l1, .float .f32 l2]] ∧ r_DotVec k0 k1 k2 l0 l1 l2 v) [] (by kernel_rfl) (by kernel_rfl) (fun _ h => by cases h) ?_
  simp only [List.take_succ_cons, List.take_zero, List.drop_succ_cons, List.drop_zero]
  repeat ((with_reducible apply soft_det rfl); (case hA => rfl); (case h => (intro w1 hw1; have hc := hcells w1 hw1; go_simp; exact rfl)); go_simp)
  apply soft_call rfl
  case hA => rfl
  case h => (intro w1 hw1; go_simp; exact ⟨rfl, rfl⟩)
  case hc => exact fun w1 hw1 => (c_implDotVec _ _ _ _ _ _ w1).mono fun e w' ⟨v, he, hr, hw'⟩ => ⟨_, he, ⟨_, _, _, _, _, _, rfl, hr⟩, hw'⟩
  rintro v ⟨k0, k1, k2, l0, l1, l2, hk, ⟨x0, rfl, hx0⟩⟩; obtain ⟨⟨rfl, rfl, rfl⟩, rfl, rfl, rfl⟩ : (a0 = k0 ∧ a1 = k1 ∧ a2 = k2) ∧ b0 = l0 ∧ b1 = l1 ∧ b2 = l2 := by simpa using hk
  go_simp
  repeat ((with_reducible apply soft_det rfl); (case hA => rfl); (case h => (intro w1 hw1; have hc := hcells w1 hw1; go_simp; exact rfl)); go_simp)
  apply soft_call rfl
  case hA => rfl
  case h => (intro w1 hw1; go_simp; exact ⟨rfl, rfl⟩)
  case hc => exact fun w1 hw1 => (c_implDotVec _ _ _ _ _ _ w1).mono fun e w' ⟨v, he, hr, hw'⟩ => ⟨_, he, ⟨_, _, _, _, _, _, rfl, hr⟩, hw'⟩
  rintro v ⟨k0, k1, k2, l0, l1, l2, hk, ⟨x1, rfl, hx1⟩⟩; obtain ⟨⟨rfl, rfl, rfl⟩, rfl, rfl, rfl⟩ : (a3 = k0 ∧ a4 = k1 ∧ a5 = k2) ∧ b0 = l0 ∧ b1 = l1 ∧ b2 = l2 := by simpa using hk
  go_simp
  repeat ((with_reducible apply soft_det rfl); (case hA => rfl); (case h => (intro w1 hw1; have hc := hcells w1 hw1; go_simp; exact rfl)); go_simp)
  apply soft_call rfl
  case hA => rfl
  case h => (intro w1 hw1; go_simp; exact ⟨rfl, rfl⟩)
  case hc => exact fun w1 hw1 => (c_implDotVec _ _ _ _ _ _ w1).mono fun e w' ⟨v, he, hr, hw'⟩ => ⟨_, he, ⟨_, _, _, _, _, _, rfl, hr⟩, hw'⟩
  rintro v ⟨k0, k1, k2, l0, l1, l2, hk, ⟨x2, rfl, hx2⟩⟩; obtain ⟨⟨rfl, rfl, rfl⟩, rfl, rfl, rfl⟩ : (a6 = k0 ∧ a7 = k1 ∧ a8 = k2) ∧ b0 = l0 ∧ b1 = l1 ∧ b2 = l2 := by simpa using hk
  go_simp
  repeat ((with_reducible apply soft_det rfl); (case hA => rfl); (case h => (intro w1 hw1; have hc := hcells w1 hw1; go_simp; exact rfl)); go_simp)
  refine soft_nil ?_
  rintro w2 ⟨hw2, _⟩
  obtain ⟨hres, hst⟩ := hend.out _ hw2
  clear hcells hw2 hend
  refine wpList_store_row rfl _ _ _ rfl _ _ _ rfl rfl hres ?hi ?ho ?h1 ?hB hst ?_
  case hi => kernel_rfl
  case ho => rfl
  case h1 => first | rfl | simp [Value.oneCell']
  case hB => first | omega | (simp <;> omega)
  intro w3 hw3 hq3 _ _
  go_wp2
  apply end_agg rfl rfl rfl Try.underlying35 rfl (t := 35)
  case hg => exact hq3
  case hi => kernel_rfl
  case hR => exact ⟨_, rfl, ⟨_, _, _, rfl, hx0, hx1, hx2⟩, hw3⟩

theorem c_specMulMatVec (a0 a1 a2 a3 a4 a5 a6 a7 a8 b0 b1 b2 : Nat) (w : World) :
    Calls Try.prog 24 #[.agg #[.float .f32 a0, .float .f32 a1, .float .f32 a2, .float .f32 a3, .float .f32 a4, .float .f32 a5, .float .f32 a6, .float .f32 a7, .float .f32 a8], .agg #[.float .f32 b0, .float .f32 b1, .float .f32 b2]] w fun en w' => ∃ v, en = .returned v ∧ r_MulMatVec a0 a1 a2 a3 a4 a5 a6 a7 a8 b0 b1 b2 v ∧ Stays w w' := by
  have u2 : (((w.alloc (.cells #[.float .f32 a0, .float .f32 a1, .float .f32 a2, .float .f32 a3, .float .f32 a4, .float .f32 a5, .float .f32 a6, .float .f32 a7, .float .f32 a8] 26)).alloc (.cells #[.float .f32 b0, .float .f32 b1, .float .f32 b2] 35)).alloc (.cells #[.float .f32 0, .float .f32 0, .float .f32 0] 35)).heap[w.heap.size + 1 + 1]? = some (.cells #[.float .f32 0, .float .f32 0, .float .f32 0] 35 (0, 0)) := by (repeat (first | (refine heap_top _ _ _ ?_; simp; done) | (with_reducible refine heap_drawn _ _ _ ?_) | (with_reducible refine heap_under _ _ _ ?_ ?_; (simp <;> omega))))
  have hend : Hid (∀ w1, Stays (((w.alloc (.cells #[.float .f32 a0, .float .f32 a1, .float .f32 a2, .float .f32 a3, .float .f32 a4, .float .f32 a5, .float .f32 a6, .float .f32 a7, .float .f32 a8] 26)).alloc (.cells #[.float .f32 b0, .float .f32 b1, .float .f32 b2] 35)).alloc (.cells #[.float .f32 0, .float .f32 0, .float .f32 0] 35)) w1 → w1.heap[w.heap.size + 1 + 1]? = some (.cells #[.float .f32 0, .float .f32 0, .float .f32 0] 35 (0, 0)) ∧ Stays w w1) := fun w1 h => ⟨h.heap (in_heap u2) u2, Stays.trans (by (repeat (first | exact Stays.refl _ | (with_reducible refine Stays.drewN ?_ _) | (with_reducible refine Stays.alloc ?_ _) | (with_reducible refine Stays.drew ?_) | (refine Stays.trans ?_ ‹Stays _ _›)))) h⟩
  clear u2
  go_enter Try.func24, Try.ntmps24
  go_wp2_with (first | (go_at_call 40; refine (c_specl01MulVec _ _ _ _ _ _ _ _ _ _ _ _  _).mono ?_; rintro en w1 ⟨v, rfl, ⟨x, y, z, rfl, hx, hy, hz⟩, hw1⟩; obtain ⟨hres, hst⟩ := hend.out _ hw1; clear hw1) | ((refine wpList_store_row rfl _ _ _ rfl _ _ _ rfl rfl hres ?hi ?ho ?h1 ?hB hst ?_); (case hi => kernel_rfl); (case ho => rfl); (case h1 => first | rfl | simp [Value.oneCell']); (case hB => first | omega | (simp <;> omega)); intro w2 hw2 hq2 _ _))
  apply end_agg rfl rfl rfl Try.underlying35 rfl (t := 35)
  case hg => exact hq2
  case hi => kernel_rfl
  case hR => exact ⟨_, rfl, ⟨_, _, _, rfl, hx, hy, hz⟩, hw2⟩

def r_DeterminantOf (a0 a1 a2 a3 a4 a5 a6 a7 a8 : Nat) (v : Value) : Prop := ∃ x, v = .float .f32 x ∧ FIs .f32 x (fdot (can .f32 a0) (can .f32 a1) (can .f32 a2) (fop .sub .f32 (fop .mul .f32 (can .f32 a4) (can .f32 a8)) (fop .mul .f32 (can .f32 a5) (can .f32 a7))) (fop .sub .f32 (fop .mul .f32 (can .f32 a5) (can .f32 a6)) (fop .mul .f32 (can .f32 a3) (can .f32 a8))) (fop .sub .f32 (fop .mul .f32 (can .f32 a3) (can .f32 a7)) (fop .mul .f32 (can .f32 a4) (can .f32 a6))))

theorem c_specDeterminantOf (a0 a1 a2 a3 a4 a5 a6 a7 a8 : Nat) (w : World) :
    Calls Try.prog 29 #[.agg #[.float .f32 a0, .float .f32 a1, .float .f32 a2, .float .f32 a3, .float .f32 a4, .float .f32 a5, .float .f32 a6, .float .f32 a7, .float .f32 a8]] w fun en w' => ∃ v, en = .returned v ∧ r_DeterminantOf a0 a1 a2 a3 a4 a5 a6 a7 a8 v ∧ Stays w w' := by
  have u0 : (w.alloc (.cells #[.float .f32 a0, .float .f32 a1, .float .f32 a2, .float .f32 a3, .float .f32 a4, .float .f32 a5, .float .f32 a6, .float .f32 a7, .float .f32 a8] 26)).heap[w.heap.size]? = some (.cells #[.float .f32 a0, .float .f32 a1, .float .f32 a2, .float .f32 a3, .float .f32 a4, .float .f32 a5, .float .f32 a6, .float .f32 a7, .float .f32 a8] 26 (0, 0)) := by (repeat (first | (refine heap_top _ _ _ ?_; simp; done) | (with_reducible refine heap_drawn _ _ _ ?_) | (with_reducible refine heap_under _ _ _ ?_ ?_; (simp <;> omega))))
  have hcells := fun w1 (hw1 : Stays (w.alloc (.cells #[.float .f32 a0, .float .f32 a1, .float .f32 a2, .float .f32 a3, .float .f32 a4, .float .f32 a5, .float .f32 a6, .float .f32 a7, .float .f32 a8] 26)) w1) => row_of hw1 u0
  clear u0
  go_enter Try.func29, Try.ntmps29
  go_wp2
  refine wp_region_soft_tail 8 (Stays.refl _) (fun f args v => (f = 45 ∧ r_CrossVec a3 a4 a5 a6 a7 a8 v) ∨ (f = 44 ∧ ∃ l0 l1 l2, args = #[.agg #[.float .f32 a0, .float .f32 a1, .float .f32 a2], .agg #[.float .f32 l0, .float .f32 l1, .float .f32 l2]] ∧ r_DotVec a0 a1 a2 l0 l1 l2 v)) [] (by kernel_rfl) (by kernel_rfl) (fun _ h => by cases h) ?_
  simp only [List.take_succ_cons, List.take_zero, List.drop_succ_cons, List.drop_zero]
  repeat ((with_reducible apply soft_det rfl); (case hA => rfl); (case h => (intro w1 hw1; have hc := hcells w1 hw1; go_simp; exact rfl)); go_simp)
  apply soft_call rfl
  case hA => rfl
  case h => (intro w1 hw1; go_simp; exact ⟨rfl, rfl⟩)
  case hc => exact fun w1 hw1 => (c_specl01Cross _ _ _ _ _ _ w1).mono fun e w' ⟨v, he, hr, hw'⟩ => ⟨_, he, Or.inl ⟨rfl, hr⟩, hw'⟩
  rintro v (⟨_, ⟨x, y, z, rfl, hx, hy, hz⟩⟩ | ⟨hf, _⟩) <;> first | exact absurd hf (by decide) | skip
  go_simp
  repeat ((with_reducible apply soft_det rfl); (case hA => rfl); (case h => (intro w1 hw1; have hc := hcells w1 hw1; go_simp; exact rfl)); go_simp)
  apply soft_call rfl
  case hA => rfl
  case h => (intro w1 hw1; go_simp; exact ⟨rfl, rfl⟩)
  case hc => exact fun w1 hw1 => (c_specl01Dot _ _ _ _ _ _ w1).mono fun e w' ⟨v, he, hr, hw'⟩ => ⟨_, he, Or.inr ⟨rfl, _, _, _, rfl, hr⟩, hw'⟩
  rintro v (⟨hf, _⟩ | ⟨_, l0, l1, l2, hk, ⟨d, rfl, hd⟩⟩) <;> first | exact absurd hf (by decide) | skip; obtain ⟨rfl, rfl, rfl⟩ : x = l0 ∧ y = l1 ∧ z = l2 := by simpa using hk
  go_simp
  refine soft_nil ?_
  rintro w2 ⟨hw2, _⟩
  go_wp2
  go_ret
  refine ⟨_, rfl, ⟨_, rfl, hd.of_eq ?_⟩, Stays.trans (by (repeat (first | exact Stays.refl _ | (with_reducible refine Stays.drewN ?_ _) | (with_reducible refine Stays.alloc ?_ _) | (with_reducible refine Stays.drew ?_) | (refine Stays.trans ?_ ‹Stays _ _›)))) hw2⟩
  rw [hx.out, hy.out, hz.out]

theorem c_implDeterminantOf (a0 a1 a2 a3 a4 a5 a6 a7 a8 : Nat) (w : World) :
    Calls Try.prog 30 #[.agg #[.float .f32 a0, .float .f32 a1, .float .f32 a2, .float .f32 a3, .float .f32 a4, .float .f32 a5, .float .f32 a6, .float .f32 a7, .float .f32 a8]] w fun en w' => ∃ v, en = .returned v ∧ r_DeterminantOf a0 a1 a2 a3 a4 a5 a6 a7 a8 v ∧ Stays w w' := by
  have u0 : (w.alloc (.cells #[.float .f32 a0, .float .f32 a1, .float .f32 a2, .float .f32 a3, .float .f32 a4, .float .f32 a5, .float .f32 a6, .float .f32 a7, .float .f32 a8] 26)).heap[w.heap.size]? = some (.cells #[.float .f32 a0, .float .f32 a1, .float .f32 a2, .float .f32 a3, .float .f32 a4, .float .f32 a5, .float .f32 a6, .float .f32 a7, .float .f32 a8] 26 (0, 0)) := by (repeat (first | (refine heap_top _ _ _ ?_; simp; done) | (with_reducible refine heap_drawn _ _ _ ?_) | (with_reducible refine heap_under _ _ _ ?_ ?_; (simp <;> omega))))
  have hcells := fun w1 (hw1 : Stays (w.alloc (.cells #[.float .f32 a0, .float .f32 a1, .float .f32 a2, .float .f32 a3, .float .f32 a4, .float .f32 a5, .float .f32 a6, .float .f32 a7, .float .f32 a8] 26)) w1) => row_of hw1 u0
  clear u0
  go_enter Try.func30, Try.ntmps30
  go_wp2
  refine wp_region_soft_tail 8 (Stays.refl _) (fun f args v => (f = 46 ∧ r_CrossVec a3 a4 a5 a6 a7 a8 v) ∨ (f = 41 ∧ ∃ l0 l1 l2, args = #[.agg #[.float .f32 a0, .float .f32 a1, .float .f32 a2], .agg #[.float .f32 l0, .float .f32 l1, .float .f32 l2]] ∧ r_DotVec a0 a1 a2 l0 l1 l2 v)) [] (by kernel_rfl) (by kernel_rfl) (fun _ h => by cases h) ?_
  simp only [List.take_succ_cons, List.take_zero, List.drop_succ_cons, List.drop_zero]
  repeat ((with_reducible apply soft_det rfl); (case hA => rfl); (case h => (intro w1 hw1; have hc := hcells w1 hw1; go_simp; exact rfl)); go_simp)
  apply soft_call rfl
  case hA => rfl
  case h => (intro w1 hw1; go_simp; exact ⟨rfl, rfl⟩)
  case hc => exact fun w1 hw1 => (c_implCrossVec _ _ _ _ _ _ w1).mono fun e w' ⟨v, he, hr, hw'⟩ => ⟨_, he, Or.inl ⟨rfl, hr⟩, hw'⟩
  rintro v (⟨_, ⟨x, y, z, rfl, hx, hy, hz⟩⟩ | ⟨hf, _⟩) <;> first | exact absurd hf (by decide) | skip
  go_simp
  repeat ((with_reducible apply soft_det rfl); (case hA => rfl); (case h => (intro w1 hw1; have hc := hcells w1 hw1; go_simp; exact rfl)); go_simp)
  apply soft_call rfl
  case hA => rfl
  case h => (intro w1 hw1; go_simp; exact ⟨rfl, rfl⟩)
  case hc => exact fun w1 hw1 => (c_implDotVec _ _ _ _ _ _ w1).mono fun e w' ⟨v, he, hr, hw'⟩ => ⟨_, he, Or.inr ⟨rfl, _, _, _, rfl, hr⟩, hw'⟩
  rintro v (⟨hf, _⟩ | ⟨_, l0, l1, l2, hk, ⟨d, rfl, hd⟩⟩) <;> first | exact absurd hf (by decide) | skip; obtain ⟨rfl, rfl, rfl⟩ : x = l0 ∧ y = l1 ∧ z = l2 := by simpa using hk
  go_simp
  refine soft_nil ?_
  rintro w2 ⟨hw2, _⟩
  go_wp2
  go_ret
  refine ⟨_, rfl, ⟨_, rfl, hd.of_eq ?_⟩, Stays.trans (by (repeat (first | exact Stays.refl _ | (with_reducible refine Stays.drewN ?_ _) | (with_reducible refine Stays.alloc ?_ _) | (with_reducible refine Stays.drew ?_) | (refine Stays.trans ?_ ‹Stays _ _›)))) hw2⟩
  rw [hx.out, hy.out, hz.out]

end Go.Proofs.Ytbcnafanjemaeac
