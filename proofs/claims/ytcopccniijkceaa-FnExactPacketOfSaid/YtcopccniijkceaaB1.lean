/- Contracts of sameFloat, toVec, eqVec and of the plain functions on vectors. No condition. -/
import Derived.Test.YtcopccniijkceaaA0
import Derived.Test.YtcopccniijkceaaSp
namespace Go.Proofs.Ytcopccniijkceaa
open Go Go.RowKit
set_option linter.unusedVariables false
set_option maxRecDepth 100000

/-- Two wide words that are the same number are so for the law. -/
theorem c_sameFloat (a b : Nat) (w : World) (h : can .f64 a = can .f64 b) :
    Calls Try.prog 56 #[.float .f64 a, .float .f64 b] w fun e w' => e = .returned (.bool true) ∧ Stays w w' := by
  have hn := neq_self .f64 a
  have hm := neq_self .f64 b
  cases hc : can .f64 a with
  | none =>
    have h1 : (FloatKind.f64.format.order a a != some Ordering.eq) = true := by rw [hn, hc]; rfl
    have h2 : (FloatKind.f64.format.order b b != some Ordering.eq) = true := by rw [hm, ← h, hc]; rfl
    clear hn hm hc h
    go_enter Try.func56, Try.ntmps56
    go_wp2
    go_ret
    exact ⟨rfl, by (repeat (first | exact Stays.refl _ | (with_reducible refine Stays.drewN ?_ _) | (with_reducible refine Stays.alloc ?_ _) | (with_reducible refine Stays.drew ?_) | (refine Stays.trans ?_ ‹Stays _ _›)))⟩
  | some c =>
    obtain ⟨rfl, hna⟩ := can_some hc
    obtain ⟨rfl, _⟩ := can_some (h.symm.trans hc)
    have h1 : (FloatKind.f64.format.order c c != some Ordering.eq) = false := by rw [hn, hc]; rfl
    have h3 : FloatKind.f64.format.order c c = some Ordering.eq := order_self hna
    clear hn hm hc h hna
    cases hz : (FloatKind.f64.format.order c 0 == some Ordering.eq)
    · go_enter Try.func56, Try.ntmps56
      go_wp2
      go_ret
      exact ⟨ret_b (by simp), by (repeat (first | exact Stays.refl _ | (with_reducible refine Stays.drewN ?_ _) | (with_reducible refine Stays.alloc ?_ _) | (with_reducible refine Stays.drew ?_) | (refine Stays.trans ?_ ‹Stays _ _›)))⟩
    · go_enter Try.func56, Try.ntmps56
      go_wp2_with ((with_reducible refine wpList_fop rfl _ _ _ _ _ rfl rfl _ _ _ rfl rfl ?_); intro r n hr)
      go_ret
      refine ⟨ret_b (beq_iff_eq.2 ?_), by (repeat (first | exact Stays.refl _ | (with_reducible refine Stays.drewN ?_ _) | (with_reducible refine Stays.alloc ?_ _) | (with_reducible refine Stays.drew ?_) | (refine Stays.trans ?_ ‹Stays _ _›)))⟩
      rename_i r1 _ hr1
      rw [order_can, order_can .f64 r 0, hr1.out, hr.out]

theorem c_toVec (a b c : Nat) (w : World) :
    Calls Try.prog 70 #[.agg #[.float .f32 a, .float .f32 b, .float .f32 c]] w fun e w' => e = .returned (.agg #[.float .f32 a, .float .f32 b, .float .f32 c]) ∧ Stays w w' := by
  go_enter Try.func70, Try.ntmps70
  go_wp2
  refine wp_loop_rounds 4 ?_
  rw [rounds_succ]
  go_wp2
  rw [rounds_succ]
  go_wp2
  rw [rounds_succ]
  go_wp2
  rw [rounds_succ]
  go_wp2
  apply end_agg rfl rfl rfl Try.underlying64 rfl (t := 64)
  case hg => (repeat (first | (refine heap_top _ _ _ ?_; simp; done) | (with_reducible refine heap_drawn _ _ _ ?_) | (with_reducible refine heap_under _ _ _ ?_ ?_; (simp <;> omega))))
  case hi => kernel_rfl
  exact ⟨rfl, by (repeat (first | exact Stays.refl _ | (with_reducible refine Stays.drewN ?_ _) | (with_reducible refine Stays.alloc ?_ _) | (with_reducible refine Stays.drew ?_) | (refine Stays.trans ?_ ‹Stays _ _›)))⟩

/-- Two narrow words that are the same number. -/
theorem wide_same {a b : Nat} (h : can .f32 a = can .f32 b) {x y : Nat} (hx : FIs .f64 x ((can .f32 a).map wide)) (hy : FIs .f64 y ((can .f32 b).map wide)) : can .f64 x = can .f64 y := by
  rw [hx.out, hy.out, h]

theorem c_eqVec (a b c d e f : Nat) (w : World) (h0 : Hid (can .f32 a = can .f32 d)) (h1 : Hid (can .f32 b = can .f32 e)) (h2 : Hid (can .f32 c = can .f32 f)) :
    Calls Try.prog 76 #[.agg #[.float .f32 a, .float .f32 b, .float .f32 c], .agg #[.float .f32 d, .float .f32 e, .float .f32 f]] w fun e w' => e = .returned (.bool true) ∧ Stays w w' := by
  go_enter Try.func76, Try.ntmps76
  go_wp2
  refine wp_loop_rounds 4 ?_
  rw [rounds_succ]
  go_wp2
  have hcells := fun w1 (hw1 : Stays ((w.alloc (.cells #[.float .f32 a, .float .f32 b, .float .f32 c] 64)).alloc (.cells #[.float .f32 d, .float .f32 e, .float .f32 f] 64)) w1) => hw1.cells
  refine wp_region_soft_tail 9 (Stays.refl _) (fun f args v => v = .bool true) [] (by kernel_rfl) (by kernel_rfl) (fun _ h => by cases h) ?_
  simp only [List.take_succ_cons, List.take_zero, List.drop_succ_cons, List.drop_zero]
  repeat (first | ((with_reducible apply soft_det rfl); (case hA => rfl); (case h => (intro w1 hw1; have hc := hcells w1 hw1; go_simp; exact rfl)); go_simp) | ((with_reducible refine soft_widen rfl ?hA _ _ _ rfl _ rfl (some_of Try.underlying22) Try.underlying111 ?_); (case hA => rfl); intro r hr; go_simp))
  apply soft_call rfl
  case hA => rfl
  case h => intro w1 hw1; go_simp; exact ⟨rfl, rfl⟩
  case hc => exact fun w1 hw1 => (c_sameFloat _ _ w1 (wide_same h0.out ‹_› ‹_›)).mono fun e w' ⟨he, hw'⟩ => ⟨_, he, rfl, hw'⟩
  rintro v rfl
  go_simp
  (refine soft_nil ?_; rintro w2 ⟨hw2, _⟩; have hc2 := hw2.cells)
  go_wp2
  rw [rounds_succ]
  go_wp2
  refine wp_region_soft_tail 9 hw2 (fun f args v => v = .bool true) [] (by kernel_rfl) (by kernel_rfl) (fun _ h => by cases h) ?_
  simp only [List.take_succ_cons, List.take_zero, List.drop_succ_cons, List.drop_zero]
  repeat (first | ((with_reducible apply soft_det rfl); (case hA => rfl); (case h => (intro w1 hw1; have hc := hcells w1 hw1; go_simp; exact rfl)); go_simp) | ((with_reducible refine soft_widen rfl ?hA _ _ _ rfl _ rfl (some_of Try.underlying22) Try.underlying111 ?_); (case hA => rfl); intro r hr; go_simp))
  apply soft_call rfl
  case hA => rfl
  case h => intro w1 hw1; go_simp; exact ⟨rfl, rfl⟩
  case hc => exact fun w1 hw1 => (c_sameFloat _ _ w1 (wide_same h1.out ‹_› ‹_›)).mono fun e w' ⟨he, hw'⟩ => ⟨_, he, rfl, hw'⟩
  rintro v rfl
  go_simp
  (refine soft_nil ?_; rintro w2 ⟨hw2, _⟩; have hc2 := hw2.cells)
  go_wp2
  rw [rounds_succ]
  go_wp2
  refine wp_region_soft_tail 9 hw2 (fun f args v => v = .bool true) [] (by kernel_rfl) (by kernel_rfl) (fun _ h => by cases h) ?_
  simp only [List.take_succ_cons, List.take_zero, List.drop_succ_cons, List.drop_zero]
  repeat (first | ((with_reducible apply soft_det rfl); (case hA => rfl); (case h => (intro w1 hw1; have hc := hcells w1 hw1; go_simp; exact rfl)); go_simp) | ((with_reducible refine soft_widen rfl ?hA _ _ _ rfl _ rfl (some_of Try.underlying22) Try.underlying111 ?_); (case hA => rfl); intro r hr; go_simp))
  apply soft_call rfl
  case hA => rfl
  case h => intro w1 hw1; go_simp; exact ⟨rfl, rfl⟩
  case hc => exact fun w1 hw1 => (c_sameFloat _ _ w1 (wide_same h2.out ‹_› ‹_›)).mono fun e w' ⟨he, hw'⟩ => ⟨_, he, rfl, hw'⟩
  rintro v rfl
  go_simp
  (refine soft_nil ?_; rintro w2 ⟨hw2, _⟩; have hc2 := hw2.cells)
  go_wp2
  rw [rounds_succ]
  go_wp2
  go_ret
  exact ⟨rfl, Stays.trans (by (repeat (first | exact Stays.refl _ | (with_reducible refine Stays.drewN ?_ _) | (with_reducible refine Stays.alloc ?_ _) | (with_reducible refine Stays.drew ?_) | (refine Stays.trans ?_ ‹Stays _ _›)))) hw2⟩

theorem fop_congr {op : BinOp} {x x' y y' : Option Nat} (h1 : x = x') (h2 : y = y') : fop op .f32 x y = fop op .f32 x' y' := by rw [h1, h2]

def r_AddVec (a b c d e f : Nat) (v : Value) : Prop := ∃ x y z, v = .agg #[.float .f32 x, .float .f32 y, .float .f32 z] ∧ FIs .f32 x (fop .add .f32 (can .f32 a) (can .f32 d)) ∧ FIs .f32 y (fop .add .f32 (can .f32 b) (can .f32 e)) ∧ FIs .f32 z (fop .add .f32 (can .f32 c) (can .f32 f))

def r_SubVec (a b c d e f : Nat) (v : Value) : Prop := ∃ x y z, v = .agg #[.float .f32 x, .float .f32 y, .float .f32 z] ∧ FIs .f32 x (fop .sub .f32 (can .f32 a) (can .f32 d)) ∧ FIs .f32 y (fop .sub .f32 (can .f32 b) (can .f32 e)) ∧ FIs .f32 z (fop .sub .f32 (can .f32 c) (can .f32 f))

def r_ScaleVec (a b c d : Nat) (v : Value) : Prop := ∃ x y z, v = .agg #[.float .f32 x, .float .f32 y, .float .f32 z] ∧ FIs .f32 x (fop .mul .f32 (can .f32 a) (can .f32 d)) ∧ FIs .f32 y (fop .mul .f32 (can .f32 b) (can .f32 d)) ∧ FIs .f32 z (fop .mul .f32 (can .f32 c) (can .f32 d))

theorem c_implScaleVec (a b c d : Nat) (w : World) :
    Calls Try.prog 173 #[.agg #[.float .f32 a, .float .f32 b, .float .f32 c], .float .f32 d] w fun en w' => ∃ v, en = .returned v ∧ r_ScaleVec a b c d v ∧ Stays w w' := by
  go_enter Try.func173, Try.ntmps173
  go_wp2_with ((with_reducible refine wpList_fop rfl _ _ _ _ _ rfl rfl _ _ _ rfl rfl ?_); intro r n hr)
  apply end_agg rfl rfl rfl Try.underlying64 rfl (t := 64)
  case hg => (repeat (first | (refine heap_top _ _ _ ?_; simp; done) | (with_reducible refine heap_drawn _ _ _ ?_) | (with_reducible refine heap_under _ _ _ ?_ ?_; (simp <;> omega))))
  case hi => kernel_rfl
  case hR => exact ⟨_, rfl, ⟨_, _, _, rfl, ‹_›, ‹_›, ‹_›⟩, by (repeat (first | exact Stays.refl _ | (with_reducible refine Stays.drewN ?_ _) | (with_reducible refine Stays.alloc ?_ _) | (with_reducible refine Stays.drew ?_) | (refine Stays.trans ?_ ‹Stays _ _›)))⟩

def fdot (a b c d e f : Option Nat) : Option Nat := fop .add .f32 (fop .add .f32 (fop .mul .f32 a d) (fop .mul .f32 b e)) (fop .mul .f32 c f)

def r_DotVec (a b c d e f : Nat) (v : Value) : Prop := ∃ x, v = .float .f32 x ∧ FIs .f32 x (fdot (can .f32 a) (can .f32 b) (can .f32 c) (can .f32 d) (can .f32 e) (can .f32 f))

theorem c_implDotVec (a b c d e f : Nat) (w : World) :
    Calls Try.prog 170 #[.agg #[.float .f32 a, .float .f32 b, .float .f32 c], .agg #[.float .f32 d, .float .f32 e, .float .f32 f]] w fun en w' => ∃ v, en = .returned v ∧ r_DotVec a b c d e f v ∧ Stays w w' := by
  go_enter Try.func170, Try.ntmps170
  go_wp2_with ((with_reducible refine wpList_fop rfl _ _ _ _ _ rfl rfl _ _ _ rfl rfl ?_); intro r n hr)
  go_ret
  rename_i r1 _ h1 r2 _ h2 r3 _ h3 r4 _ h4
  refine ⟨_, rfl, ⟨_, rfl, hr.of_eq ?_⟩, by (repeat (first | exact Stays.refl _ | (with_reducible refine Stays.drewN ?_ _) | (with_reducible refine Stays.alloc ?_ _) | (with_reducible refine Stays.drew ?_) | (refine Stays.trans ?_ ‹Stays _ _›)))⟩
  unfold fdot
  rw [h4.out, h3.out, h2.out, h1.out]

theorem c_specl01Dot (a b c d e f : Nat) (w : World) :
    Calls Try.prog 119 #[.agg #[.float .f32 a, .float .f32 b, .float .f32 c], .agg #[.float .f32 d, .float .f32 e, .float .f32 f]] w fun en w' => ∃ v, en = .returned v ∧ r_DotVec a b c d e f v ∧ Stays w w' := by
  go_enter Try.func119, Try.ntmps119
  go_wp2_with ((with_reducible refine wpList_fop rfl _ _ _ _ _ rfl rfl _ _ _ rfl rfl ?_); intro r n hr)
  go_ret
  rename_i r1 _ h1 r2 _ h2 r3 _ h3 r4 _ h4
  refine ⟨_, rfl, ⟨_, rfl, hr.of_eq ?_⟩, by (repeat (first | exact Stays.refl _ | (with_reducible refine Stays.drewN ?_ _) | (with_reducible refine Stays.alloc ?_ _) | (with_reducible refine Stays.drew ?_) | (refine Stays.trans ?_ ‹Stays _ _›)))⟩
  unfold fdot
  rw [h4.out, h3.out, h2.out, h1.out]

def r_CrossVec (a b c d e f : Nat) (v : Value) : Prop := ∃ x y z, v = .agg #[.float .f32 x, .float .f32 y, .float .f32 z] ∧ FIs .f32 x (fop .sub .f32 (fop .mul .f32 (can .f32 b) (can .f32 f)) (fop .mul .f32 (can .f32 c) (can .f32 e))) ∧ FIs .f32 y (fop .sub .f32 (fop .mul .f32 (can .f32 c) (can .f32 d)) (fop .mul .f32 (can .f32 a) (can .f32 f))) ∧ FIs .f32 z (fop .sub .f32 (fop .mul .f32 (can .f32 a) (can .f32 e)) (fop .mul .f32 (can .f32 b) (can .f32 d)))

end Go.Proofs.Ytcopccniijkceaa
