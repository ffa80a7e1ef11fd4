/- Contracts: AreNear of the model. No condition. -/
import Derived.Test.YtbcnafanjemaeaaB7
import Derived.Test.YtbcnafanjemaeaaSp
namespace Go.Proofs.Ytbcnafanjemaeaa
open Go Go.RowKit
set_option linter.unusedVariables false

theorem c_specAreNear (a b c d e f g : Nat) (w : World) :
    Calls Try.prog 40 #[.agg #[.float .f32 a, .float .f32 b, .float .f32 c], .agg #[.float .f32 d, .float .f32 e, .float .f32 f], .float .f32 g] w fun en w' => ∃ v, en = .returned v ∧ r_AreNear a b c d e f g v ∧ Stays w w' := by
  unfold r_AreNear
  have u0 : ((w.alloc (.cells #[.float .f32 a, .float .f32 b, .float .f32 c] 28)).alloc (.cells #[.float .f32 d, .float .f32 e, .float .f32 f] 28)).heap[w.heap.size]? = some (.cells #[.float .f32 a, .float .f32 b, .float .f32 c] 28 (0, 0)) := by (repeat (first | (refine heap_top _ _ _ ?_; simp; done) | (with_reducible refine heap_drawn _ _ _ ?_) | (with_reducible refine heap_under _ _ _ ?_ ?_; (simp <;> omega))))
  have u1 : ((w.alloc (.cells #[.float .f32 a, .float .f32 b, .float .f32 c] 28)).alloc (.cells #[.float .f32 d, .float .f32 e, .float .f32 f] 28)).heap[w.heap.size + 1]? = some (.cells #[.float .f32 d, .float .f32 e, .float .f32 f] 28 (0, 0)) := by (repeat (first | (refine heap_top _ _ _ ?_; simp; done) | (with_reducible refine heap_drawn _ _ _ ?_) | (with_reducible refine heap_under _ _ _ ?_ ?_; (simp <;> omega))))
  have hcells := fun w1 (hw1 : Stays ((w.alloc (.cells #[.float .f32 a, .float .f32 b, .float .f32 c] 28)).alloc (.cells #[.float .f32 d, .float .f32 e, .float .f32 f] 28)) w1) => And.intro (row_of hw1 u0) (row_of hw1 u1)
  clear u0 u1
  cases ha : nearB (can .f32 a) (can .f32 d) (can .f32 g)
  · have HA : Hid (nearB (can .f32 a) (can .f32 d) (can .f32 g) = _) := ha
    clear ha
    go_enter Try.func40, Try.ntmps40
    go_wp2
    refine wp_loop_rounds 4 ?_
    rw [rounds_succ]
    go_wp2
    refine wp_region_soft_tail 10 (Stays.refl _) (fun f args v => ∃ k, args = #[.float .f32 k] ∧ ∃ x, v = .float .f32 x ∧ FIs .f32 x ((can .f32 k).map bare)) [] (by kernel_rfl) (by kernel_rfl) (fun _ h => by cases h) ?_
    simp only [List.take_succ_cons, List.take_zero, List.drop_succ_cons, List.drop_zero]
    repeat (first | ((with_reducible apply soft_det rfl); (case hA => rfl); (case h => (intro w1 hw1; have hc := hcells w1 hw1; go_simp; exact rfl)); go_simp) | ((with_reducible refine soft_fop rfl ?hA _ _ _ _ _ rfl rfl _ _ _ rfl rfl ?_); (case hA => rfl); intro r hr; go_simp))
    apply soft_call rfl
    case hA => rfl
    case h => (intro w1 hw1; go_simp; exact ⟨rfl, rfl⟩)
    case hc => exact fun w1 hw1 => (c_l01Abs _ w1 hr.lt).mono fun e w' ⟨x, he, hx, hw'⟩ => ⟨_, he, ⟨_, rfl, _, rfl, hx⟩, hw'⟩
    rintro v ⟨k, hk, s, rfl, hs⟩
    obtain rfl : r = k := by simpa using hk
    have near := (near_of (b := g) hr hs).trans HA.out
    clear hr hs hk
    go_simp
    repeat ((with_reducible apply soft_det rfl); (case hA => rfl); (case h => (intro w1 hw1; have hc := hcells w1 hw1; go_simp; exact rfl)); go_simp)
    refine soft_nil ?_
    rintro w2 ⟨hw2, _⟩
    clear near
    go_wp2
    go_ret
    exact ⟨_, rfl, rfl, Stays.trans (by (repeat (first | exact Stays.refl _ | (with_reducible refine Stays.drewN ?_ _) | (with_reducible refine Stays.alloc ?_ _) | (with_reducible refine Stays.drew ?_) | (refine Stays.trans ?_ ‹Stays _ _›)))) hw2⟩
  · cases hb : nearB (can .f32 b) (can .f32 e) (can .f32 g)
    · have HA : Hid (nearB (can .f32 a) (can .f32 d) (can .f32 g) = _) := ha
      clear ha
      have HB : Hid (nearB (can .f32 b) (can .f32 e) (can .f32 g) = _) := hb
      clear hb
      go_enter Try.func40, Try.ntmps40
      go_wp2
      refine wp_loop_rounds 4 ?_
      rw [rounds_succ]
      go_wp2
      refine wp_region_soft_tail 10 (Stays.refl _) (fun f args v => ∃ k, args = #[.float .f32 k] ∧ ∃ x, v = .float .f32 x ∧ FIs .f32 x ((can .f32 k).map bare)) [] (by kernel_rfl) (by kernel_rfl) (fun _ h => by cases h) ?_
      simp only [List.take_succ_cons, List.take_zero, List.drop_succ_cons, List.drop_zero]
      repeat (first | ((with_reducible apply soft_det rfl); (case hA => rfl); (case h => (intro w1 hw1; have hc := hcells w1 hw1; go_simp; exact rfl)); go_simp) | ((with_reducible refine soft_fop rfl ?hA _ _ _ _ _ rfl rfl _ _ _ rfl rfl ?_); (case hA => rfl); intro r hr; go_simp))
      apply soft_call rfl
      case hA => rfl
      case h => (intro w1 hw1; go_simp; exact ⟨rfl, rfl⟩)
      case hc => exact fun w1 hw1 => (c_l01Abs _ w1 hr.lt).mono fun e w' ⟨x, he, hx, hw'⟩ => ⟨_, he, ⟨_, rfl, _, rfl, hx⟩, hw'⟩
      rintro v ⟨k, hk, s, rfl, hs⟩
      obtain rfl : r = k := by simpa using hk
      have near := (near_of (b := g) hr hs).trans HA.out
      clear hr hs hk
      go_simp
      repeat ((with_reducible apply soft_det rfl); (case hA => rfl); (case h => (intro w1 hw1; have hc := hcells w1 hw1; go_simp; exact rfl)); go_simp)
      refine soft_nil ?_
      rintro w2 ⟨hw2, _⟩
      clear near
      go_wp2
      rw [rounds_succ]
      go_wp2
      refine wp_region_soft_tail 10 hw2 (fun f args v => ∃ k, args = #[.float .f32 k] ∧ ∃ x, v = .float .f32 x ∧ FIs .f32 x ((can .f32 k).map bare)) [] (by kernel_rfl) (by kernel_rfl) (fun _ h => by cases h) ?_
      simp only [List.take_succ_cons, List.take_zero, List.drop_succ_cons, List.drop_zero]
      repeat (first | ((with_reducible apply soft_det rfl); (case hA => rfl); (case h => (intro w1 hw1; have hc := hcells w1 hw1; go_simp; exact rfl)); go_simp) | ((with_reducible refine soft_fop rfl ?hA _ _ _ _ _ rfl rfl _ _ _ rfl rfl ?_); (case hA => rfl); intro r hr; go_simp))
      apply soft_call rfl
      case hA => rfl
      case h => (intro w1 hw1; go_simp; exact ⟨rfl, rfl⟩)
      case hc => exact fun w1 hw1 => (c_l01Abs _ w1 hr.lt).mono fun e w' ⟨x, he, hx, hw'⟩ => ⟨_, he, ⟨_, rfl, _, rfl, hx⟩, hw'⟩
      rintro v ⟨k, hk, s, rfl, hs⟩
      obtain rfl : r = k := by simpa using hk
      have near := (near_of (b := g) hr hs).trans HB.out
      clear hr hs hk
      go_simp
      repeat ((with_reducible apply soft_det rfl); (case hA => rfl); (case h => (intro w1 hw1; have hc := hcells w1 hw1; go_simp; exact rfl)); go_simp)
      refine soft_nil ?_
      rintro w2 ⟨hw2, _⟩
      clear near
      go_wp2
      go_ret
      exact ⟨_, rfl, rfl, Stays.trans (by (repeat (first | exact Stays.refl _ | (with_reducible refine Stays.drewN ?_ _) | (with_reducible refine Stays.alloc ?_ _) | (with_reducible refine Stays.drew ?_) | (refine Stays.trans ?_ ‹Stays _ _›)))) hw2⟩
    · cases hc : nearB (can .f32 c) (can .f32 f) (can .f32 g)
      · have HA : Hid (nearB (can .f32 a) (can .f32 d) (can .f32 g) = _) := ha
        clear ha
        have HB : Hid (nearB (can .f32 b) (can .f32 e) (can .f32 g) = _) := hb
        clear hb
        have HC : Hid (nearB (can .f32 c) (can .f32 f) (can .f32 g) = _) := hc
        clear hc
        go_enter Try.func40, Try.ntmps40
        go_wp2
        refine wp_loop_rounds 4 ?_
        rw [rounds_succ]
        go_wp2
        refine wp_region_soft_tail 10 (Stays.refl _) (fun f args v => ∃ k, args = #[.float .f32 k] ∧ ∃ x, v = .float .f32 x ∧ FIs .f32 x ((can .f32 k).map bare)) [] (by kernel_rfl) (by kernel_rfl) (fun _ h => by cases h) ?_
        simp only [List.take_succ_cons, List.take_zero, List.drop_succ_cons, List.drop_zero]
        repeat (first | ((with_reducible apply soft_det rfl); (case hA => rfl); (case h => (intro w1 hw1; have hc := hcells w1 hw1; go_simp; exact rfl)); go_simp) | ((with_reducible refine soft_fop rfl ?hA _ _ _ _ _ rfl rfl _ _ _ rfl rfl ?_); (case hA => rfl); intro r hr; go_simp))
        apply soft_call rfl
        case hA => rfl
        case h => (intro w1 hw1; go_simp; exact ⟨rfl, rfl⟩)
        case hc => exact fun w1 hw1 => (c_l01Abs _ w1 hr.lt).mono fun e w' ⟨x, he, hx, hw'⟩ => ⟨_, he, ⟨_, rfl, _, rfl, hx⟩, hw'⟩
        rintro v ⟨k, hk, s, rfl, hs⟩
        obtain rfl : r = k := by simpa using hk
        have near := (near_of (b := g) hr hs).trans HA.out
        clear hr hs hk
        go_simp
        repeat ((with_reducible apply soft_det rfl); (case hA => rfl); (case h => (intro w1 hw1; have hc := hcells w1 hw1; go_simp; exact rfl)); go_simp)
        refine soft_nil ?_
        rintro w2 ⟨hw2, _⟩
        clear near
        go_wp2
        rw [rounds_succ]
        go_wp2
        refine wp_region_soft_tail 10 hw2 (fun f args v => ∃ k, args = #[.float .f32 k] ∧ ∃ x, v = .float .f32 x ∧ FIs .f32 x ((can .f32 k).map bare)) [] (by kernel_rfl) (by kernel_rfl) (fun _ h => by cases h) ?_
        simp only [List.take_succ_cons, List.take_zero, List.drop_succ_cons, List.drop_zero]
        repeat (first | ((with_reducible apply soft_det rfl); (case hA => rfl); (case h => (intro w1 hw1; have hc := hcells w1 hw1; go_simp; exact rfl)); go_simp) | ((with_reducible refine soft_fop rfl ?hA _ _ _ _ _ rfl rfl _ _ _ rfl rfl ?_); (case hA => rfl); intro r hr; go_simp))
        apply soft_call rfl
        case hA => rfl
        case h => (intro w1 hw1; go_simp; exact ⟨rfl, rfl⟩)
        case hc => exact fun w1 hw1 => (c_l01Abs _ w1 hr.lt).mono fun e w' ⟨x, he, hx, hw'⟩ => ⟨_, he, ⟨_, rfl, _, rfl, hx⟩, hw'⟩
        rintro v ⟨k, hk, s, rfl, hs⟩
        obtain rfl : r = k := by simpa using hk
        have near := (near_of (b := g) hr hs).trans HB.out
        clear hr hs hk
        go_simp
        repeat ((with_reducible apply soft_det rfl); (case hA => rfl); (case h => (intro w1 hw1; have hc := hcells w1 hw1; go_simp; exact rfl)); go_simp)
        refine soft_nil ?_
        rintro w2 ⟨hw2, _⟩
        clear near
        go_wp2
        rw [rounds_succ]
        go_wp2
        refine wp_region_soft_tail 10 hw2 (fun f args v => ∃ k, args = #[.float .f32 k] ∧ ∃ x, v = .float .f32 x ∧ FIs .f32 x ((can .f32 k).map bare)) [] (by kernel_rfl) (by kernel_rfl) (fun _ h => by cases h) ?_
        simp only [List.take_succ_cons, List.take_zero, List.drop_succ_cons, List.drop_zero]
        repeat (first | ((with_reducible apply soft_det rfl); (case hA => rfl); (case h => (intro w1 hw1; have hc := hcells w1 hw1; go_simp; exact rfl)); go_simp) | ((with_reducible refine soft_fop rfl ?hA _ _ _ _ _ rfl rfl _ _ _ rfl rfl ?_); (case hA => rfl); intro r hr; go_simp))
        apply soft_call rfl
        case hA => rfl
        case h => (intro w1 hw1; go_simp; exact ⟨rfl, rfl⟩)
        case hc => exact fun w1 hw1 => (c_l01Abs _ w1 hr.lt).mono fun e w' ⟨x, he, hx, hw'⟩ => ⟨_, he, ⟨_, rfl, _, rfl, hx⟩, hw'⟩
        rintro v ⟨k, hk, s, rfl, hs⟩
        obtain rfl : r = k := by simpa using hk
        have near := (near_of (b := g) hr hs).trans HC.out
        clear hr hs hk
        go_simp
        repeat ((with_reducible apply soft_det rfl); (case hA => rfl); (case h => (intro w1 hw1; have hc := hcells w1 hw1; go_simp; exact rfl)); go_simp)
        refine soft_nil ?_
        rintro w2 ⟨hw2, _⟩
        clear near
        go_wp2
        go_ret
        exact ⟨_, rfl, rfl, Stays.trans (by (repeat (first | exact Stays.refl _ | (with_reducible refine Stays.drewN ?_ _) | (with_reducible refine Stays.alloc ?_ _) | (with_reducible refine Stays.drew ?_) | (refine Stays.trans ?_ ‹Stays _ _›)))) hw2⟩
      · have HA : Hid (nearB (can .f32 a) (can .f32 d) (can .f32 g) = _) := ha
        clear ha
        have HB : Hid (nearB (can .f32 b) (can .f32 e) (can .f32 g) = _) := hb
        clear hb
        have HC : Hid (nearB (can .f32 c) (can .f32 f) (can .f32 g) = _) := hc
        clear hc
        go_enter Try.func40, Try.ntmps40
        go_wp2
        refine wp_loop_rounds 4 ?_
        rw [rounds_succ]
        go_wp2
        refine wp_region_soft_tail 10 (Stays.refl _) (fun f args v => ∃ k, args = #[.float .f32 k] ∧ ∃ x, v = .float .f32 x ∧ FIs .f32 x ((can .f32 k).map bare)) [] (by kernel_rfl) (by kernel_rfl) (fun _ h => by cases h) ?_
        simp only [List.take_succ_cons, List.take_zero, List.drop_succ_cons, List.drop_zero]
        repeat (first | ((with_reducible apply soft_det rfl); (case hA => rfl); (case h => (intro w1 hw1; have hc := hcells w1 hw1; go_simp; exact rfl)); go_simp) | ((with_reducible refine soft_fop rfl ?hA _ _ _ _ _ rfl rfl _ _ _ rfl rfl ?_); (case hA => rfl); intro r hr; go_simp))
        apply soft_call rfl
        case hA => rfl
        case h => (intro w1 hw1; go_simp; exact ⟨rfl, rfl⟩)
        case hc => exact fun w1 hw1 => (c_l01Abs _ w1 hr.lt).mono fun e w' ⟨x, he, hx, hw'⟩ => ⟨_, he, ⟨_, rfl, _, rfl, hx⟩, hw'⟩
        rintro v ⟨k, hk, s, rfl, hs⟩
        obtain rfl : r = k := by simpa using hk
        have near := (near_of (b := g) hr hs).trans HA.out
        clear hr hs hk
        go_simp
        repeat ((with_reducible apply soft_det rfl); (case hA => rfl); (case h => (intro w1 hw1; have hc := hcells w1 hw1; go_simp; exact rfl)); go_simp)
        refine soft_nil ?_
        rintro w2 ⟨hw2, _⟩
        clear near
        go_wp2
        rw [rounds_succ]
        go_wp2
        refine wp_region_soft_tail 10 hw2 (fun f args v => ∃ k, args = #[.float .f32 k] ∧ ∃ x, v = .float .f32 x ∧ FIs .f32 x ((can .f32 k).map bare)) [] (by kernel_rfl) (by kernel_rfl) (fun _ h => by cases h) ?_
        simp only [List.take_succ_cons, List.take_zero, List.drop_succ_cons, List.drop_zero]
        repeat (first | ((with_reducible apply soft_det rfl); (case hA => rfl); (case h => (intro w1 hw1; have hc := hcells w1 hw1; go_simp; exact rfl)); go_simp) | ((with_reducible refine soft_fop rfl ?hA _ _ _ _ _ rfl rfl _ _ _ rfl rfl ?_); (case hA => rfl); intro r hr; go_simp))
        apply soft_call rfl
        case hA => rfl
        case h => (intro w1 hw1; go_simp; exact ⟨rfl, rfl⟩)
        case hc => exact fun w1 hw1 => (c_l01Abs _ w1 hr.lt).mono fun e w' ⟨x, he, hx, hw'⟩ => ⟨_, he, ⟨_, rfl, _, rfl, hx⟩, hw'⟩
        rintro v ⟨k, hk, s, rfl, hs⟩
        obtain rfl : r = k := by simpa using hk
        have near := (near_of (b := g) hr hs).trans HB.out
        clear hr hs hk
        go_simp
        repeat ((with_reducible apply soft_det rfl); (case hA => rfl); (case h => (intro w1 hw1; have hc := hcells w1 hw1; go_simp; exact rfl)); go_simp)
        refine soft_nil ?_
        rintro w2 ⟨hw2, _⟩
        clear near
        go_wp2
        rw [rounds_succ]
        go_wp2
        refine wp_region_soft_tail 10 hw2 (fun f args v => ∃ k, args = #[.float .f32 k] ∧ ∃ x, v = .float .f32 x ∧ FIs .f32 x ((can .f32 k).map bare)) [] (by kernel_rfl) (by kernel_rfl) (fun _ h => by cases h) ?_
        simp only [List.take_succ_cons, List.take_zero, List.drop_succ_cons, List.drop_zero]
        repeat (first | ((with_reducible apply soft_det rfl); (case hA => rfl); (case h => (intro w1 hw1; have hc := hcells w1 hw1; go_simp; exact rfl)); go_simp) | ((with_reducible refine soft_fop rfl ?hA _ _ _ _ _ rfl rfl _ _ _ rfl rfl ?_); (case hA => rfl); intro r hr; go_simp))
        apply soft_call rfl
        case hA => rfl
        case h => (intro w1 hw1; go_simp; exact ⟨rfl, rfl⟩)
        case hc => exact fun w1 hw1 => (c_l01Abs _ w1 hr.lt).mono fun e w' ⟨x, he, hx, hw'⟩ => ⟨_, he, ⟨_, rfl, _, rfl, hx⟩, hw'⟩
        rintro v ⟨k, hk, s, rfl, hs⟩
        obtain rfl : r = k := by simpa using hk
        have near := (near_of (b := g) hr hs).trans HC.out
        clear hr hs hk
        go_simp
        repeat ((with_reducible apply soft_det rfl); (case hA => rfl); (case h => (intro w1 hw1; have hc := hcells w1 hw1; go_simp; exact rfl)); go_simp)
        refine soft_nil ?_
        rintro w2 ⟨hw2, _⟩
        clear near
        go_wp2
        rw [rounds_succ]
        go_wp2
        go_ret
        exact ⟨_, rfl, rfl, Stays.trans (by (repeat (first | exact Stays.refl _ | (with_reducible refine Stays.drewN ?_ _) | (with_reducible refine Stays.alloc ?_ _) | (with_reducible refine Stays.drew ?_) | (refine Stays.trans ?_ ‹Stays _ _›)))) hw2⟩
end Go.Proofs.Ytbcnafanjemaeaa
