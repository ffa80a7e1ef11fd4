/- The walk of the law FnExactCodeName: it returns true. No condition. -/
import Derived.Test.YtbcnafanjemaeaaA0
namespace Go.Proofs.Ytbcnafanjemaeaa
open Go Go.RowKit
set_option linter.unusedVariables false

set_option maxHeartbeats 1000000 in
theorem w_CodeName (a0 : Int) (w : World) (_ : (Lit.int .i64 a0).wf = true) :
    Calls Try.prog 3 #[.int .i64 a0] w fun e w' => e = .returned (.bool true) ∧ Below w.heap.size w w' := by
  by_cases h : 0 ≤ a0 ∧ a0 ≤ 8
  · have h' : a0 = 0 ∨ a0 = 1 ∨ a0 = 2 ∨ a0 = 3 ∨ a0 = 4 ∨ a0 = 5 ∨ a0 = 6 ∨ a0 = 7 ∨ a0 = 8 := by omega
    clear h
    rcases h' with rfl | rfl | rfl | rfl | rfl | rfl | rfl | rfl | rfl
    all_goals
      go_enter Try.func3, Try.ntmps3
      go_wp2
      go_ret
      refine ⟨rfl, ?_⟩
      show Stays w _
      (repeat (first | exact Stays.refl _ | (with_reducible refine Stays.drewN ?_ _) | (with_reducible refine Stays.alloc ?_ _) | (with_reducible refine Stays.drew ?_) | (refine Stays.trans ?_ ‹Stays _ _›)))
  · have n0 : (a0 == 0) = false := by simp; omega
    have n1 : (a0 == 1) = false := by simp; omega
    have n2 : (a0 == 2) = false := by simp; omega
    have n3 : (a0 == 3) = false := by simp; omega
    have n4 : (a0 == 4) = false := by simp; omega
    have n5 : (a0 == 5) = false := by simp; omega
    have n6 : (a0 == 6) = false := by simp; omega
    have n7 : (a0 == 7) = false := by simp; omega
    have n8 : (a0 == 8) = false := by simp; omega
    have h' : a0 < 0 ∨ 8 < a0 := by omega
    clear h
    rcases h' with h | h
    · have q0 : decide (0 ≤ a0) = false := by simp; omega
      go_enter Try.func3, Try.ntmps3
      go_wp2
      go_ret
      refine ⟨rfl, ?_⟩
      show Stays w _
      (repeat (first | exact Stays.refl _ | (with_reducible refine Stays.drewN ?_ _) | (with_reducible refine Stays.alloc ?_ _) | (with_reducible refine Stays.drew ?_) | (refine Stays.trans ?_ ‹Stays _ _›)))
    · have q0 : decide (a0 ≤ 8) = false := by simp; omega
      go_enter Try.func3, Try.ntmps3
      go_wp2
      go_ret
      refine ⟨rfl, ?_⟩
      show Stays w _
      (repeat (first | exact Stays.refl _ | (with_reducible refine Stays.drewN ?_ _) | (with_reducible refine Stays.alloc ?_ _) | (with_reducible refine Stays.drew ?_) | (refine Stays.trans ?_ ‹Stays _ _›)))
end Go.Proofs.Ytbcnafanjemaeaa
