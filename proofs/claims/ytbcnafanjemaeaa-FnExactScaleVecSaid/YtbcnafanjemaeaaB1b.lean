/- Contracts of CrossVec in the model. No condition. -/
import Derived.Test.YtbcnafanjemaeaaB1
namespace Go.Proofs.Ytbcnafanjemaeaa
open Go Go.RowKit
set_option linter.unusedVariables false

theorem c_specCrossVec (a b c d e f : Nat) (w : World) :
    Calls Try.prog 34 #[.agg #[.float .f32 a, .float .f32 b, .float .f32 c], .agg #[.float .f32 d, .float .f32 e, .float .f32 f]] w fun en w' => ∃ v, en = .returned v ∧ r_CrossVec a b c d e f v ∧ Stays w w' := by
  go_enter Try.func34, Try.ntmps34
  go_wp2_with fail
  refine (c_specl01Cross _ _ _ _ _ _ _).mono ?_
  rintro en w1 ⟨v, rfl, ⟨x, y, z, rfl, hx, hy, hz⟩, hw1⟩
  have hres : w1.heap[w.heap.size + 1 + 1]? = some (.cells #[.float .f32 0, .float .f32 0, .float .f32 0] 28 (0, 0)) := hw1.heap (by simp <;> omega) (by (repeat (first | (refine heap_top _ _ _ ?_; simp; done) | (with_reducible refine heap_drawn _ _ _ ?_) | (with_reducible refine heap_under _ _ _ ?_ ?_; (simp <;> omega)))))
  have hst : Stays w w1 := Stays.trans (by (repeat (first | exact Stays.refl _ | (with_reducible refine Stays.drewN ?_ _) | (with_reducible refine Stays.alloc ?_ _) | (with_reducible refine Stays.drew ?_) | (refine Stays.trans ?_ ‹Stays _ _›)))) hw1
  clear hw1
  rename_i hK
  refine hK _ _ ?_
  ((refine wpList_store_row rfl _ _ _ rfl _ _ _ rfl rfl hres ?hi ?ho ?h1 ?hB hst ?_); (case hi => kernel_rfl); (case ho => rfl); (case h1 => first | rfl | simp [Value.oneCell']); (case hB => first | omega | (simp <;> omega)); intro w2 hw2 hq2 _ _)
  go_wp2
  apply end_agg rfl rfl rfl Try.underlying28 rfl (t := 28)
  case hg => exact hq2
  case hi => kernel_rfl
  case hR => exact ⟨_, rfl, ⟨_, _, _, rfl, hx, hy, hz⟩, hw2⟩

end Go.Proofs.Ytbcnafanjemaeaa
