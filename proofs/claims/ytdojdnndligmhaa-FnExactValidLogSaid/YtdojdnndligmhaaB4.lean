/- Contracts: SameVec of the program. No condition. -/
import Derived.ChangeKeysEq
import Derived.Laws.StructEq
import Derived.Test.YtdojdnndligmhaaB3
namespace Go.Proofs.Ytdojdnndligmhaa
open Go Go.RowKit
set_option linter.unusedVariables false

set_option maxRecDepth 100000 in
theorem eql_u32s (a b c d e f : Int) (w : World) : (Op.equalIn 10000 133 (.agg #[.int .u32 a, .int .u32 b, .int .u32 c]) (.agg #[.int .u32 d, .int .u32 e, .int .u32 f])).run Try.prog w = .ok ((a == d) && (b == e) && (c == f)) w := by
  obtain ⟨i, hi⟩ : ∃ i, Try.prog.info? 131 = some i := ⟨_, rfl⟩
  have hc : Try.prog.cellsOf 131 = 1 := by kernel_rfl
  rw [run_equalIn_array w 9999 _ _ Try.underlying133 hi, hc]
  have hr : List.range 3 = [0, 1, 2] := rfl
  rw [hr]
  have p0 : ∀ (x y z : Int) (w : World), (part 131 #[.int .u32 x, .int .u32 y, .int .u32 z] (0 * 1)).run Try.prog w = .ok (.int .u32 x) w := fun _ _ _ _ => by kernel_rfl
  have p1 : ∀ (x y z : Int) (w : World), (part 131 #[.int .u32 x, .int .u32 y, .int .u32 z] (1 * 1)).run Try.prog w = .ok (.int .u32 y) w := fun _ _ _ _ => by kernel_rfl
  have p2 : ∀ (x y z : Int) (w : World), (part 131 #[.int .u32 x, .int .u32 y, .int .u32 z] (2 * 1)).run Try.prog w = .ok (.int .u32 z) w := fun _ _ _ _ => by kernel_rfl
  have q : ∀ (x y : Int) (w : World), (Op.equalIn 9999 131 (.int .u32 x) (.int .u32 y)).run Try.prog w = .ok (x == y) w := fun x y w => run_equalIn_int w 9998 _ .u32 .u32 x y Try.underlying131
  simp only [Op.eqItems, Sem.run_bind, p0, q, Result.andThen_ok]
  cases a == d
  · simp
  · simp only [Bool.not_true, Bool.false_eq_true, if_false, Sem.run_bind, p1, q, Result.andThen_ok]
    cases b == e
    · simp
    · simp only [Bool.not_true, Bool.false_eq_true, if_false, Sem.run_bind, p2, q, Result.andThen_ok]
      cases c == f <;> simp

set_option maxRecDepth 100000 in
theorem guard_u32s (x y : Operand) (a b : Array Value) (w : World) : (eqGuard .eql 133 x y (.agg a) (.agg b)).run Try.prog w = .ok () w :=
  run_eqGuard_agg w .eql _ x y a b (by kernel_rfl)

set_option maxRecDepth 100000 in
theorem c_implSameVec (a b c d e f : Nat) (w : World) :
    Calls Try.prog 72 #[.agg #[.float .f32 a, .float .f32 b, .float .f32 c], .agg #[.float .f32 d, .float .f32 e, .float .f32 f]] w fun en w' => ∃ v, en = .returned v ∧ r_SameVec a b c d e f v ∧ Stays w w' := by
  go_enter Try.func72, Try.ntmps72
  go_wp2
  have u0 : ((w.alloc (.cells #[.float .f32 a, .float .f32 b, .float .f32 c] 24)).alloc (.cells #[.float .f32 d, .float .f32 e, .float .f32 f] 24)).heap[w.heap.size]? = some (.cells #[.float .f32 a, .float .f32 b, .float .f32 c] 24 (0, 0)) := by (repeat (first | (refine heap_top _ _ _ ?_; simp; done) | (with_reducible refine heap_drawn _ _ _ ?_) | (with_reducible refine heap_under _ _ _ ?_ ?_; (simp <;> omega))))
  have u1 : ((w.alloc (.cells #[.float .f32 a, .float .f32 b, .float .f32 c] 24)).alloc (.cells #[.float .f32 d, .float .f32 e, .float .f32 f] 24)).heap[w.heap.size + 1]? = some (.cells #[.float .f32 d, .float .f32 e, .float .f32 f] 24 (0, 0)) := by (repeat (first | (refine heap_top _ _ _ ?_; simp; done) | (with_reducible refine heap_drawn _ _ _ ?_) | (with_reducible refine heap_under _ _ _ ?_ ?_; (simp <;> omega))))
  have hcells := fun w1 (hw1 : Stays ((w.alloc (.cells #[.float .f32 a, .float .f32 b, .float .f32 c] 24)).alloc (.cells #[.float .f32 d, .float .f32 e, .float .f32 f] 24)) w1) => And.intro (row_of hw1 u0) (row_of hw1 u1)
  refine wp_region_soft_tail 5 (Stays.refl ((w.alloc (.cells #[.float .f32 a, .float .f32 b, .float .f32 c] 24)).alloc (.cells #[.float .f32 d, .float .f32 e, .float .f32 f] 24))) (fun f args v => ∃ k l m, args = #[.agg #[.float .f32 k, .float .f32 l, .float .f32 m]] ∧ v = .agg #[.int .u32 (bitsOf k), .int .u32 (bitsOf l), .int .u32 (bitsOf m)]) [] (by kernel_rfl) (by kernel_rfl) (fun _ h => by cases h) ?_
  simp only [List.take_succ_cons, List.take_zero, List.drop_succ_cons, List.drop_zero]
  repeat ((with_reducible apply soft_det rfl); (case hA => rfl); (case h => (intro w1 hw1; have hc := hcells w1 hw1; go_simp; exact rfl)); go_simp)
  apply soft_call rfl
  case hA => rfl
  case h => (intro w1 hw1; go_simp; exact ⟨rfl, rfl⟩)
  case hc => exact fun w1 hw1 => (c_vecBits _ _ _ w1).mono fun e w' ⟨he, hw'⟩ => ⟨_, he, ⟨_, _, _, rfl, rfl⟩, hw'⟩
  rintro v ⟨k, l, m, hk, rfl⟩; obtain ⟨rfl, rfl, rfl⟩ : a = k ∧ b = l ∧ c = m := by simpa using hk
  go_simp
  repeat ((with_reducible apply soft_det rfl); (case hA => rfl); (case h => (intro w1 hw1; have hc := hcells w1 hw1; go_simp; exact rfl)); go_simp)
  apply soft_call rfl
  case hA => rfl
  case h => (intro w1 hw1; go_simp; exact ⟨rfl, rfl⟩)
  case hc => exact fun w1 hw1 => (c_vecBits _ _ _ w1).mono fun e w' ⟨he, hw'⟩ => ⟨_, he, ⟨_, _, _, rfl, rfl⟩, hw'⟩
  rintro v ⟨k, l, m, hk, rfl⟩; obtain ⟨rfl, rfl, rfl⟩ : d = k ∧ e = l ∧ f = m := by simpa using hk
  go_simp
  go_simp
  refine soft_det rfl ?hA (v := .bool (((bitsOf a : Int) == bitsOf d) && ((bitsOf b : Int) == bitsOf e) && ((bitsOf c : Int) == bitsOf f))) ?h ?hK
  case hA => rfl
  case h => intro w1 hw1; have heq := eql_u32s (bitsOf a) (bitsOf b) (bitsOf c) (bitsOf d) (bitsOf e) (bitsOf f) w1; have hgd := guard_u32s; go_simp
  case hK =>
  go_simp
  refine soft_nil ?_
  rintro w2 ⟨hw2, _⟩
  go_wp2
  go_ret
  refine ⟨_, rfl, ?_, Stays.trans (by (repeat (first | exact Stays.refl _ | (with_reducible refine Stays.drewN ?_ _) | (with_reducible refine Stays.alloc ?_ _) | (with_reducible refine Stays.drew ?_) | (refine Stays.trans ?_ ‹Stays _ _›)))) hw2⟩
  unfold r_SameVec sameV
  rw [same_iff, same_iff, same_iff]
  rfl

end Go.Proofs.Ytdojdnndligmhaa
