/- Contracts: SameMat. No condition. -/
import Derived.ChangeKeysEq
import Derived.Laws.StructEq
import Derived.Test.YtbcnafanjemaeacB3
import Derived.Test.YtbcnafanjemaeacSp
namespace Go.Proofs.Ytbcnafanjemaeac
open Go Go.RowKit
set_option linter.unusedVariables false

theorem eqRow (k : Nat) (a b c d e f : Int) (w : World) : (Op.equalIn (k + 2) 47 (.agg #[.int .u32 a, .int .u32 b, .int .u32 c]) (.agg #[.int .u32 d, .int .u32 e, .int .u32 f])).run Try.prog w = .ok ((a == d) && (b == e) && (c == f)) w := by
  obtain ⟨i, hi⟩ : ∃ i, Try.prog.info? 46 = some i := ⟨_, rfl⟩
  have hc : Try.prog.cellsOf 46 = 1 := by kernel_rfl
  rw [run_equalIn_array w (k + 1) _ _ Try.underlying47 hi, hc]
  have hr : List.range 3 = [0, 1, 2] := rfl
  rw [hr]
  have p0 : ∀ (x y z : Int) (w : World), (part 46 #[.int .u32 x, .int .u32 y, .int .u32 z] (0 * 1)).run Try.prog w = .ok (.int .u32 x) w := fun _ _ _ _ => by kernel_rfl
  have p1 : ∀ (x y z : Int) (w : World), (part 46 #[.int .u32 x, .int .u32 y, .int .u32 z] (1 * 1)).run Try.prog w = .ok (.int .u32 y) w := fun _ _ _ _ => by kernel_rfl
  have p2 : ∀ (x y z : Int) (w : World), (part 46 #[.int .u32 x, .int .u32 y, .int .u32 z] (2 * 1)).run Try.prog w = .ok (.int .u32 z) w := fun _ _ _ _ => by kernel_rfl
  have q : ∀ (x y : Int) (w : World), (Op.equalIn (k + 1) 46 (.int .u32 x) (.int .u32 y)).run Try.prog w = .ok (x == y) w := fun x y w => run_equalIn_int w k _ .u32 .u32 x y Try.underlying46
  simp only [Op.eqItems, Sem.run_bind, p0, q, Result.andThen_ok]
  cases a == d
  · simp
  · simp only [Bool.not_true, Bool.false_eq_true, if_false, Sem.run_bind, p1, q, Result.andThen_ok]
    cases b == e
    · simp
    · simp only [Bool.not_true, Bool.false_eq_true, if_false, Sem.run_bind, p2, q, Result.andThen_ok]
      cases c == f <;> simp

theorem eqGrid (a0 a1 a2 a3 a4 a5 a6 a7 a8 b0 b1 b2 b3 b4 b5 b6 b7 b8 : Int) (w : World) : (Op.equalIn 10000 48 (.agg #[.int .u32 a0, .int .u32 a1, .int .u32 a2, .int .u32 a3, .int .u32 a4, .int .u32 a5, .int .u32 a6, .int .u32 a7, .int .u32 a8]) (.agg #[.int .u32 b0, .int .u32 b1, .int .u32 b2, .int .u32 b3, .int .u32 b4, .int .u32 b5, .int .u32 b6, .int .u32 b7, .int .u32 b8])).run Try.prog w = .ok (((a0 == b0) && (a1 == b1) && (a2 == b2)) && ((a3 == b3) && (a4 == b4) && (a5 == b5)) && ((a6 == b6) && (a7 == b7) && (a8 == b8))) w := by
  obtain ⟨i, hi⟩ : ∃ i, Try.prog.info? 47 = some i := ⟨_, rfl⟩
  have hc : Try.prog.cellsOf 47 = 3 := by kernel_rfl
  rw [run_equalIn_array w 9999 _ _ Try.underlying48 hi, hc]
  have hr : List.range 3 = [0, 1, 2] := rfl
  rw [hr]
  have p0 : ∀ (x0 x1 x2 x3 x4 x5 x6 x7 x8 : Int) (w : World), (part 47 #[.int .u32 x0, .int .u32 x1, .int .u32 x2, .int .u32 x3, .int .u32 x4, .int .u32 x5, .int .u32 x6, .int .u32 x7, .int .u32 x8] (0 * 3)).run Try.prog w = .ok (.agg #[.int .u32 x0, .int .u32 x1, .int .u32 x2]) w := fun _ _ _ _ _ _ _ _ _ _  => by kernel_rfl
  have p1 : ∀ (x0 x1 x2 x3 x4 x5 x6 x7 x8 : Int) (w : World), (part 47 #[.int .u32 x0, .int .u32 x1, .int .u32 x2, .int .u32 x3, .int .u32 x4, .int .u32 x5, .int .u32 x6, .int .u32 x7, .int .u32 x8] (1 * 3)).run Try.prog w = .ok (.agg #[.int .u32 x3, .int .u32 x4, .int .u32 x5]) w := fun _ _ _ _ _ _ _ _ _ _  => by kernel_rfl
  have p2 : ∀ (x0 x1 x2 x3 x4 x5 x6 x7 x8 : Int) (w : World), (part 47 #[.int .u32 x0, .int .u32 x1, .int .u32 x2, .int .u32 x3, .int .u32 x4, .int .u32 x5, .int .u32 x6, .int .u32 x7, .int .u32 x8] (2 * 3)).run Try.prog w = .ok (.agg #[.int .u32 x6, .int .u32 x7, .int .u32 x8]) w := fun _ _ _ _ _ _ _ _ _ _  => by kernel_rfl
  have q : ∀ (a b c d e f : Int) (w : World), (Op.equalIn 9999 47 (.agg #[.int .u32 a, .int .u32 b, .int .u32 c]) (.agg #[.int .u32 d, .int .u32 e, .int .u32 f])).run Try.prog w = .ok ((a == d) && (b == e) && (c == f)) w := fun a b c d e f w => eqRow 9997 a b c d e f w
  simp only [Op.eqItems, Sem.run_bind, p0, q, Result.andThen_ok]
  cases ((a0 == b0) && (a1 == b1) && (a2 == b2))
  · simp
  · simp only [Bool.not_true, Bool.false_eq_true, if_false, Sem.run_bind, p1, q, Result.andThen_ok]
    cases ((a3 == b3) && (a4 == b4) && (a5 == b5))
    · simp
    · simp only [Bool.not_true, Bool.false_eq_true, if_false, Sem.run_bind, p2, q, Result.andThen_ok]
      cases ((a6 == b6) && (a7 == b7) && (a8 == b8)) <;> simp

theorem guard_grid (x y : Operand) (a b : Array Value) (w : World) : (eqGuard .eql 48 x y (.agg a) (.agg b)).run Try.prog w = .ok () w :=
  run_eqGuard_agg w .eql _ x y a b (by kernel_rfl)

def sameM (a0 a1 a2 a3 a4 a5 a6 a7 a8 b0 b1 b2 b3 b4 b5 b6 b7 b8 : Nat) : Bool := sameV a0 a1 a2 b0 b1 b2 && sameV a3 a4 a5 b3 b4 b5 && sameV a6 a7 a8 b6 b7 b8

def r_SameMat (a0 a1 a2 a3 a4 a5 a6 a7 a8 b0 b1 b2 b3 b4 b5 b6 b7 b8 : Nat) (v : Value) : Prop := v = .bool (sameM a0 a1 a2 a3 a4 a5 a6 a7 a8 b0 b1 b2 b3 b4 b5 b6 b7 b8)

theorem c_specl01SameMat (a0 a1 a2 a3 a4 a5 a6 a7 a8 b0 b1 b2 b3 b4 b5 b6 b7 b8 : Nat) (w : World) :
    Calls Try.prog 35 #[.agg #[.float .f32 a0, .float .f32 a1, .float .f32 a2, .float .f32 a3, .float .f32 a4, .float .f32 a5, .float .f32 a6, .float .f32 a7, .float .f32 a8], .agg #[.float .f32 b0, .float .f32 b1, .float .f32 b2, .float .f32 b3, .float .f32 b4, .float .f32 b5, .float .f32 b6, .float .f32 b7, .float .f32 b8]] w fun en w' => ∃ v, en = .returned v ∧ r_SameMat a0 a1 a2 a3 a4 a5 a6 a7 a8 b0 b1 b2 b3 b4 b5 b6 b7 b8 v ∧ Stays w w' := by
  unfold r_SameMat sameM
  have u0 : ((w.alloc (.cells #[.float .f32 a0, .float .f32 a1, .float .f32 a2, .float .f32 a3, .float .f32 a4, .float .f32 a5, .float .f32 a6, .float .f32 a7, .float .f32 a8] 26)).alloc (.cells #[.float .f32 b0, .float .f32 b1, .float .f32 b2, .float .f32 b3, .float .f32 b4, .float .f32 b5, .float .f32 b6, .float .f32 b7, .float .f32 b8] 26)).heap[w.heap.size]? = some (.cells #[.float .f32 a0, .float .f32 a1, .float .f32 a2, .float .f32 a3, .float .f32 a4, .float .f32 a5, .float .f32 a6, .float .f32 a7, .float .f32 a8] 26 (0, 0)) := by (repeat (first | (refine heap_top _ _ _ ?_; simp; done) | (with_reducible refine heap_drawn _ _ _ ?_) | (with_reducible refine heap_under _ _ _ ?_ ?_; (simp <;> omega))))
  have u1 : ((w.alloc (.cells #[.float .f32 a0, .float .f32 a1, .float .f32 a2, .float .f32 a3, .float .f32 a4, .float .f32 a5, .float .f32 a6, .float .f32 a7, .float .f32 a8] 26)).alloc (.cells #[.float .f32 b0, .float .f32 b1, .float .f32 b2, .float .f32 b3, .float .f32 b4, .float .f32 b5, .float .f32 b6, .float .f32 b7, .float .f32 b8] 26)).heap[w.heap.size + 1]? = some (.cells #[.float .f32 b0, .float .f32 b1, .float .f32 b2, .float .f32 b3, .float .f32 b4, .float .f32 b5, .float .f32 b6, .float .f32 b7, .float .f32 b8] 26 (0, 0)) := by (repeat (first | (refine heap_top _ _ _ ?_; simp; done) | (with_reducible refine heap_drawn _ _ _ ?_) | (with_reducible refine heap_under _ _ _ ?_ ?_; (simp <;> omega))))
  have hA : Hid (∀ w1, Stays ((w.alloc (.cells #[.float .f32 a0, .float .f32 a1, .float .f32 a2, .float .f32 a3, .float .f32 a4, .float .f32 a5, .float .f32 a6, .float .f32 a7, .float .f32 a8] 26)).alloc (.cells #[.float .f32 b0, .float .f32 b1, .float .f32 b2, .float .f32 b3, .float .f32 b4, .float .f32 b5, .float .f32 b6, .float .f32 b7, .float .f32 b8] 26)) w1 → (∀ i, w1.cell? ⟨w.heap.size, i, none⟩ = #[.float .f32 a0, .float .f32 a1, .float .f32 a2, .float .f32 a3, .float .f32 a4, .float .f32 a5, .float .f32 a6, .float .f32 a7, .float .f32 a8][i]?) ∧ (∀ i, w1.cell? ⟨w.heap.size + 1, i, none⟩ = #[.float .f32 b0, .float .f32 b1, .float .f32 b2, .float .f32 b3, .float .f32 b4, .float .f32 b5, .float .f32 b6, .float .f32 b7, .float .f32 b8][i]?)) := fun w1 h => ⟨row_of h u0, row_of h u1⟩
  clear u0 u1
  have hS : Stays ((w.alloc (.cells #[.float .f32 a0, .float .f32 a1, .float .f32 a2, .float .f32 a3, .float .f32 a4, .float .f32 a5, .float .f32 a6, .float .f32 a7, .float .f32 a8] 26)).alloc (.cells #[.float .f32 b0, .float .f32 b1, .float .f32 b2, .float .f32 b3, .float .f32 b4, .float .f32 b5, .float .f32 b6, .float .f32 b7, .float .f32 b8] 26)) ((w.alloc (.cells #[.float .f32 a0, .float .f32 a1, .float .f32 a2, .float .f32 a3, .float .f32 a4, .float .f32 a5, .float .f32 a6, .float .f32 a7, .float .f32 a8] 26)).alloc (.cells #[.float .f32 b0, .float .f32 b1, .float .f32 b2, .float .f32 b3, .float .f32 b4, .float .f32 b5, .float .f32 b6, .float .f32 b7, .float .f32 b8] 26)) := Stays.refl _
  cases ha : sameV a0 a1 a2 b0 b1 b2 <;> cases hb : sameV a3 a4 a5 b3 b4 b5
  all_goals
    go_enter Try.func35, Try.ntmps35
    go_wp2_with (go_at_call 49; refine (c_specl01SameVec _ _ _ _ _ _ _).mono ?_; rintro en w1 ⟨v, rfl, rfl, hw1⟩; replace hS := Stays.trans hS hw1; clear hw1; have hc := hA.out _ hS)
    go_ret
    exact ⟨_, rfl, rfl, Stays.trans (by (repeat (first | exact Stays.refl _ | (with_reducible refine Stays.drewN ?_ _) | (with_reducible refine Stays.alloc ?_ _) | (with_reducible refine Stays.drew ?_) | (refine Stays.trans ?_ ‹Stays _ _›)))) hS⟩

theorem c_specSameMat (a0 a1 a2 a3 a4 a5 a6 a7 a8 b0 b1 b2 b3 b4 b5 b6 b7 b8 : Nat) (w : World) :
    Calls Try.prog 14 #[.agg #[.float .f32 a0, .float .f32 a1, .float .f32 a2, .float .f32 a3, .float .f32 a4, .float .f32 a5, .float .f32 a6, .float .f32 a7, .float .f32 a8], .agg #[.float .f32 b0, .float .f32 b1, .float .f32 b2, .float .f32 b3, .float .f32 b4, .float .f32 b5, .float .f32 b6, .float .f32 b7, .float .f32 b8]] w fun en w' => ∃ v, en = .returned v ∧ r_SameMat a0 a1 a2 a3 a4 a5 a6 a7 a8 b0 b1 b2 b3 b4 b5 b6 b7 b8 v ∧ Stays w w' := by
  go_enter Try.func14, Try.ntmps14
  go_wp2_with (go_at_call 35; refine (c_specl01SameMat _ _ _ _ _ _ _ _ _ _ _ _ _ _ _ _ _ _  _).mono ?_; rintro en w1 ⟨v, rfl, rfl, hw1⟩)
  go_ret
  exact ⟨_, rfl, rfl, by (repeat (first | exact Stays.refl _ | (with_reducible refine Stays.drewN ?_ _) | (with_reducible refine Stays.alloc ?_ _) | (with_reducible refine Stays.drew ?_) | (refine Stays.trans ?_ ‹Stays _ _›)))⟩

theorem c_matBits (a0 a1 a2 a3 a4 a5 a6 a7 a8 : Nat) (w : World) :
    Calls Try.prog 36 #[.agg #[.float .f32 a0, .float .f32 a1, .float .f32 a2, .float .f32 a3, .float .f32 a4, .float .f32 a5, .float .f32 a6, .float .f32 a7, .float .f32 a8]] w fun en w' => en = .returned (.agg #[.int .u32 (bitsOf a0), .int .u32 (bitsOf a1), .int .u32 (bitsOf a2), .int .u32 (bitsOf a3), .int .u32 (bitsOf a4), .int .u32 (bitsOf a5), .int .u32 (bitsOf a6), .int .u32 (bitsOf a7), .int .u32 (bitsOf a8)]) ∧ Stays w w' := by
  have u0 : ((w.alloc (.cells #[.float .f32 a0, .float .f32 a1, .float .f32 a2, .float .f32 a3, .float .f32 a4, .float .f32 a5, .float .f32 a6, .float .f32 a7, .float .f32 a8] 26)).alloc (.cells #[.int .u32 0, .int .u32 0, .int .u32 0, .int .u32 0, .int .u32 0, .int .u32 0, .int .u32 0, .int .u32 0, .int .u32 0] 48)).heap[w.heap.size]? = some (.cells #[.float .f32 a0, .float .f32 a1, .float .f32 a2, .float .f32 a3, .float .f32 a4, .float .f32 a5, .float .f32 a6, .float .f32 a7, .float .f32 a8] 26 (0, 0)) := by (repeat (first | (refine heap_top _ _ _ ?_; simp; done) | (with_reducible refine heap_drawn _ _ _ ?_) | (with_reducible refine heap_under _ _ _ ?_ ?_; (simp <;> omega))))
  have u1 : ((w.alloc (.cells #[.float .f32 a0, .float .f32 a1, .float .f32 a2, .float .f32 a3, .float .f32 a4, .float .f32 a5, .float .f32 a6, .float .f32 a7, .float .f32 a8] 26)).alloc (.cells #[.int .u32 0, .int .u32 0, .int .u32 0, .int .u32 0, .int .u32 0, .int .u32 0, .int .u32 0, .int .u32 0, .int .u32 0] 48)).heap[w.heap.size + 1]? = some (.cells #[.int .u32 0, .int .u32 0, .int .u32 0, .int .u32 0, .int .u32 0, .int .u32 0, .int .u32 0, .int .u32 0, .int .u32 0] 48 (0, 0)) := by (repeat (first | (refine heap_top _ _ _ ?_; simp; done) | (with_reducible refine heap_drawn _ _ _ ?_) | (with_reducible refine heap_under _ _ _ ?_ ?_; (simp <;> omega))))
  have hcells := fun w1 (hw1 : Stays ((w.alloc (.cells #[.float .f32 a0, .float .f32 a1, .float .f32 a2, .float .f32 a3, .float .f32 a4, .float .f32 a5, .float .f32 a6, .float .f32 a7, .float .f32 a8] 26)).alloc (.cells #[.int .u32 0, .int .u32 0, .int .u32 0, .int .u32 0, .int .u32 0, .int .u32 0, .int .u32 0, .int .u32 0, .int .u32 0] 48)) w1) => row_of hw1 u0
  have hend : Hid (∀ w1, Stays ((w.alloc (.cells #[.float .f32 a0, .float .f32 a1, .float .f32 a2, .float .f32 a3, .float .f32 a4, .float .f32 a5, .float .f32 a6, .float .f32 a7, .float .f32 a8] 26)).alloc (.cells #[.int .u32 0, .int .u32 0, .int .u32 0, .int .u32 0, .int .u32 0, .int .u32 0, .int .u32 0, .int .u32 0, .int .u32 0] 48)) w1 → w1.heap[w.heap.size + 1]? = some (.cells #[.int .u32 0, .int .u32 0, .int .u32 0, .int .u32 0, .int .u32 0, .int .u32 0, .int .u32 0, .int .u32 0, .int .u32 0] 48 (0, 0)) ∧ Stays w w1) := fun w1 h => ⟨h.heap (in_heap u1) u1, Stays.trans (by (repeat (first | exact Stays.refl _ | (with_reducible refine Stays.drewN ?_ _) | (with_reducible refine Stays.alloc ?_ _) | (with_reducible refine Stays.drew ?_) | (refine Stays.trans ?_ ‹Stays _ _›)))) h⟩
  clear u0 u1
  go_enter Try.func36, Try.ntmps36
  go_wp2
  refine wp_region_soft_tail 10 (Stays.refl _) (fun f args v => ∃ k l m, args = #[.agg #[.float .f32 k, .float .f32 l, .float .f32 m]] ∧ v = .agg #[.int .u32 (bitsOf k), .int .u32 (bitsOf l), .int .u32 (bitsOf m)]) [] (by kernel_rfl) (by kernel_rfl) (fun _ h => by cases h) ?_
  simp only [List.take_succ_cons, List.take_zero, List.drop_succ_cons, List.drop_zero]
  repeat ((with_reducible apply soft_det rfl); (case hA => rfl); (case h => (intro w1 hw1; have hc := hcells w1 hw1; go_simp; exact rfl)); go_simp)
  apply soft_call rfl
  case hA => rfl
  case h => (intro w1 hw1; go_simp; exact ⟨rfl, rfl⟩)
  case hc => exact fun w1 hw1 => (c_vecBits _ _ _ w1).mono fun e w' ⟨he, hw'⟩ => ⟨_, he, ⟨_, _, _, rfl, rfl⟩, hw'⟩
  rintro v ⟨k, l, m, hk, rfl⟩; obtain ⟨rfl, rfl, rfl⟩ : a0 = k ∧ a1 = l ∧ a2 = m := by simpa using hk
  go_simp
  repeat ((with_reducible apply soft_det rfl); (case hA => rfl); (case h => (intro w1 hw1; have hc := hcells w1 hw1; go_simp; exact rfl)); go_simp)
  apply soft_call rfl
  case hA => rfl
  case h => (intro w1 hw1; go_simp; exact ⟨rfl, rfl⟩)
  case hc => exact fun w1 hw1 => (c_vecBits _ _ _ w1).mono fun e w' ⟨he, hw'⟩ => ⟨_, he, ⟨_, _, _, rfl, rfl⟩, hw'⟩
  rintro v ⟨k, l, m, hk, rfl⟩; obtain ⟨rfl, rfl, rfl⟩ : a3 = k ∧ a4 = l ∧ a5 = m := by simpa using hk
  go_simp
  repeat ((with_reducible apply soft_det rfl); (case hA => rfl); (case h => (intro w1 hw1; have hc := hcells w1 hw1; go_simp; exact rfl)); go_simp)
  apply soft_call rfl
  case hA => rfl
  case h => (intro w1 hw1; go_simp; exact ⟨rfl, rfl⟩)
  case hc => exact fun w1 hw1 => (c_vecBits _ _ _ w1).mono fun e w' ⟨he, hw'⟩ => ⟨_, he, ⟨_, _, _, rfl, rfl⟩, hw'⟩
  rintro v ⟨k, l, m, hk, rfl⟩; obtain ⟨rfl, rfl, rfl⟩ : a6 = k ∧ a7 = l ∧ a8 = m := by simpa using hk
  go_simp
  repeat ((with_reducible apply soft_det rfl); (case hA => rfl); (case h => (intro w1 hw1; have hc := hcells w1 hw1; go_simp; exact rfl)); go_simp)
  refine soft_nil ?_
  rintro w2 ⟨hw2, _⟩
  obtain ⟨hres, hst⟩ := hend.out _ hw2
  clear hcells hw2 hend
  refine wpList_store_row rfl _ _ _ rfl _ _ _ rfl rfl hres ?hi ?ho ?h1 ?hB hst ?_
  case hi => kernel_rfl
  case ho => rfl
  case h1 => first | rfl | simp [Value.oneCell']
  case hB => first | omega | (simp <;> omega)
  intro w3 hw3 hq3 _ _
  go_wp2
  apply end_agg rfl rfl rfl Try.underlying48 rfl (t := 48)
  case hg => exact hq3
  case hi => kernel_rfl
  case hR => exact ⟨rfl, hw3⟩

theorem c_implSameMat (a0 a1 a2 a3 a4 a5 a6 a7 a8 b0 b1 b2 b3 b4 b5 b6 b7 b8 : Nat) (w : World) :
    Calls Try.prog 15 #[.agg #[.float .f32 a0, .float .f32 a1, .float .f32 a2, .float .f32 a3, .float .f32 a4, .float .f32 a5, .float .f32 a6, .float .f32 a7, .float .f32 a8], .agg #[.float .f32 b0, .float .f32 b1, .float .f32 b2, .float .f32 b3, .float .f32 b4, .float .f32 b5, .float .f32 b6, .float .f32 b7, .float .f32 b8]] w fun en w' => ∃ v, en = .returned v ∧ r_SameMat a0 a1 a2 a3 a4 a5 a6 a7 a8 b0 b1 b2 b3 b4 b5 b6 b7 b8 v ∧ Stays w w' := by
  have u0 : ((w.alloc (.cells #[.float .f32 a0, .float .f32 a1, .float .f32 a2, .float .f32 a3, .float .f32 a4, .float .f32 a5, .float .f32 a6, .float .f32 a7, .float .f32 a8] 26)).alloc (.cells #[.float .f32 b0, .float .f32 b1, .float .f32 b2, .float .f32 b3, .float .f32 b4, .float .f32 b5, .float .f32 b6, .float .f32 b7, .float .f32 b8] 26)).heap[w.heap.size]? = some (.cells #[.float .f32 a0, .float .f32 a1, .float .f32 a2, .float .f32 a3, .float .f32 a4, .float .f32 a5, .float .f32 a6, .float .f32 a7, .float .f32 a8] 26 (0, 0)) := by (repeat (first | (refine heap_top _ _ _ ?_; simp; done) | (with_reducible refine heap_drawn _ _ _ ?_) | (with_reducible refine heap_under _ _ _ ?_ ?_; (simp <;> omega))))
  have u1 : ((w.alloc (.cells #[.float .f32 a0, .float .f32 a1, .float .f32 a2, .float .f32 a3, .float .f32 a4, .float .f32 a5, .float .f32 a6, .float .f32 a7, .float .f32 a8] 26)).alloc (.cells #[.float .f32 b0, .float .f32 b1, .float .f32 b2, .float .f32 b3, .float .f32 b4, .float .f32 b5, .float .f32 b6, .float .f32 b7, .float .f32 b8] 26)).heap[w.heap.size + 1]? = some (.cells #[.float .f32 b0, .float .f32 b1, .float .f32 b2, .float .f32 b3, .float .f32 b4, .float .f32 b5, .float .f32 b6, .float .f32 b7, .float .f32 b8] 26 (0, 0)) := by (repeat (first | (refine heap_top _ _ _ ?_; simp; done) | (with_reducible refine heap_drawn _ _ _ ?_) | (with_reducible refine heap_under _ _ _ ?_ ?_; (simp <;> omega))))
  have hcells := fun w1 (hw1 : Stays ((w.alloc (.cells #[.float .f32 a0, .float .f32 a1, .float .f32 a2, .float .f32 a3, .float .f32 a4, .float .f32 a5, .float .f32 a6, .float .f32 a7, .float .f32 a8] 26)).alloc (.cells #[.float .f32 b0, .float .f32 b1, .float .f32 b2, .float .f32 b3, .float .f32 b4, .float .f32 b5, .float .f32 b6, .float .f32 b7, .float .f32 b8] 26)) w1) => And.intro (row_of hw1 u0) (row_of hw1 u1)
  clear u0 u1
  go_enter Try.func15, Try.ntmps15
  go_wp2
  refine wp_region_soft_tail 5 (Stays.refl _) (fun f args v => ∃ k0 k1 k2 k3 k4 k5 k6 k7 k8, args = #[.agg #[.float .f32 k0, .float .f32 k1, .float .f32 k2, .float .f32 k3, .float .f32 k4, .float .f32 k5, .float .f32 k6, .float .f32 k7, .float .f32 k8]] ∧ v = .agg #[.int .u32 (bitsOf k0), .int .u32 (bitsOf k1), .int .u32 (bitsOf k2), .int .u32 (bitsOf k3), .int .u32 (bitsOf k4), .int .u32 (bitsOf k5), .int .u32 (bitsOf k6), .int .u32 (bitsOf k7), .int .u32 (bitsOf k8)]) [] (by kernel_rfl) (by kernel_rfl) (fun _ h => by cases h) ?_
  simp only [List.take_succ_cons, List.take_zero, List.drop_succ_cons, List.drop_zero]
  repeat ((with_reducible apply soft_det rfl); (case hA => rfl); (case h => (intro w1 hw1; have hc := hcells w1 hw1; go_simp; exact rfl)); go_simp)
  apply soft_call rfl
  case hA => rfl
  case h => (intro w1 hw1; go_simp; exact ⟨rfl, rfl⟩)
  case hc => exact fun w1 hw1 => (c_matBits _ _ _ _ _ _ _ _ _ w1).mono fun e w' ⟨he, hw'⟩ => ⟨_, he, ⟨_, _, _, _, _, _, _, _, _, rfl, rfl⟩, hw'⟩
  rintro v ⟨k0, k1, k2, k3, k4, k5, k6, k7, k8, hk, rfl⟩; obtain ⟨rfl, rfl, rfl, rfl, rfl, rfl, rfl, rfl, rfl⟩ : a0 = k0 ∧ a1 = k1 ∧ a2 = k2 ∧ a3 = k3 ∧ a4 = k4 ∧ a5 = k5 ∧ a6 = k6 ∧ a7 = k7 ∧ a8 = k8 := by simpa using hk
  go_simp
  repeat ((with_reducible apply soft_det rfl); (case hA => rfl); (case h => (intro w1 hw1; have hc := hcells w1 hw1; go_simp; exact rfl)); go_simp)
  apply soft_call rfl
  case hA => rfl
  case h => (intro w1 hw1; go_simp; exact ⟨rfl, rfl⟩)
  case hc => exact fun w1 hw1 => (c_matBits _ _ _ _ _ _ _ _ _ w1).mono fun e w' ⟨he, hw'⟩ => ⟨_, he, ⟨_, _, _, _, _, _, _, _, _, rfl, rfl⟩, hw'⟩
  rintro v ⟨k0, k1, k2, k3, k4, k5, k6, k7, k8, hk, rfl⟩; obtain ⟨rfl, rfl, rfl, rfl, rfl, rfl, rfl, rfl, rfl⟩ : b0 = k0 ∧ b1 = k1 ∧ b2 = k2 ∧ b3 = k3 ∧ b4 = k4 ∧ b5 = k5 ∧ b6 = k6 ∧ b7 = k7 ∧ b8 = k8 := by simpa using hk
  go_simp
  refine soft_det rfl ?hA (v := .bool (((((bitsOf a0 : Nat) : Int) == (bitsOf b0 : Nat)) && (((bitsOf a1 : Nat) : Int) == (bitsOf b1 : Nat)) && (((bitsOf a2 : Nat) : Int) == (bitsOf b2 : Nat))) && ((((bitsOf a3 : Nat) : Int) == (bitsOf b3 : Nat)) && (((bitsOf a4 : Nat) : Int) == (bitsOf b4 : Nat)) && (((bitsOf a5 : Nat) : Int) == (bitsOf b5 : Nat))) && ((((bitsOf a6 : Nat) : Int) == (bitsOf b6 : Nat)) && (((bitsOf a7 : Nat) : Int) == (bitsOf b7 : Nat)) && (((bitsOf a8 : Nat) : Int) == (bitsOf b8 : Nat))))) ?h ?hK
  case hA => rfl
  case h => intro w1 hw1; have heq := eqGrid (bitsOf a0) (bitsOf a1) (bitsOf a2) (bitsOf a3) (bitsOf a4) (bitsOf a5) (bitsOf a6) (bitsOf a7) (bitsOf a8) (bitsOf b0) (bitsOf b1) (bitsOf b2) (bitsOf b3) (bitsOf b4) (bitsOf b5) (bitsOf b6) (bitsOf b7) (bitsOf b8) w1; have hgd := guard_grid; go_simp
  case hK =>
  go_simp
  refine soft_nil ?_
  rintro w2 ⟨hw2, _⟩
  go_wp2
  go_ret
  refine ⟨_, rfl, ?_, Stays.trans (by (repeat (first | exact Stays.refl _ | (with_reducible refine Stays.drewN ?_ _) | (with_reducible refine Stays.alloc ?_ _) | (with_reducible refine Stays.drew ?_) | (refine Stays.trans ?_ ‹Stays _ _›)))) hw2⟩
  unfold r_SameMat sameM sameV
  simp only [same_iff]
  rfl

end Go.Proofs.Ytbcnafanjemaeac
