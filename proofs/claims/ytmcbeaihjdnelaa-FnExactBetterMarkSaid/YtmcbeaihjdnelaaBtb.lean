/- Marks that are held against each other, as the program does it. No condition. -/
import Derived.Test.YtmcbeaihjdnelaaBta
import Derived.Test.YtmcbeaihjdnelaaGv
import Derived.Deep.CutRange
import Derived.Deep.RegionHeld
namespace Go.Proofs.Ytmcbeaihjdnelaa
open Go Go.RowKit
set_option linter.unusedVariables false
set_option linter.unusedSimpArgs false

set_option maxRecDepth 100000 in
set_option maxHeartbeats 4000000 in
theorem c_cmp3 (P Q : Nat) (x0 x1 x2 y0 y1 y2 : Nat) (c0 c1 c2 : Int) (w : World) (hx : w.cell? ⟨P, 3, none⟩ = some (.float .f32 x0) ∧ w.cell? ⟨P, 4, none⟩ = some (.float .f32 x1) ∧ w.cell? ⟨P, 5, none⟩ = some (.float .f32 x2)) (hy : w.cell? ⟨Q, 3, none⟩ = some (.float .f32 y0) ∧ w.cell? ⟨Q, 4, none⟩ = some (.float .f32 y1) ∧ w.cell? ⟨Q, 5, none⟩ = some (.float .f32 y2))
    (h0 : ∀ W, Calls Try.prog 133 #[.float .f32 x0, .float .f32 y0] W fun e w' => e = .returned (.int .i64 c0) ∧ W = w') (h1 : ∀ W, Calls Try.prog 133 #[.float .f32 x1, .float .f32 y1] W fun e w' => e = .returned (.int .i64 c1) ∧ W = w') (h2 : ∀ W, Calls Try.prog 133 #[.float .f32 x2, .float .f32 y2] W fun e w' => e = .returned (.int .i64 c2) ∧ W = w') :
    Calls Try.prog 132 #[.slice (some ⟨P, 3, none⟩) 3 3, .slice (some ⟨Q, 3, none⟩) 3 3, .func (Fn.func 133) #[] #[]] w fun e w' => e = .returned (.int .i64 (first3 c0 c1 c2)) ∧ w = w' := by
  obtain ⟨p0, p1, p2⟩ := hx
  obtain ⟨q0, q1, q2⟩ := hy
  replace h0 := Lib.hid h0
  replace h1 := Lib.hid h1
  replace h2 := Lib.hid h2
  unfold first3
  by_cases e0 : c0 = 0
  · rw [if_pos e0]
    subst e0
    by_cases e1 : c1 = 0
    · rw [if_pos e1]
      subst e1
      by_cases e2 : c2 = 0
      · subst e2
        go_enter Try.func132, Try.ntmps132
        go_wp2_with fail
        refine wp_loop_rounds 5 ?_
        rw [rounds_succ]
        go_wp2_with fail
        refine (h0.out _).mono ?_
        rintro e w1 ⟨rfl, rfl⟩
        go_wp2_with fail
        rw [rounds_succ]
        go_wp2_with fail
        refine (h1.out _).mono ?_
        rintro e w1 ⟨rfl, rfl⟩
        go_wp2_with fail
        rw [rounds_succ]
        go_wp2_with fail
        refine (h2.out _).mono ?_
        rintro e w1 ⟨rfl, rfl⟩
        go_wp2_with fail
        rw [rounds_succ]
        go_wp2
        go_ret
        exact ⟨rfl, rfl⟩
      · skip
        have e2' : (c2 != 0) = true := bne_iff_ne.2 e2
        have e2'' : (c2 == 0) = false := beq_eq_false_iff_ne.2 e2
        go_enter Try.func132, Try.ntmps132
        go_wp2_with fail
        refine wp_loop_rounds 5 ?_
        rw [rounds_succ]
        go_wp2_with fail
        refine (h0.out _).mono ?_
        rintro e w1 ⟨rfl, rfl⟩
        go_wp2_with fail
        rw [rounds_succ]
        go_wp2_with fail
        refine (h1.out _).mono ?_
        rintro e w1 ⟨rfl, rfl⟩
        go_wp2_with fail
        rw [rounds_succ]
        go_wp2_with fail
        refine (h2.out _).mono ?_
        rintro e w1 ⟨rfl, rfl⟩
        go_wp2
        go_ret
        exact ⟨rfl, rfl⟩
    · rw [if_neg e1]
      have e1' : (c1 != 0) = true := bne_iff_ne.2 e1
      have e1'' : (c1 == 0) = false := beq_eq_false_iff_ne.2 e1
      go_enter Try.func132, Try.ntmps132
      go_wp2_with fail
      refine wp_loop_rounds 5 ?_
      rw [rounds_succ]
      go_wp2_with fail
      refine (h0.out _).mono ?_
      rintro e w1 ⟨rfl, rfl⟩
      go_wp2_with fail
      rw [rounds_succ]
      go_wp2_with fail
      refine (h1.out _).mono ?_
      rintro e w1 ⟨rfl, rfl⟩
      go_wp2
      go_ret
      exact ⟨rfl, rfl⟩
  · rw [if_neg e0]
    have e0' : (c0 != 0) = true := bne_iff_ne.2 e0
    have e0'' : (c0 == 0) = false := beq_eq_false_iff_ne.2 e0
    go_enter Try.func132, Try.ntmps132
    go_wp2_with fail
    refine wp_loop_rounds 5 ?_
    rw [rounds_succ]
    go_wp2_with fail
    refine (h0.out _).mono ?_
    rintro e w1 ⟨rfl, rfl⟩
    go_wp2
    go_ret
    exact ⟨rfl, rfl⟩

set_option maxRecDepth 100000 in
set_option maxHeartbeats 4000000 in
theorem c_cmpLast (x y z : Int) (a b c d : Nat) (s l : Int) (x' y' z' : Int) (a' b' c' d' : Nat) (s' l' : Int) (w : World)  :
    Calls Try.prog 112 #[.agg #[.int .i32 x, .int .i32 y, .int .i32 z, .float .f32 a, .float .f32 b, .float .f32 c, .float .f32 d, .int .i64 s, .int .i64 l], .agg #[.int .i32 x', .int .i32 y', .int .i32 z', .float .f32 a', .float .f32 b', .float .f32 c', .float .f32 d', .int .i64 s', .int .i64 l']] w fun e w' => e = .returned (.int .i64 (icmp l l')) ∧ Stays w w' := by
  have kc := Lib.hid fun W => c_cmp64 l l' W
  have hst : Stays w ((w.alloc (.cells #[.int .i32 x, .int .i32 y, .int .i32 z, .float .f32 a, .float .f32 b, .float .f32 c, .float .f32 d, .int .i64 s, .int .i64 l] 45)).alloc (.cells #[.int .i32 x', .int .i32 y', .int .i32 z', .float .f32 a', .float .f32 b', .float .f32 c', .float .f32 d', .int .i64 s', .int .i64 l'] 45)) := by (repeat (first | exact Stays.refl _ | (with_reducible refine Stays.drewN ?_ _) | (with_reducible refine Stays.alloc ?_ _) | (with_reducible refine Stays.drew ?_) | (refine Stays.trans ?_ ‹Stays _ _›)))
  replace hst := Lib.hid hst
  go_enter Try.func112, Try.ntmps112
  go_wp2_with fail
  refine (kc.out _).mono ?_
  rintro e w1 ⟨rfl, rfl⟩
  go_wp2
  go_ret
  exact ⟨rfl, hst.out⟩

set_option maxRecDepth 100000 in
set_option maxHeartbeats 4000000 in
theorem c_cmpSeen (x y z : Int) (a b c d : Nat) (s l : Int) (x' y' z' : Int) (a' b' c' d' : Nat) (s' l' : Int) (w : World)  :
    Calls Try.prog 114 #[.agg #[.int .i32 x, .int .i32 y, .int .i32 z, .float .f32 a, .float .f32 b, .float .f32 c, .float .f32 d, .int .i64 s, .int .i64 l], .agg #[.int .i32 x', .int .i32 y', .int .i32 z', .float .f32 a', .float .f32 b', .float .f32 c', .float .f32 d', .int .i64 s', .int .i64 l']] w fun e w' => e = .returned (.int .i64 (icmp s s')) ∧ Stays w w' := by
  have kc := Lib.hid fun W => c_cmp64 s s' W
  have hst : Stays w ((w.alloc (.cells #[.int .i32 x, .int .i32 y, .int .i32 z, .float .f32 a, .float .f32 b, .float .f32 c, .float .f32 d, .int .i64 s, .int .i64 l] 45)).alloc (.cells #[.int .i32 x', .int .i32 y', .int .i32 z', .float .f32 a', .float .f32 b', .float .f32 c', .float .f32 d', .int .i64 s', .int .i64 l'] 45)) := by (repeat (first | exact Stays.refl _ | (with_reducible refine Stays.drewN ?_ _) | (with_reducible refine Stays.alloc ?_ _) | (with_reducible refine Stays.drew ?_) | (refine Stays.trans ?_ ‹Stays _ _›)))
  replace hst := Lib.hid hst
  go_enter Try.func114, Try.ntmps114
  go_wp2_with fail
  refine (kc.out _).mono ?_
  rintro e w1 ⟨rfl, rfl⟩
  go_wp2
  go_ret
  exact ⟨rfl, hst.out⟩

set_option maxRecDepth 100000 in
set_option maxHeartbeats 4000000 in
theorem c_cmpWeight (x y z : Int) (a b c d : Nat) (s l : Int) (x' y' z' : Int) (a' b' c' d' : Nat) (s' l' : Int) (w : World) (o : Ordering) (ho : OrdW d d' o) :
    Calls Try.prog 113 #[.agg #[.int .i32 x, .int .i32 y, .int .i32 z, .float .f32 a, .float .f32 b, .float .f32 c, .float .f32 d, .int .i64 s, .int .i64 l], .agg #[.int .i32 x', .int .i32 y', .int .i32 z', .float .f32 a', .float .f32 b', .float .f32 c', .float .f32 d', .int .i64 s', .int .i64 l']] w fun e w' => e = .returned (.int .i64 (wcmp o)) ∧ Stays w w' := by
  have kc := Lib.hid fun W => (fun W => c_cmpf d d' o W ho) W
  have hst : Stays w ((w.alloc (.cells #[.int .i32 x, .int .i32 y, .int .i32 z, .float .f32 a, .float .f32 b, .float .f32 c, .float .f32 d, .int .i64 s, .int .i64 l] 45)).alloc (.cells #[.int .i32 x', .int .i32 y', .int .i32 z', .float .f32 a', .float .f32 b', .float .f32 c', .float .f32 d', .int .i64 s', .int .i64 l'] 45)) := by (repeat (first | exact Stays.refl _ | (with_reducible refine Stays.drewN ?_ _) | (with_reducible refine Stays.alloc ?_ _) | (with_reducible refine Stays.drew ?_) | (refine Stays.trans ?_ ‹Stays _ _›)))
  replace hst := Lib.hid hst
  go_enter Try.func113, Try.ntmps113
  go_wp2_with fail
  refine (kc.out _).mono ?_
  rintro e w1 ⟨rfl, rfl⟩
  go_wp2
  go_ret
  exact ⟨rfl, hst.out⟩

set_option maxRecDepth 100000 in
set_option maxHeartbeats 4000000 in
theorem c_cmpAt (x y z : Int) (a b c d : Nat) (s l : Int) (x' y' z' : Int) (a' b' c' d' : Nat) (s' l' : Int) (oa ob oc : Ordering) (w : World) (ha : OrdW a a' oa) (hb : OrdW b b' ob) (hc0 : OrdW c c' oc) :
    Calls Try.prog 115 #[.agg #[.int .i32 x, .int .i32 y, .int .i32 z, .float .f32 a, .float .f32 b, .float .f32 c, .float .f32 d, .int .i64 s, .int .i64 l], .agg #[.int .i32 x', .int .i32 y', .int .i32 z', .float .f32 a', .float .f32 b', .float .f32 c', .float .f32 d', .int .i64 s', .int .i64 l']] w fun e w' => e = .returned (.int .i64 (first3 (fcmp oa a a') (fcmp ob b b') (fcmp oc c c'))) ∧ Stays w w' := by
  have hst : Stays w ((w.alloc (.cells #[.int .i32 x, .int .i32 y, .int .i32 z, .float .f32 a, .float .f32 b, .float .f32 c, .float .f32 d, .int .i64 s, .int .i64 l] 45)).alloc (.cells #[.int .i32 x', .int .i32 y', .int .i32 z', .float .f32 a', .float .f32 b', .float .f32 c', .float .f32 d', .int .i64 s', .int .i64 l'] 45)) := by (repeat (first | exact Stays.refl _ | (with_reducible refine Stays.drewN ?_ _) | (with_reducible refine Stays.alloc ?_ _) | (with_reducible refine Stays.drew ?_) | (refine Stays.trans ?_ ‹Stays _ _›)))
  have u0 : ((w.alloc (.cells #[.int .i32 x, .int .i32 y, .int .i32 z, .float .f32 a, .float .f32 b, .float .f32 c, .float .f32 d, .int .i64 s, .int .i64 l] 45)).alloc (.cells #[.int .i32 x', .int .i32 y', .int .i32 z', .float .f32 a', .float .f32 b', .float .f32 c', .float .f32 d', .int .i64 s', .int .i64 l'] 45)).heap[w.heap.size]? = some (.cells #[.int .i32 x, .int .i32 y, .int .i32 z, .float .f32 a, .float .f32 b, .float .f32 c, .float .f32 d, .int .i64 s, .int .i64 l] 45 (0, 0)) := by (repeat (first | (refine heap_top _ _ _ ?_; simp; done) | (with_reducible refine heap_drawn _ _ _ ?_) | (with_reducible refine heap_under _ _ _ ?_ ?_; (simp <;> omega))))
  have u1 : ((w.alloc (.cells #[.int .i32 x, .int .i32 y, .int .i32 z, .float .f32 a, .float .f32 b, .float .f32 c, .float .f32 d, .int .i64 s, .int .i64 l] 45)).alloc (.cells #[.int .i32 x', .int .i32 y', .int .i32 z', .float .f32 a', .float .f32 b', .float .f32 c', .float .f32 d', .int .i64 s', .int .i64 l'] 45)).heap[w.heap.size + 1]? = some (.cells #[.int .i32 x', .int .i32 y', .int .i32 z', .float .f32 a', .float .f32 b', .float .f32 c', .float .f32 d', .int .i64 s', .int .i64 l'] 45 (0, 0)) := by (repeat (first | (refine heap_top _ _ _ ?_; simp; done) | (with_reducible refine heap_drawn _ _ _ ?_) | (with_reducible refine heap_under _ _ _ ?_ ?_; (simp <;> omega))))
  have kc := Lib.hid fun W (hW : Stays ((w.alloc (.cells #[.int .i32 x, .int .i32 y, .int .i32 z, .float .f32 a, .float .f32 b, .float .f32 c, .float .f32 d, .int .i64 s, .int .i64 l] 45)).alloc (.cells #[.int .i32 x', .int .i32 y', .int .i32 z', .float .f32 a', .float .f32 b', .float .f32 c', .float .f32 d', .int .i64 s', .int .i64 l'] 45)) W) => c_cmp3 w.heap.size (w.heap.size + 1) a b c a' b' c' (fcmp oa a a') (fcmp ob b b') (fcmp oc c c') W ⟨row_of hW u0 3, row_of hW u0 4, row_of hW u0 5⟩ ⟨row_of hW u1 3, row_of hW u1 4, row_of hW u1 5⟩ (fun W => c_cmpNum a a' oa W ha) (fun W => c_cmpNum b b' ob W hb) (fun W => c_cmpNum c c' oc W hc0)
  replace hst := Lib.hid hst
  have hcells : ∀ W, Stays ((w.alloc (.cells #[.int .i32 x, .int .i32 y, .int .i32 z, .float .f32 a, .float .f32 b, .float .f32 c, .float .f32 d, .int .i64 s, .int .i64 l] 45)).alloc (.cells #[.int .i32 x', .int .i32 y', .int .i32 z', .float .f32 a', .float .f32 b', .float .f32 c', .float .f32 d', .int .i64 s', .int .i64 l'] 45)) W → True := fun _ _ => trivial
  clear u0 u1 ha hb hc0
  generalize first3 (fcmp oa a a') (fcmp ob b b') (fcmp oc c c') = res at kc ⊢
  go_enter Try.func115, Try.ntmps115
  go_wp2_with fail
  refine wp_region_soft_tail 5 (Stays.refl _) (oneS 132 #[.slice (some ⟨w.heap.size, 3, none⟩) 3 3, .slice (some ⟨w.heap.size + 1, 3, none⟩) 3 3, .func (Fn.func 133) #[] #[]] (fun v => v = .int .i64 res)) [] (by kernel_rfl) (by kernel_rfl) (fun _ h => by cases h) ?_
  simp only [List.take_succ_cons, List.take_zero, List.drop_succ_cons, List.drop_zero]
  repeat ((with_reducible apply soft_detG); (case hwa => rfl); (case hA => rfl); (case h => (intro w1 hw1; have hc := hcells w1 hw1; go_simp; exact rfl)); go_simp)
  refine soft_callO (by rfl) rfl ?h (fun w2 hw2 => ((kc.out w2 hw2).mono fun e w' he => ⟨_, he.1, rfl, he.2 ▸ Stays.refl _⟩)) ?_
  case h => (intro w1 hw1; go_simp; try exact ⟨rfl, rfl⟩)
  rintro v rfl
  go_simp
  refine soft_nil ?_
  rintro w2 ⟨hw2, _⟩
  replace hst := Lib.hid (hst.out.trans hw2)
  go_wp2
  go_ret
  exact ⟨rfl, hst.out⟩

def firstPos (c0 c1 c2 c3 : Int) : Bool := if c0 = 0 then (if c1 = 0 then (if c2 = 0 then (if c3 = 0 then false else decide (0 < c3)) else decide (0 < c2)) else decide (0 < c1)) else decide (0 < c0)

set_option maxRecDepth 100000 in
set_option maxHeartbeats 4000000 in
theorem c_isBetter (x y z : Int) (a b c d : Nat) (s l : Int) (x' y' z' : Int) (a' b' c' d' : Nat) (s' l' : Int) (c0 c1 c2 c3 : Int) (w : World)
    (h0 : ∀ W, Calls Try.prog 112 #[.agg #[.int .i32 x, .int .i32 y, .int .i32 z, .float .f32 a, .float .f32 b, .float .f32 c, .float .f32 d, .int .i64 s, .int .i64 l], .agg #[.int .i32 x', .int .i32 y', .int .i32 z', .float .f32 a', .float .f32 b', .float .f32 c', .float .f32 d', .int .i64 s', .int .i64 l']] W fun e w' => e = .returned (.int .i64 c0) ∧ Stays W w')
    (h1 : ∀ W, Calls Try.prog 113 #[.agg #[.int .i32 x, .int .i32 y, .int .i32 z, .float .f32 a, .float .f32 b, .float .f32 c, .float .f32 d, .int .i64 s, .int .i64 l], .agg #[.int .i32 x', .int .i32 y', .int .i32 z', .float .f32 a', .float .f32 b', .float .f32 c', .float .f32 d', .int .i64 s', .int .i64 l']] W fun e w' => e = .returned (.int .i64 c1) ∧ Stays W w')
    (h2 : ∀ W, Calls Try.prog 114 #[.agg #[.int .i32 x, .int .i32 y, .int .i32 z, .float .f32 a, .float .f32 b, .float .f32 c, .float .f32 d, .int .i64 s, .int .i64 l], .agg #[.int .i32 x', .int .i32 y', .int .i32 z', .float .f32 a', .float .f32 b', .float .f32 c', .float .f32 d', .int .i64 s', .int .i64 l']] W fun e w' => e = .returned (.int .i64 c2) ∧ Stays W w')
    (h3 : ∀ W, Calls Try.prog 115 #[.agg #[.int .i32 x, .int .i32 y, .int .i32 z, .float .f32 a, .float .f32 b, .float .f32 c, .float .f32 d, .int .i64 s, .int .i64 l], .agg #[.int .i32 x', .int .i32 y', .int .i32 z', .float .f32 a', .float .f32 b', .float .f32 c', .float .f32 d', .int .i64 s', .int .i64 l']] W fun e w' => e = .returned (.int .i64 c3) ∧ Stays W w') :
    Calls Try.prog 65 #[.agg #[.int .i32 x, .int .i32 y, .int .i32 z, .float .f32 a, .float .f32 b, .float .f32 c, .float .f32 d, .int .i64 s, .int .i64 l], .agg #[.int .i32 x', .int .i32 y', .int .i32 z', .float .f32 a', .float .f32 b', .float .f32 c', .float .f32 d', .int .i64 s', .int .i64 l']] w fun e w' => e = .returned (.bool (firstPos c0 c1 c2 c3)) ∧ Stays w w' := by
  have hst : Stays w (((w.alloc (.cells #[.int .i32 x, .int .i32 y, .int .i32 z, .float .f32 a, .float .f32 b, .float .f32 c, .float .f32 d, .int .i64 s, .int .i64 l] 45)).alloc (.cells #[.int .i32 x', .int .i32 y', .int .i32 z', .float .f32 a', .float .f32 b', .float .f32 c', .float .f32 d', .int .i64 s', .int .i64 l'] 45)).alloc (.cells #[Value.nilFunc, Value.nilFunc, Value.nilFunc, Value.nilFunc] 173)) := by (repeat (first | exact Stays.refl _ | (with_reducible refine Stays.drewN ?_ _) | (with_reducible refine Stays.alloc ?_ _) | (with_reducible refine Stays.drew ?_) | (refine Stays.trans ?_ ‹Stays _ _›)))
  have u0 : (((w.alloc (.cells #[.int .i32 x, .int .i32 y, .int .i32 z, .float .f32 a, .float .f32 b, .float .f32 c, .float .f32 d, .int .i64 s, .int .i64 l] 45)).alloc (.cells #[.int .i32 x', .int .i32 y', .int .i32 z', .float .f32 a', .float .f32 b', .float .f32 c', .float .f32 d', .int .i64 s', .int .i64 l'] 45)).alloc (.cells #[Value.nilFunc, Value.nilFunc, Value.nilFunc, Value.nilFunc] 173)).heap[w.heap.size]? = some (.cells #[.int .i32 x, .int .i32 y, .int .i32 z, .float .f32 a, .float .f32 b, .float .f32 c, .float .f32 d, .int .i64 s, .int .i64 l] 45 (0, 0)) := by (repeat (first | (refine heap_top _ _ _ ?_; simp; done) | (with_reducible refine heap_drawn _ _ _ ?_) | (with_reducible refine heap_under _ _ _ ?_ ?_; (simp <;> omega))))
  have u1 : (((w.alloc (.cells #[.int .i32 x, .int .i32 y, .int .i32 z, .float .f32 a, .float .f32 b, .float .f32 c, .float .f32 d, .int .i64 s, .int .i64 l] 45)).alloc (.cells #[.int .i32 x', .int .i32 y', .int .i32 z', .float .f32 a', .float .f32 b', .float .f32 c', .float .f32 d', .int .i64 s', .int .i64 l'] 45)).alloc (.cells #[Value.nilFunc, Value.nilFunc, Value.nilFunc, Value.nilFunc] 173)).heap[w.heap.size + 1]? = some (.cells #[.int .i32 x', .int .i32 y', .int .i32 z', .float .f32 a', .float .f32 b', .float .f32 c', .float .f32 d', .int .i64 s', .int .i64 l'] 45 (0, 0)) := by (repeat (first | (refine heap_top _ _ _ ?_; simp; done) | (with_reducible refine heap_drawn _ _ _ ?_) | (with_reducible refine heap_under _ _ _ ?_ ?_; (simp <;> omega))))
  have uz : (((w.alloc (.cells #[.int .i32 x, .int .i32 y, .int .i32 z, .float .f32 a, .float .f32 b, .float .f32 c, .float .f32 d, .int .i64 s, .int .i64 l] 45)).alloc (.cells #[.int .i32 x', .int .i32 y', .int .i32 z', .float .f32 a', .float .f32 b', .float .f32 c', .float .f32 d', .int .i64 s', .int .i64 l'] 45)).alloc (.cells #[Value.nilFunc, Value.nilFunc, Value.nilFunc, Value.nilFunc] 173)).heap[w.heap.size + 1 + 1]? = some (.cells #[Value.nilFunc, Value.nilFunc, Value.nilFunc, Value.nilFunc] 173 (0, 0)) := by (repeat (first | (refine heap_top _ _ _ ?_; simp; done) | (with_reducible refine heap_drawn _ _ _ ?_) | (with_reducible refine heap_under _ _ _ ?_ ?_; (simp <;> omega))))
  have ei0 : ∀ W, (Instr.index 173 (.agg #[.func (Fn.func 112) #[] #[], .func (Fn.func 113) #[] #[], .func (Fn.func 114) #[] #[], .func (Fn.func 115) #[] #[]]) (.int .i64 0)).run Try.prog W = .ok (.func (Fn.func 112) #[] #[]) W := fun _ => by kernel_rfl
  have ei1 : ∀ W, (Instr.index 173 (.agg #[.func (Fn.func 112) #[] #[], .func (Fn.func 113) #[] #[], .func (Fn.func 114) #[] #[], .func (Fn.func 115) #[] #[]]) (.int .i64 1)).run Try.prog W = .ok (.func (Fn.func 113) #[] #[]) W := fun _ => by kernel_rfl
  have ei2 : ∀ W, (Instr.index 173 (.agg #[.func (Fn.func 112) #[] #[], .func (Fn.func 113) #[] #[], .func (Fn.func 114) #[] #[], .func (Fn.func 115) #[] #[]]) (.int .i64 2)).run Try.prog W = .ok (.func (Fn.func 114) #[] #[]) W := fun _ => by kernel_rfl
  have ei3 : ∀ W, (Instr.index 173 (.agg #[.func (Fn.func 112) #[] #[], .func (Fn.func 113) #[] #[], .func (Fn.func 114) #[] #[], .func (Fn.func 115) #[] #[]]) (.int .i64 3)).run Try.prog W = .ok (.func (Fn.func 115) #[] #[]) W := fun _ => by kernel_rfl
  replace h0 := Lib.hid h0
  replace h1 := Lib.hid h1
  replace h2 := Lib.hid h2
  replace h3 := Lib.hid h3
  unfold firstPos
  by_cases e0 : c0 = 0
  · rw [if_pos e0]
    subst e0
    by_cases e1 : c1 = 0
    · rw [if_pos e1]
      subst e1
      by_cases e2 : c2 = 0
      · rw [if_pos e2]
        subst e2
        by_cases e3 : c3 = 0
        · rw [if_pos e3]
          subst e3
          go_enter Try.func65, Try.ntmps65
          go_wp2_with ((refine wpList_store_row rfl _ _ _ rfl _ _ _ rfl rfl uz ?hi ?ho ?h1 ?hB hst ?_); (case hi => kernel_rfl); (case ho => rfl); (case h1 => first | rfl | simp [Value.oneCell']); (case hB => first | omega | (simp <;> omega)); intro w9 hw9 hq9 hoth9 hsam9; have HB := Lib.hid fun W (hW : Stays w9 W) => And.intro (And.intro (row_of hW ((hoth9 _ (in_heap u0) (by omega)).trans u0)) (row_of hW ((hoth9 _ (in_heap u1) (by omega)).trans u1))) (hw9.trans hW); have f0 := cell_of_row _ _ 0 _ _ _ hq9; have f1 := cell_of_row _ _ 1 _ _ _ hq9; have f2 := cell_of_row _ _ 2 _ _ _ hq9; have f3 := cell_of_row _ _ 3 _ _ _ hq9; clear hoth9 hsam9 hq9)
          clear f0 f1 f2 f3 hw9 hst u0 u1 uz
          have hW := Lib.hid (Stays.refl w9)
          refine wp_loop_rounds 6 ?_
          rw [rounds_succ]
          obtain ⟨⟨a0, a1⟩, _⟩ := HB.out _ hW.out
          go_wp2_with fail
          refine (h0.out _).mono ?_
          rintro e w0 ⟨rfl, hw⟩
          replace hW := Lib.hid (hW.out.trans hw)
          clear hw a0 a1
          go_wp2_with fail
          rw [rounds_succ]
          obtain ⟨⟨a0, a1⟩, _⟩ := HB.out _ hW.out
          go_wp2_with fail
          refine (h1.out _).mono ?_
          rintro e w1 ⟨rfl, hw⟩
          replace hW := Lib.hid (hW.out.trans hw)
          clear hw a0 a1
          go_wp2_with fail
          rw [rounds_succ]
          obtain ⟨⟨a0, a1⟩, _⟩ := HB.out _ hW.out
          go_wp2_with fail
          refine (h2.out _).mono ?_
          rintro e w2 ⟨rfl, hw⟩
          replace hW := Lib.hid (hW.out.trans hw)
          clear hw a0 a1
          go_wp2_with fail
          rw [rounds_succ]
          obtain ⟨⟨a0, a1⟩, _⟩ := HB.out _ hW.out
          go_wp2_with fail
          refine (h3.out _).mono ?_
          rintro e w3 ⟨rfl, hw⟩
          replace hW := Lib.hid (hW.out.trans hw)
          clear hw a0 a1
          go_wp2_with fail
          rw [rounds_succ]
          have hfin := Lib.hid (HB.out _ hW.out).2
          go_wp2
          go_ret
          exact ⟨rfl, hfin.out⟩
        · rw [if_neg e3]
          have e3' : (c3 != 0) = true := bne_iff_ne.2 e3
          have e3'' : (c3 == 0) = false := beq_eq_false_iff_ne.2 e3
          by_cases p3 : 0 < c3
          · rw [decide_eq_true p3]
            have p3' : c3 > 0 := p3
            go_enter Try.func65, Try.ntmps65
            go_wp2_with ((refine wpList_store_row rfl _ _ _ rfl _ _ _ rfl rfl uz ?hi ?ho ?h1 ?hB hst ?_); (case hi => kernel_rfl); (case ho => rfl); (case h1 => first | rfl | simp [Value.oneCell']); (case hB => first | omega | (simp <;> omega)); intro w9 hw9 hq9 hoth9 hsam9; have HB := Lib.hid fun W (hW : Stays w9 W) => And.intro (And.intro (row_of hW ((hoth9 _ (in_heap u0) (by omega)).trans u0)) (row_of hW ((hoth9 _ (in_heap u1) (by omega)).trans u1))) (hw9.trans hW); have f0 := cell_of_row _ _ 0 _ _ _ hq9; have f1 := cell_of_row _ _ 1 _ _ _ hq9; have f2 := cell_of_row _ _ 2 _ _ _ hq9; have f3 := cell_of_row _ _ 3 _ _ _ hq9; clear hoth9 hsam9 hq9)
            clear f0 f1 f2 f3 hw9 hst u0 u1 uz
            have hW := Lib.hid (Stays.refl w9)
            refine wp_loop_rounds 6 ?_
            rw [rounds_succ]
            obtain ⟨⟨a0, a1⟩, _⟩ := HB.out _ hW.out
            go_wp2_with fail
            refine (h0.out _).mono ?_
            rintro e w0 ⟨rfl, hw⟩
            replace hW := Lib.hid (hW.out.trans hw)
            clear hw a0 a1
            go_wp2_with fail
            rw [rounds_succ]
            obtain ⟨⟨a0, a1⟩, _⟩ := HB.out _ hW.out
            go_wp2_with fail
            refine (h1.out _).mono ?_
            rintro e w1 ⟨rfl, hw⟩
            replace hW := Lib.hid (hW.out.trans hw)
            clear hw a0 a1
            go_wp2_with fail
            rw [rounds_succ]
            obtain ⟨⟨a0, a1⟩, _⟩ := HB.out _ hW.out
            go_wp2_with fail
            refine (h2.out _).mono ?_
            rintro e w2 ⟨rfl, hw⟩
            replace hW := Lib.hid (hW.out.trans hw)
            clear hw a0 a1
            go_wp2_with fail
            rw [rounds_succ]
            obtain ⟨⟨a0, a1⟩, _⟩ := HB.out _ hW.out
            go_wp2_with fail
            refine (h3.out _).mono ?_
            rintro e w3 ⟨rfl, hw⟩
            replace hW := Lib.hid (hW.out.trans hw)
            clear hw a0 a1
            have hfin := Lib.hid (HB.out _ hW.out).2
            go_wp2
            go_ret
            exact ⟨ret_b (by first | rfl | simp [*]), hfin.out⟩
          · rw [decide_eq_false p3]
            have p3' : ¬ c3 > 0 := p3
            go_enter Try.func65, Try.ntmps65
            go_wp2_with ((refine wpList_store_row rfl _ _ _ rfl _ _ _ rfl rfl uz ?hi ?ho ?h1 ?hB hst ?_); (case hi => kernel_rfl); (case ho => rfl); (case h1 => first | rfl | simp [Value.oneCell']); (case hB => first | omega | (simp <;> omega)); intro w9 hw9 hq9 hoth9 hsam9; have HB := Lib.hid fun W (hW : Stays w9 W) => And.intro (And.intro (row_of hW ((hoth9 _ (in_heap u0) (by omega)).trans u0)) (row_of hW ((hoth9 _ (in_heap u1) (by omega)).trans u1))) (hw9.trans hW); have f0 := cell_of_row _ _ 0 _ _ _ hq9; have f1 := cell_of_row _ _ 1 _ _ _ hq9; have f2 := cell_of_row _ _ 2 _ _ _ hq9; have f3 := cell_of_row _ _ 3 _ _ _ hq9; clear hoth9 hsam9 hq9)
            clear f0 f1 f2 f3 hw9 hst u0 u1 uz
            have hW := Lib.hid (Stays.refl w9)
            refine wp_loop_rounds 6 ?_
            rw [rounds_succ]
            obtain ⟨⟨a0, a1⟩, _⟩ := HB.out _ hW.out
            go_wp2_with fail
            refine (h0.out _).mono ?_
            rintro e w0 ⟨rfl, hw⟩
            replace hW := Lib.hid (hW.out.trans hw)
            clear hw a0 a1
            go_wp2_with fail
            rw [rounds_succ]
            obtain ⟨⟨a0, a1⟩, _⟩ := HB.out _ hW.out
            go_wp2_with fail
            refine (h1.out _).mono ?_
            rintro e w1 ⟨rfl, hw⟩
            replace hW := Lib.hid (hW.out.trans hw)
            clear hw a0 a1
            go_wp2_with fail
            rw [rounds_succ]
            obtain ⟨⟨a0, a1⟩, _⟩ := HB.out _ hW.out
            go_wp2_with fail
            refine (h2.out _).mono ?_
            rintro e w2 ⟨rfl, hw⟩
            replace hW := Lib.hid (hW.out.trans hw)
            clear hw a0 a1
            go_wp2_with fail
            rw [rounds_succ]
            obtain ⟨⟨a0, a1⟩, _⟩ := HB.out _ hW.out
            go_wp2_with fail
            refine (h3.out _).mono ?_
            rintro e w3 ⟨rfl, hw⟩
            replace hW := Lib.hid (hW.out.trans hw)
            clear hw a0 a1
            have hfin := Lib.hid (HB.out _ hW.out).2
            go_wp2
            go_ret
            exact ⟨ret_b (by first | rfl | simp [*]), hfin.out⟩
      · rw [if_neg e2]
        have e2' : (c2 != 0) = true := bne_iff_ne.2 e2
        have e2'' : (c2 == 0) = false := beq_eq_false_iff_ne.2 e2
        by_cases p2 : 0 < c2
        · rw [decide_eq_true p2]
          have p2' : c2 > 0 := p2
          go_enter Try.func65, Try.ntmps65
          go_wp2_with ((refine wpList_store_row rfl _ _ _ rfl _ _ _ rfl rfl uz ?hi ?ho ?h1 ?hB hst ?_); (case hi => kernel_rfl); (case ho => rfl); (case h1 => first | rfl | simp [Value.oneCell']); (case hB => first | omega | (simp <;> omega)); intro w9 hw9 hq9 hoth9 hsam9; have HB := Lib.hid fun W (hW : Stays w9 W) => And.intro (And.intro (row_of hW ((hoth9 _ (in_heap u0) (by omega)).trans u0)) (row_of hW ((hoth9 _ (in_heap u1) (by omega)).trans u1))) (hw9.trans hW); have f0 := cell_of_row _ _ 0 _ _ _ hq9; have f1 := cell_of_row _ _ 1 _ _ _ hq9; have f2 := cell_of_row _ _ 2 _ _ _ hq9; have f3 := cell_of_row _ _ 3 _ _ _ hq9; clear hoth9 hsam9 hq9)
          clear f0 f1 f2 f3 hw9 hst u0 u1 uz
          have hW := Lib.hid (Stays.refl w9)
          refine wp_loop_rounds 6 ?_
          rw [rounds_succ]
          obtain ⟨⟨a0, a1⟩, _⟩ := HB.out _ hW.out
          go_wp2_with fail
          refine (h0.out _).mono ?_
          rintro e w0 ⟨rfl, hw⟩
          replace hW := Lib.hid (hW.out.trans hw)
          clear hw a0 a1
          go_wp2_with fail
          rw [rounds_succ]
          obtain ⟨⟨a0, a1⟩, _⟩ := HB.out _ hW.out
          go_wp2_with fail
          refine (h1.out _).mono ?_
          rintro e w1 ⟨rfl, hw⟩
          replace hW := Lib.hid (hW.out.trans hw)
          clear hw a0 a1
          go_wp2_with fail
          rw [rounds_succ]
          obtain ⟨⟨a0, a1⟩, _⟩ := HB.out _ hW.out
          go_wp2_with fail
          refine (h2.out _).mono ?_
          rintro e w2 ⟨rfl, hw⟩
          replace hW := Lib.hid (hW.out.trans hw)
          clear hw a0 a1
          have hfin := Lib.hid (HB.out _ hW.out).2
          go_wp2
          go_ret
          exact ⟨ret_b (by first | rfl | simp [*]), hfin.out⟩
        · rw [decide_eq_false p2]
          have p2' : ¬ c2 > 0 := p2
          go_enter Try.func65, Try.ntmps65
          go_wp2_with ((refine wpList_store_row rfl _ _ _ rfl _ _ _ rfl rfl uz ?hi ?ho ?h1 ?hB hst ?_); (case hi => kernel_rfl); (case ho => rfl); (case h1 => first | rfl | simp [Value.oneCell']); (case hB => first | omega | (simp <;> omega)); intro w9 hw9 hq9 hoth9 hsam9; have HB := Lib.hid fun W (hW : Stays w9 W) => And.intro (And.intro (row_of hW ((hoth9 _ (in_heap u0) (by omega)).trans u0)) (row_of hW ((hoth9 _ (in_heap u1) (by omega)).trans u1))) (hw9.trans hW); have f0 := cell_of_row _ _ 0 _ _ _ hq9; have f1 := cell_of_row _ _ 1 _ _ _ hq9; have f2 := cell_of_row _ _ 2 _ _ _ hq9; have f3 := cell_of_row _ _ 3 _ _ _ hq9; clear hoth9 hsam9 hq9)
          clear f0 f1 f2 f3 hw9 hst u0 u1 uz
          have hW := Lib.hid (Stays.refl w9)
          refine wp_loop_rounds 6 ?_
          rw [rounds_succ]
          obtain ⟨⟨a0, a1⟩, _⟩ := HB.out _ hW.out
          go_wp2_with fail
          refine (h0.out _).mono ?_
          rintro e w0 ⟨rfl, hw⟩
          replace hW := Lib.hid (hW.out.trans hw)
          clear hw a0 a1
          go_wp2_with fail
          rw [rounds_succ]
          obtain ⟨⟨a0, a1⟩, _⟩ := HB.out _ hW.out
          go_wp2_with fail
          refine (h1.out _).mono ?_
          rintro e w1 ⟨rfl, hw⟩
          replace hW := Lib.hid (hW.out.trans hw)
          clear hw a0 a1
          go_wp2_with fail
          rw [rounds_succ]
          obtain ⟨⟨a0, a1⟩, _⟩ := HB.out _ hW.out
          go_wp2_with fail
          refine (h2.out _).mono ?_
          rintro e w2 ⟨rfl, hw⟩
          replace hW := Lib.hid (hW.out.trans hw)
          clear hw a0 a1
          have hfin := Lib.hid (HB.out _ hW.out).2
          go_wp2
          go_ret
          exact ⟨ret_b (by first | rfl | simp [*]), hfin.out⟩
    · rw [if_neg e1]
      have e1' : (c1 != 0) = true := bne_iff_ne.2 e1
      have e1'' : (c1 == 0) = false := beq_eq_false_iff_ne.2 e1
      by_cases p1 : 0 < c1
      · rw [decide_eq_true p1]
        have p1' : c1 > 0 := p1
        go_enter Try.func65, Try.ntmps65
        go_wp2_with ((refine wpList_store_row rfl _ _ _ rfl _ _ _ rfl rfl uz ?hi ?ho ?h1 ?hB hst ?_); (case hi => kernel_rfl); (case ho => rfl); (case h1 => first | rfl | simp [Value.oneCell']); (case hB => first | omega | (simp <;> omega)); intro w9 hw9 hq9 hoth9 hsam9; have HB := Lib.hid fun W (hW : Stays w9 W) => And.intro (And.intro (row_of hW ((hoth9 _ (in_heap u0) (by omega)).trans u0)) (row_of hW ((hoth9 _ (in_heap u1) (by omega)).trans u1))) (hw9.trans hW); have f0 := cell_of_row _ _ 0 _ _ _ hq9; have f1 := cell_of_row _ _ 1 _ _ _ hq9; have f2 := cell_of_row _ _ 2 _ _ _ hq9; have f3 := cell_of_row _ _ 3 _ _ _ hq9; clear hoth9 hsam9 hq9)
        clear f0 f1 f2 f3 hw9 hst u0 u1 uz
        have hW := Lib.hid (Stays.refl w9)
        refine wp_loop_rounds 6 ?_
        rw [rounds_succ]
        obtain ⟨⟨a0, a1⟩, _⟩ := HB.out _ hW.out
        go_wp2_with fail
        refine (h0.out _).mono ?_
        rintro e w0 ⟨rfl, hw⟩
        replace hW := Lib.hid (hW.out.trans hw)
        clear hw a0 a1
        go_wp2_with fail
        rw [rounds_succ]
        obtain ⟨⟨a0, a1⟩, _⟩ := HB.out _ hW.out
        go_wp2_with fail
        refine (h1.out _).mono ?_
        rintro e w1 ⟨rfl, hw⟩
        replace hW := Lib.hid (hW.out.trans hw)
        clear hw a0 a1
        have hfin := Lib.hid (HB.out _ hW.out).2
        go_wp2
        go_ret
        exact ⟨ret_b (by first | rfl | simp [*]), hfin.out⟩
      · rw [decide_eq_false p1]
        have p1' : ¬ c1 > 0 := p1
        go_enter Try.func65, Try.ntmps65
        go_wp2_with ((refine wpList_store_row rfl _ _ _ rfl _ _ _ rfl rfl uz ?hi ?ho ?h1 ?hB hst ?_); (case hi => kernel_rfl); (case ho => rfl); (case h1 => first | rfl | simp [Value.oneCell']); (case hB => first | omega | (simp <;> omega)); intro w9 hw9 hq9 hoth9 hsam9; have HB := Lib.hid fun W (hW : Stays w9 W) => And.intro (And.intro (row_of hW ((hoth9 _ (in_heap u0) (by omega)).trans u0)) (row_of hW ((hoth9 _ (in_heap u1) (by omega)).trans u1))) (hw9.trans hW); have f0 := cell_of_row _ _ 0 _ _ _ hq9; have f1 := cell_of_row _ _ 1 _ _ _ hq9; have f2 := cell_of_row _ _ 2 _ _ _ hq9; have f3 := cell_of_row _ _ 3 _ _ _ hq9; clear hoth9 hsam9 hq9)
        clear f0 f1 f2 f3 hw9 hst u0 u1 uz
        have hW := Lib.hid (Stays.refl w9)
        refine wp_loop_rounds 6 ?_
        rw [rounds_succ]
        obtain ⟨⟨a0, a1⟩, _⟩ := HB.out _ hW.out
        go_wp2_with fail
        refine (h0.out _).mono ?_
        rintro e w0 ⟨rfl, hw⟩
        replace hW := Lib.hid (hW.out.trans hw)
        clear hw a0 a1
        go_wp2_with fail
        rw [rounds_succ]
        obtain ⟨⟨a0, a1⟩, _⟩ := HB.out _ hW.out
        go_wp2_with fail
        refine (h1.out _).mono ?_
        rintro e w1 ⟨rfl, hw⟩
        replace hW := Lib.hid (hW.out.trans hw)
        clear hw a0 a1
        have hfin := Lib.hid (HB.out _ hW.out).2
        go_wp2
        go_ret
        exact ⟨ret_b (by first | rfl | simp [*]), hfin.out⟩
  · rw [if_neg e0]
    have e0' : (c0 != 0) = true := bne_iff_ne.2 e0
    have e0'' : (c0 == 0) = false := beq_eq_false_iff_ne.2 e0
    by_cases p0 : 0 < c0
    · rw [decide_eq_true p0]
      have p0' : c0 > 0 := p0
      go_enter Try.func65, Try.ntmps65
      go_wp2_with ((refine wpList_store_row rfl _ _ _ rfl _ _ _ rfl rfl uz ?hi ?ho ?h1 ?hB hst ?_); (case hi => kernel_rfl); (case ho => rfl); (case h1 => first | rfl | simp [Value.oneCell']); (case hB => first | omega | (simp <;> omega)); intro w9 hw9 hq9 hoth9 hsam9; have HB := Lib.hid fun W (hW : Stays w9 W) => And.intro (And.intro (row_of hW ((hoth9 _ (in_heap u0) (by omega)).trans u0)) (row_of hW ((hoth9 _ (in_heap u1) (by omega)).trans u1))) (hw9.trans hW); have f0 := cell_of_row _ _ 0 _ _ _ hq9; have f1 := cell_of_row _ _ 1 _ _ _ hq9; have f2 := cell_of_row _ _ 2 _ _ _ hq9; have f3 := cell_of_row _ _ 3 _ _ _ hq9; clear hoth9 hsam9 hq9)
      clear f0 f1 f2 f3 hw9 hst u0 u1 uz
      have hW := Lib.hid (Stays.refl w9)
      refine wp_loop_rounds 6 ?_
      rw [rounds_succ]
      obtain ⟨⟨a0, a1⟩, _⟩ := HB.out _ hW.out
      go_wp2_with fail
      refine (h0.out _).mono ?_
      rintro e w0 ⟨rfl, hw⟩
      replace hW := Lib.hid (hW.out.trans hw)
      clear hw a0 a1
      have hfin := Lib.hid (HB.out _ hW.out).2
      go_wp2
      go_ret
      exact ⟨ret_b (by first | rfl | simp [*]), hfin.out⟩
    · rw [decide_eq_false p0]
      have p0' : ¬ c0 > 0 := p0
      go_enter Try.func65, Try.ntmps65
      go_wp2_with ((refine wpList_store_row rfl _ _ _ rfl _ _ _ rfl rfl uz ?hi ?ho ?h1 ?hB hst ?_); (case hi => kernel_rfl); (case ho => rfl); (case h1 => first | rfl | simp [Value.oneCell']); (case hB => first | omega | (simp <;> omega)); intro w9 hw9 hq9 hoth9 hsam9; have HB := Lib.hid fun W (hW : Stays w9 W) => And.intro (And.intro (row_of hW ((hoth9 _ (in_heap u0) (by omega)).trans u0)) (row_of hW ((hoth9 _ (in_heap u1) (by omega)).trans u1))) (hw9.trans hW); have f0 := cell_of_row _ _ 0 _ _ _ hq9; have f1 := cell_of_row _ _ 1 _ _ _ hq9; have f2 := cell_of_row _ _ 2 _ _ _ hq9; have f3 := cell_of_row _ _ 3 _ _ _ hq9; clear hoth9 hsam9 hq9)
      clear f0 f1 f2 f3 hw9 hst u0 u1 uz
      have hW := Lib.hid (Stays.refl w9)
      refine wp_loop_rounds 6 ?_
      rw [rounds_succ]
      obtain ⟨⟨a0, a1⟩, _⟩ := HB.out _ hW.out
      go_wp2_with fail
      refine (h0.out _).mono ?_
      rintro e w0 ⟨rfl, hw⟩
      replace hW := Lib.hid (hW.out.trans hw)
      clear hw a0 a1
      have hfin := Lib.hid (HB.out _ hW.out).2
      go_wp2
      go_ret
      exact ⟨ret_b (by first | rfl | simp [*]), hfin.out⟩
end Go.Proofs.Ytmcbeaihjdnelaa
