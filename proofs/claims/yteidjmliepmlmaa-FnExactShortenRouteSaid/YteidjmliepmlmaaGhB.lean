/- Neighbours, steps that lead, routes, as the program says them. No condition. -/
import Derived.Test.YteidjmliepmlmaaGhA
namespace Go.Proofs.Yteidjmliepmlmaa
open Go Go.RowKit
set_option linter.unusedVariables false
set_option linter.unusedSimpArgs false

theorem nbB_iff {x y u v : Int} : nbB x y u v = true ↔ ¬ (x = u ∧ y = v) ∧ (-1 ≤ u - x ∧ u - x ≤ 1) ∧ (-1 ≤ v - y ∧ v - y ≤ 1) := by
  unfold nbB
  simp only [Bool.and_eq_true, Bool.not_eq_true', decide_eq_true_eq, Bool.and_eq_false_iff, decide_eq_false_iff_not]
  constructor
  · rintro ⟨h1, h2, h3⟩
    exact ⟨fun h => by rcases h1 with h1 | h1 <;> simp_all, h2, h3⟩
  · rintro ⟨h1, h2, h3⟩
    refine ⟨?_, h2, h3⟩
    by_cases h : x = u
    · exact Or.inr fun h' => h1 ⟨h, h'⟩
    · exact Or.inl h

set_option maxRecDepth 100000 in
set_option maxHeartbeats 1000000 in
theorem c_isNeighbour (x y u v : Int) (w : World) (hx : In16 x) (hy : In16 y) (hu : In16 u) (hv : In16 v) :
    Calls Try.prog 101 #[.agg #[.int .i16 x, .int .i16 y], .agg #[.int .i16 u, .int .i16 v]] w fun e w' => e = .returned (.bool (nbB x y u v)) ∧ Stays w w' := by
  have e1 := in16 hx
  have e2 := in16 hy
  have e3 := in16 hu
  have e4 := in16 hv
  have e5 : IntKind.i64.wrap (u - x) = u - x := IntWalk.i64_in _ (by unfold In16 at *; omega)
  have e6 : IntKind.i64.wrap (v - y) = v - y := IntWalk.i64_in _ (by unfold In16 at *; omega)
  have hst : Stays w ((w.alloc (.cells #[.int .i16 x, .int .i16 y] 32)).alloc (.cells #[.int .i16 u, .int .i16 v] 32)) := by (repeat (first | exact Stays.refl _ | (with_reducible refine Stays.drewN ?_ _) | (with_reducible refine Stays.alloc ?_ _) | (with_reducible refine Stays.drew ?_) | (refine Stays.trans ?_ ‹Stays _ _›)))
  replace hst := Lib.hid hst
  clear hx hy hu hv
  by_cases hE : x = u ∧ y = v
  · have r := Lib.hid (show nbB x y u v = false from Bool.eq_false_iff.2 fun h => (nbB_iff.1 h).1 hE)
    have hne : ∀ w, (binOp BinOp.neq 32 (.agg #[.int .i16 x, .int .i16 y]) (.agg #[.int .i16 u, .int .i16 v])).run Try.prog w = .ok (.bool false) w := fun w => by rw [spot_neq, decide_eq_true hE.1, decide_eq_true hE.2]; rfl
    clear hE
    go_enter Try.func101, Try.ntmps101
    go_wp2
    go_region
    go_wp2
    go_ret
    exact ⟨ret_b (by first | (rw [r.out]; done) | (rw [r.out]; simp; omega)), hst.out.drew⟩
  · have hne : ∀ w, (binOp BinOp.neq 32 (.agg #[.int .i16 x, .int .i16 y]) (.agg #[.int .i16 u, .int .i16 v])).run Try.prog w = .ok (.bool true) w := fun w => by
      rw [spot_neq]
      have : (decide (x = u) && decide (y = v)) = false := by rw [← Bool.decide_and]; exact decide_eq_false hE
      rw [this]; rfl
    by_cases h1 : -1 ≤ u - x
    · by_cases h2 : u - x ≤ 1
      · by_cases h3 : -1 ≤ v - y
        · by_cases h4 : v - y ≤ 1
          · have r := Lib.hid (show nbB x y u v = true from nbB_iff.2 ⟨hE, ⟨h1, h2⟩, h3, h4⟩)
            clear hE
            go_enter Try.func101, Try.ntmps101
            go_wp2
            go_region
            go_wp2
            go_ret
            exact ⟨ret_b (by first | (rw [r.out]; done) | (rw [r.out]; simp; omega)), hst.out.drew⟩
          · have r := Lib.hid (show nbB x y u v = false from Bool.eq_false_iff.2 fun h => h4 (nbB_iff.1 h).2.2.2)
            clear hE
            go_enter Try.func101, Try.ntmps101
            go_wp2
            go_region
            go_wp2
            go_ret
            exact ⟨ret_b (by first | (rw [r.out]; done) | (rw [r.out]; simp; omega)), hst.out.drew⟩
        · have r := Lib.hid (show nbB x y u v = false from Bool.eq_false_iff.2 fun h => h3 (nbB_iff.1 h).2.2.1)
          clear hE
          go_enter Try.func101, Try.ntmps101
          go_wp2
          go_region
          go_wp2
          go_ret
          exact ⟨ret_b (by first | (rw [r.out]; done) | (rw [r.out]; simp; omega)), hst.out.drew⟩
      · have r := Lib.hid (show nbB x y u v = false from Bool.eq_false_iff.2 fun h => h2 (nbB_iff.1 h).2.1.2)
        clear hE
        go_enter Try.func101, Try.ntmps101
        go_wp2
        go_region
        go_wp2
        go_ret
        exact ⟨ret_b (by first | (rw [r.out]; done) | (rw [r.out]; simp; omega)), hst.out.drew⟩
    · have r := Lib.hid (show nbB x y u v = false from Bool.eq_false_iff.2 fun h => h1 (nbB_iff.1 h).2.1.1)
      clear hE
      go_enter Try.func101, Try.ntmps101
      go_wp2
      go_region
      go_wp2
      go_ret
      exact ⟨ret_b (by first | (rw [r.out]; done) | (rw [r.out]; simp; omega)), hst.out.drew⟩


def leadB (a b : Int) (xs : List Int) (x y u v : Int) : Bool := nbB x y u v && freeB a b xs u v && (freeB a b xs x v && freeB a b xs u y)

set_option maxRecDepth 100000 in
set_option maxHeartbeats 1000000 in
theorem c_leads (a b x y u v : Int) (A : Option Addr) (c : Nat) (xs : List Int) (w : World) (h1 : Bs w w.heap.size A xs) (hc : xs.length ≤ c) (hg : gridB a b xs.length = true) (hx : In16 x) (hy : In16 y) (hu : In16 u) (hv : In16 v) :
    Calls Try.prog 92 #[.agg #[.int .i64 a, .int .i64 b, .slice A xs.length c], .agg #[.int .i16 x, .int .i16 y], .agg #[.int .i16 u, .int .i16 v]] w fun e w' => e = .returned (.bool (leadB a b xs x y u v)) ∧ Stays w w' := by
  have hst : Stays w (((w.alloc (.cells #[.int .i64 a, .int .i64 b, .slice A xs.length c] 28)).alloc (.cells #[.int .i16 x, .int .i16 y] 32)).alloc (.cells #[.int .i16 u, .int .i16 v] 32)) := by (repeat (first | exact Stays.refl _ | (with_reducible refine Stays.drewN ?_ _) | (with_reducible refine Stays.alloc ?_ _) | (with_reducible refine Stays.drew ?_) | (refine Stays.trans ?_ ‹Stays _ _›)))
  have u0 : (((w.alloc (.cells #[.int .i64 a, .int .i64 b, .slice A xs.length c] 28)).alloc (.cells #[.int .i16 x, .int .i16 y] 32)).alloc (.cells #[.int .i16 u, .int .i16 v] 32)).heap[w.heap.size]? = some (.cells #[.int .i64 a, .int .i64 b, .slice A xs.length c] 28 (0, 0)) := by (repeat (first | (refine heap_top _ _ _ ?_; simp; done) | (with_reducible refine heap_drawn _ _ _ ?_) | (with_reducible refine heap_under _ _ _ ?_ ?_; (simp <;> omega))))
  have u1 : (((w.alloc (.cells #[.int .i64 a, .int .i64 b, .slice A xs.length c] 28)).alloc (.cells #[.int .i16 x, .int .i16 y] 32)).alloc (.cells #[.int .i16 u, .int .i16 v] 32)).heap[w.heap.size + 1]? = some (.cells #[.int .i16 x, .int .i16 y] 32 (0, 0)) := by (repeat (first | (refine heap_top _ _ _ ?_; simp; done) | (with_reducible refine heap_drawn _ _ _ ?_) | (with_reducible refine heap_under _ _ _ ?_ ?_; (simp <;> omega))))
  have u2 : (((w.alloc (.cells #[.int .i64 a, .int .i64 b, .slice A xs.length c] 28)).alloc (.cells #[.int .i16 x, .int .i16 y] 32)).alloc (.cells #[.int .i16 u, .int .i16 v] 32)).heap[w.heap.size + 1 + 1]? = some (.cells #[.int .i16 u, .int .i16 v] 32 (0, 0)) := by (repeat (first | (refine heap_top _ _ _ ?_; simp; done) | (with_reducible refine heap_drawn _ _ _ ?_) | (with_reducible refine heap_under _ _ _ ?_ ?_; (simp <;> omega))))
  have HC : Hid (∀ w1, Stays (((w.alloc (.cells #[.int .i64 a, .int .i64 b, .slice A xs.length c] 28)).alloc (.cells #[.int .i16 x, .int .i16 y] 32)).alloc (.cells #[.int .i16 u, .int .i16 v] 32)) w1 → w1.cell? ⟨w.heap.size, 0, none⟩ = some (.int .i64 a) ∧ w1.cell? ⟨w.heap.size, 1, none⟩ = some (.int .i64 b) ∧ w1.cell? ⟨w.heap.size, 2, none⟩ = some (.slice A xs.length c) ∧ w1.cell? ⟨w.heap.size + 1, 0, none⟩ = some (.int .i16 x) ∧ w1.cell? ⟨w.heap.size + 1, 1, none⟩ = some (.int .i16 y) ∧ w1.cell? ⟨w.heap.size + 1 + 1, 0, none⟩ = some (.int .i16 u) ∧ w1.cell? ⟨w.heap.size + 1 + 1, 1, none⟩ = some (.int .i16 v)) := Lib.hid fun w1 h => ⟨row_of h u0 0, row_of h u0 1, row_of h u0 2, row_of h u1 0, row_of h u1 1, row_of h u2 0, row_of h u2 1⟩
  have kN := fun W => c_isNeighbour x y u v W hx hy hu hv
  have kF := fun p q hp hq W (h : Stays w W) => c_isFree a b p q A c xs W ((h1.below h).more h.size) hc hg hp hq
  have k1 := kF u v hu hv
  have k2 := kF x v hx hv
  have k3 := kF u y hu hy
  unfold leadB
  generalize nbB x y u v = n at kN ⊢
  generalize freeB a b xs u v = f1 at k1 ⊢
  generalize freeB a b xs x v = f2 at k2 ⊢
  generalize freeB a b xs u y = f3 at k3 ⊢
  replace kN := Lib.hid kN
  replace k1 := Lib.hid k1
  replace k2 := Lib.hid k2
  replace k3 := Lib.hid k3
  replace hst := Lib.hid hst
  clear kF h1 hc hg hx hy hu hv u0 u1 u2
  cases n with
  | false =>
    go_enter Try.func92, Try.ntmps92
    go_wp2_with (go_at_call 101; refine (kN.out _).mono ?_; rintro e w1 ⟨rfl, hw1⟩)
    go_ret
    exact ⟨rfl, hst.out.trans hw1⟩
  | true =>
    cases f1 with
    | false =>
      go_enter Try.func92, Try.ntmps92
      go_wp2_with fail
      refine (kN.out _).mono ?_
      rintro e w1 ⟨rfl, hw1⟩
      obtain ⟨q0, q1, q2, q3, q4, q5, q6⟩ := HC.out w1 hw1
      replace hw1 := Lib.hid (show Stays _ w1 from hw1)
      go_wp2_with fail
      refine (k1.out _ (hst.out.trans hw1.out)).mono ?_
      rintro e w2 ⟨rfl, hw2⟩
      go_wp2
      go_ret
      exact ⟨rfl, hst.out.trans (hw1.out.trans hw2)⟩
    | true =>
      cases f2
      all_goals cases f3
      all_goals
        go_enter Try.func92, Try.ntmps92
        go_wp2_with fail
        refine (kN.out _).mono ?_
        rintro e w1 ⟨rfl, hw1⟩
        obtain ⟨q0, q1, q2, q3, q4, q5, q6⟩ := HC.out w1 hw1
        replace hw1 := Lib.hid (show Stays _ w1 from hw1)
        go_wp2_with fail
        refine (k1.out _ (hst.out.trans hw1.out)).mono ?_
        rintro e w2 ⟨rfl, hw2⟩
        clear q0 q1 q2 q3 q4 q5 q6
        obtain ⟨q0, q1, q2, q3, q4, q5, q6⟩ := HC.out w2 (hw1.out.trans hw2)
        replace hw2 := Lib.hid (show Stays _ w2 from hw1.out.trans hw2)
        go_wp2_with fail
        refine (k2.out _ (hst.out.trans hw2.out)).mono ?_
        rintro e w3 ⟨rfl, hw3⟩
        clear q0 q1 q2 q3 q4 q5 q6
        obtain ⟨q0, q1, q2, q3, q4, q5, q6⟩ := HC.out w3 (hw2.out.trans hw3)
        replace hw3 := Lib.hid (show Stays _ w3 from hw2.out.trans hw3)
        first
          | (go_wp2_with fail; refine (k3.out _ (hst.out.trans hw3.out)).mono ?_; rintro e w4 ⟨rfl, hw4⟩; go_wp2; go_ret; exact ⟨rfl, hst.out.trans (hw3.out.trans hw4)⟩)
          | (go_wp2; go_ret; exact ⟨rfl, hst.out.trans hw3.out⟩)
end Go.Proofs.Yteidjmliepmlmaa
