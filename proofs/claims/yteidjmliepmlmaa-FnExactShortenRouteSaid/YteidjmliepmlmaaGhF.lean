/- Routes: whether one is valid, as the program says it. No condition. -/
import Derived.Test.YteidjmliepmlmaaGhD
namespace Go.Proofs.Yteidjmliepmlmaa
open Go Go.RowKit
set_option linter.unusedVariables false
set_option linter.unusedSimpArgs false

noncomputable def validR (a b : Int) (xs : List Int) (rs : List (List NV)) : Bool := gridB a b xs.length && decide (rs.length ≤ 600) && routeB a b xs rs

set_option maxRecDepth 100000 in
set_option maxHeartbeats 1000000 in
theorem c_implValidRoute (a b : Int) (A D : Option Addr) (c d : Nat) (xs : List Int) (rs : List (List NV)) (w : World) (h1 : Bs w w.heap.size A xs) (hc : xs.length ≤ c) (h2 : Ls KSpot 2 w w.heap.size D rs) (hd : rs.length ≤ d) (hS : InS rs) (hx : xs.length ≤ 1048576) (hn : rs.length ≤ 1048576) :
    Calls Try.prog 24 #[.agg #[.int .i64 a, .int .i64 b, .slice A xs.length c], .slice D rs.length d] w fun e w' => e = .returned (.bool (validR a b xs rs)) ∧ Below w.heap.size w w' := by
  have hst : Stays w (w.alloc (.cells #[.int .i64 a, .int .i64 b, .slice A xs.length c] 28)) := by (repeat (first | exact Stays.refl _ | (with_reducible refine Stays.drewN ?_ _) | (with_reducible refine Stays.alloc ?_ _) | (with_reducible refine Stays.drew ?_) | (refine Stays.trans ?_ ‹Stays _ _›)))
  have hbx := heap_alloc_new w (.cells #[.int .i64 a, .int .i64 b, .slice A xs.length c] 28)
  have HC : Hid (∀ w1, Stays (w.alloc (.cells #[.int .i64 a, .int .i64 b, .slice A xs.length c] 28)) w1 → w1.cell? ⟨w.heap.size, 0, none⟩ = some (.int .i64 a) ∧ w1.cell? ⟨w.heap.size, 1, none⟩ = some (.int .i64 b) ∧ w1.cell? ⟨w.heap.size, 2, none⟩ = some (.slice A xs.length c)) := Lib.hid fun w1 h => ⟨row_of h hbx 0, row_of h hbx 1, row_of h hbx 2⟩
  have k0 := c_implValidGrid (.agg #[.int .i64 a, .int .i64 b, .slice A xs.length c]) a b xs (w.alloc (.cells #[.int .i64 a, .int .i64 b, .slice A xs.length c] 28)) ⟨A, c, rfl, (h1.below hst).more hst.size⟩ hx
  have kR := fun hg W (h : Stays w W) => c_isRoute a b A D c d xs rs W ((h1.below h).more h.size) hc hg ((h2.below h).more h.size) hd hS hn
  unfold validR
  generalize routeB a b xs rs = q at kR ⊢
  replace hst := Lib.hid hst
  clear h1 h2 hbx hc hd hS
  cases hg : gridB a b xs.length with
  | false =>
    rw [hg] at k0
    replace k0 := Lib.hid k0
    clear kR hg
    go_enter Try.func24, Try.ntmps24
    go_wp2_with (go_at_call 50; refine k0.out.mono ?_; rintro e w1 ⟨rfl, hw1⟩)
    go_ret
    exact ⟨rfl, hst.out.trans hw1⟩
  | true =>
    rw [hg] at k0
    replace k0 := Lib.hid k0
    replace kR := Lib.hid (kR hg)
    clear hg
    by_cases h6 : rs.length ≤ 600
    · have h6' : ((rs.length : Nat) : Int) ≤ 600 := by omega
      rw [decide_eq_true h6]
      go_enter Try.func24, Try.ntmps24
      go_wp2_with fail
      refine k0.out.mono ?_
      rintro e w1 ⟨rfl, hw1⟩
      obtain ⟨q0, q1, q2⟩ := HC.out w1 hw1
      replace hw1 := Lib.hid (hst.out.trans (show Stays _ w1 from hw1))
      go_wp2_with fail
      refine (kR.out w1 hw1.out).mono ?_
      rintro e w2 ⟨rfl, hw2⟩
      go_wp2
      go_ret
      exact ⟨ret_b (by simp), hw1.out.trans hw2⟩
    · have h6' : ¬ ((rs.length : Nat) : Int) ≤ 600 := by omega
      rw [decide_eq_false h6]
      go_enter Try.func24, Try.ntmps24
      go_wp2_with (go_at_call 50; refine k0.out.mono ?_; rintro e w1 ⟨rfl, hw1⟩)
      go_ret
      exact ⟨ret_b (by simp <;> omega), hst.out.trans hw1⟩
end Go.Proofs.Yteidjmliepmlmaa
