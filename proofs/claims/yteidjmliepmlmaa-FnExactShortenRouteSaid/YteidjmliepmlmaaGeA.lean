/- Spots of grids: whether there is one, and where its cost is kept, on both sides. No condition. -/
import Derived.Test.YteidjmliepmlmaaGdB
import Derived.Test.YteidjmliepmlmaaGSpot
import Derived.WalkLawsBesides
namespace Go.Proofs.Yteidjmliepmlmaa
open Go Go.RowKit
set_option linter.unusedVariables false
set_option linter.unusedSimpArgs false

def hasB (a b x y : Int) : Bool := decide (0 ≤ x ∧ x ≤ a - 1) && decide (0 ≤ y ∧ y ≤ b - 1)
def In16 (x : Int) : Prop := -32768 ≤ x ∧ x ≤ 32767

theorem hasB_iff {a b x y : Int} : hasB a b x y = true ↔ (0 ≤ x ∧ x ≤ a - 1) ∧ (0 ≤ y ∧ y ≤ b - 1) := by
  unfold hasB
  rw [Bool.and_eq_true, decide_eq_true_iff, decide_eq_true_iff]

theorem in16 {x : Int} (h : In16 x) : IntKind.i64.wrap x = x := IntWalk.i64_in _ (by unfold In16 at h; omega)

/-- A grid in a block. -/
def GridAt (w : World) (p : Nat) (a b : Int) (A : Option Addr) (c n : Nat) : Prop := ∀ w1, Below w.heap.size w w1 → w1.cell? ⟨p, 0, none⟩ = some (.int .i64 a) ∧ w1.cell? ⟨p, 1, none⟩ = some (.int .i64 b) ∧ w1.cell? ⟨p, 2, none⟩ = some (.slice A n c)

theorem grid_at {w : World} {p : Nat} {a b : Int} {A : Option Addr} {c n : Nat} {t : TypeId} (hg : w.heap[p]? = some (.cells #[.int .i64 a, .int .i64 b, .slice A n c] t (0, 0))) : GridAt w p a b A c n := fun w1 h => ⟨row_of h hg 0, row_of h hg 1, row_of h hg 2⟩

theorem GridAt.on {w w' : World} {p : Nat} {a b : Int} {A : Option Addr} {c n : Nat} (h : GridAt w p a b A c n) (hb : Below w.heap.size w w') : GridAt w' p a b A c n := fun w1 h1 => h w1 (hb.trans (Below.mono h1 hb.size))

set_option maxRecDepth 100000 in
theorem c_l07At (p : Nat) (a b x y : Int) (A : Option Addr) (c n : Nat) (w : World) (hg : GridAt w p a b A c n) (ha : 1 ≤ a ∧ a ≤ 24) (hb : 1 ≤ b ∧ b ≤ 24) :
    Calls Try.prog 100 #[.pointer (some ⟨p, 0, none⟩), .int .i64 x, .int .i64 y] w fun e w' => e = .returned (.bool (hasB a b x y)) ∧ w = w' := by
  obtain ⟨g0, g1, g2⟩ := hg w (Below.refl _ _)
  have e1 : IntKind.i64.wrap (a - 1) = a - 1 := IntWalk.i64_in _ (by omega)
  have e2 : IntKind.i64.wrap (b - 1) = b - 1 := IntWalk.i64_in _ (by omega)
  have k0 := fun W => c_l00In x 0 (a - 1) W
  have k1 := fun W => c_l00In y 0 (b - 1) W
  unfold hasB
  clear hg ha hb
  generalize decide (0 ≤ x ∧ x ≤ a - 1) = q at k0 ⊢
  generalize decide (0 ≤ y ∧ y ≤ b - 1) = r at k1 ⊢
  replace k0 := Lib.hid k0
  replace k1 := Lib.hid k1
  cases q with
  | false =>
    go_enter Try.func100, Try.ntmps100
    go_wp2_with (go_at_call 59; refine (k0.out _).mono ?_; rintro e w1 ⟨rfl, rfl⟩)
    go_ret
    exact ⟨rfl, rfl⟩
  | true =>
    go_enter Try.func100, Try.ntmps100
    go_wp2_with fail
    refine (k0.out _).mono ?_
    rintro e w1 ⟨rfl, rfl⟩
    go_wp2_with fail
    refine (k1.out _).mono ?_
    rintro e w1 ⟨rfl, rfl⟩
    go_wp2
    go_ret
    exact ⟨rfl, rfl⟩

set_option maxRecDepth 100000 in
theorem c_l07Spot (p : Nat) (a b x y : Int) (A : Option Addr) (c n : Nat) (w : World) (hg : GridAt w p a b A c n) (ha : 1 ≤ a ∧ a ≤ 24) (hb : 1 ≤ b ∧ b ≤ 24) (hx : In16 x) (hy : In16 y) :
    Calls Try.prog 85 #[.pointer (some ⟨p, 0, none⟩), .agg #[.int .i16 x, .int .i16 y]] w fun e w' => e = .returned (.bool (hasB a b x y)) ∧ Stays w w' := by
  have e1 := in16 hx
  have e2 := in16 hy
  have hst : Stays w (w.alloc (.cells #[.int .i16 x, .int .i16 y] 32)) := by (repeat (first | exact Stays.refl _ | (with_reducible refine Stays.drewN ?_ _) | (with_reducible refine Stays.alloc ?_ _) | (with_reducible refine Stays.drew ?_) | (refine Stays.trans ?_ ‹Stays _ _›)))
  have k0 := Lib.hid (c_l07At p a b x y A c n _ (hg.on hst) ha hb)
  replace hst := Lib.hid hst
  clear hg ha hb hx hy
  go_enter Try.func85, Try.ntmps85
  go_wp2_with (go_at_call 100; refine k0.out.mono ?_; rintro e w1 ⟨rfl, rfl⟩)
  go_ret
  exact ⟨rfl, hst.out⟩

theorem idx_bd {a b x y : Int} (ha : 1 ≤ a ∧ a ≤ 24) (hb : 1 ≤ b ∧ b ≤ 24) (hx : 0 ≤ x ∧ x ≤ a - 1) (hy : 0 ≤ y ∧ y ≤ b - 1) : 0 ≤ y * a ∧ y * a ≤ 552 ∧ 0 ≤ y * a + x ∧ y * a + a ≤ b * a ∧ y * a + x < b * a := by
  have h1 : 0 ≤ y * a := Int.mul_nonneg hy.1 (by omega)
  have h2 : y * a ≤ 23 * 24 := Int.mul_le_mul (by omega) (by omega) (by omega) (by omega)
  have h3 : (y + 1) * a ≤ b * a := Int.mul_le_mul_of_nonneg_right (by omega) (by omega)
  rw [Int.add_mul, Int.one_mul] at h3
  omega

set_option maxRecDepth 100000 in
theorem c_l07Index (p : Nat) (a b x y : Int) (A : Option Addr) (c n : Nat) (w : World) (hg : GridAt w p a b A c n) (ha : 1 ≤ a ∧ a ≤ 24) (hb : 1 ≤ b ∧ b ≤ 24) (hx : 0 ≤ x ∧ x ≤ a - 1) (hy : 0 ≤ y ∧ y ≤ b - 1) :
    Calls Try.prog 48 #[.pointer (some ⟨p, 0, none⟩), .agg #[.int .i16 x, .int .i16 y]] w fun e w' => e = .returned (.int .i64 (y * a + x)) ∧ Stays w w' := by
  have bd := idx_bd ha hb hx hy
  have e1 : IntKind.i64.wrap x = x := IntWalk.i64_in _ (by omega)
  have e2 : IntKind.i64.wrap y = y := IntWalk.i64_in _ (by omega)
  have e3 : IntKind.i64.wrap (y * a) = y * a := IntWalk.i64_in _ (by omega)
  have e4 : IntKind.i64.wrap (y * a + x) = y * a + x := IntWalk.i64_in _ (by omega)
  have hst : Stays w (w.alloc (.cells #[.int .i16 x, .int .i16 y] 32)) := by (repeat (first | exact Stays.refl _ | (with_reducible refine Stays.drewN ?_ _) | (with_reducible refine Stays.alloc ?_ _) | (with_reducible refine Stays.drew ?_) | (refine Stays.trans ?_ ‹Stays _ _›)))
  obtain ⟨g0, g1, g2⟩ := (hg.on hst) _ (Below.refl _ _)
  replace hst := Lib.hid hst
  clear hg ha hb hx hy bd
  go_enter Try.func48, Try.ntmps48
  go_wp2
  go_region
  go_wp2
  go_ret
  exact ⟨rfl, hst.out.drew⟩

set_option maxRecDepth 100000 in
set_option maxHeartbeats 1000000 in
theorem c_has (a b x y : Int) (A : Option Addr) (c n : Nat) (w : World) (hx : In16 x) (hy : In16 y) :
    Calls Try.prog 68 #[.agg #[.int .i64 a, .int .i64 b, .slice A n c], .agg #[.int .i16 x, .int .i16 y]] w fun e w' => e = .returned (.bool (hasB a b x y)) ∧ Stays w w' := by
  have e1 := in16 hx
  have e2 := in16 hy
  clear hx hy
  by_cases h1 : 0 ≤ x
  · by_cases h2 : x < a
    · by_cases h3 : 0 ≤ y
      · by_cases h4 : y < b
        · have r := Lib.hid (show hasB a b x y = true from hasB_iff.2 (by omega))
          go_enter Try.func68, Try.ntmps68
          go_wp2
          go_region
          go_wp2
          go_ret
          exact ⟨ret_b (by simp [r.out] <;> omega), by (repeat (first | exact Stays.refl _ | (with_reducible refine Stays.drewN ?_ _) | (with_reducible refine Stays.alloc ?_ _) | (with_reducible refine Stays.drew ?_) | (refine Stays.trans ?_ ‹Stays _ _›)))⟩
        · have r := Lib.hid (show hasB a b x y = false from Bool.eq_false_iff.2 fun h => by have := hasB_iff.1 h; omega)
          go_enter Try.func68, Try.ntmps68
          go_wp2
          go_region
          go_wp2
          go_ret
          exact ⟨ret_b (by simp [r.out] <;> omega), by (repeat (first | exact Stays.refl _ | (with_reducible refine Stays.drewN ?_ _) | (with_reducible refine Stays.alloc ?_ _) | (with_reducible refine Stays.drew ?_) | (refine Stays.trans ?_ ‹Stays _ _›)))⟩
      · have r := Lib.hid (show hasB a b x y = false from Bool.eq_false_iff.2 fun h => by have := hasB_iff.1 h; omega)
        go_enter Try.func68, Try.ntmps68
        go_wp2
        go_region
        go_wp2
        go_ret
        exact ⟨ret_b (by simp [r.out] <;> omega), by (repeat (first | exact Stays.refl _ | (with_reducible refine Stays.drewN ?_ _) | (with_reducible refine Stays.alloc ?_ _) | (with_reducible refine Stays.drew ?_) | (refine Stays.trans ?_ ‹Stays _ _›)))⟩
    · have r := Lib.hid (show hasB a b x y = false from Bool.eq_false_iff.2 fun h => by have := hasB_iff.1 h; omega)
      go_enter Try.func68, Try.ntmps68
      go_wp2
      go_region
      go_wp2
      go_ret
      exact ⟨ret_b (by simp [r.out] <;> omega), by (repeat (first | exact Stays.refl _ | (with_reducible refine Stays.drewN ?_ _) | (with_reducible refine Stays.alloc ?_ _) | (with_reducible refine Stays.drew ?_) | (refine Stays.trans ?_ ‹Stays _ _›)))⟩
  · have r := Lib.hid (show hasB a b x y = false from Bool.eq_false_iff.2 fun h => by have := hasB_iff.1 h; omega)
    go_enter Try.func68, Try.ntmps68
    go_wp2
    go_region
    go_wp2
    go_ret
    exact ⟨ret_b (by simp [r.out] <;> omega), by (repeat (first | exact Stays.refl _ | (with_reducible refine Stays.drewN ?_ _) | (with_reducible refine Stays.alloc ?_ _) | (with_reducible refine Stays.drew ?_) | (refine Stays.trans ?_ ‹Stays _ _›)))⟩
end Go.Proofs.Yteidjmliepmlmaa
