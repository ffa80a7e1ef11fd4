/- Grids: whether one is valid, on both sides, and the law on valid ones. No condition. -/
import Derived.Test.YtejljfejajckoaaGdA
import Derived.Test.YtejljfejajckoaaLa
import Derived.Deep.RegionHeld
namespace Go.Proofs.Ytejljfejajckoaa
open Go Go.RowKit
set_option linter.unusedVariables false
set_option linter.unusedSimpArgs false

def okW (a : Int) : Bool := decide (1 ≤ a ∧ a ≤ 24)
def gridB (a b : Int) (n : Nat) : Bool := okW a && okW b && decide ((n : Int) = a * b)

theorem okW_iff {a : Int} : okW a = true ↔ 1 ≤ a ∧ a ≤ 24 := decide_eq_true_iff

theorem gridB_iff {a b : Int} {n : Nat} : gridB a b n = true ↔ (1 ≤ a ∧ a ≤ 24) ∧ (1 ≤ b ∧ b ≤ 24) ∧ (n : Int) = a * b := by
  unfold gridB
  rw [Bool.and_eq_true, Bool.and_eq_true, okW_iff, okW_iff, decide_eq_true_iff, and_assoc]

theorem prod_bd {a b : Int} (h : 1 ≤ a ∧ a ≤ 24) (h' : 1 ≤ b ∧ b ≤ 24) : 1 ≤ a * b ∧ a * b ≤ 576 :=
  ⟨by have := Int.mul_le_mul h.1 h'.1 (by omega) (by omega); omega, by have := Int.mul_le_mul h.2 h'.2 (by omega) (by omega); omega⟩

theorem prod_in {a b : Int} (h : 1 ≤ a ∧ a ≤ 24) (h' : 1 ≤ b ∧ b ≤ 24) : IntKind.i64.wrap (a * b) = a * b := by
  have := prod_bd h h'
  exact IntWalk.i64_in _ (by omega)

theorem c_isWidth (a : Int) (w : World) : Calls Try.prog 129 #[.int .i64 a] w fun e w' => e = .returned (.bool (okW a)) ∧ w = w' := by
  go_enter Try.func129, Try.ntmps129
  by_cases h1 : 1 ≤ a
  · by_cases h2 : a ≤ 24
    · go_wp2
      go_ret
      exact ⟨ret_b (by simp [okW, h1, h2]), rfl⟩
    · go_wp2
      go_ret
      exact ⟨ret_b (by simp [okW]; omega), rfl⟩
  · go_wp2
    go_ret
    exact ⟨ret_b (by simp [okW]; omega), rfl⟩

theorem c_inW (a : Int) (w : World) : Calls Try.prog 123 #[.int .i64 a, .int .i64 1, .int .i64 24] w fun e w' => e = .returned (.bool (okW a)) ∧ w = w' := c_l00In a 1 24 w

/-- What a call about a width may give. -/
def okS (f : FuncId) (args : Array Value) (v : Value) : Prop := ∀ n, args = #[.int .i64 n, .int .i64 1, .int .i64 24] → v = .bool (okW n)

theorem okS_of {f : FuncId} {a : Int} {b : Bool} (h : okW a = b) : okS f #[.int .i64 a, .int .i64 1, .int .i64 24] (.bool b) := fun n e => by
  simp at e
  subst e
  rw [h]

end Go.Proofs.Ytejljfejajckoaa
