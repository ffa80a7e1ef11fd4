/- Feeds, as lists of rows of four cells; the smallest functions on times. -/
import Derived.Test.YteidjmliepmlmaaLz
import Derived.ProofKit
import Derived.Deep.Quiet
import Derived.Deep.QuietTactic
import Derived.BigQuiet
import Derived.IntWalk
import Derived.Lib.Hide
namespace Go.Proofs.Yteidjmliepmlmaa
open Go Go.RowKit
set_option linter.unusedVariables false

def okTime (t : Int) : Bool := decide (0 ≤ t) && decide (t ≤ 1000000000)

theorem c_l00In (n a b : Int) (w : World) : Calls Try.prog 59 #[.int .i64 n, .int .i64 a, .int .i64 b] w fun e w' => e = .returned (.bool (decide (a ≤ n ∧ n ≤ b))) ∧ w = w' := by
  go_enter Try.func59, Try.ntmps59
  by_cases h1 : a ≤ n
  · by_cases h2 : n ≤ b
    · go_wp2
      go_ret
      exact ⟨ret_b (by simp [h1, h2]), rfl⟩
    · go_wp2
      go_ret
      exact ⟨ret_b (by simp; omega), rfl⟩
  · go_wp2
    go_ret
    exact ⟨ret_b (by simp; omega), rfl⟩

/-- A callee that draws nothing, met where something has been drawn before. -/
theorem met_again {P : Program} {f : FuncId} {args : Array Value} {w : World} {a n : Nat} {v : Value} (h : ∀ W, Calls P f args W fun e w' => e = .returned v ∧ W = w') :
    Calls P f args (w.drewN (a + n)) fun e w' => e = .returned v ∧ ∃ m, w' = w.drewN (a + m) :=
  (h _).mono fun _ _ ⟨he, hw⟩ => ⟨he, n, hw.symm⟩

/-- The times of a feed that lies in memory. -/
def Times (w : World) (A : Option Addr) (ts : List Int) : Prop := ∀ i t, ts[i]? = some t → ∃ ad, A = some ad ∧ w.cell? (ad.add (i * 4)) = some (.int .i64 t)

def good (ts : List Int) (j : Nat) : Prop := ∀ t, ts[j]? = some t → okTime t = true ∧ ∀ p, 0 < j → ts[j - 1]? = some p → p < t

open Classical in
noncomputable def feedOK (ts : List Int) : Bool := decide (∀ j, good ts j)
theorem feedOK_iff {ts : List Int} : feedOK ts = true ↔ ∀ j, good ts j := @decide_eq_true_iff _ (Classical.propDecidable _)

theorem drew_cell (w : World) (k : Nat) (p : Addr) : (w.drewN k).cell? p = w.cell? p := rfl

end Go.Proofs.Yteidjmliepmlmaa
