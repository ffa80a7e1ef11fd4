/- What is made, or the code of the failure: the function that recovers. No condition. -/
import Derived.Test.YteidjmliepmlmaaGeC
namespace Go.Proofs.Yteidjmliepmlmaa
open Go Go.RowKit
set_option linter.unusedVariables false
set_option linter.unusedSimpArgs false

theorem c_code (w : World) : Calls Try.prog 121 #[.agg #[]] w fun e w' => e = .returned (.int .i64 2) ∧ Stays w w' := by
  go_enter Try.func121, Try.ntmps121
  go_wp2
  go_ret
  exact ⟨rfl, by (repeat (first | exact Stays.refl _ | (with_reducible refine Stays.drewN ?_ _) | (with_reducible refine Stays.alloc ?_ _) | (with_reducible refine Stays.drew ?_) | (refine Stays.trans ?_ ‹Stays _ _›)))⟩

end Go.Proofs.Yteidjmliepmlmaa
