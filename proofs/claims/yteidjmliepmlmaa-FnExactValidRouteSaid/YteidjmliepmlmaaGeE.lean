/- The cost of a spot, as the program says it, and the law. No condition. -/
import Derived.Test.YteidjmliepmlmaaGeD
import Derived.Deep.RegionHeld
namespace Go.Proofs.Yteidjmliepmlmaa
open Go Go.RowKit
set_option linter.unusedVariables false
set_option linter.unusedSimpArgs false

theorem c_toSp (x y : Int) (w : World) : Calls Try.prog 14 #[.agg #[.int .i16 x, .int .i16 y]] w fun e w' => e = .returned (.agg #[.int .i16 x, .int .i16 y]) ∧ Stays w w' := by
  refine (c_toSpot (.agg #[.int .i16 x, .int .i16 y]) [.i x, .i y] w ⟨_, rfl, rfl, rfl, trivial⟩).mono ?_
  rintro e w' ⟨cs, rfl, hk, hb⟩
  have hl := KMs_len hk
  obtain ⟨l⟩ := cs
  match l, hl, hk with
  | [c0, c1], _, ⟨h0, h1, _⟩ =>
    have h0 : c0 = .int .i16 x := h0
    have h1 : c1 = .int .i16 y := h1
    subst h0 h1
    exact ⟨rfl, hb⟩

end Go.Proofs.Yteidjmliepmlmaa
