/- An argument that is a spot, opened. No condition. -/
import Derived.Test.YteidjmliepmlmaaGeE
namespace Go.Proofs.Yteidjmliepmlmaa
open Go Go.ChangeShapes Go.WideShapes Go.RowKit
set_option linter.unusedVariables false

set_option maxRecDepth 100000 in
theorem open_spot {H : Type} {enc : TypeId × Value → H} {w : World} {held : Bool} {r : Reach} {b0 : Nat} {v : Value} {d : DataW H} {p : List MemPlace} (hval : Value.okWide Try.prog w r b0 26 v)
    (h : DataW.Trod enc Try.prog w 0 (fun _ => true) held 26 v d p) : ∃ x y, v = .agg #[.int .i16 x, .int .i16 y] ∧ In16 x ∧ In16 y := by
  obtain ⟨ins, ⟨cs, rfl, hk⟩, hr⟩ := open_sh (s := .agg [.i .i16, .i .i16]) (by kernel_rfl) hval h
  have hl := KMs_len hk
  obtain ⟨l⟩ := cs
  match l, ins, hl, hk, hr with
  | [c0, c1], [n0, n1], _, ⟨h0, h1, _⟩, ⟨r0, r1, _⟩ =>
    have h0 : c0 = .int .i16 n0.gi := h0
    have h1 : c1 = .int .i16 n1.gi := h1
    subst h0 h1
    have r0 : (decide (IntKind.i16.min ≤ n0.gi) && decide (n0.gi ≤ IntKind.i16.max)) = true := r0
    have r1 : (decide (IntKind.i16.min ≤ n1.gi) && decide (n1.gi ≤ IntKind.i16.max)) = true := r1
    simp only [Bool.and_eq_true, decide_eq_true_eq] at r0 r1
    exact ⟨n0.gi, n1.gi, rfl, r0, r1⟩
end Go.Proofs.Yteidjmliepmlmaa
