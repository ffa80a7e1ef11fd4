/- Regions that draw their order, with guards: operations that leave one value, calls of one value, operations that are left out. No condition. -/
import Derived.Test.YtcopccniijkceaaSo
namespace Go.Proofs.Ytcopccniijkceaa
open Go Go.RowKit
set_option linter.unusedVariables false

section
variable {P : Program} {ops : Array Oper} {W : World} {S : FuncId → Array Value → Value → Prop} {A : List (Tmp × Array Value × TypeId)}

/-- An operation that leaves one value and the world alone. -/
theorem soft_detG {Q : Act → Prop} {a : Act} {o : Oper} {rest : List Oper} {v : Value} (hwa : Region.wanted o (yielded ops a.tmps) = true) (hA : (A.all fun e => o.dst != some e.1) = true)
    (h : ∀ w, Stays W w → (execOp a.eval o).run P w = .ok (.value v) w) (hK : wpSoft P ops W S A Q rest (a.put o.dst v)) : wpSoft P ops W S A Q (o :: rest) a := by
  refine ⟨fun _ w hw => ?_, not_listed hA a, ⟨v, Or.inl ⟨hwa, W, Stays.refl W, ?_⟩⟩, fun u hu => ?_⟩
  · rw [h w hw]; exact Stays.refl w
  · rw [h W (Stays.refl W)]; rfl
  · rcases hu with ⟨_, w, hw, hu⟩ | ⟨hn, _⟩
    · rw [h w hw] at hu
      cases hu
      exact hK
    · rw [hwa] at hn; cases hn

/-- An operation that its guard leaves out. -/
theorem soft_skipG {Q : Act → Prop} {a : Act} {o : Oper} {rest : List Oper} (hwa : Region.wanted o (yielded ops a.tmps) = false) (hA : (A.all fun e => o.dst != some e.1) = true)
    (hK : wpSoft P ops W S A Q rest (a.put o.dst undef)) : wpSoft P ops W S A Q (o :: rest) a := by
  refine ⟨fun h => ?_, not_listed hA a, ⟨undef, Or.inr ⟨hwa, rfl⟩⟩, fun u hu => ?_⟩
  · rw [hwa] at h; cases h
  · rcases hu with ⟨h, _⟩ | ⟨_, rfl⟩
    · rw [hwa] at h; cases h
    · exact hK

/-- A call that gives one value. -/
theorem soft_callS {Q : Act → Prop} {a : Act} {o : Oper} {rest : List Oper} {f : FuncId} {args : Array Value} {v : Value} (hwa : Region.wanted o (yielded ops a.tmps) = true) (hA : (A.all fun e => o.dst != some e.1) = true)
    (h : ∀ w, Stays W w → (execOp a.eval o).run P w = .ok (.enter f args) w)
    (hc : ∀ w, Stays W w → Calls P f args w fun e w' => e = .returned v ∧ Stays w w') (hS : S f args v) (hu : ∀ u, S f args u → u = v)
    (hK : wpSoft P ops W S A Q rest (a.put o.dst v)) : wpSoft P ops W S A Q (o :: rest) a := by
  refine ⟨fun _ w hw => ?_, not_listed hA a, ⟨v, Or.inl ⟨hwa, W, Stays.refl W, by rw [h W (Stays.refl W)]; exact hS⟩⟩, fun u hu' => ?_⟩
  · rw [h w hw]
    exact ⟨rfl, (hc w hw).mono fun e w' he => ⟨v, he.1, hS, he.2⟩⟩
  · rcases hu' with ⟨_, w, hw, hu'⟩ | ⟨hn, _⟩
    · rw [h w hw] at hu'
      rw [hu u hu']
      exact hK
    · rw [hwa] at hn; cases hn
end
end Go.Proofs.Ytcopccniijkceaa
