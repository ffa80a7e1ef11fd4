/- A result in a cell and a code; calls of which it is known what they may give. No condition. -/
import Derived.Test.YtmcbeaihjdnelaaGv
import Derived.Deep.CutRange
import Derived.Deep.RegionHeld
namespace Go.Proofs.Ytmcbeaihjdnelaa
open Go Go.RowKit
set_option linter.unusedVariables false
set_option linter.unusedSimpArgs false

theorem end_gd {P : Program} {fn : Func} {R : Ending → World → Prop} {a : Act} {w : World} {p u : Tmp} {ty t : TypeId} {g : Nat} {cs : Array Value} {d : TypeDesc}
    (h : fn.results = #[.cell p ty, .tmp u]) (hp : a.tmps.getD p undef = .pointer (some ⟨g, 0, none⟩)) (hf : a.defers = [])
    (hu : P.underlying ty = some d) (hd : (match d with | .struct _ | .array _ _ => true | _ => false) = true)
    (hg : w.heap[g]? = some (.cells cs t (0, 0))) (hi : (P.info? ty).map (·.size) = some cs.size) (hR : R (.returned (.tuple #[.agg cs, a.tmps.getD u undef])) w) : bodyPost P fn R .ret a w := by
  refine bodyPost_ret ?_ hf hR
  rw [results_cell_tmp h, hp]
  simp [asAddr, run_loadVar_row w g t ty cs (0, 0) d hg hu hd hi, Result.andThen]

section
variable {P : Program} {ops : Array Oper} {W : World} {S : FuncId → Array Value → Value → Prop} {A : List (Tmp × Array Value × TypeId)}

/-- A call of which it is known what it may give. -/
theorem soft_callW {fid : FuncId} {A0 : Array Value} {V : Value → Prop} {Q : Act → Prop} {a : Act} {o : Oper} {rest : List Oper} (hwa : Region.wanted o (yielded ops a.tmps) = true) (hA : (A.all fun e => o.dst != some e.1) = true)
    (h : ∀ w, Stays W w → (execOp a.eval o).run P w = .ok (.enter fid A0) w)
    (hc : ∀ w, Stays W w → Calls P fid A0 w fun e w' => ∃ v, e = .returned v ∧ V v ∧ Stays w w')
    (hS : ∀ v, V v → S fid A0 v) (hu : ∀ v, S fid A0 v → V v)
    (hK : ∀ v, V v → wpSoft P ops W S A Q rest (a.put o.dst v)) : wpSoft P ops W S A Q (o :: rest) a := by
  refine ⟨fun _ w hw => ?_, not_listed hA a, ?_, fun u hu' => ?_⟩
  · rw [h w hw]
    exact ⟨rfl, (hc w hw).mono fun e w' ⟨v, he, hv, hs⟩ => ⟨v, he, hS v hv, hs⟩⟩
  · obtain ⟨_, _, _, ⟨v, _, hv, _⟩, _⟩ := hc W (Stays.refl W) []
    exact ⟨v, Or.inl ⟨hwa, W, Stays.refl W, by rw [h W (Stays.refl W)]; exact hS v hv⟩⟩
  · rcases hu' with ⟨_, w, hw, hu'⟩ | ⟨hn, _⟩
    · rw [h w hw] at hu'
      exact hK u (hu u hu')
    · rw [hwa] at hn; cases hn
end
end Go.Proofs.Ytmcbeaihjdnelaa
