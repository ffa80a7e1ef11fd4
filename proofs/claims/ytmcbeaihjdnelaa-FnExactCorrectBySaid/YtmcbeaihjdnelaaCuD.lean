/- Curves: ValidCurve as the document says it, and the law. No condition. -/
import Derived.Test.YtmcbeaihjdnelaaCuC
namespace Go.Proofs.Ytmcbeaihjdnelaa
open Go Go.RowKit
set_option linter.unusedVariables false
set_option linter.unusedSimpArgs false

theorem toCu_val {w : World} {g1 g2 : Nat} {ps ls : List (List NV)} (h1 : LiesL KFl 1 w g1 (.slice (some ⟨g1, 0, none⟩) ps.length ps.length) ps) (h2 : LiesL KFl 1 w g2 (.slice (some ⟨g2, 0, none⟩) ls.length ls.length) ls) :
    CuV w w.heap.size (.agg #[.slice (some ⟨g1, 0, none⟩) ps.length ps.length, .slice (some ⟨g2, 0, none⟩) ls.length ls.length]) ps ls := ⟨_, _, _, _, rfl, h1.rows, h2.rows⟩

/-- A copy of a graph, as a value. -/
theorem c_toCu (v : Value) (ps ls : List (List NV)) (w : World) (h : CuV w w.heap.size v ps ls) (hn : ps.length ≤ 1048576) (hm : ls.length ≤ 1048576) :
    Calls Try.prog 30 #[v] w fun e w' => ∃ v', e = .returned v' ∧ Below w.heap.size w w' ∧ CuV w' w'.heap.size v' ps ls := by
  refine (c_toCurve v ps ls w h hn hm).mono ?_
  rintro e w' ⟨g1, g2, rfl, _, _, hb, l1, l2⟩
  exact ⟨_, rfl, hb, toCu_val l1 l2⟩

/-- An argument that is a graph, in its box. -/
theorem boxCu (t : TypeId) {w : World} {v : Value} {ps ls : List (List NV)} (h : CuV w w.heap.size v ps ls) : ∃ A c A' c', v = .agg #[.slice A ps.length c, .slice A' ls.length c'] ∧
    ∀ w1, Stays (w.alloc (.cells #[.slice A ps.length c, .slice A' ls.length c'] t)) w1 → ((w1.cell? ⟨w.heap.size, 0, none⟩ = some (.slice A ps.length c) ∧ w1.cell? ⟨w.heap.size, 1, none⟩ = some (.slice A' ls.length c')) ∧ Below w.heap.size w w1) ∧ CuV w1 w1.heap.size (.agg #[.slice A ps.length c, .slice A' ls.length c']) ps ls := by
  obtain ⟨A, c, A', c', rfl, h1, h2⟩ := h.val
  refine ⟨A, c, A', c', rfl, fun w1 hb => ?_⟩
  have hb' : Below w.heap.size w w1 := (show Stays w _ from by (repeat (first | exact Stays.refl _ | (with_reducible refine Stays.drewN ?_ _) | (with_reducible refine Stays.alloc ?_ _) | (with_reducible refine Stays.drew ?_) | (refine Stays.trans ?_ ‹Stays _ _›)))).trans hb
  exact ⟨⟨⟨row_of hb (heap_alloc_new w _) 0, row_of hb (heap_alloc_new w _) 1⟩, hb'⟩, h.on hb'⟩

end Go.Proofs.Ytmcbeaihjdnelaa
