/- Copies of grids, as the document and the program make them. No condition. -/
import Derived.Test.YteidjmliepmlmaaGdG
import Derived.Test.YteidjmliepmlmaaGeC
import Derived.Test.YteidjmliepmlmaaSv
import Derived.ArgAppend
import Derived.Deep.RegionLawGrows
import Derived.Deep.RegionLaw
import Derived.Deep.AppendLies
namespace Go.Proofs.Yteidjmliepmlmaa
open Go Go.RowKit
set_option linter.unusedVariables false
set_option linter.unusedSimpArgs false

section
variable {P : Program} {ops : Array Oper} {W : World} {S : FuncId → Array Value → Value → Prop} {A : List (Tmp × Array Value × TypeId)}
/-- The making of an empty slice. -/
theorem soft_slice0 {Q : Act → Prop} {a : Act} {o : Oper} {rest : List Oper} {t : TypeId} (hwa : Region.wanted o (yielded ops a.tmps) = true) (hA : (A.all fun e => o.dst != some e.1) = true)
    (h : ∀ w, Stays W w → (execOp a.eval o).run P w = .ok (.value (.slice (some ⟨w.heap.size, 0, none⟩) 0 0)) (w.alloc (.cells #[] t)))
    (hK : ∀ p, wpSoft P ops W S A Q rest (a.put o.dst (.slice (some ⟨p, 0, none⟩) 0 0))) : wpSoft P ops W S A Q (o :: rest) a := by
  refine ⟨fun _ w hw => ?_, not_listed hA a, ⟨.slice (some ⟨W.heap.size, 0, none⟩) 0 0, Or.inl ⟨hwa, W, Stays.refl W, ?_⟩⟩, fun u hu => ?_⟩
  · rw [h w hw]; exact (Stays.refl w).alloc _
  · rw [h W (Stays.refl W)]; rfl
  · rcases hu with ⟨_, w, hw, hu⟩ | ⟨hn, _⟩
    · rw [h w hw] at hu
      cases hu
      exact hK _
    · rw [hwa] at hn; cases hn
end

def u8L (xs : List Int) : List Value := xs.map fun x => .int .u8 x
theorem u8L_one (xs : List Int) : ∀ u ∈ u8L xs, u.oneCell' = true := by
  intro u hu
  obtain ⟨x, _, rfl⟩ := List.mem_map.1 hu
  rfl
theorem u8L_at {xs : List Int} {j : Nat} {u : Value} (h : (u8L xs)[j]? = some u) : ∃ x, xs[j]? = some x ∧ u = .int .u8 x := by
  unfold u8L at h
  rw [List.getElem?_map] at h
  cases e : xs[j]? with
  | none => rw [e] at h; cases h
  | some x => rw [e] at h; cases h; exact ⟨x, rfl, rfl⟩

/-- What owns bytes lies in its block. -/
theorem own_liesB {w : World} {B g cap : Nat} {xs : List Int} (h : w.ownsRow B 5 1 (.slice (some ⟨g, 0, none⟩) xs.length cap) xs.length (u8L xs)) : LiesB w g (.slice (some ⟨g, 0, none⟩) xs.length cap) xs ∧ xs.length ≤ cap ∧ g < w.heap.size := by
  rcases h.2 with ⟨h2, _⟩ | ⟨g', cap', cur, hv, hb, hg, hn, hc, hs, ht⟩
  · cases h2
  · cases hv
    refine ⟨⟨_, _, rfl, fun _ => ⟨rfl, in_heap hg, fun j hj => ?_, fun i r hr => ?_⟩⟩, hn, in_heap hg⟩
    · refine ⟨?_, frozen_of_row _ _ _ _ _ hg⟩
      rw [cell_of_row _ _ _ _ _ _ hg]
      have : 0 + j < cur.size := by rw [hs]; omega
      rw [Array.getElem?_eq_getElem this]; rfl
    · have hi := (List.getElem?_eq_some_iff.1 hr).1
      refine ⟨[.int .u8 r], ⟨rfl, trivial⟩, fun j u hu => ?_⟩
      cases j with
      | zero =>
        cases hu
        rw [cell_of_row _ _ _ _ _ _ hg]
        have h1 : (u8L xs)[i]? = some (.int .u8 r) := by unfold u8L; rw [List.getElem?_map, hr]; rfl
        rw [← ht, List.getElem?_take_of_lt (by omega)] at h1
        show cur[i * 1 + 0]? = _
        rw [Nat.mul_one, Nat.add_zero]
        simpa using h1
      | succ j => simp at hu

/-- A copy: a grid whose costs lie in a block of their own. -/
def CDone (w : World) (a b : Int) (xs : List Int) (e : Ending) (w' : World) : Prop :=
  ∃ g c, e = .returned (.agg #[.int .i64 a, .int .i64 b, .slice (some ⟨g, 0, none⟩) xs.length c]) ∧ Below w.heap.size w w' ∧ (w.heap.size ≤ g ∧ g < w'.heap.size) ∧ LiesB w' g (.slice (some ⟨g, 0, none⟩) xs.length c) xs ∧ xs.length ≤ c

end Go.Proofs.Yteidjmliepmlmaa
