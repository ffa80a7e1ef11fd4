/- The law on feeds without some of their readings. No condition. -/
import Derived.Test.YtcopccniijkceaaLh
namespace Go.Proofs.Ytcopccniijkceaa
open Go Go.RowKit
set_option linter.unusedVariables false

theorem Lies.below {w w' : World} {g : Nat} {v : Value} {xs : List Rd} (h : Lies w g v xs) (hb : Below w.heap.size w w') : Lies w' g v xs := h.on fun hlt => Same.of_below hb hb.size hlt

theorem Lies.marked {w w' : World} {g g' n i : Nat} {k0 : Int} {v : Value} {xs : List Rd} (h : Lies w g v xs) (hm : Marked w w' g' n k0 i) (hne : xs ≠ [] → g ≠ g') : Lies w' g v xs := by
  by_cases hx : xs = []
  · subst hx
    obtain ⟨A, c, e, _⟩ := h
    exact ⟨A, c, e, fun h => absurd rfl h⟩
  · exact h.on fun _ => hm.same g (hne hx)

theorem Lies.feedAt {w : World} {g c : Nat} {A : Option Addr} {xs : List Rd} (h : Lies w g (.slice A xs.length c) xs) : Feed w w.heap.size A xs := by
  obtain ⟨A', c', e, hF⟩ := h.feed
  cases e
  exact hF

theorem Lies.lt {w : World} {g : Nat} {v : Value} {xs : List Rd} (h : Lies w g v xs) (hx : xs ≠ []) : g < w.heap.size := by
  obtain ⟨A, c, e, h⟩ := h
  exact (h hx).2.1

theorem Lies.at_ {w : World} {g c : Nat} {A : Option Addr} {xs : List Rd} (h : Lies w g (.slice A xs.length c) xs) : 0 < xs.length → A = some ⟨g, 0, none⟩ := fun h0 => by
  obtain ⟨A', c', e, h⟩ := h
  cases e
  exact (h (fun e => by rw [e] at h0; simp at h0)).1

theorem Lies.there {w : World} {g : Nat} {v : Value} {xs : List Rd} (h : Lies w g v xs) : w.there g 0 (xs.length * 4) := by
  obtain ⟨A, c, e, h⟩ := h
  by_cases hx : xs = []
  · subst hx
    intro j hj
    simp at hj
  · exact (h hx).2.2.1

theorem Marked.on {w wr w' : World} {g n : Nat} {k0 : Int} (h : Marked w wr g n k0 n) (hb : Below wr.heap.size wr w') : ∀ j, j < n → w'.rangeAt g (j * 4) (markRd (k0 + 4 * (j : Nat))).cells.toList := fun j hj => by
  have hlt : g < wr.heap.size := World.block_lt_of_cell? _ _ (h.rows j hj 0 _ rfl)
  exact range_below (h.rows j hj) hb hlt

theorem below_marked {w wr : World} {g n i : Nat} {k0 : Int} (h : Marked w wr g n k0 i) : w.heap.size ≤ wr.heap.size := (h.same (g + 1) (by omega)).size

end Go.Proofs.Ytcopccniijkceaa
