/- Lists of spots that a call owns: marked, held. No condition. -/
import Derived.Test.YteidjmliepmlmaaRa
import Derived.Test.YteidjmliepmlmaaKSpot
namespace Go.Proofs.Yteidjmliepmlmaa
open Go Go.RowKit
set_option linter.unusedVariables false

abbrev LiesS (w : World) (g : Nat) (v : Value) (xs : List (List NV)) : Prop := LiesL KSpot 2 w g v xs

section
variable {K : List Kd} {m : Nat} {w w' : World} {g c : Nat} {A : Option Addr} {v : Value} {xs : List (List NV)}
theorem ne_of_posL (h : 0 < xs.length) : xs ≠ [] := fun e => by rw [e] at h; simp at h
theorem LiesL_at (h : LiesL K m w g (.slice A xs.length c) xs) : 0 < xs.length → A = some ⟨g, 0, none⟩ := fun h0 => by
  obtain ⟨A', c', e, h⟩ := h
  cases e
  exact (h (ne_of_posL h0)).1
theorem LiesL_lt (h : LiesL K m w g v xs) : 0 < xs.length → g < w.heap.size := fun h0 => LiesR.lt h (ne_of_posL h0)
theorem LiesL_there (h : LiesL K m w g v xs) : w.there g 0 (xs.length * m) := by
  by_cases hx : xs = []
  · subst hx
    intro j hj
    simp at hj
  · obtain ⟨A, c, e, h⟩ := h
    exact (h hx).2.2.1
theorem LiesL_same (h : LiesL K m w g v xs) (hs : xs ≠ [] → Same w w' g) : LiesL K m w' g v xs := by
  by_cases hx : xs = []
  · subst hx
    obtain ⟨A, c, e, _⟩ := h
    exact ⟨A, c, e, fun h => absurd rfl h⟩
  · exact LiesR.on h fun _ => hs hx
end

theorem rows_belowS {w w' : World} {g n : Nat} {k0 : Int} (h : ∀ j, j < n → w.rangeAt g (j * 2) (mrowSpot (k0 + 2 * (j : Nat)))) (hb : Stays w w') : ∀ j, j < n → w'.rangeAt g (j * 2) (mrowSpot (k0 + 2 * (j : Nat))) := fun j hj => by
  have hlt : g < w.heap.size := World.block_lt_of_cell? _ _ (h j hj 0 _ rfl)
  exact range_below (h j hj) hb hlt
end Go.Proofs.Yteidjmliepmlmaa
