/- How arrays of floats that come in by value are opened. No condition. -/
import Derived.Test.YtkpcecigoffopaaRows
import Derived.Test.YtkpcecigoffopaaFw
import Derived.ProofKit
import Derived.OpenShut
import Derived.ShutString
import Derived.ChangeOld
import Derived.Laws.IdiomArrays
namespace Go.Proofs.Ytkpcecigoffopaa
open Go Go.ChangeShapes Go.WideShapes Go.ChangeAt Go.RowKit
set_option linter.unusedVariables false

theorem wf_f32 {b : Nat} (h : (Lit.float .f32 b).wf = true) : b < 2 ^ FloatKind.f32.format.width := by
  have h' : b < 2 ^ 32 := by simpa [Lit.wf] using h
  exact h'

theorem trod_float {H : Type} {enc : TypeId × Value → H} {P : Program} {w : World} {base : Nat} {spare : Nat → Bool} {held : Bool} {fuel : Nat} {t : TypeId} {c : Value} {x : DataW H × List MemPlace}
    (ht : P.underlying t = some (.float .f32)) (h : DataW.trod enc P w base spare held fuel t [c] = some x) :
    ∃ b, c = .float .f32 b ∧ b < 2 ^ FloatKind.f32.format.width := by
  cases fuel with
  | zero => simp [DataW.trod] at h
  | succ m =>
    simp only [DataW.trod, ht] at h
    cases c <;> simp at h
    rename_i k b
    by_cases hk : k = .f32 ∧ (Lit.float .f32 b).wf = true
    · obtain ⟨rfl, hw⟩ := hk
      exact ⟨b, rfl, wf_f32 hw⟩
    · simp [hk] at h

theorem open_f {H : Type} {enc : TypeId × Value → H} {P : Program} {w : World} {base : Nat} {spare : Nat → Bool} {held : Bool} {r : Reach} {b0 : Nat} {t : TypeId} {v : Value} {d : DataW H} {p : List MemPlace}
    (ht : P.underlying t = some (.float .f32)) (hval : Value.okWide P w r b0 t v) (hd : DataW.Trod enc P w base spare held t v d p) :
    ∃ b, v = .float .f32 b ∧ b < 2 ^ FloatKind.f32.format.width := by
  obtain ⟨b, rfl, _, _, hw⟩ := open_float ht hval hd
  exact ⟨b, rfl, wf_f32 hw⟩

theorem open_v3 {H : Type} {enc : TypeId × Value → H} {P : Program} {w : World} {base : Nat} {spare : Nat → Bool} {held : Bool} {r : Reach} {b0 : Nat} {t e : TypeId} {v : Value} {d : DataW H} {p : List MemPlace}
    (ht : P.underlying t = some (.array 3 e)) (hC : P.cellsOf t = 3) (he : P.underlying e = some (.float .f32)) (hce : P.cellsOf e = 1)
    (hval : Value.okWide P w r b0 t v) (hd : DataW.Trod enc P w base spare held t v d p) :
    ∃ x0 x1 x2, v = .agg #[.float .f32 x0, .float .f32 x1, .float .f32 x2] ∧ x0 < 2 ^ FloatKind.f32.format.width ∧ x1 < 2 ^ FloatKind.f32.format.width ∧ x2 < 2 ^ FloatKind.f32.format.width := by
  simp only [Value.okWide, ht] at hval
  obtain ⟨cs, rfl, hsz, _⟩ := hval
  rw [hC] at hsz
  obtain ⟨fuel, hf⟩ := hd
  simp only [Value.cells] at hf
  obtain ⟨c0, c1, c2, rfl⟩ : ∃ c0 c1 c2, cs = #[c0, c1, c2] := by
    obtain ⟨l⟩ := cs
    match l, hsz with
    | [c0, c1, c2], _ => exact ⟨c0, c1, c2, rfl⟩
  obtain ⟨xs, m, _, _, _, hl, hel⟩ := DataW.trod_array ht hf
  have h0 := hel 0 (by omega)
  have h1 := hel 1 (by omega)
  have h2 := hel 2 (by omega)
  rw [hce] at h0 h1 h2
  have e0 : xs[0]? = some xs[0] := List.getElem?_eq_getElem _
  have e1 : xs[1]? = some xs[1] := List.getElem?_eq_getElem _
  have e2 : xs[2]? = some xs[2] := List.getElem?_eq_getElem _
  rw [e0] at h0
  rw [e1] at h1
  rw [e2] at h2
  obtain ⟨b0, rfl, g0⟩ := trod_float he (c := c0) h0
  obtain ⟨b1, rfl, g1⟩ := trod_float he (c := c1) h1
  obtain ⟨b2, rfl, g2⟩ := trod_float he (c := c2) h2
  exact ⟨b0, b1, b2, rfl, g0, g1, g2⟩

theorem trod_row3 {H : Type} {enc : TypeId × Value → H} {P : Program} {w : World} {base : Nat} {spare : Nat → Bool} {held : Bool} {fuel : Nat} {t e : TypeId} {c0 c1 c2 : Value} {x : DataW H × List MemPlace}
    (ht : P.underlying t = some (.array 3 e)) (he : P.underlying e = some (.float .f32)) (hce : P.cellsOf e = 1) (hf : DataW.trod enc P w base spare held fuel t [c0, c1, c2] = some x) :
    ∃ x0 x1 x2, c0 = .float .f32 x0 ∧ c1 = .float .f32 x1 ∧ c2 = .float .f32 x2 ∧ x0 < 2 ^ FloatKind.f32.format.width ∧ x1 < 2 ^ FloatKind.f32.format.width ∧ x2 < 2 ^ FloatKind.f32.format.width := by
  obtain ⟨xs, m, _, _, _, hl, hel⟩ := DataW.trod_array ht hf
  have h0 := hel 0 (by omega)
  have h1 := hel 1 (by omega)
  have h2 := hel 2 (by omega)
  rw [hce] at h0 h1 h2
  have e0 : xs[0]? = some xs[0] := List.getElem?_eq_getElem _
  have e1 : xs[1]? = some xs[1] := List.getElem?_eq_getElem _
  have e2 : xs[2]? = some xs[2] := List.getElem?_eq_getElem _
  rw [e0] at h0
  rw [e1] at h1
  rw [e2] at h2
  obtain ⟨b0, rfl, g0⟩ := trod_float he (c := c0) h0
  obtain ⟨b1, rfl, g1⟩ := trod_float he (c := c1) h1
  obtain ⟨b2, rfl, g2⟩ := trod_float he (c := c2) h2
  exact ⟨b0, b1, b2, rfl, rfl, rfl, g0, g1, g2⟩

theorem open_m33 {H : Type} {enc : TypeId × Value → H} {P : Program} {w : World} {base : Nat} {spare : Nat → Bool} {held : Bool} {r : Reach} {b0 : Nat} {t e f : TypeId} {v : Value} {d : DataW H} {p : List MemPlace}
    (ht : P.underlying t = some (.array 3 e)) (hC : P.cellsOf t = 9) (he : P.underlying e = some (.array 3 f)) (hce : P.cellsOf e = 3) (hf32 : P.underlying f = some (.float .f32)) (hcf : P.cellsOf f = 1)
    (hval : Value.okWide P w r b0 t v) (hd : DataW.Trod enc P w base spare held t v d p) :
    ∃ x0 x1 x2 x3 x4 x5 x6 x7 x8, v = .agg #[.float .f32 x0, .float .f32 x1, .float .f32 x2, .float .f32 x3, .float .f32 x4, .float .f32 x5, .float .f32 x6, .float .f32 x7, .float .f32 x8] ∧
      x0 < 2 ^ FloatKind.f32.format.width ∧ x1 < 2 ^ FloatKind.f32.format.width ∧ x2 < 2 ^ FloatKind.f32.format.width ∧ x3 < 2 ^ FloatKind.f32.format.width ∧ x4 < 2 ^ FloatKind.f32.format.width ∧
      x5 < 2 ^ FloatKind.f32.format.width ∧ x6 < 2 ^ FloatKind.f32.format.width ∧ x7 < 2 ^ FloatKind.f32.format.width ∧ x8 < 2 ^ FloatKind.f32.format.width := by
  simp only [Value.okWide, ht] at hval
  obtain ⟨cs, rfl, hsz, _⟩ := hval
  rw [hC] at hsz
  obtain ⟨fuel, hf⟩ := hd
  simp only [Value.cells] at hf
  obtain ⟨c0, c1, c2, c3, c4, c5, c6, c7, c8, rfl⟩ : ∃ c0 c1 c2 c3 c4 c5 c6 c7 c8, cs = #[c0, c1, c2, c3, c4, c5, c6, c7, c8] := by
    obtain ⟨l⟩ := cs
    match l, hsz with
    | [c0, c1, c2, c3, c4, c5, c6, c7, c8], _ => exact ⟨c0, c1, c2, c3, c4, c5, c6, c7, c8, rfl⟩
  obtain ⟨xs, m, _, _, _, hl, hel⟩ := DataW.trod_array ht hf
  have h0 := hel 0 (by omega)
  have h1 := hel 1 (by omega)
  have h2 := hel 2 (by omega)
  rw [hce] at h0 h1 h2
  have e0 : xs[0]? = some xs[0] := List.getElem?_eq_getElem _
  have e1 : xs[1]? = some xs[1] := List.getElem?_eq_getElem _
  have e2 : xs[2]? = some xs[2] := List.getElem?_eq_getElem _
  rw [e0] at h0
  rw [e1] at h1
  rw [e2] at h2
  obtain ⟨x0, x1, x2, rfl, rfl, rfl, g0, g1, g2⟩ := trod_row3 he hf32 hcf (c0 := c0) (c1 := c1) (c2 := c2) h0
  obtain ⟨x3, x4, x5, rfl, rfl, rfl, g3, g4, g5⟩ := trod_row3 he hf32 hcf (c0 := c3) (c1 := c4) (c2 := c5) h1
  obtain ⟨x6, x7, x8, rfl, rfl, rfl, g6, g7, g8⟩ := trod_row3 he hf32 hcf (c0 := c6) (c1 := c7) (c2 := c8) h2
  exact ⟨x0, x1, x2, x3, x4, x5, x6, x7, x8, rfl, g0, g1, g2, g3, g4, g5, g6, g7, g8⟩

end Go.Proofs.Ytkpcecigoffopaa
