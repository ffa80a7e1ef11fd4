/- Lists of rows of cells, whatever their type: opened, taken apart. No condition. -/
import Derived.Test.YtcopccniijkceaaLz
import Derived.Lib.SmallJoins
namespace Go.Proofs.Ytcopccniijkceaa
open Go Go.ChangeShapes Go.WideShapes Go.RowKit
set_option linter.unusedVariables false

theorem KMs_rlen : ∀ {K : List Kd} {cs : List Value} {r : List NV}, KMs K cs r → r.length = K.length
  | [], [], [], _ => rfl
  | k :: K, c :: cs, n :: r, ⟨_, h2⟩ => by simp [KMs_rlen h2]

/-- A list of rows that lies in memory below a block. -/
abbrev Ls (K : List Kd) (n : Nat) (w : World) (B : Nat) (A : Option Addr) (xs : List (List NV)) : Prop := Rows K n (fun r => r) w B A xs
abbrev PutL (K : List Kd) (n : Nat) (w wr : World) (xs : List (List NV)) (k : Nat) : Prop := Put K n (fun r => r) w wr xs k
abbrev LiesL (K : List Kd) (n : Nat) (w : World) (g : Nat) (v : Value) (xs : List (List NV)) : Prop := LiesR K n (fun r => r) w g v xs

theorem trod_rows {H : Type} {enc : TypeId × Value → H} {w : World} {held : Bool} {ts te : TypeId} {K : List Kd} {n : Nat} (hu : Try.prog.underlying ts = some (.slice te)) (hn : K.length = n) (h0 : 0 < n) (hC : Try.prog.cellsOf te = n) (hS : scalK Try.prog 12 te = some K)
    {fuel : Nat} {cs : List Value} {x : DataW H × List MemPlace} (h : DataW.trod enc Try.prog w 0 (fun _ => true) held fuel ts cs = some x) : ∃ A xs c, cs = [.slice A xs.length c] ∧ Ls K n w w.heap.size A xs ∧ xs.length ≤ 9223372036854775807 := by
  rcases Deep.open_slice hu h with ⟨h0, _⟩ | ⟨a, len, cap, m, nn, D, Pl, hcs, hb, hl, hm, hmm, hx, hi⟩
  · exact ⟨none, [], 0, h0, fun i r hr => by simp at hr, by simp⟩
  · obtain ⟨rs, hrs, hp⟩ := pick (p := fun i (r : List NV) => a.block < w.heap.size ∧ RowAt K w (a.add (i * n)) r) len (by
      intro i hil
      have him : i < m := by rw [hmm]; simp; omega
      obtain ⟨cs', hc, ht⟩ := hi i him
      rw [hC] at hc
      obtain ⟨ins, hk, _⟩ := trod_scal 12 _ _ _ _ _ hS ht
      obtain ⟨_, hcl, hat⟩ := World.cells?_some hc
      have hat' : ∀ j u, cs'[j]? = some u → w.cell? (cellAt (a.add (i * n)) j) = some u := fun j u hu => by
        have hj := (List.getElem?_eq_some_iff.1 hu).1
        have g := hat j (by omega)
        rw [hu] at g
        cases j with
        | zero => exact g
        | succ j => exact g
      have hlt := World.block_lt_of_cell? _ _ (hat' 0 cs'[0] (List.getElem?_eq_getElem (by omega)))
      have e : (cellAt (a.add (i * n)) 0).block = a.block := block_add a (i * n)
      rw [e] at hlt
      exact ⟨ins, hlt, cs', hk, hat'⟩)
    refine ⟨some a, rs, cap, by rw [hcs, hrs], fun i r hr => ?_, by rw [hrs]; unfold maxLen at hm; omega⟩
    exact ⟨a, rfl, hp i r hr⟩

set_option maxRecDepth 100000 in
/-- An argument that is a list of rows, opened. -/
theorem open_rows {H : Type} {enc : TypeId × Value → H} {w : World} {held : Bool} {r : Reach} {b0 : Nat} {v : Value} {d : DataW H} {p : List MemPlace} {ts te : TypeId} {K : List Kd} {n : Nat} (hu : Try.prog.underlying ts = some (.slice te)) (hn : K.length = n) (h0 : 0 < n) (hC : Try.prog.cellsOf te = n) (hS : scalK Try.prog 12 te = some K)
    (hval : Value.okWide Try.prog w r b0 ts v) (h : DataW.Trod enc Try.prog w 0 (fun _ => true) held ts v d p) : ∃ A xs c, v = .slice A xs.length c ∧ Ls K n w w.heap.size A xs ∧ xs.length ≤ 9223372036854775807 := by
  obtain ⟨fuel, hf⟩ := h
  obtain ⟨A, xs, c, hcs, h1, h2⟩ := trod_rows hu hn h0 hC hS hf
  exact ⟨A, xs, c, slice_val (P := Try.prog) hu hval hcs, h1, h2⟩

theorem row1 {K : List Kd} {w : World} {p : Addr} {r : List NV} (hK : K.length = 1) (h : RowAt K w p r) : ∃ c0, KMs K [c0] r ∧ w.cell? p = some c0 := by
  obtain ⟨cs, hk, hc⟩ := h
  have hl := (KMs_len hk).trans hK
  match cs, hl, hk, hc with
  | [c0], _, hk, hc => exact ⟨_, hk, hc 0 _ rfl⟩

theorem row2 {K : List Kd} {w : World} {p : Addr} {r : List NV} (hK : K.length = 2) (h : RowAt K w p r) : ∃ c0 c1, KMs K [c0, c1] r ∧ w.cell? p = some c0 ∧ w.cell? ⟨p.block, p.off + 1, none⟩ = some c1 := by
  obtain ⟨cs, hk, hc⟩ := h
  have hl := (KMs_len hk).trans hK
  match cs, hl, hk, hc with
  | [c0, c1], _, hk, hc => exact ⟨_, _, hk, hc 0 _ rfl, hc 1 _ rfl⟩

theorem row3 {K : List Kd} {w : World} {p : Addr} {r : List NV} (hK : K.length = 3) (h : RowAt K w p r) : ∃ c0 c1 c2, KMs K [c0, c1, c2] r ∧ w.cell? p = some c0 ∧ w.cell? ⟨p.block, p.off + 1, none⟩ = some c1 ∧ w.cell? ⟨p.block, p.off + 2, none⟩ = some c2 := by
  obtain ⟨cs, hk, hc⟩ := h
  have hl := (KMs_len hk).trans hK
  match cs, hl, hk, hc with
  | [c0, c1, c2], _, hk, hc => exact ⟨_, _, _, hk, hc 0 _ rfl, hc 1 _ rfl, hc 2 _ rfl⟩

theorem row4 {K : List Kd} {w : World} {p : Addr} {r : List NV} (hK : K.length = 4) (h : RowAt K w p r) : ∃ c0 c1 c2 c3, KMs K [c0, c1, c2, c3] r ∧ w.cell? p = some c0 ∧ w.cell? ⟨p.block, p.off + 1, none⟩ = some c1 ∧ w.cell? ⟨p.block, p.off + 2, none⟩ = some c2 ∧ w.cell? ⟨p.block, p.off + 3, none⟩ = some c3 := by
  obtain ⟨cs, hk, hc⟩ := h
  have hl := (KMs_len hk).trans hK
  match cs, hl, hk, hc with
  | [c0, c1, c2, c3], _, hk, hc => exact ⟨_, _, _, _, hk, hc 0 _ rfl, hc 1 _ rfl, hc 2 _ rfl, hc 3 _ rfl⟩

theorem row5 {K : List Kd} {w : World} {p : Addr} {r : List NV} (hK : K.length = 5) (h : RowAt K w p r) : ∃ c0 c1 c2 c3 c4, KMs K [c0, c1, c2, c3, c4] r ∧ w.cell? p = some c0 ∧ w.cell? ⟨p.block, p.off + 1, none⟩ = some c1 ∧ w.cell? ⟨p.block, p.off + 2, none⟩ = some c2 ∧ w.cell? ⟨p.block, p.off + 3, none⟩ = some c3 ∧ w.cell? ⟨p.block, p.off + 4, none⟩ = some c4 := by
  obtain ⟨cs, hk, hc⟩ := h
  have hl := (KMs_len hk).trans hK
  match cs, hl, hk, hc with
  | [c0, c1, c2, c3, c4], _, hk, hc => exact ⟨_, _, _, _, _, hk, hc 0 _ rfl, hc 1 _ rfl, hc 2 _ rfl, hc 3 _ rfl, hc 4 _ rfl⟩

theorem row6 {K : List Kd} {w : World} {p : Addr} {r : List NV} (hK : K.length = 6) (h : RowAt K w p r) : ∃ c0 c1 c2 c3 c4 c5, KMs K [c0, c1, c2, c3, c4, c5] r ∧ w.cell? p = some c0 ∧ w.cell? ⟨p.block, p.off + 1, none⟩ = some c1 ∧ w.cell? ⟨p.block, p.off + 2, none⟩ = some c2 ∧ w.cell? ⟨p.block, p.off + 3, none⟩ = some c3 ∧ w.cell? ⟨p.block, p.off + 4, none⟩ = some c4 ∧ w.cell? ⟨p.block, p.off + 5, none⟩ = some c5 := by
  obtain ⟨cs, hk, hc⟩ := h
  have hl := (KMs_len hk).trans hK
  match cs, hl, hk, hc with
  | [c0, c1, c2, c3, c4, c5], _, hk, hc => exact ⟨_, _, _, _, _, _, hk, hc 0 _ rfl, hc 1 _ rfl, hc 2 _ rfl, hc 3 _ rfl, hc 4 _ rfl, hc 5 _ rfl⟩

theorem row7 {K : List Kd} {w : World} {p : Addr} {r : List NV} (hK : K.length = 7) (h : RowAt K w p r) : ∃ c0 c1 c2 c3 c4 c5 c6, KMs K [c0, c1, c2, c3, c4, c5, c6] r ∧ w.cell? p = some c0 ∧ w.cell? ⟨p.block, p.off + 1, none⟩ = some c1 ∧ w.cell? ⟨p.block, p.off + 2, none⟩ = some c2 ∧ w.cell? ⟨p.block, p.off + 3, none⟩ = some c3 ∧ w.cell? ⟨p.block, p.off + 4, none⟩ = some c4 ∧ w.cell? ⟨p.block, p.off + 5, none⟩ = some c5 ∧ w.cell? ⟨p.block, p.off + 6, none⟩ = some c6 := by
  obtain ⟨cs, hk, hc⟩ := h
  have hl := (KMs_len hk).trans hK
  match cs, hl, hk, hc with
  | [c0, c1, c2, c3, c4, c5, c6], _, hk, hc => exact ⟨_, _, _, _, _, _, _, hk, hc 0 _ rfl, hc 1 _ rfl, hc 2 _ rfl, hc 3 _ rfl, hc 4 _ rfl, hc 5 _ rfl, hc 6 _ rfl⟩

theorem row8 {K : List Kd} {w : World} {p : Addr} {r : List NV} (hK : K.length = 8) (h : RowAt K w p r) : ∃ c0 c1 c2 c3 c4 c5 c6 c7, KMs K [c0, c1, c2, c3, c4, c5, c6, c7] r ∧ w.cell? p = some c0 ∧ w.cell? ⟨p.block, p.off + 1, none⟩ = some c1 ∧ w.cell? ⟨p.block, p.off + 2, none⟩ = some c2 ∧ w.cell? ⟨p.block, p.off + 3, none⟩ = some c3 ∧ w.cell? ⟨p.block, p.off + 4, none⟩ = some c4 ∧ w.cell? ⟨p.block, p.off + 5, none⟩ = some c5 ∧ w.cell? ⟨p.block, p.off + 6, none⟩ = some c6 ∧ w.cell? ⟨p.block, p.off + 7, none⟩ = some c7 := by
  obtain ⟨cs, hk, hc⟩ := h
  have hl := (KMs_len hk).trans hK
  match cs, hl, hk, hc with
  | [c0, c1, c2, c3, c4, c5, c6, c7], _, hk, hc => exact ⟨_, _, _, _, _, _, _, _, hk, hc 0 _ rfl, hc 1 _ rfl, hc 2 _ rfl, hc 3 _ rfl, hc 4 _ rfl, hc 5 _ rfl, hc 6 _ rfl, hc 7 _ rfl⟩

theorem row9 {K : List Kd} {w : World} {p : Addr} {r : List NV} (hK : K.length = 9) (h : RowAt K w p r) : ∃ c0 c1 c2 c3 c4 c5 c6 c7 c8, KMs K [c0, c1, c2, c3, c4, c5, c6, c7, c8] r ∧ w.cell? p = some c0 ∧ w.cell? ⟨p.block, p.off + 1, none⟩ = some c1 ∧ w.cell? ⟨p.block, p.off + 2, none⟩ = some c2 ∧ w.cell? ⟨p.block, p.off + 3, none⟩ = some c3 ∧ w.cell? ⟨p.block, p.off + 4, none⟩ = some c4 ∧ w.cell? ⟨p.block, p.off + 5, none⟩ = some c5 ∧ w.cell? ⟨p.block, p.off + 6, none⟩ = some c6 ∧ w.cell? ⟨p.block, p.off + 7, none⟩ = some c7 ∧ w.cell? ⟨p.block, p.off + 8, none⟩ = some c8 := by
  obtain ⟨cs, hk, hc⟩ := h
  have hl := (KMs_len hk).trans hK
  match cs, hl, hk, hc with
  | [c0, c1, c2, c3, c4, c5, c6, c7, c8], _, hk, hc => exact ⟨_, _, _, _, _, _, _, _, _, hk, hc 0 _ rfl, hc 1 _ rfl, hc 2 _ rfl, hc 3 _ rfl, hc 4 _ rfl, hc 5 _ rfl, hc 6 _ rfl, hc 7 _ rfl, hc 8 _ rfl⟩
end Go.Proofs.Ytcopccniijkceaa
