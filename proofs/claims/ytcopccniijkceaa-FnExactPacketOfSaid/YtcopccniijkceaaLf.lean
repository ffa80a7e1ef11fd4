/- An argument that is a list of readings, opened. No condition. -/
import Derived.Test.YtcopccniijkceaaLe
import Derived.Test.YtcopccniijkceaaYo
import Derived.Deep.Slices
namespace Go.Proofs.Ytcopccniijkceaa
open Go Go.ChangeShapes Go.WideShapes Go.RowKit
set_option linter.unusedVariables false

set_option maxRecDepth 100000 in
theorem open_feed {H : Type} {enc : TypeId × Value → H} {w : World} {held : Bool} {r : Reach} {b0 : Nat} {v : Value} {d : DataW H} {p : List MemPlace} (hval : Value.okWide Try.prog w r b0 34 v)
    (h : DataW.Trod enc Try.prog w 0 (fun _ => true) held 34 v d p) : ∃ A rs c, v = .slice A rs.length c ∧ Feed w w.heap.size A rs ∧ rs.length ≤ 9223372036854775807 := by
  obtain ⟨fuel, hf⟩ := h
  rcases Deep.open_slice Try.underlying34 hf with ⟨h0, _⟩ | ⟨a, len, cap, m, n, D, Pl, hcs, hb, hl, hm, hmm, hx, hi⟩
  · have := slice_val (P := Try.prog) (w := w) (r := r) (b0 := b0) (t := 34) (e := 122) Try.underlying34 hval h0
    subst this
    exact ⟨none, [], 0, rfl, fun i r hr => by simp at hr, by simp⟩
  · have := slice_val (P := Try.prog) (w := w) (r := r) (b0 := b0) (t := 34) (e := 122) Try.underlying34 hval hcs
    subst this
    have hC : Try.prog.cellsOf 122 = 4 := by kernel_rfl
    have hS : scalK Try.prog 12 122 = some [.i .i64, .i .i16, .i .i16, .i .i16] := by kernel_rfl
    obtain ⟨rs, hrs, hp⟩ := pick (p := fun i (r : Rd) => a.block < w.heap.size ∧ w.cell? (a.add (i * 4)) = some (.int .i64 r.t) ∧ w.cell? ⟨(a.add (i * 4)).block, (a.add (i * 4)).off + 1, none⟩ = some (.int .i16 r.a) ∧
        w.cell? ⟨(a.add (i * 4)).block, (a.add (i * 4)).off + 2, none⟩ = some (.int .i16 r.b) ∧ w.cell? ⟨(a.add (i * 4)).block, (a.add (i * 4)).off + 3, none⟩ = some (.int .i16 r.c)) len (by
      intro i hil
      have him : i < m := by rw [hmm]; simp; omega
      obtain ⟨cs', hc, ht⟩ := hi i him
      rw [hC] at hc
      obtain ⟨ins, hk, _⟩ := trod_scal 12 _ _ _ _ _ hS ht
      obtain ⟨_, hcl, hat⟩ := World.cells?_some hc
      match cs', hk, hcl with
      | [c0, c1, c2, c3], hk, _ =>
        match ins, hk with
        | [n0, n1, n2, n3], ⟨k0, k1, k2, k3, _⟩ =>
          have g0 := hat 0 (by omega)
          have g1 := hat 1 (by omega)
          have g2 := hat 2 (by omega)
          have g3 := hat 3 (by omega)
          have e0 : (a.add (i * 4)).add 0 = a.add (i * 4) := rfl
          rw [e0] at g0
          have hlt := World.block_lt_of_cell? _ _ (show w.cell? (a.add (i * 4)) = some c0 from g0)
          rw [block_add] at hlt
          exact ⟨⟨n0.gi, n1.gi, n2.gi, n3.gi⟩, hlt, by rw [g0]; exact congrArg some k0, by rw [← show w.cell? (a.add (i * 4)) = _ from g0] at *; exact (show _ = some c1 from g1).trans (congrArg some k1),
            (show _ = some c2 from g2).trans (congrArg some k2), (show _ = some c3 from g3).trans (congrArg some k3)⟩)
    refine ⟨some a, rs, cap, by rw [hrs], fun i r hr => ?_, by rw [hrs]; unfold maxLen at hm; omega⟩
    exact ⟨a, rfl, hp i r hr⟩
end Go.Proofs.Ytcopccniijkceaa
