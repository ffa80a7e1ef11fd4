/- The head of a mission or a log: a number and a vector. No condition. -/
import Derived.Test.YtmcbeaihjdnelaaGVec
namespace Go.Proofs.Ytmcbeaihjdnelaa
open Go Go.ChangeShapes Go.WideShapes Go.RowKit
set_option linter.unusedVariables false

/-- A number and a vector, and the nodes that they stand for. -/
structure HdK (r : Int) (x y z : Nat) (hd : List NV) : Prop where
  r : r = (hd.getD 0 (.i 0)).gi
  shm : ShM (.agg KVec) (.agg #[.float .f32 x, .float .f32 y, .float .f32 z]) (hd.drop 1)

theorem vec_cells {cs : List Value} {r : List NV} (h : KMs KVec cs r) : ∃ x y z, cs = [.float .f32 x, .float .f32 y, .float .f32 z] := by
  have hr := KMs_rlen h
  have hl := KMs_len h
  match cs, r, hl, hr, h with
  | [_, _, _], [n0, n1, n2], _, _, ⟨⟨x, hx, hfx⟩, ⟨y, hy, hfy⟩, ⟨z, hz, hfz⟩, _⟩ =>
    subst hx hy hz
    exact ⟨x, y, z, rfl⟩

theorem HdK.of {cs : List Value} {hd : List NV} (h : KMs (.i .i64 :: KVec) cs hd) : ∃ r x y z, cs = [.int .i64 r, .float .f32 x, .float .f32 y, .float .f32 z] ∧ HdK r x y z hd := by
  have hr := KMs_rlen h
  have hl := KMs_len h
  match cs, hd, hl, hr, h with
  | [c0, c1, c2, c3], [n0, n1, n2, n3], _, _, ⟨h0, h1⟩ =>
    obtain ⟨x, y, z, e⟩ := vec_cells h1
    have h0 : c0 = .int .i64 n0.gi := h0
    cases e
    subst h0
    exact ⟨n0.gi, x, y, z, rfl, rfl, ⟨_, rfl, h1⟩⟩


theorem same_block {w w' : World} {g : Nat} (h : w'.heap[g]? = w.heap[g]?) (hs : w.heap.size ≤ w'.heap.size) : Same w w' g :=
  ⟨fun p hp => by subst hp; unfold World.cell?; rw [h], fun p hp => by subst hp; unfold World.frozen?; rw [h], hs⟩

structure Bx (w W : World) (C0 C1 C2 : Array Value) (t0 t1 t2 : TypeId) : Prop where
  h0 : W.heap[w.heap.size]? = some (.cells C0 t0 (0, 0))
  h1 : W.heap[w.heap.size + 1]? = some (.cells C1 t1 (0, 0))
  h2 : W.heap[w.heap.size + 1 + 1]? = some (.cells C2 t2 (0, 0))
  size : w.heap.size + 3 ≤ W.heap.size
  below : Below w.heap.size w W

section
variable {w W W' : World} {C0 C1 C2 : Array Value} {t0 t1 t2 : TypeId}
theorem Bx.grow (h : Bx w W C0 C1 C2 t0 t1 t2) (hp : Below W.heap.size W W') : Bx w W' C0 C1 C2 t0 t1 t2 := by
  have := h.size
  exact ⟨(hp.block w.heap.size (by omega)).trans h.h0, (hp.block (w.heap.size + 1) (by omega)).trans h.h1, (hp.block (w.heap.size + 1 + 1) (by omega)).trans h.h2, by have := hp.size; omega, h.below.trans (hp.mono h.below.size)⟩
theorem Bx.cell0 (h : Bx w W C0 C1 C2 t0 t1 t2) (i : Nat) : W.cell? ⟨w.heap.size, i, none⟩ = C0[i]? := cell_of_row _ _ _ _ _ _ h.h0
theorem Bx.cell2 (h : Bx w W C0 C1 C2 t0 t1 t2) (i : Nat) : W.cell? ⟨w.heap.size + 1 + 1, i, none⟩ = C2[i]? := cell_of_row _ _ _ _ _ _ h.h2
theorem Bx.froz2 (h : Bx w W C0 C1 C2 t0 t1 t2) (i : Nat) : W.frozen? ⟨w.heap.size + 1 + 1, i, none⟩ = false := frozen_of_row _ _ _ _ _ h.h2
theorem Bx.set (h : Bx w W C0 C1 C2 t0 t1 t2) (i : Nat) (v : Value) : Bx w (W.setCell ⟨w.heap.size + 1 + 1, i, none⟩ v) C0 C1 (C2.setIfInBounds i v) t0 t1 t2 :=
  ⟨(heap_setCell_other W _ _ _ (by simp; omega)).trans h.h0, (heap_setCell_other W _ _ _ (by simp)).trans h.h1, heap_setCell_same W _ i _ _ v h.h2, by have := h.size; simp [World.setCell]; omega, h.below.setCell (by simp; omega) _⟩
theorem Bx.sets (vs : List Value) : ∀ (W : World) (C2 : Array Value) (i : Nat), Bx w W C0 C1 C2 t0 t1 t2 → ∃ C, Bx w (W.setCells (w.heap.size + 1 + 1) i vs) C0 C1 C t0 t1 t2 ∧ C = (vs.foldl (fun (p : Array Value × Nat) v => (p.1.setIfInBounds p.2 v, p.2 + 1)) (C2, i)).1 := by
  induction vs with
  | nil => exact fun W C2 i h => ⟨C2, h, rfl⟩
  | cons v r ih =>
    intro W C2 i h
    obtain ⟨C, hC, e⟩ := ih _ _ (i + 1) (h.set i v)
    exact ⟨C, hC, e⟩
theorem Bx.there (h : Bx w W C0 C1 C2 t0 t1 t2) (i n : Nat) (hn : i + n ≤ C2.size) : W.there (w.heap.size + 1 + 1) i n := fun j hj => by
  refine ⟨?_, frozen_of_row _ _ _ _ _ h.h2⟩
  rw [cell_of_row _ _ _ _ _ _ h.h2, Array.getElem?_eq_getElem (by omega)]
  rfl
/-- A struct or an array that is stored into the variable. -/
theorem Bx.store (h : Bx w W C0 C1 C2 t0 t1 t2) {K : List Kd} {vs : List Value} {r : List NV} (hv : KMs K vs r) (i : Nat) (hn : i + vs.length ≤ C2.size) :
    ∃ W', (storeCells ⟨w.heap.size + 1 + 1, i, none⟩ vs).run Try.prog W = .ok () W' ∧ Bx w W' C0 C1 (vs.foldl (fun (p : Array Value × Nat) v => (p.1.setIfInBounds p.2 v, p.2 + 1)) (C2, i)).1 t0 t1 t2 := by
  have ht := h.there i vs.length hn
  have hrun := run_storeCells_cells (P := Try.prog) (w.heap.size + 1 + 1) i vs 0 W (fun j hj => by rw [Nat.add_zero]; exact (ht j hj).1) (fun j hj => by rw [Nat.add_zero]; exact (ht j hj).2) (KMs_one hv)
  rw [Nat.add_zero] at hrun
  obtain ⟨C, hC, e⟩ := Bx.sets vs W C2 i h
  exact ⟨_, hrun, e ▸ hC⟩
end
end Go.Proofs.Ytmcbeaihjdnelaa
