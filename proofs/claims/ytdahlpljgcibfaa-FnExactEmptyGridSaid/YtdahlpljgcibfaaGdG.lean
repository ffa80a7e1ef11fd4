/- Grids whose costs are told by their places; the law on the empty grid. No condition. -/
import Derived.Test.YtdahlpljgcibfaaGdF
namespace Go.Proofs.Ytdahlpljgcibfaa
open Go Go.RowKit
set_option linter.unusedVariables false
set_option linter.unusedSimpArgs false

/-- The costs that lie in a block are told by their places; what else there was is as before. -/
structure MarkG (w w' : World) (g n : Nat) (k0 : Int) : Prop where
  same : ∀ g', g' ≠ g → g' < w.heap.size → Same w w' g'
  below : ∀ B, B ≤ g → B ≤ w.heap.size → Below B w w'
  cells : ∀ j, j < n → w'.cell? ⟨g, j, none⟩ = some (.int .u8 (IntKind.u8.wrap (k0 + (j : Nat))))

theorem c_markG (A : Option Addr) (g c n : Nat) (a b : Int) (w : World) (hA : 0 < n → A = some ⟨g, 0, none⟩) (hg : 0 < n → g < w.heap.size) (ht : w.there g 0 n) (hn : n ≤ 1048576) :
    Calls Try.prog 23 #[.agg #[.int .i64 a, .int .i64 b, .slice A n c], .int .i64 1] w fun e w' => e = .returned (.int .i64 (1 + (n : Nat))) ∧ MarkG w w' g n 1 := by
  have hst : Stays w (w.alloc (.cells #[.int .i64 a, .int .i64 b, .slice A n c] 27)) := by (repeat (first | exact Stays.refl _ | (with_reducible refine Stays.drewN ?_ _) | (with_reducible refine Stays.alloc ?_ _) | (with_reducible refine Stays.drew ?_) | (refine Stays.trans ?_ ‹Stays _ _›)))
  have ht' : (w.alloc (.cells #[.int .i64 a, .int .i64 b, .slice A n c] 27)).there g 0 n := by
    by_cases h0 : 0 < n
    · exact there_below ht hst (hg h0)
    · intro j hj
      omega
  have k := c_markB A g c n 1 _ hA ht' hn (by omega)
  have e1 : ∀ w', MarkedB (w.alloc (.cells #[.int .i64 a, .int .i64 b, .slice A n c] 27)) w' g n 1 n → MarkG w w' g n 1 := fun w' hm =>
    ⟨fun g' h1 h2 => (Same.of_below hst hst.size h2).trans (hm.same g' h1), fun B h1 h2 => (Below.mono hst h2).trans (hm.below B h1), fun j hj => hm.cells j hj⟩
  replace k := Lib.hid k
  replace e1 := Lib.hid e1
  clear hst ht ht' hA hg
  go_enter Try.func23, Try.ntmps23
  go_wp2_with (go_at_call 54; refine k.out.mono ?_; rintro e w1 ⟨rfl, hm⟩; replace hm := e1.out _ hm)
  go_ret
  exact ⟨rfl, hm⟩

theorem c_heldG (A : Option Addr) (g c n : Nat) (a b : Int) (w : World) (hA : 0 < n → A = some ⟨g, 0, none⟩) (hg : 0 < n → g < w.heap.size) (hr : ∀ j, j < n → w.cell? ⟨g, j, none⟩ = some (.int .u8 (IntKind.u8.wrap (1 + (j : Nat))))) (hn : n ≤ 1048576) :
    Calls Try.prog 24 #[.agg #[.int .i64 a, .int .i64 b, .slice A n c], .int .i64 1] w fun e w' => e = .returned (.int .i64 (1 + (n : Nat))) ∧ Stays w w' := by
  have hst : Stays w (w.alloc (.cells #[.int .i64 a, .int .i64 b, .slice A n c] 27)) := by (repeat (first | exact Stays.refl _ | (with_reducible refine Stays.drewN ?_ _) | (with_reducible refine Stays.alloc ?_ _) | (with_reducible refine Stays.drew ?_) | (refine Stays.trans ?_ ‹Stays _ _›)))
  have k := c_heldB A g c n 1 (w.alloc (.cells #[.int .i64 a, .int .i64 b, .slice A n c] 27)) hA (fun j hj => (hst.cell (p := ⟨g, j, none⟩) (hg (by omega))).trans (hr j hj)) hn (by omega)
  have hk1 : ¬ ((1 : Int) + (n : Nat) < 0) := by omega
  generalize (1 : Int) + (n : Nat) = kk at k hk1 ⊢
  replace k := Lib.hid k
  replace hst := Lib.hid hst
  clear hA hg hr
  go_enter Try.func24, Try.ntmps24
  go_wp2_with (go_at_call 55; refine k.out.mono ?_; rintro e w1 ⟨rfl, rfl⟩)
  go_ret
  exact ⟨rfl, hst.out⟩

/-- A grid in a box. -/
structure BoxG (w : World) (p : Nat) (a b : Int) (A : Option Addr) (c n : Nat) : Prop where
  cells : w.cell? ⟨p, 0, none⟩ = some (.int .i64 a) ∧ w.cell? ⟨p, 1, none⟩ = some (.int .i64 b) ∧ w.cell? ⟨p, 2, none⟩ = some (.slice A n c)
  lt : p < w.heap.size

theorem BoxG.new (w : World) (a b : Int) (A : Option Addr) (c n : Nat) (t : TypeId) : BoxG (w.alloc (.cells #[.int .i64 a, .int .i64 b, .slice A n c] t)) w.heap.size a b A c n :=
  ⟨⟨cell_of_row _ _ _ _ _ _ (heap_alloc_new w _), cell_of_row _ _ _ _ _ _ (heap_alloc_new w _), cell_of_row _ _ _ _ _ _ (heap_alloc_new w _)⟩, in_heap (heap_alloc_new w _)⟩

theorem BoxG.on {w w' : World} {p : Nat} {a b : Int} {A : Option Addr} {c n : Nat} (h : BoxG w p a b A c n) (hs : Same w w' p) : BoxG w' p a b A c n :=
  ⟨⟨(hs.cell _ rfl).trans h.cells.1, (hs.cell _ rfl).trans h.cells.2.1, (hs.cell _ rfl).trans h.cells.2.2⟩, Nat.lt_of_lt_of_le h.lt hs.size⟩

theorem BoxG.below {w w' : World} {p : Nat} {a b : Int} {A : Option Addr} {c n : Nat} (h : BoxG w p a b A c n) (hb : Below w.heap.size w w') : BoxG w' p a b A c n := h.on (Same.of_below hb hb.size h.lt)

theorem LiesB.val {w : World} {g c : Nat} {A : Option Addr} {a b : Int} {xs : List Int} (h : LiesB w g (.slice A xs.length c) xs) : GdV w w.heap.size (.agg #[.int .i64 a, .int .i64 b, .slice A xs.length c]) a b xs := ⟨A, c, rfl, h.rows⟩

theorem LiesB.at_ {w : World} {g c : Nat} {A : Option Addr} {xs : List Int} (h : LiesB w g (.slice A xs.length c) xs) : 0 < xs.length → A = some ⟨g, 0, none⟩ := fun h0 => by
  obtain ⟨A', c', e, h⟩ := h
  cases e
  exact (h (fun e => by rw [e] at h0; simp at h0)).1

theorem LiesB.lt_ {w : World} {g c : Nat} {A : Option Addr} {xs : List Int} (h : LiesB w g (.slice A xs.length c) xs) : 0 < xs.length → g < w.heap.size := fun h0 => LiesR.lt h fun e => by rw [e] at h0; simp at h0

theorem LiesB.there {w : World} {g : Nat} {v : Value} {xs : List Int} (h : LiesB w g v xs) : w.there g 0 xs.length := by
  obtain ⟨A, c, e, h⟩ := h
  by_cases hx : xs = []
  · subst hx
    intro j hj
    simp at hj
  · have := (h hx).2.2.1
    rw [Nat.mul_one] at this
    exact this

theorem LiesB.marked {w w' : World} {g g' n : Nat} {k0 : Int} {v : Value} {xs : List Int} (h : LiesB w g v xs) (hm : MarkG w w' g' n k0) (hne : xs ≠ [] → g ≠ g') : LiesB w' g v xs := by
  by_cases hx : xs = []
  · subst hx
    obtain ⟨A, c, e, _⟩ := h
    exact ⟨A, c, e, fun h => absurd rfl h⟩
  · exact LiesR.on h fun hlt => hm.same g (hne hx) hlt

set_option maxRecDepth 100000 in
set_option maxHeartbeats 2000000 in
theorem c_lawEmptyG (aw ah : Int) (w : World) : Calls Try.prog 5 #[.int .i64 aw, .int .i64 ah] w fun e w' => e = .returned (.bool true) ∧ Below w.heap.size w w' := by
  have kS := fun W => c_specEmptyG aw ah W
  have kI := fun W => c_implEmptyG aw ah W
  have hX : (empN aw ah).length ≤ 1048576 := by
    unfold empN
    split
    · rename_i h
      rw [Bool.and_eq_true] at h
      have := prod_bd (okW_iff.1 h.1) (okW_iff.1 h.2)
      rw [List.length_replicate]
      omega
    · simp
  generalize empN aw ah = xs at kS kI hX
  generalize empA aw ah = a at kS kI
  generalize empA ah aw = b at kS kI
  generalize empC aw ah = code at kS kI
  replace kS := Lib.hid kS
  replace kI := Lib.hid kI
  go_enter Try.func5, Try.ntmps5
  go_wp2_with fail
  refine (kS.out _).mono ?_
  rintro e w1 ⟨g0, A0, c0, rfl, hb, ⟨hge, hg0⟩, hL0⟩
  have hs1 : Stays w1 (w1.alloc (.cells #[.int .i64 a, .int .i64 b, .slice A0 xs.length c0] 27)) := by (repeat (first | exact Stays.refl _ | (with_reducible refine Stays.drewN ?_ _) | (with_reducible refine Stays.alloc ?_ _) | (with_reducible refine Stays.drew ?_) | (refine Stays.trans ?_ ‹Stays _ _›)))
  have hb1 := Lib.hid (hb.trans (Below.mono hs1 hb.size))
  have hX0 := Lib.hid (BoxG.new w1 a b A0 c0 xs.length 27)
  replace hg0 := Lib.hid hg0
  replace hL0 := Lib.hid (LiesR.below hL0 hs1)
  clear hb hge hs1
  go_wp2_with fail
  have hsz1 : Hid (w1.heap.size < (w1.alloc (.cells #[.int .i64 a, .int .i64 b, .slice A0 xs.length c0] 27)).heap.size) := Lib.hid (by simp)
  generalize (w1.alloc (.cells #[.int .i64 a, .int .i64 b, .slice A0 xs.length c0] 27)) = W1 at hb1 hX0 hL0 hsz1 ⊢
  refine (kI.out _).mono ?_
  rintro e w2 ⟨g1, A1, c1, rfl, hb, ⟨hge, hg1⟩, hL1⟩
  have hs2 : Stays w2 (w2.alloc (.cells #[.int .i64 a, .int .i64 b, .slice A1 xs.length c1] 27)) := by (repeat (first | exact Stays.refl _ | (with_reducible refine Stays.drewN ?_ _) | (with_reducible refine Stays.alloc ?_ _) | (with_reducible refine Stays.drew ?_) | (refine Stays.trans ?_ ‹Stays _ _›)))
  have hb2 := Lib.hid (hb1.out.trans (Below.mono ((show Stays W1 w2 from hb).trans hs2) hb1.out.size))
  replace hX0 := Lib.hid (hX0.out.below ((show Stays W1 w2 from hb).trans hs2))
  replace hL0 := Lib.hid (LiesR.below hL0.out ((show Stays W1 w2 from hb).trans hs2))
  have hX1 := Lib.hid (BoxG.new w2 a b A1 c1 xs.length 27)
  have hne1 := Lib.hid (show w1.heap.size < g1 from Nat.lt_of_lt_of_le hsz1.out hge)
  replace hg1 := Lib.hid hg1
  replace hL1 := Lib.hid (LiesR.below hL1 hs2)
  have hgw := Lib.hid (show w.heap.size ≤ g1 from Nat.le_trans hb1.out.size hge)
  clear hb hge hs2 hsz1
  obtain ⟨p0, p1, p2⟩ := hX0.out.cells
  obtain ⟨q0, q1, q2⟩ := hX1.out.cells
  go_wp2_with fail
  generalize (w2.alloc (.cells #[.int .i64 a, .int .i64 b, .slice A1 xs.length c1] 27)) = W2 at hb2 hX0 hL0 hX1 hL1 p0 p1 p2 q0 q1 q2 ⊢
  refine (c_eqGrid _ _ a b xs W2 (LiesB.val hL1.out) (LiesB.val hL0.out) hX).mono ?_
  rintro e w3 ⟨rfl, hb⟩
  have hb3 := Lib.hid (hb2.out.trans (Below.mono hb hb2.out.size))
  replace hX0 := Lib.hid (hX0.out.below hb)
  replace hX1 := Lib.hid (hX1.out.below hb)
  replace hL0 := Lib.hid (LiesR.below hL0.out hb)
  replace hL1 := Lib.hid (LiesR.below hL1.out hb)
  clear hb p0 p1 p2 q0 q1 q2
  obtain ⟨p0, p1, p2⟩ := hX0.out.cells
  obtain ⟨q0, q1, q2⟩ := hX1.out.cells
  go_wp2_with fail
  refine (c_markG A1 g1 c1 xs.length a b w3 (LiesB.at_ hL1.out) (LiesB.lt_ hL1.out) (LiesB.there hL1.out) hX).mono ?_
  rintro e w4 ⟨rfl, hm⟩
  have hb4 := Lib.hid (hb3.out.trans (hm.below _ hgw.out hb3.out.size))
  have hA1 := Lib.hid (LiesB.at_ hL1.out)
  replace hX0 := Lib.hid (hX0.out.on (hm.same _ (by have := hne1.out; omega) hX0.out.lt))
  replace hX1 := Lib.hid (hX1.out.on (hm.same _ (by have := hg1.out; omega) hX1.out.lt))
  replace hL0 := Lib.hid (LiesB.marked hL0.out hm fun _ => by have := hne1.out; have := hg0.out; omega)
  have hM := Lib.hid hm.cells
  have hl4 := Lib.hid (show g1 < w4.heap.size from Nat.lt_trans hg1.out hX1.out.lt)
  have hk : ¬ ((1 : Int) + (xs.length : Nat) < 0) := by omega
  clear hm hL1 p0 p1 p2 q0 q1 q2
  obtain ⟨p0, p1, p2⟩ := hX0.out.cells
  obtain ⟨q0, q1, q2⟩ := hX1.out.cells
  go_wp2_with fail
  refine (c_heldG A1 g1 c1 xs.length a b w4 hA1.out (fun _ => hl4.out) hM.out hX).mono ?_
  rintro e w5 ⟨rfl, hb⟩
  have hb5 := Lib.hid (hb4.out.trans (Below.mono hb hb4.out.size))
  replace hX0 := Lib.hid (hX0.out.below hb)
  replace hX1 := Lib.hid (hX1.out.below hb)
  replace hL0 := Lib.hid (LiesR.below hL0.out hb)
  replace hM : Hid (∀ j, j < xs.length → w5.cell? ⟨g1, j, none⟩ = some (.int .u8 (IntKind.u8.wrap (1 + (j : Nat))))) := Lib.hid fun j hj => (Below.cell (p := ⟨g1, j, none⟩) hb hl4.out).trans (hM.out j hj)
  replace hl4 := Lib.hid (show g1 < w5.heap.size from Nat.lt_of_lt_of_le hl4.out hb.size)
  clear hb p0 p1 p2 q0 q1 q2
  generalize hkk : (1 : Int) + (xs.length : Nat) = kk at hk ⊢
  replace hkk := Lib.hid hkk
  go_wp2_with fail
  refine (kI.out _).mono ?_
  rintro e w6 ⟨g2, A2, c2, rfl, hb, _, hL2⟩
  have hs6 : Stays w6 (w6.alloc (.cells #[.int .i64 a, .int .i64 b, .slice A2 xs.length c2] 27)) := by (repeat (first | exact Stays.refl _ | (with_reducible refine Stays.drewN ?_ _) | (with_reducible refine Stays.alloc ?_ _) | (with_reducible refine Stays.drew ?_) | (refine Stays.trans ?_ ‹Stays _ _›)))
  have hs56 := (show Stays w5 w6 from hb).trans hs6
  have hb6 := Lib.hid (hb5.out.trans (Below.mono hs56 hb5.out.size))
  replace hX0 := Lib.hid (hX0.out.below hs56)
  replace hX1 := Lib.hid (hX1.out.below hs56)
  replace hL0 := Lib.hid (LiesR.below hL0.out hs56)
  replace hM : Hid (∀ j, j < xs.length → (w6.alloc (.cells #[.int .i64 a, .int .i64 b, .slice A2 xs.length c2] 27)).cell? ⟨g1, j, none⟩ = some (.int .u8 (IntKind.u8.wrap (1 + (j : Nat))))) := Lib.hid fun j hj => (Below.cell (p := ⟨g1, j, none⟩) hs56 hl4.out).trans (hM.out j hj)
  replace hl4 := Lib.hid (show g1 < (w6.alloc (.cells #[.int .i64 a, .int .i64 b, .slice A2 xs.length c2] 27)).heap.size from Nat.lt_of_lt_of_le hl4.out hs56.size)
  have hX2 := Lib.hid (BoxG.new w6 a b A2 c2 xs.length 27)
  replace hL2 := Lib.hid (LiesR.below hL2 hs6)
  clear hb hs6 hs56
  obtain ⟨p0, p1, p2⟩ := hX0.out.cells
  obtain ⟨q0, q1, q2⟩ := hX2.out.cells
  go_wp2_with fail
  generalize (w6.alloc (.cells #[.int .i64 a, .int .i64 b, .slice A2 xs.length c2] 27)) = W6 at hb6 hX0 hX1 hX2 hL0 hL2 hM hl4 p0 p1 p2 q0 q1 q2 ⊢
  refine (c_eqGrid _ _ a b xs W6 (LiesB.val hL2.out) (LiesB.val hL0.out) hX).mono ?_
  rintro e w7 ⟨rfl, hb⟩
  have hb7 := Lib.hid (hb6.out.trans (Below.mono hb hb6.out.size))
  replace hX1 := Lib.hid (hX1.out.below hb)
  replace hM : Hid (∀ j, j < xs.length → w7.cell? ⟨g1, j, none⟩ = some (.int .u8 (IntKind.u8.wrap (1 + (j : Nat))))) := Lib.hid fun j hj => (Below.cell (p := ⟨g1, j, none⟩) hb hl4.out).trans (hM.out j hj)
  replace hl4 := Lib.hid (show g1 < w7.heap.size from Nat.lt_of_lt_of_le hl4.out hb.size)
  clear hb p0 p1 p2 q0 q1 q2 hX0 hX2 hL0 hL2
  obtain ⟨q0, q1, q2⟩ := hX1.out.cells
  go_wp2_with fail
  refine (c_heldG A1 g1 c1 xs.length a b w7 hA1.out (fun _ => hl4.out) hM.out hX).mono ?_
  rintro e w8 ⟨rfl, hb⟩
  rw [hkk.out]
  have hb8 := Lib.hid (hb7.out.trans (Below.mono hb hb7.out.size))
  clear hb
  go_wp2
  go_ret
  exact ⟨rfl, hb8.out⟩
end Go.Proofs.Ytdahlpljgcibfaa
