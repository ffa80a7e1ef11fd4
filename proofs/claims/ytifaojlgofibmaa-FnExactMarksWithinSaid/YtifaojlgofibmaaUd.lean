/- Maps that are told by their marks' places; the laws on maps without some of their marks. No condition. -/
import Derived.Test.YtifaojlgofibmaaUc
import Derived.Test.YtifaojlgofibmaaKMark
namespace Go.Proofs.Ytifaojlgofibmaa
open Go Go.RowKit
set_option linter.unusedVariables false
set_option linter.unusedSimpArgs false

/-- The marks that lie in a block are told by their places; what else there was is as before. -/
structure MarkL (w w' : World) (g n : Nat) (k0 : Int) : Prop where
  same : ∀ g', (0 < n → g' ≠ g) → g' < w.heap.size → Same w w' g'
  below : ∀ B, (0 < n → B ≤ g) → B ≤ w.heap.size → Below B w w'
  rows : ∀ j, j < n → w'.rangeAt g (j * 9) (mrowMark (k0 + 9 * (j : Nat)))

theorem c_markMks (A : Option Addr) (g c n : Nat) (w : World) (hA : 0 < n → A = some ⟨g, 0, none⟩) (ht : 0 < n → w.there g 0 (n * 9)) (hn : n ≤ 1048576) :
    Calls Try.prog 34 #[.slice A n c, .int .i64 1] w fun e w' => e = .returned (.int .i64 (1 + 9 * (n : Nat))) ∧ MarkL w w' g n 1 := by
  by_cases h0 : 0 < n
  · refine (c_markMarkS A g c n 1 w hA (ht h0) hn (by omega)).mono ?_
    rintro e w' ⟨rfl, hm⟩
    exact ⟨rfl, fun g' h1 _ => hm.same g' (h1 h0), fun B h1 _ => hm.below B (h1 h0), hm.rows⟩
  · have e : n = 0 := by omega
    subst e
    refine (c_markMarkS A w.heap.size c 0 1 w (fun h => absurd h (by decide)) (fun j hj => by omega) hn (by omega)).mono ?_
    rintro e w' ⟨rfl, hm⟩
    exact ⟨rfl, fun g' _ h2 => hm.same g' (by omega), fun B _ h2 => hm.below B h2, fun j hj => by omega⟩

theorem c_markMp (A : Option Addr) (s g c n : Nat) (w : World) (hA : 0 < n → A = some ⟨g, 0, none⟩) (hg : 0 < n → g < w.heap.size) (ht : 0 < n → w.there g 0 (n * 9)) (hn : n ≤ 1048576) :
    Calls Try.prog 27 #[.agg #[.float .f32 s, .slice A n c], .int .i64 1] w fun e w' => e = .returned (.int .i64 (1 + 9 * (n : Nat))) ∧ MarkL w w' g n 1 := by
  have hst : Stays w (w.alloc (.cells #[.float .f32 s, .slice A n c] 55)) := by (repeat (first | exact Stays.refl _ | (with_reducible refine Stays.drewN ?_ _) | (with_reducible refine Stays.alloc ?_ _) | (with_reducible refine Stays.drew ?_) | (refine Stays.trans ?_ ‹Stays _ _›)))
  have k := c_markMks A g c n (w.alloc (.cells #[.float .f32 s, .slice A n c] 55)) hA (fun h0 => there_below (ht h0) hst (hg h0)) hn
  have e1 : ∀ w', MarkL (w.alloc (.cells #[.float .f32 s, .slice A n c] 55)) w' g n 1 → MarkL w w' g n 1 := fun w' hm =>
    ⟨fun g' h1 h2 => (Same.of_below hst hst.size h2).trans (hm.same g' h1 (Nat.lt_of_lt_of_le h2 hst.size)), fun B h1 h2 => (Below.mono hst h2).trans (hm.below B h1 (Nat.le_trans h2 hst.size)), hm.rows⟩
  replace k := Lib.hid k
  replace e1 := Lib.hid e1
  clear hst ht hA hg
  go_enter Try.func27, Try.ntmps27
  go_wp2_with (go_at_call 34; refine k.out.mono ?_; rintro e w1 ⟨rfl, hm⟩; replace hm := e1.out _ hm)
  go_ret
  exact ⟨rfl, hm⟩

theorem c_heldMp (A : Option Addr) (s g c n : Nat) (w : World) (hA : 0 < n → A = some ⟨g, 0, none⟩) (hg : 0 < n → g < w.heap.size) (hr : ∀ j, j < n → w.rangeAt g (j * 9) (mrowMark (1 + 9 * (j : Nat)))) (hn : n ≤ 1048576) :
    Calls Try.prog 28 #[.agg #[.float .f32 s, .slice A n c], .int .i64 1] w fun e w' => e = .returned (.int .i64 (1 + 9 * (n : Nat))) ∧ Stays w w' := by
  have hst : Stays w (w.alloc (.cells #[.float .f32 s, .slice A n c] 55)) := by (repeat (first | exact Stays.refl _ | (with_reducible refine Stays.drewN ?_ _) | (with_reducible refine Stays.alloc ?_ _) | (with_reducible refine Stays.drew ?_) | (refine Stays.trans ?_ ‹Stays _ _›)))
  have k := c_heldMarkS A g c n 1 (w.alloc (.cells #[.float .f32 s, .slice A n c] 55)) hA (fun j hj => range_below (hr j hj) hst (hg (by omega))) hn (by omega)
  have hk1 : ¬ ((1 : Int) + 9 * (n : Nat) < 0) := by omega
  generalize (1 : Int) + 9 * (n : Nat) = kk at k hk1 ⊢
  replace k := Lib.hid k
  replace hst := Lib.hid hst
  clear hA hg hr
  go_enter Try.func28, Try.ntmps28
  go_wp2_with (go_at_call 35; refine k.out.mono ?_; rintro e w1 ⟨rfl, rfl⟩)
  go_ret
  exact ⟨rfl, hst.out⟩

/-- A map in a box. -/
structure BoxM (w : World) (p : Nat) (s : Nat) (A : Option Addr) (c n : Nat) : Prop where
  cells : w.cell? ⟨p, 0, none⟩ = some (.float .f32 s) ∧ w.cell? ⟨p, 1, none⟩ = some (.slice A n c)
  lt : p < w.heap.size

theorem BoxM.new (w : World) (s : Nat) (A : Option Addr) (c n : Nat) (t : TypeId) : BoxM (w.alloc (.cells #[.float .f32 s, .slice A n c] t)) w.heap.size s A c n :=
  ⟨⟨cell_of_row _ _ _ _ _ _ (heap_alloc_new w _), cell_of_row _ _ _ _ _ _ (heap_alloc_new w _)⟩, in_heap (heap_alloc_new w _)⟩

theorem BoxM.on {w w' : World} {p s : Nat} {A : Option Addr} {c n : Nat} (h : BoxM w p s A c n) (hs : Same w w' p) : BoxM w' p s A c n :=
  ⟨⟨(hs.cell _ rfl).trans h.cells.1, (hs.cell _ rfl).trans h.cells.2⟩, Nat.lt_of_lt_of_le h.lt hs.size⟩

theorem BoxM.below {w w' : World} {p s : Nat} {A : Option Addr} {c n : Nat} (h : BoxM w p s A c n) (hb : Stays w w') : BoxM w' p s A c n := h.on (Same.of_below hb hb.size h.lt)

abbrev LiesM (w : World) (g : Nat) (v : Value) (xs : List Mk) : Prop := LiesR mkK 9 Mk.ins w g v xs

theorem LiesM.mp {w : World} {s g c : Nat} {A : Option Addr} {o : Option Nat} {xs : List Mk} (h : LiesM w g (.slice A xs.length c) xs) (hf : FIs .f32 s o) : MpV w w.heap.size (.agg #[.float .f32 s, .slice A xs.length c]) o xs := ⟨s, A, c, rfl, hf, h.rows⟩

theorem ne_of_pos {xs : List Mk} (h : 0 < xs.length) : xs ≠ [] := fun e => by rw [e] at h; simp at h

theorem LiesM.at_ {w : World} {g c : Nat} {A : Option Addr} {xs : List Mk} (h : LiesM w g (.slice A xs.length c) xs) : 0 < xs.length → A = some ⟨g, 0, none⟩ := fun h0 => by
  obtain ⟨A', c', e, h⟩ := h
  cases e
  exact (h (ne_of_pos h0)).1

theorem LiesM.lt_ {w : World} {g : Nat} {v : Value} {xs : List Mk} (h : LiesM w g v xs) : 0 < xs.length → g < w.heap.size := fun h0 => LiesR.lt h (ne_of_pos h0)

theorem LiesM.there_ {w : World} {g : Nat} {v : Value} {xs : List Mk} (h : LiesM w g v xs) : 0 < xs.length → w.there g 0 (xs.length * 9) := fun h0 => by
  obtain ⟨A, c, e, h⟩ := h
  exact (h (ne_of_pos h0)).2.2.1

theorem LiesM.marked {w w' : World} {g g' n : Nat} {k0 : Int} {v : Value} {xs : List Mk} (h : LiesM w g v xs) (hm : MarkL w w' g' n k0) (hne : 0 < xs.length → 0 < n → g ≠ g') : LiesM w' g v xs := by
  by_cases hx : xs = []
  · subst hx
    obtain ⟨A, c, e, _⟩ := h
    exact ⟨A, c, e, fun h => absurd rfl h⟩
  · have h0 : 0 < xs.length := List.length_pos_iff.2 hx
    exact LiesR.on h fun hlt => hm.same g (hne h0) hlt

theorem rows_below {w w' : World} {g n : Nat} {k0 : Int} (h : ∀ j, j < n → w.rangeAt g (j * 9) (mrowMark (k0 + 9 * (j : Nat)))) (hb : Stays w w') : ∀ j, j < n → w'.rangeAt g (j * 9) (mrowMark (k0 + 9 * (j : Nat))) := fun j hj => by
  have hlt : g < w.heap.size := World.block_lt_of_cell? _ _ (h j hj 0 _ rfl)
  exact range_below (h j hj) hb hlt

theorem ge_not_lt {a b : Option Nat} (ha : ∃ r, can .f32 r = a) (hb : ∃ r, can .f32 r = b) (fa : finB a = true) (sb : selfB b = true) : (!ltF a b) = geB a b := by
  obtain ⟨r, rfl⟩ := ha
  obtain ⟨q, rfl⟩ := hb
  cases hr : (FloatKind.f32.decode r).isNaN with
  | true => rw [can_nan hr] at fa; cases fa
  | false =>
    cases hq : (FloatKind.f32.decode q).isNaN with
    | true => rw [can_nan hq] at sb; cases sb
    | false =>
      unfold ltF geB
      rw [can_num hr, can_num hq]
      show (!(Ieee.single.order r q == some .lt)) = (Ieee.single.order r q == some .gt || Ieee.single.order r q == some .eq)
      have hr' : (Ieee.single.read r).isNaN = false := hr
      have hq' : (Ieee.single.read q).isNaN = false := hq
      obtain ⟨x, hx⟩ : ∃ x, Ieee.single.order r q = some x := by
        unfold Ieee.Format.order
        cases e1 : Ieee.single.read r with
        | nan => rw [e1] at hr'; cases hr'
        | infinity s =>
          cases e2 : Ieee.single.read q with
          | nan => rw [e2] at hq'; cases hq'
          | infinity t => exact ⟨_, rfl⟩
          | number t m j => exact ⟨_, rfl⟩
        | number s m j =>
          cases e2 : Ieee.single.read q with
          | nan => rw [e2] at hq'; cases hq'
          | infinity t => exact ⟨_, rfl⟩
          | number t n i => exact ⟨_, rfl⟩
      rw [hx]
      cases x <;> rfl

theorem keep_same {w : World} {B : Nat} {A : Option Addr} {o b : Option Nat} {xs : List Mk} (h : Mks w B A xs) (ho : mapOK o xs = true) (hb : ∃ r, can .f32 r = b) (sb : selfB b = true) : xs.filter (fun m => !ltF m.d b) = xs.filter (fun m => geB m.d b) := by
  refine List.filter_congr fun m hm => ?_
  obtain ⟨i, hi, e⟩ := List.getElem_of_mem hm
  have hi' : xs[i]? = some m := by rw [List.getElem?_eq_getElem hi, e]
  obtain ⟨ad, _, _, cs, hk, _⟩ := h i m hi'
  obtain ⟨ra, rb, rc, rd, _, _, _, _, fd⟩ := mk_row hk
  unfold mapOK at ho
  simp only [Bool.and_eq_true] at ho
  have hv := (marksOK_iff.1 ho.2 i m hi').1
  unfold validB at hv
  simp only [Bool.and_eq_true] at hv
  exact ge_not_lt ⟨rd, fd.out⟩ hb hv.1.1.2.1 sb


set_option maxRecDepth 100000 in
set_option maxHeartbeats 4000000 in
theorem c_lawForgetBefore (v : Value) (o : Option Nat) (xs : List Mk) (t : Int) (w : World) (h : MpV w w.heap.size v o xs) (hn : xs.length ≤ 9223372036854775807) :
    Calls Try.prog 6 #[v, .int .i64 t] w fun e w' => e = .returned (.bool true) ∧ Below w.heap.size w w' := by
  have kS := fun v W (h : MpV W W.heap.size v o xs) (hn : xs.length ≤ 1048576) => c_specForgetBefore v o xs t W h hn
  have kI := fun v W (h : MpV W W.heap.size v o xs) (hn : xs.length ≤ 1048576) => c_implForgetBefore v o xs t W h hn
  have hX : xs.length ≤ 1048576 → (if mapOK o xs && okTime t then xs.filter (fun m => decide (t ≤ m.l)) else []).length ≤ 1048576 := fun hn => by
    split
    · exact Nat.le_trans (List.length_filter_le _ _) hn
    · simp
  generalize (if mapOK o xs && okTime t then xs.filter (fun m => decide (t ≤ m.l)) else []) = XS at kS kI hX
  generalize (if mapOK o xs && okTime t then o else some 0) = oo at kS kI
  generalize ((if mapOK o xs then (if okTime t then 0 else 2) else 1) : Int) = code at kS kI
  replace kS := Lib.hid kS
  replace kI := Lib.hid kI
  obtain ⟨s, A, c, rfl, _, HB⟩ := boxMp 51 h
  clear h
  replace HB := Lib.hid HB
  have hsz := fun W => c_szLandMap (.float .f32 s) A c xs.length 1048576 W hn (by omega) (by omega)
  by_cases hl : (1048576 : Int) - xs.length < 0
  · simp only [if_pos hl] at hsz
    replace hsz := Lib.hid hsz
    go_enter Try.func6, Try.ntmps6
    go_wp2_with fail
    refine (hsz.out _).mono ?_
    rintro e w1 ⟨rfl, hb⟩
    go_wp2
    go_ret
    exact ⟨rfl, (HB.out _ hb).1.2⟩
  · simp only [if_neg hl] at hsz
    have hn' : xs.length ≤ 1048576 := by omega
    replace hX := Lib.hid (hX hn')
    have hL : ¬ ((1048576 : Int) - xs.length < 0) := hl
    generalize (1048576 : Int) - xs.length = L at hL hsz
    replace hsz := Lib.hid hsz
    clear hl hn
    go_enter Try.func6, Try.ntmps6
    go_wp2_with fail
    refine (hsz.out _).mono ?_
    rintro e w1 ⟨rfl, hb⟩
    have ha := Lib.hid (show Stays _ w1 from hb)
    have hwW : Hid (Stays w (w.alloc (.cells #[.float .f32 s, .slice A xs.length c] 51))) := Lib.hid (by (repeat (first | exact Stays.refl _ | (with_reducible refine Stays.drewN ?_ _) | (with_reducible refine Stays.alloc ?_ _) | (with_reducible refine Stays.drew ?_) | (refine Stays.trans ?_ ‹Stays _ _›))))
    clear hb
    generalize (w.alloc (.cells #[.float .f32 s, .slice A xs.length c] 51)) = W0 at HB ha hwW
    obtain ⟨⟨⟨a0, a1⟩, _⟩, hg⟩ := HB.out _ ha.out
    replace hg := Lib.hid hg
    go_wp2_with fail
    refine (c_toMp _ o xs w1 hg.out hn').mono ?_
    rintro e w2 ⟨v1, rfl, hb, hv1⟩
    replace ha := Lib.hid (ha.out.trans hb)
    clear hb
    replace hv1 := Lib.hid hv1
    go_wp2_with fail
    refine (kS.out v1 w2 hv1.out hn').mono ?_
    rintro e w3 ⟨s0, g0, A0, c0, rfl, hf0, hb, hge, hL0⟩
    replace hf0 := Lib.hid hf0
    have o2 : Hid (0 < XS.length → g0 < w3.heap.size) := Lib.hid (LiesM.lt_ hL0)
    have hs3 : Stays w3 (w3.alloc (.cells #[.float .f32 s0, .slice A0 XS.length c0] 55)) := by (repeat (first | exact Stays.refl _ | (with_reducible refine Stays.drewN ?_ _) | (with_reducible refine Stays.alloc ?_ _) | (with_reducible refine Stays.drew ?_) | (refine Stays.trans ?_ ‹Stays _ _›)))
    have o1 : Hid (W0.heap.size ≤ w3.heap.size) := Lib.hid (ha.out.trans hb).size
    replace ha := Lib.hid ((ha.out.trans hb).trans hs3)
    have hX0 := Lib.hid (BoxM.new w3 s0 A0 c0 XS.length 55)
    replace hL0 := Lib.hid (LiesR.below hL0 hs3)
    have oA : Hid (w3.heap.size < (w3.alloc (.cells #[.float .f32 s0, .slice A0 XS.length c0] 55)).heap.size) := Lib.hid (by simp)
    clear hb hge hs3 hv1 hg a0 a1
    obtain ⟨⟨⟨a0, a1⟩, _⟩, hg⟩ := HB.out _ ha.out
    replace hg := Lib.hid hg
    go_wp2_with fail
    generalize (w3.alloc (.cells #[.float .f32 s0, .slice A0 XS.length c0] 55)) = W3 at ha hX0 hL0 hg oA a0 a1 ⊢
    refine (c_toLandMap _ o xs W3 hg.out hn').mono ?_
    rintro e w4 ⟨sx, gx, rfl, hfx, hge, hb, hLx⟩
    replace hfx := Lib.hid hfx
    have o3 : Hid (w3.heap.size < gx) := Lib.hid (Nat.lt_of_lt_of_le oA.out hge)
    have o4 : Hid (0 < xs.length → gx < w4.heap.size) := Lib.hid (LiesM.lt_ hLx)
    have hs4 : Stays w4 (w4.alloc (.cells #[.float .f32 sx, .slice (some ⟨gx, 0, none⟩) xs.length xs.length] 55)) := by (repeat (first | exact Stays.refl _ | (with_reducible refine Stays.drewN ?_ _) | (with_reducible refine Stays.alloc ?_ _) | (with_reducible refine Stays.drew ?_) | (refine Stays.trans ?_ ‹Stays _ _›)))
    have hs34 := (show Stays W3 w4 from hb).trans hs4
    replace ha := Lib.hid (ha.out.trans hs34)
    replace hX0 := Lib.hid (hX0.out.below hs34)
    replace hL0 := Lib.hid (LiesR.below hL0.out hs34)
    have hXx := Lib.hid (BoxM.new w4 sx (some ⟨gx, 0, none⟩) xs.length xs.length 55)
    replace hLx := Lib.hid (LiesR.below hLx hs4)
    have oB : Hid (w4.heap.size < (w4.alloc (.cells #[.float .f32 sx, .slice (some ⟨gx, 0, none⟩) xs.length xs.length] 55)).heap.size) := Lib.hid (by simp)
    have oC : Hid (w3.heap.size ≤ w4.heap.size) := Lib.hid (by have := oA.out; have := hb.size; omega)
    clear hb hge hs4 hs34 hg a0 a1 oA
    obtain ⟨x0, x1⟩ := hXx.out.cells
    go_wp2_with fail
    generalize (w4.alloc (.cells #[.float .f32 sx, .slice (some ⟨gx, 0, none⟩) xs.length xs.length] 55)) = W4 at ha hX0 hL0 hXx hLx oB x0 x1 ⊢
    refine (kI.out _ W4 (LiesM.mp hLx.out hfx.out) hn').mono ?_
    rintro e w5 ⟨s1, g1, A1, c1, rfl, hf1, hb, hge, hL1⟩
    replace hf1 := Lib.hid hf1
    have o5 : Hid (w4.heap.size < g1) := Lib.hid (Nat.lt_of_lt_of_le oB.out hge)
    have o6 : Hid (0 < XS.length → g1 < w5.heap.size) := Lib.hid (LiesM.lt_ hL1)
    have o7 : Hid (w4.heap.size ≤ w5.heap.size) := Lib.hid (by have := oB.out; have := hb.size; omega)
    have hs5 : Stays w5 (w5.alloc (.cells #[.float .f32 s1, .slice A1 XS.length c1] 55)) := by (repeat (first | exact Stays.refl _ | (with_reducible refine Stays.drewN ?_ _) | (with_reducible refine Stays.alloc ?_ _) | (with_reducible refine Stays.drew ?_) | (refine Stays.trans ?_ ‹Stays _ _›)))
    have hs45 := (show Stays W4 w5 from hb).trans hs5
    replace ha := Lib.hid (ha.out.trans hs45)
    replace hX0 := Lib.hid (hX0.out.below hs45)
    replace hL0 := Lib.hid (LiesR.below hL0.out hs45)
    replace hXx := Lib.hid (hXx.out.below hs45)
    replace hLx := Lib.hid (LiesR.below hLx.out hs45)
    have hX1 := Lib.hid (BoxM.new w5 s1 A1 c1 XS.length 55)
    replace hL1 := Lib.hid (LiesR.below hL1 hs5)
    clear hb hge hs5 hs45 oB x0 x1
    obtain ⟨p0, p1⟩ := hX0.out.cells
    obtain ⟨q0, q1⟩ := hX1.out.cells
    go_wp2_with fail
    generalize (w5.alloc (.cells #[.float .f32 s1, .slice A1 XS.length c1] 55)) = W5 at ha hX0 hL0 hXx hLx hX1 hL1 p0 p1 q0 q1 ⊢
    refine (c_eqLandMap _ _ oo XS W5 (LiesM.mp hL1.out hf1.out) (LiesM.mp hL0.out hf0.out) hX.out).mono ?_
    rintro e w6 ⟨rfl, hb⟩
    replace hb : Stays W5 w6 := hb
    replace ha := Lib.hid (ha.out.trans hb)
    replace hX0 := Lib.hid (hX0.out.below hb)
    replace hL0 := Lib.hid (LiesR.below hL0.out hb)
    replace hXx := Lib.hid (hXx.out.below hb)
    replace hLx := Lib.hid (LiesR.below hLx.out hb)
    replace hX1 := Lib.hid (hX1.out.below hb)
    replace hL1 := Lib.hid (LiesR.below hL1.out hb)
    clear hb p0 p1 q0 q1
    obtain ⟨⟨⟨a0, a1⟩, _⟩, _⟩ := HB.out _ ha.out
    obtain ⟨x0, x1⟩ := hXx.out.cells
    have G : Hid (∀ w', Stays w6 w' → (w'.cell? ⟨w.heap.size, 0, none⟩ = some (.float .f32 s) ∧ w'.cell? ⟨w.heap.size, 1, none⟩ = some (.slice A xs.length c) ∧ w'.cell? ⟨w4.heap.size, 0, none⟩ = some (.float .f32 sx) ∧ w'.cell? ⟨w4.heap.size, 1, none⟩ = some (.slice (some ⟨gx, 0, none⟩) xs.length xs.length) ∧ Hid (Stays w6 w'))) := Lib.hid fun w' h => ⟨(HB.out _ (ha.out.trans h)).1.1.1, (HB.out _ (ha.out.trans h)).1.1.2, (hXx.out.below h).cells.1, (hXx.out.below h).cells.2, Lib.hid h⟩
    have h5 := Lib.hid (show Stays w6 w6.drew from (Stays.refl w6).drew)
    go_wp2_with fail
    go_region_held (fun w' => (w'.cell? ⟨w.heap.size, 0, none⟩ = some (.float .f32 s) ∧ w'.cell? ⟨w.heap.size, 1, none⟩ = some (.slice A xs.length c) ∧ w'.cell? ⟨w4.heap.size, 0, none⟩ = some (.float .f32 sx) ∧ w'.cell? ⟨w4.heap.size, 1, none⟩ = some (.slice (some ⟨gx, 0, none⟩) xs.length xs.length) ∧ Hid (Stays w6 w'))) (first | exact G.out _ h5.out | exact G.out _ h6.out | exact G.out _ h7.out)
      (first
        | (go_at_call 24; refine (c_toMp _ o xs _ (HB.out _ (ha.out.trans h5.out)).2 hn').mono ?_; rintro e w7 ⟨v3, rfl, hb, hv3⟩; have h6 := Lib.hid (h5.out.trans hb); clear hb; replace hv3 := Lib.hid hv3)
        | (go_at_call 26; refine (c_eqLandMap _ v3 o xs w7 (LiesM.mp (LiesR.below hLx.out h6.out) hfx.out) hv3.out hn').mono ?_; rintro e w8 ⟨rfl, hb⟩; have h7 := Lib.hid (h6.out.trans hb); clear hb))
    have hb := h7.out
    replace ha := Lib.hid (ha.out.trans hb)
    replace hX0 := Lib.hid (hX0.out.below hb)
    replace hL0 := Lib.hid (LiesR.below hL0.out hb)
    replace hXx := Lib.hid (hXx.out.below hb)
    replace hLx := Lib.hid (LiesR.below hLx.out hb)
    replace hX1 := Lib.hid (hX1.out.below hb)
    replace hL1 := Lib.hid (LiesR.below hL1.out hb)
    clear hb a0 a1 x0 x1 G h5 h6 h7 hv3
    obtain ⟨x0, x1⟩ := hXx.out.cells
    go_wp2_with fail
    refine (c_markMp _ sx gx xs.length xs.length w8 (LiesM.at_ hLx.out) (LiesM.lt_ hLx.out) (LiesM.there_ hLx.out) hn').mono ?_
    rintro e w9 ⟨rfl, hm⟩
    replace ha := Lib.hid (show Stays W0 _ from Below.trans (show Below W0.heap.size W0 _ from ha.out) (hm.below W0.heap.size (fun _ => by have := o1.out; have := o3.out; omega) ha.out.size))
    replace hX0 := Lib.hid (hX0.out.on (hm.same _ (fun _ => by have := o3.out; omega) hX0.out.lt))
    replace hL0 := Lib.hid (LiesM.marked hL0.out hm fun h _ => by have := o2.out h; have := o3.out; omega)
    replace hX1 := Lib.hid (hX1.out.on (hm.same _ (fun h => by have := o4.out h; have := o7.out; omega) hX1.out.lt))
    replace hL1 := Lib.hid (LiesM.marked hL1.out hm fun _ h => by have := o4.out h; have := o5.out; omega)
    clear hm hXx hLx x0 x1
    have hk0 : ¬ ((1 : Int) + 9 * (xs.length : Nat) < 0) := by omega
    generalize (1 : Int) + 9 * (xs.length : Nat) = kx at hk0 ⊢
    obtain ⟨p0, p1⟩ := hX0.out.cells
    obtain ⟨q0, q1⟩ := hX1.out.cells
    go_wp2_with fail
    refine (c_eqLandMap _ _ oo XS w9 (LiesM.mp hL1.out hf1.out) (LiesM.mp hL0.out hf0.out) hX.out).mono ?_
    rintro e w10 ⟨rfl, hb⟩
    replace hb : Stays w9 w10 := hb
    replace ha := Lib.hid (ha.out.trans hb)
    replace hX0 := Lib.hid (hX0.out.below hb)
    replace hL0 := Lib.hid (LiesR.below hL0.out hb)
    replace hX1 := Lib.hid (hX1.out.below hb)
    replace hL1 := Lib.hid (LiesR.below hL1.out hb)
    clear hb p0 p1 q0 q1
    obtain ⟨q0, q1⟩ := hX1.out.cells
    go_wp2_with fail
    refine (c_markMp _ s1 g1 c1 XS.length w10 (LiesM.at_ hL1.out) (LiesM.lt_ hL1.out) (LiesM.there_ hL1.out) hX.out).mono ?_
    rintro e w11 ⟨rfl, hm⟩
    have hA1 := Lib.hid (LiesM.at_ hL1.out)
    replace ha := Lib.hid (show Stays W0 _ from Below.trans (show Below W0.heap.size W0 _ from ha.out) (hm.below W0.heap.size (fun _ => by have := o1.out; have := o5.out; have := oC.out; omega) ha.out.size))
    replace hX0 := Lib.hid (hX0.out.on (hm.same _ (fun _ => by have := oC.out; have := o5.out; omega) hX0.out.lt))
    replace hL0 := Lib.hid (LiesM.marked hL0.out hm fun h _ => by have := o2.out h; have := oC.out; have := o5.out; omega)
    replace hX1 := Lib.hid (hX1.out.on (hm.same _ (fun h => by have := o6.out h; omega) hX1.out.lt))
    have hM := Lib.hid hm.rows
    have hl := Lib.hid (fun h : 0 < XS.length => Nat.lt_trans (o6.out h) hX1.out.lt)
    clear hm hL1 q0 q1
    have hk : ¬ ((1 : Int) + 9 * (XS.length : Nat) < 0) := by omega
    obtain ⟨q0, q1⟩ := hX1.out.cells
    go_wp2_with fail
    refine (c_heldMp A1 s1 g1 c1 XS.length w11 hA1.out hl.out hM.out hX.out).mono ?_
    rintro e w12 ⟨rfl, hb⟩
    replace ha := Lib.hid (ha.out.trans hb)
    replace hX0 := Lib.hid (hX0.out.below hb)
    replace hL0 := Lib.hid (LiesR.below hL0.out hb)
    replace hX1 := Lib.hid (hX1.out.below hb)
    replace hM := Lib.hid (rows_below hM.out hb)
    replace hl := Lib.hid (fun h => Nat.lt_of_lt_of_le (hl.out h) hb.size)
    clear hb q0 q1
    generalize hkk : (1 : Int) + 9 * (XS.length : Nat) = kk at hk ⊢
    replace hkk := Lib.hid hkk
    obtain ⟨⟨⟨a0, a1⟩, _⟩, hg⟩ := HB.out _ ha.out
    replace hg := Lib.hid hg
    go_wp2_with fail
    refine (c_toMp _ o xs w12 hg.out hn').mono ?_
    rintro e w13 ⟨v4, rfl, hb, hv4⟩
    replace hb : Stays w12 w13 := hb
    replace ha := Lib.hid (ha.out.trans hb)
    replace hX0 := Lib.hid (hX0.out.below hb)
    replace hL0 := Lib.hid (LiesR.below hL0.out hb)
    replace hX1 := Lib.hid (hX1.out.below hb)
    replace hM := Lib.hid (rows_below hM.out hb)
    replace hl := Lib.hid (fun h => Nat.lt_of_lt_of_le (hl.out h) hb.size)
    replace hv4 := Lib.hid hv4
    clear hb a0 a1 hg
    go_wp2_with fail
    refine (kI.out v4 w13 hv4.out hn').mono ?_
    rintro e w14 ⟨s2, g2, A2, c2, rfl, hf2, hb, _, hL2⟩
    replace hf2 := Lib.hid hf2
    have hs6 : Stays w14 (w14.alloc (.cells #[.float .f32 s2, .slice A2 XS.length c2] 55)) := by (repeat (first | exact Stays.refl _ | (with_reducible refine Stays.drewN ?_ _) | (with_reducible refine Stays.alloc ?_ _) | (with_reducible refine Stays.drew ?_) | (refine Stays.trans ?_ ‹Stays _ _›)))
    replace hb := (show Stays w13 w14 from hb).trans hs6
    replace ha := Lib.hid (ha.out.trans hb)
    replace hX0 := Lib.hid (hX0.out.below hb)
    replace hL0 := Lib.hid (LiesR.below hL0.out hb)
    replace hX1 := Lib.hid (hX1.out.below hb)
    replace hM := Lib.hid (rows_below hM.out hb)
    replace hl := Lib.hid (fun h => Nat.lt_of_lt_of_le (hl.out h) hb.size)
    have hX2 := Lib.hid (BoxM.new w14 s2 A2 c2 XS.length 55)
    replace hL2 := Lib.hid (LiesR.below hL2 hs6)
    clear hb hs6 hv4
    obtain ⟨p0, p1⟩ := hX0.out.cells
    obtain ⟨q0, q1⟩ := hX2.out.cells
    go_wp2_with fail
    generalize (w14.alloc (.cells #[.float .f32 s2, .slice A2 XS.length c2] 55)) = W14 at ha hX0 hX1 hX2 hL0 hL2 hM hl p0 p1 q0 q1 ⊢
    refine (c_eqLandMap _ _ oo XS W14 (LiesM.mp hL2.out hf2.out) (LiesM.mp hL0.out hf0.out) hX.out).mono ?_
    rintro e w15 ⟨rfl, hb⟩
    replace hb : Stays W14 w15 := hb
    replace ha := Lib.hid (ha.out.trans hb)
    replace hX1 := Lib.hid (hX1.out.below hb)
    replace hM := Lib.hid (rows_below hM.out hb)
    replace hl := Lib.hid (fun h => Nat.lt_of_lt_of_le (hl.out h) hb.size)
    clear hb p0 p1 q0 q1 hX0 hX2 hL0 hL2
    obtain ⟨q0, q1⟩ := hX1.out.cells
    go_wp2_with fail
    refine (c_heldMp A1 s1 g1 c1 XS.length w15 hA1.out hl.out hM.out hX.out).mono ?_
    rintro e w16 ⟨rfl, hb⟩
    rw [hkk.out]
    replace ha := Lib.hid (ha.out.trans hb)
    clear hb
    go_wp2
    go_ret
    exact ⟨rfl, (HB.out _ ha.out).1.2⟩


set_option maxRecDepth 100000 in
set_option maxHeartbeats 4000000 in
theorem c_lawLeaveLighter (v : Value) (o : Option Nat) (xs : List Mk) (q : Nat) (w : World) (h : MpV w w.heap.size v o xs) (hn : xs.length ≤ 9223372036854775807) :
    Calls Try.prog 7 #[v, .float .f32 q] w fun e w' => e = .returned (.bool true) ∧ Below w.heap.size w w' := by
  have kS := fun v W (h : MpV W W.heap.size v o xs) (hn : xs.length ≤ 1048576) => c_specLeaveLighter v o xs q W h hn
  have hsame : (if mapOK o xs && selfB (can .f32 q) then xs.filter (fun m => !ltF m.d (can .f32 q)) else []) = (if mapOK o xs && selfB (can .f32 q) then xs.filter (fun m => geB m.d (can .f32 q)) else []) := by
    by_cases hc : (mapOK o xs && selfB (can .f32 q)) = true
    · rw [if_pos hc, if_pos hc]
      rw [Bool.and_eq_true] at hc
      obtain ⟨s, A, c, _, _, h1⟩ := h.val
      exact keep_same h1 hc.1 ⟨q, rfl⟩ hc.2
    · rw [if_neg hc, if_neg hc]
  rw [hsame] at kS
  clear hsame
  have kI := fun v W (h : MpV W W.heap.size v o xs) (hn : xs.length ≤ 1048576) => c_implLeaveLighter v o xs q W h hn
  have hX : xs.length ≤ 1048576 → (if mapOK o xs && selfB (can .f32 q) then xs.filter (fun m => geB m.d (can .f32 q)) else []).length ≤ 1048576 := fun hn => by
    split
    · exact Nat.le_trans (List.length_filter_le _ _) hn
    · simp
  generalize (if mapOK o xs && selfB (can .f32 q) then xs.filter (fun m => geB m.d (can .f32 q)) else []) = XS at kS kI hX
  generalize (if mapOK o xs && selfB (can .f32 q) then o else some 0) = oo at kS kI
  generalize ((if mapOK o xs then (if selfB (can .f32 q) then 0 else 2) else 1) : Int) = code at kS kI
  replace kS := Lib.hid kS
  replace kI := Lib.hid kI
  obtain ⟨s, A, c, rfl, _, HB⟩ := boxMp 51 h
  clear h
  replace HB := Lib.hid HB
  have hsz := fun W => c_szLandMap (.float .f32 s) A c xs.length 1048576 W hn (by omega) (by omega)
  by_cases hl : (1048576 : Int) - xs.length < 0
  · simp only [if_pos hl] at hsz
    replace hsz := Lib.hid hsz
    go_enter Try.func7, Try.ntmps7
    go_wp2_with fail
    refine (hsz.out _).mono ?_
    rintro e w1 ⟨rfl, hb⟩
    go_wp2
    go_ret
    exact ⟨rfl, (HB.out _ hb).1.2⟩
  · simp only [if_neg hl] at hsz
    have hn' : xs.length ≤ 1048576 := by omega
    replace hX := Lib.hid (hX hn')
    have hL : ¬ ((1048576 : Int) - xs.length < 0) := hl
    generalize (1048576 : Int) - xs.length = L at hL hsz
    replace hsz := Lib.hid hsz
    clear hl hn
    go_enter Try.func7, Try.ntmps7
    go_wp2_with fail
    refine (hsz.out _).mono ?_
    rintro e w1 ⟨rfl, hb⟩
    have ha := Lib.hid (show Stays _ w1 from hb)
    have hwW : Hid (Stays w (w.alloc (.cells #[.float .f32 s, .slice A xs.length c] 51))) := Lib.hid (by (repeat (first | exact Stays.refl _ | (with_reducible refine Stays.drewN ?_ _) | (with_reducible refine Stays.alloc ?_ _) | (with_reducible refine Stays.drew ?_) | (refine Stays.trans ?_ ‹Stays _ _›))))
    clear hb
    generalize (w.alloc (.cells #[.float .f32 s, .slice A xs.length c] 51)) = W0 at HB ha hwW
    obtain ⟨⟨⟨a0, a1⟩, _⟩, hg⟩ := HB.out _ ha.out
    replace hg := Lib.hid hg
    go_wp2_with fail
    refine (c_toMp _ o xs w1 hg.out hn').mono ?_
    rintro e w2 ⟨v1, rfl, hb, hv1⟩
    replace ha := Lib.hid (ha.out.trans hb)
    clear hb
    replace hv1 := Lib.hid hv1
    go_wp2_with fail
    refine (kS.out v1 w2 hv1.out hn').mono ?_
    rintro e w3 ⟨s0, g0, A0, c0, rfl, hf0, hb, hge, hL0⟩
    replace hf0 := Lib.hid hf0
    have o2 : Hid (0 < XS.length → g0 < w3.heap.size) := Lib.hid (LiesM.lt_ hL0)
    have hs3 : Stays w3 (w3.alloc (.cells #[.float .f32 s0, .slice A0 XS.length c0] 55)) := by (repeat (first | exact Stays.refl _ | (with_reducible refine Stays.drewN ?_ _) | (with_reducible refine Stays.alloc ?_ _) | (with_reducible refine Stays.drew ?_) | (refine Stays.trans ?_ ‹Stays _ _›)))
    have o1 : Hid (W0.heap.size ≤ w3.heap.size) := Lib.hid (ha.out.trans hb).size
    replace ha := Lib.hid ((ha.out.trans hb).trans hs3)
    have hX0 := Lib.hid (BoxM.new w3 s0 A0 c0 XS.length 55)
    replace hL0 := Lib.hid (LiesR.below hL0 hs3)
    have oA : Hid (w3.heap.size < (w3.alloc (.cells #[.float .f32 s0, .slice A0 XS.length c0] 55)).heap.size) := Lib.hid (by simp)
    clear hb hge hs3 hv1 hg a0 a1
    obtain ⟨⟨⟨a0, a1⟩, _⟩, hg⟩ := HB.out _ ha.out
    replace hg := Lib.hid hg
    go_wp2_with fail
    generalize (w3.alloc (.cells #[.float .f32 s0, .slice A0 XS.length c0] 55)) = W3 at ha hX0 hL0 hg oA a0 a1 ⊢
    refine (c_toLandMap _ o xs W3 hg.out hn').mono ?_
    rintro e w4 ⟨sx, gx, rfl, hfx, hge, hb, hLx⟩
    replace hfx := Lib.hid hfx
    have o3 : Hid (w3.heap.size < gx) := Lib.hid (Nat.lt_of_lt_of_le oA.out hge)
    have o4 : Hid (0 < xs.length → gx < w4.heap.size) := Lib.hid (LiesM.lt_ hLx)
    have hs4 : Stays w4 (w4.alloc (.cells #[.float .f32 sx, .slice (some ⟨gx, 0, none⟩) xs.length xs.length] 55)) := by (repeat (first | exact Stays.refl _ | (with_reducible refine Stays.drewN ?_ _) | (with_reducible refine Stays.alloc ?_ _) | (with_reducible refine Stays.drew ?_) | (refine Stays.trans ?_ ‹Stays _ _›)))
    have hs34 := (show Stays W3 w4 from hb).trans hs4
    replace ha := Lib.hid (ha.out.trans hs34)
    replace hX0 := Lib.hid (hX0.out.below hs34)
    replace hL0 := Lib.hid (LiesR.below hL0.out hs34)
    have hXx := Lib.hid (BoxM.new w4 sx (some ⟨gx, 0, none⟩) xs.length xs.length 55)
    replace hLx := Lib.hid (LiesR.below hLx hs4)
    have oB : Hid (w4.heap.size < (w4.alloc (.cells #[.float .f32 sx, .slice (some ⟨gx, 0, none⟩) xs.length xs.length] 55)).heap.size) := Lib.hid (by simp)
    have oC : Hid (w3.heap.size ≤ w4.heap.size) := Lib.hid (by have := oA.out; have := hb.size; omega)
    clear hb hge hs4 hs34 hg a0 a1 oA
    obtain ⟨x0, x1⟩ := hXx.out.cells
    go_wp2_with fail
    generalize (w4.alloc (.cells #[.float .f32 sx, .slice (some ⟨gx, 0, none⟩) xs.length xs.length] 55)) = W4 at ha hX0 hL0 hXx hLx oB x0 x1 ⊢
    refine (kI.out _ W4 (LiesM.mp hLx.out hfx.out) hn').mono ?_
    rintro e w5 ⟨s1, g1, A1, c1, rfl, hf1, hb, hge, hL1⟩
    replace hf1 := Lib.hid hf1
    have o5 : Hid (w4.heap.size < g1) := Lib.hid (Nat.lt_of_lt_of_le oB.out hge)
    have o6 : Hid (0 < XS.length → g1 < w5.heap.size) := Lib.hid (LiesM.lt_ hL1)
    have o7 : Hid (w4.heap.size ≤ w5.heap.size) := Lib.hid (by have := oB.out; have := hb.size; omega)
    have hs5 : Stays w5 (w5.alloc (.cells #[.float .f32 s1, .slice A1 XS.length c1] 55)) := by (repeat (first | exact Stays.refl _ | (with_reducible refine Stays.drewN ?_ _) | (with_reducible refine Stays.alloc ?_ _) | (with_reducible refine Stays.drew ?_) | (refine Stays.trans ?_ ‹Stays _ _›)))
    have hs45 := (show Stays W4 w5 from hb).trans hs5
    replace ha := Lib.hid (ha.out.trans hs45)
    replace hX0 := Lib.hid (hX0.out.below hs45)
    replace hL0 := Lib.hid (LiesR.below hL0.out hs45)
    replace hXx := Lib.hid (hXx.out.below hs45)
    replace hLx := Lib.hid (LiesR.below hLx.out hs45)
    have hX1 := Lib.hid (BoxM.new w5 s1 A1 c1 XS.length 55)
    replace hL1 := Lib.hid (LiesR.below hL1 hs5)
    clear hb hge hs5 hs45 oB x0 x1
    obtain ⟨p0, p1⟩ := hX0.out.cells
    obtain ⟨q0, q1⟩ := hX1.out.cells
    go_wp2_with fail
    generalize (w5.alloc (.cells #[.float .f32 s1, .slice A1 XS.length c1] 55)) = W5 at ha hX0 hL0 hXx hLx hX1 hL1 p0 p1 q0 q1 ⊢
    refine (c_eqLandMap _ _ oo XS W5 (LiesM.mp hL1.out hf1.out) (LiesM.mp hL0.out hf0.out) hX.out).mono ?_
    rintro e w6 ⟨rfl, hb⟩
    replace hb : Stays W5 w6 := hb
    replace ha := Lib.hid (ha.out.trans hb)
    replace hX0 := Lib.hid (hX0.out.below hb)
    replace hL0 := Lib.hid (LiesR.below hL0.out hb)
    replace hXx := Lib.hid (hXx.out.below hb)
    replace hLx := Lib.hid (LiesR.below hLx.out hb)
    replace hX1 := Lib.hid (hX1.out.below hb)
    replace hL1 := Lib.hid (LiesR.below hL1.out hb)
    clear hb p0 p1 q0 q1
    obtain ⟨⟨⟨a0, a1⟩, _⟩, _⟩ := HB.out _ ha.out
    obtain ⟨x0, x1⟩ := hXx.out.cells
    have G : Hid (∀ w', Stays w6 w' → (w'.cell? ⟨w.heap.size, 0, none⟩ = some (.float .f32 s) ∧ w'.cell? ⟨w.heap.size, 1, none⟩ = some (.slice A xs.length c) ∧ w'.cell? ⟨w4.heap.size, 0, none⟩ = some (.float .f32 sx) ∧ w'.cell? ⟨w4.heap.size, 1, none⟩ = some (.slice (some ⟨gx, 0, none⟩) xs.length xs.length) ∧ Hid (Stays w6 w'))) := Lib.hid fun w' h => ⟨(HB.out _ (ha.out.trans h)).1.1.1, (HB.out _ (ha.out.trans h)).1.1.2, (hXx.out.below h).cells.1, (hXx.out.below h).cells.2, Lib.hid h⟩
    have h5 := Lib.hid (show Stays w6 w6.drew from (Stays.refl w6).drew)
    go_wp2_with fail
    go_region_held (fun w' => (w'.cell? ⟨w.heap.size, 0, none⟩ = some (.float .f32 s) ∧ w'.cell? ⟨w.heap.size, 1, none⟩ = some (.slice A xs.length c) ∧ w'.cell? ⟨w4.heap.size, 0, none⟩ = some (.float .f32 sx) ∧ w'.cell? ⟨w4.heap.size, 1, none⟩ = some (.slice (some ⟨gx, 0, none⟩) xs.length xs.length) ∧ Hid (Stays w6 w'))) (first | exact G.out _ h5.out | exact G.out _ h6.out | exact G.out _ h7.out)
      (first
        | (go_at_call 24; refine (c_toMp _ o xs _ (HB.out _ (ha.out.trans h5.out)).2 hn').mono ?_; rintro e w7 ⟨v3, rfl, hb, hv3⟩; have h6 := Lib.hid (h5.out.trans hb); clear hb; replace hv3 := Lib.hid hv3)
        | (go_at_call 26; refine (c_eqLandMap _ v3 o xs w7 (LiesM.mp (LiesR.below hLx.out h6.out) hfx.out) hv3.out hn').mono ?_; rintro e w8 ⟨rfl, hb⟩; have h7 := Lib.hid (h6.out.trans hb); clear hb))
    have hb := h7.out
    replace ha := Lib.hid (ha.out.trans hb)
    replace hX0 := Lib.hid (hX0.out.below hb)
    replace hL0 := Lib.hid (LiesR.below hL0.out hb)
    replace hXx := Lib.hid (hXx.out.below hb)
    replace hLx := Lib.hid (LiesR.below hLx.out hb)
    replace hX1 := Lib.hid (hX1.out.below hb)
    replace hL1 := Lib.hid (LiesR.below hL1.out hb)
    clear hb a0 a1 x0 x1 G h5 h6 h7 hv3
    obtain ⟨x0, x1⟩ := hXx.out.cells
    go_wp2_with fail
    refine (c_markMp _ sx gx xs.length xs.length w8 (LiesM.at_ hLx.out) (LiesM.lt_ hLx.out) (LiesM.there_ hLx.out) hn').mono ?_
    rintro e w9 ⟨rfl, hm⟩
    replace ha := Lib.hid (show Stays W0 _ from Below.trans (show Below W0.heap.size W0 _ from ha.out) (hm.below W0.heap.size (fun _ => by have := o1.out; have := o3.out; omega) ha.out.size))
    replace hX0 := Lib.hid (hX0.out.on (hm.same _ (fun _ => by have := o3.out; omega) hX0.out.lt))
    replace hL0 := Lib.hid (LiesM.marked hL0.out hm fun h _ => by have := o2.out h; have := o3.out; omega)
    replace hX1 := Lib.hid (hX1.out.on (hm.same _ (fun h => by have := o4.out h; have := o7.out; omega) hX1.out.lt))
    replace hL1 := Lib.hid (LiesM.marked hL1.out hm fun _ h => by have := o4.out h; have := o5.out; omega)
    clear hm hXx hLx x0 x1
    have hk0 : ¬ ((1 : Int) + 9 * (xs.length : Nat) < 0) := by omega
    generalize (1 : Int) + 9 * (xs.length : Nat) = kx at hk0 ⊢
    obtain ⟨p0, p1⟩ := hX0.out.cells
    obtain ⟨q0, q1⟩ := hX1.out.cells
    go_wp2_with fail
    refine (c_eqLandMap _ _ oo XS w9 (LiesM.mp hL1.out hf1.out) (LiesM.mp hL0.out hf0.out) hX.out).mono ?_
    rintro e w10 ⟨rfl, hb⟩
    replace hb : Stays w9 w10 := hb
    replace ha := Lib.hid (ha.out.trans hb)
    replace hX0 := Lib.hid (hX0.out.below hb)
    replace hL0 := Lib.hid (LiesR.below hL0.out hb)
    replace hX1 := Lib.hid (hX1.out.below hb)
    replace hL1 := Lib.hid (LiesR.below hL1.out hb)
    clear hb p0 p1 q0 q1
    obtain ⟨q0, q1⟩ := hX1.out.cells
    go_wp2_with fail
    refine (c_markMp _ s1 g1 c1 XS.length w10 (LiesM.at_ hL1.out) (LiesM.lt_ hL1.out) (LiesM.there_ hL1.out) hX.out).mono ?_
    rintro e w11 ⟨rfl, hm⟩
    have hA1 := Lib.hid (LiesM.at_ hL1.out)
    replace ha := Lib.hid (show Stays W0 _ from Below.trans (show Below W0.heap.size W0 _ from ha.out) (hm.below W0.heap.size (fun _ => by have := o1.out; have := o5.out; have := oC.out; omega) ha.out.size))
    replace hX0 := Lib.hid (hX0.out.on (hm.same _ (fun _ => by have := oC.out; have := o5.out; omega) hX0.out.lt))
    replace hL0 := Lib.hid (LiesM.marked hL0.out hm fun h _ => by have := o2.out h; have := oC.out; have := o5.out; omega)
    replace hX1 := Lib.hid (hX1.out.on (hm.same _ (fun h => by have := o6.out h; omega) hX1.out.lt))
    have hM := Lib.hid hm.rows
    have hl := Lib.hid (fun h : 0 < XS.length => Nat.lt_trans (o6.out h) hX1.out.lt)
    clear hm hL1 q0 q1
    have hk : ¬ ((1 : Int) + 9 * (XS.length : Nat) < 0) := by omega
    obtain ⟨q0, q1⟩ := hX1.out.cells
    go_wp2_with fail
    refine (c_heldMp A1 s1 g1 c1 XS.length w11 hA1.out hl.out hM.out hX.out).mono ?_
    rintro e w12 ⟨rfl, hb⟩
    replace ha := Lib.hid (ha.out.trans hb)
    replace hX0 := Lib.hid (hX0.out.below hb)
    replace hL0 := Lib.hid (LiesR.below hL0.out hb)
    replace hX1 := Lib.hid (hX1.out.below hb)
    replace hM := Lib.hid (rows_below hM.out hb)
    replace hl := Lib.hid (fun h => Nat.lt_of_lt_of_le (hl.out h) hb.size)
    clear hb q0 q1
    generalize hkk : (1 : Int) + 9 * (XS.length : Nat) = kk at hk ⊢
    replace hkk := Lib.hid hkk
    obtain ⟨⟨⟨a0, a1⟩, _⟩, hg⟩ := HB.out _ ha.out
    replace hg := Lib.hid hg
    go_wp2_with fail
    refine (c_toMp _ o xs w12 hg.out hn').mono ?_
    rintro e w13 ⟨v4, rfl, hb, hv4⟩
    replace hb : Stays w12 w13 := hb
    replace ha := Lib.hid (ha.out.trans hb)
    replace hX0 := Lib.hid (hX0.out.below hb)
    replace hL0 := Lib.hid (LiesR.below hL0.out hb)
    replace hX1 := Lib.hid (hX1.out.below hb)
    replace hM := Lib.hid (rows_below hM.out hb)
    replace hl := Lib.hid (fun h => Nat.lt_of_lt_of_le (hl.out h) hb.size)
    replace hv4 := Lib.hid hv4
    clear hb a0 a1 hg
    go_wp2_with fail
    refine (kI.out v4 w13 hv4.out hn').mono ?_
    rintro e w14 ⟨s2, g2, A2, c2, rfl, hf2, hb, _, hL2⟩
    replace hf2 := Lib.hid hf2
    have hs6 : Stays w14 (w14.alloc (.cells #[.float .f32 s2, .slice A2 XS.length c2] 55)) := by (repeat (first | exact Stays.refl _ | (with_reducible refine Stays.drewN ?_ _) | (with_reducible refine Stays.alloc ?_ _) | (with_reducible refine Stays.drew ?_) | (refine Stays.trans ?_ ‹Stays _ _›)))
    replace hb := (show Stays w13 w14 from hb).trans hs6
    replace ha := Lib.hid (ha.out.trans hb)
    replace hX0 := Lib.hid (hX0.out.below hb)
    replace hL0 := Lib.hid (LiesR.below hL0.out hb)
    replace hX1 := Lib.hid (hX1.out.below hb)
    replace hM := Lib.hid (rows_below hM.out hb)
    replace hl := Lib.hid (fun h => Nat.lt_of_lt_of_le (hl.out h) hb.size)
    have hX2 := Lib.hid (BoxM.new w14 s2 A2 c2 XS.length 55)
    replace hL2 := Lib.hid (LiesR.below hL2 hs6)
    clear hb hs6 hv4
    obtain ⟨p0, p1⟩ := hX0.out.cells
    obtain ⟨q0, q1⟩ := hX2.out.cells
    go_wp2_with fail
    generalize (w14.alloc (.cells #[.float .f32 s2, .slice A2 XS.length c2] 55)) = W14 at ha hX0 hX1 hX2 hL0 hL2 hM hl p0 p1 q0 q1 ⊢
    refine (c_eqLandMap _ _ oo XS W14 (LiesM.mp hL2.out hf2.out) (LiesM.mp hL0.out hf0.out) hX.out).mono ?_
    rintro e w15 ⟨rfl, hb⟩
    replace hb : Stays W14 w15 := hb
    replace ha := Lib.hid (ha.out.trans hb)
    replace hX1 := Lib.hid (hX1.out.below hb)
    replace hM := Lib.hid (rows_below hM.out hb)
    replace hl := Lib.hid (fun h => Nat.lt_of_lt_of_le (hl.out h) hb.size)
    clear hb p0 p1 q0 q1 hX0 hX2 hL0 hL2
    obtain ⟨q0, q1⟩ := hX1.out.cells
    go_wp2_with fail
    refine (c_heldMp A1 s1 g1 c1 XS.length w15 hA1.out hl.out hM.out hX.out).mono ?_
    rintro e w16 ⟨rfl, hb⟩
    rw [hkk.out]
    replace ha := Lib.hid (ha.out.trans hb)
    clear hb
    go_wp2
    go_ret
    exact ⟨rfl, (HB.out _ ha.out).1.2⟩

end Go.Proofs.Ytifaojlgofibmaa
