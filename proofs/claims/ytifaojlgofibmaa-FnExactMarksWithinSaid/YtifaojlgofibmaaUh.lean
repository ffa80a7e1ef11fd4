/- The law on marks within a radius. No condition. -/
import Derived.Test.YtifaojlgofibmaaUg
namespace Go.Proofs.Ytifaojlgofibmaa
open Go Go.RowKit
set_option linter.unusedVariables false
set_option linter.unusedSimpArgs false

theorem vec_cs {cs : Array Value} {r : List NV} (h : KMs [.f .f32, .f .f32, .f .f32] cs.toList r) : ∃ a b c, Value.agg cs = .agg #[.float .f32 a, .float .f32 b, .float .f32 c] := by
  obtain ⟨l⟩ := cs
  have hl : l.length = 3 := KMs_len h
  match l, r, hl, h with
  | [v0, v1, v2], [n0, n1, n2], _, ⟨⟨a, e0, _⟩, ⟨b, e1, _⟩, ⟨c, e2, _⟩, _⟩ => subst e0 e1 e2; exact ⟨a, b, c, rfl⟩

theorem mwX_len (o : Option Nat) (xs : List Mk) (a b c q : Nat) : (mwX o xs a b c q).length ≤ xs.length := by
  unfold mwX
  split
  · exact List.length_filter_le _ _
  · simp

set_option maxRecDepth 100000 in
set_option maxHeartbeats 4000000 in
theorem c_lawMarksWithin (v : Value) (o : Option Nat) (xs : List Mk) (a b c' q : Nat) (w : World) (h : MpV w w.heap.size v o xs) (hn : xs.length ≤ 9223372036854775807) :
    Calls Try.prog 8 #[v, .agg #[.float .f32 a, .float .f32 b, .float .f32 c'], .float .f32 q] w fun e w' => e = .returned (.bool true) ∧ Below w.heap.size w w' := by
  have kS := fun v W (h : MpV W W.heap.size v o xs) (hn : xs.length ≤ 1048576) => c_specMarksWithin v o xs a b c' q W h hn
  have kI := fun v W (h : MpV W W.heap.size v o xs) (hn : xs.length ≤ 1048576) => c_implMarksWithin v o xs a b c' q W h hn
  have kT := Lib.hid fun W => c_toVec a b c' W
  have hX := mwX_len o xs a b c' q
  generalize mwX o xs a b c' q = XS at kS kI hX
  generalize mwC o xs a b c' q = code at kS kI
  replace kS := Lib.hid kS
  replace kI := Lib.hid kI
  obtain ⟨s, A, c, rfl, _, HB0⟩ := boxMp 51 h
  clear h
  have hsa : Stays (w.alloc (.cells #[.float .f32 s, .slice A xs.length c] 51)) ((w.alloc (.cells #[.float .f32 s, .slice A xs.length c] 51)).alloc (.cells #[.float .f32 a, .float .f32 b, .float .f32 c'] 40)) := by (repeat (first | exact Stays.refl _ | (with_reducible refine Stays.drewN ?_ _) | (with_reducible refine Stays.alloc ?_ _) | (with_reducible refine Stays.drew ?_) | (refine Stays.trans ?_ ‹Stays _ _›)))
  have ua : ((w.alloc (.cells #[.float .f32 s, .slice A xs.length c] 51)).alloc (.cells #[.float .f32 a, .float .f32 b, .float .f32 c'] 40)).heap[w.heap.size + 1]? = some (.cells #[.float .f32 a, .float .f32 b, .float .f32 c'] 40 (0, 0)) := by (repeat (first | (refine heap_top _ _ _ ?_; simp; done) | (with_reducible refine heap_drawn _ _ _ ?_) | (with_reducible refine heap_under _ _ _ ?_ ?_; (simp <;> omega))))
  have HB := Lib.hid fun w1 (h : Stays ((w.alloc (.cells #[.float .f32 s, .slice A xs.length c] 51)).alloc (.cells #[.float .f32 a, .float .f32 b, .float .f32 c'] 40)) w1) => And.intro (And.intro (HB0 w1 (hsa.trans h)).1.1 (And.intro (And.intro (row_of h ua 0) (And.intro (row_of h ua 1) (row_of h ua 2))) (HB0 w1 (hsa.trans h)).1.2)) (HB0 w1 (hsa.trans h)).2
  clear HB0 hsa ua
  have hsz := fun W => c_szLandMap (.float .f32 s) A c xs.length 1048576 W hn (by omega) (by omega)
  by_cases hl : (1048576 : Int) - xs.length < 0
  · simp only [if_pos hl] at hsz
    replace hsz := Lib.hid hsz
    go_enter Try.func8, Try.ntmps8
    go_wp2_with fail
    refine (hsz.out _).mono ?_
    rintro e w1 ⟨rfl, hb⟩
    have hb1 := Lib.hid (HB.out _ hb).1.2.2
    clear hb
    go_wp2
    go_ret
    exact ⟨rfl, hb1.out⟩
  · simp only [if_neg hl] at hsz
    have hn' : xs.length ≤ 1048576 := by omega
    replace hX := Lib.hid (Nat.le_trans hX hn')
    have hL : ¬ ((1048576 : Int) - xs.length < 0) := hl
    generalize (1048576 : Int) - xs.length = L at hL hsz
    replace hsz := Lib.hid hsz
    clear hl hn
    go_enter Try.func8, Try.ntmps8
    go_wp2_with fail
    refine (hsz.out _).mono ?_
    rintro e w1 ⟨rfl, hb⟩
    have ha := Lib.hid (show Stays _ w1 from hb)
    clear hb
    generalize ((w.alloc (.cells #[.float .f32 s, .slice A xs.length c] 51)).alloc (.cells #[.float .f32 a, .float .f32 b, .float .f32 c'] 40)) = W0 at HB ha
    obtain ⟨⟨⟨a0, a1⟩, ⟨v0, v1, v2⟩, _⟩, _⟩ := HB.out _ ha.out
    -- the document's side
    have G : Hid (∀ w', Stays w1 w' → (w'.cell? ⟨w.heap.size, 0, none⟩ = some (.float .f32 s) ∧ w'.cell? ⟨w.heap.size, 1, none⟩ = some (.slice A xs.length c) ∧ w'.cell? ⟨w.heap.size + 1, 0, none⟩ = some (.float .f32 a) ∧ w'.cell? ⟨w.heap.size + 1, 1, none⟩ = some (.float .f32 b) ∧ w'.cell? ⟨w.heap.size + 1, 2, none⟩ = some (.float .f32 c') ∧ Hid (Stays w1 w'))) := Lib.hid fun w' h => ⟨(HB.out _ (ha.out.trans h)).1.1.1, (HB.out _ (ha.out.trans h)).1.1.2, (HB.out _ (ha.out.trans h)).1.2.1.1, (HB.out _ (ha.out.trans h)).1.2.1.2.1, (HB.out _ (ha.out.trans h)).1.2.1.2.2, Lib.hid h⟩
    have h5 := Lib.hid (show Stays w1 w1.drew from (Stays.refl w1).drew)
    go_wp2_with fail
    go_region_held (fun w' => (w'.cell? ⟨w.heap.size, 0, none⟩ = some (.float .f32 s) ∧ w'.cell? ⟨w.heap.size, 1, none⟩ = some (.slice A xs.length c) ∧ w'.cell? ⟨w.heap.size + 1, 0, none⟩ = some (.float .f32 a) ∧ w'.cell? ⟨w.heap.size + 1, 1, none⟩ = some (.float .f32 b) ∧ w'.cell? ⟨w.heap.size + 1, 2, none⟩ = some (.float .f32 c') ∧ Hid (Stays w1 w'))) (first | exact G.out _ h5.out | exact G.out _ h6.out | exact G.out _ h7.out | exact G.out _ h8.out)
      (first
        | (go_at_call 24; refine (c_toMp _ o xs _ (HB.out _ (ha.out.trans h5.out)).2 hn').mono ?_; rintro e w2 ⟨vm, rfl, hb, hv1⟩; have h6 := Lib.hid (h5.out.trans hb); clear hb; replace hv1 := Lib.hid hv1)
        | (go_at_call 19; refine (kT.out _).mono ?_; rintro e w2v ⟨rfl, hb⟩; have h7 := Lib.hid (h6.out.trans hb); replace hv1 := Lib.hid (hv1.out.on hb); clear hb)
        | (go_at_call 31; refine (kS.out vm w2v hv1.out hn').mono ?_; rintro e w3 ⟨g0, A0, c0, rfl, hb, hge, hL0⟩; have h8 := Lib.hid (h7.out.trans hb); replace hL0 := Lib.hid hL0; clear hb hge))
    replace ha := Lib.hid (ha.out.trans h8.out)
    have o1 : Hid (W0.heap.size ≤ w3.heap.size) := Lib.hid ha.out.size
    have o2 : Hid (0 < XS.length → g0 < w3.heap.size) := Lib.hid (LiesM.lt_ hL0.out)
    clear a0 a1 v0 v1 v2 G h5 h6 h7 h8 hv1
    obtain ⟨⟨⟨a0, a1⟩, ⟨v0, v1, v2⟩, _⟩, hg⟩ := HB.out _ ha.out
    replace hg := Lib.hid hg
    go_wp2_with fail
    refine (c_toLandMap _ o xs w3 hg.out hn').mono ?_
    rintro e w4 ⟨sx, gx, rfl, hfx, hge, hb, hLx⟩
    replace hfx := Lib.hid hfx
    have o3 : Hid (w3.heap.size ≤ gx) := Lib.hid hge
    have o4 : Hid (0 < xs.length → gx < w4.heap.size) := Lib.hid (LiesM.lt_ hLx)
    have oC : Hid (w3.heap.size ≤ w4.heap.size) := Lib.hid hb.size
    have hs4 : Stays w4 (w4.alloc (.cells #[.float .f32 sx, .slice (some ⟨gx, 0, none⟩) xs.length xs.length] 55)) := by (repeat (first | exact Stays.refl _ | (with_reducible refine Stays.drewN ?_ _) | (with_reducible refine Stays.alloc ?_ _) | (with_reducible refine Stays.drew ?_) | (refine Stays.trans ?_ ‹Stays _ _›)))
    have hs34 := (show Stays w3 w4 from hb).trans hs4
    replace ha := Lib.hid (ha.out.trans hs34)
    replace hL0 := Lib.hid (LiesR.below hL0.out hs34)
    have hXx := Lib.hid (BoxM.new w4 sx (some ⟨gx, 0, none⟩) xs.length xs.length 55)
    replace hLx := Lib.hid (LiesR.below hLx hs4)
    have oB : Hid (w4.heap.size < (w4.alloc (.cells #[.float .f32 sx, .slice (some ⟨gx, 0, none⟩) xs.length xs.length] 55)).heap.size) := Lib.hid (by simp)
    clear hb hge hs4 hs34 hg a0 a1 v0 v1 v2
    obtain ⟨x0, x1⟩ := hXx.out.cells
    obtain ⟨⟨⟨a0, a1⟩, ⟨v0, v1, v2⟩, _⟩, _⟩ := HB.out _ ha.out
    go_wp2_with fail
    generalize (w4.alloc (.cells #[.float .f32 sx, .slice (some ⟨gx, 0, none⟩) xs.length xs.length] 55)) = W4 at ha hL0 hXx hLx oB x0 x1 a0 a1 v0 v1 v2 ⊢
    -- the program's side
    have G : Hid (∀ w', Stays W4 w' → (w'.cell? ⟨w4.heap.size, 0, none⟩ = some (.float .f32 sx) ∧ w'.cell? ⟨w4.heap.size, 1, none⟩ = some (.slice (some ⟨gx, 0, none⟩) xs.length xs.length) ∧ w'.cell? ⟨w.heap.size + 1, 0, none⟩ = some (.float .f32 a) ∧ w'.cell? ⟨w.heap.size + 1, 1, none⟩ = some (.float .f32 b) ∧ w'.cell? ⟨w.heap.size + 1, 2, none⟩ = some (.float .f32 c') ∧ Hid (Stays W4 w'))) := Lib.hid fun w' h => ⟨(hXx.out.below h).cells.1, (hXx.out.below h).cells.2, (HB.out _ (ha.out.trans h)).1.2.1.1, (HB.out _ (ha.out.trans h)).1.2.1.2.1, (HB.out _ (ha.out.trans h)).1.2.1.2.2, Lib.hid h⟩
    have h5 := Lib.hid (show Stays W4 W4.drew from (Stays.refl W4).drew)
    go_region_held (fun w' => (w'.cell? ⟨w4.heap.size, 0, none⟩ = some (.float .f32 sx) ∧ w'.cell? ⟨w4.heap.size, 1, none⟩ = some (.slice (some ⟨gx, 0, none⟩) xs.length xs.length) ∧ w'.cell? ⟨w.heap.size + 1, 0, none⟩ = some (.float .f32 a) ∧ w'.cell? ⟨w.heap.size + 1, 1, none⟩ = some (.float .f32 b) ∧ w'.cell? ⟨w.heap.size + 1, 2, none⟩ = some (.float .f32 c') ∧ Hid (Stays W4 w'))) (first | exact G.out _ h5.out | exact G.out _ h6.out | exact G.out _ h7.out)
      (first
        | (go_at_call 19; refine (kT.out _).mono ?_; rintro e w5v ⟨rfl, hb⟩; have h6 := Lib.hid (h5.out.trans hb); clear hb)
        | (go_at_call 32; refine (kI.out _ w5v (LiesM.mp (LiesR.below hLx.out h6.out) hfx.out) hn').mono ?_; rintro e w5 ⟨g1, A1, c1, rfl, hb, hge, hL1⟩; have h7 := Lib.hid (h6.out.trans hb); replace hL1 := Lib.hid hL1; have o5 : Hid (w4.heap.size < g1) := Lib.hid (Nat.lt_of_lt_of_le oB.out (Nat.le_trans h6.out.size hge)); clear hb hge))
    have hb := h7.out
    replace ha := Lib.hid (ha.out.trans hb)
    replace hL0 := Lib.hid (LiesR.below hL0.out hb)
    replace hXx := Lib.hid (hXx.out.below hb)
    replace hLx := Lib.hid (LiesR.below hLx.out hb)
    clear hb a0 a1 v0 v1 v2 x0 x1 G h5 h6 h7 oB
    go_wp2_with fail
    refine (c_eqMarkS _ _ _ _ XS w5 hL1.out.rows hL0.out.rows hX.out).mono ?_
    rintro e w6 ⟨rfl, hb⟩
    replace hb : Stays w5 w6 := hb
    replace ha := Lib.hid (ha.out.trans hb)
    replace hL0 := Lib.hid (LiesR.below hL0.out hb)
    replace hXx := Lib.hid (hXx.out.below hb)
    replace hLx := Lib.hid (LiesR.below hLx.out hb)
    replace hL1 := Lib.hid (LiesR.below hL1.out hb)
    clear hb
    obtain ⟨⟨⟨a0, a1⟩, _, _⟩, _⟩ := HB.out _ ha.out
    obtain ⟨x0, x1⟩ := hXx.out.cells
    have G : Hid (∀ w', Stays w6 w' → (w'.cell? ⟨w.heap.size, 0, none⟩ = some (.float .f32 s) ∧ w'.cell? ⟨w.heap.size, 1, none⟩ = some (.slice A xs.length c) ∧ w'.cell? ⟨w4.heap.size, 0, none⟩ = some (.float .f32 sx) ∧ w'.cell? ⟨w4.heap.size, 1, none⟩ = some (.slice (some ⟨gx, 0, none⟩) xs.length xs.length) ∧ Hid (Stays w6 w'))) := Lib.hid fun w' h => ⟨(HB.out _ (ha.out.trans h)).1.1.1, (HB.out _ (ha.out.trans h)).1.1.2, (hXx.out.below h).cells.1, (hXx.out.below h).cells.2, Lib.hid h⟩
    have h5 := Lib.hid (show Stays w6 w6.drew from (Stays.refl w6).drew)
    go_wp2_with fail
    go_region_held (fun w' => (w'.cell? ⟨w.heap.size, 0, none⟩ = some (.float .f32 s) ∧ w'.cell? ⟨w.heap.size, 1, none⟩ = some (.slice A xs.length c) ∧ w'.cell? ⟨w4.heap.size, 0, none⟩ = some (.float .f32 sx) ∧ w'.cell? ⟨w4.heap.size, 1, none⟩ = some (.slice (some ⟨gx, 0, none⟩) xs.length xs.length) ∧ Hid (Stays w6 w'))) (first | exact G.out _ h5.out | exact G.out _ h6.out | exact G.out _ h7.out)
      (first
        | (go_at_call 24; refine (c_toMp _ o xs _ (HB.out _ (ha.out.trans h5.out)).2 hn').mono ?_; rintro e w7 ⟨v3, rfl, hb, hv3⟩; have h6 := Lib.hid (h5.out.trans hb); clear hb; replace hv3 := Lib.hid hv3)
        | (go_at_call 26; refine (c_eqLandMap _ v3 o xs w7 (LiesM.mp (LiesR.below hLx.out h6.out) hfx.out) hv3.out hn').mono ?_; rintro e w8 ⟨rfl, hb⟩; have h7 := Lib.hid (h6.out.trans hb); clear hb))
    have hb := h7.out
    replace ha := Lib.hid (ha.out.trans hb)
    replace hL0 := Lib.hid (LiesR.below hL0.out hb)
    replace hXx := Lib.hid (hXx.out.below hb)
    replace hLx := Lib.hid (LiesR.below hLx.out hb)
    replace hL1 := Lib.hid (LiesR.below hL1.out hb)
    clear hb a0 a1 x0 x1 G h5 h6 h7 hv3
    obtain ⟨x0, x1⟩ := hXx.out.cells
    go_wp2_with fail
    refine (c_markMp _ sx gx xs.length xs.length w8 (LiesM.at_ hLx.out) (LiesM.lt_ hLx.out) (LiesM.there_ hLx.out) hn').mono ?_
    rintro e w9 ⟨rfl, hm⟩
    replace ha := Lib.hid (show Stays W0 _ from Below.trans (show Below W0.heap.size W0 _ from ha.out) (hm.below W0.heap.size (fun _ => by have := o1.out; have := o3.out; omega) ha.out.size))
    replace hL0 := Lib.hid (LiesM.marked hL0.out hm fun h _ => by have := o2.out h; have := o3.out; omega)
    replace hL1 := Lib.hid (LiesM.marked hL1.out hm fun _ h => by have := o4.out h; have := o5.out; omega)
    clear hm hXx hLx x0 x1
    have hk0 : ¬ ((1 : Int) + 9 * (xs.length : Nat) < 0) := by omega
    generalize (1 : Int) + 9 * (xs.length : Nat) = kx at hk0 ⊢
    go_wp2_with fail
    refine (c_eqMarkS _ _ _ _ XS w9 hL1.out.rows hL0.out.rows hX.out).mono ?_
    rintro e w10 ⟨rfl, hb⟩
    replace hb : Stays w9 w10 := hb
    replace ha := Lib.hid (ha.out.trans hb)
    replace hL0 := Lib.hid (LiesR.below hL0.out hb)
    replace hL1 := Lib.hid (LiesR.below hL1.out hb)
    clear hb
    go_wp2_with fail
    refine (c_markMks A1 g1 c1 XS.length w10 (LiesM.at_ hL1.out) (LiesM.there_ hL1.out) hX.out).mono ?_
    rintro e w11 ⟨rfl, hm⟩
    have hA1 := Lib.hid (LiesM.at_ hL1.out)
    replace ha := Lib.hid (show Stays W0 _ from Below.trans (show Below W0.heap.size W0 _ from ha.out) (hm.below W0.heap.size (fun _ => by have := o1.out; have := o5.out; have := oC.out; omega) ha.out.size))
    replace hL0 := Lib.hid (LiesM.marked hL0.out hm fun h _ => by have := o2.out h; have := oC.out; have := o5.out; omega)
    have hM := Lib.hid hm.rows
    clear hm hL1
    have hk : ¬ ((1 : Int) + 9 * (XS.length : Nat) < 0) := by omega
    go_wp2_with fail
    refine (c_heldMarkS A1 g1 c1 XS.length 1 w11 hA1.out hM.out hX.out (by omega)).mono ?_
    rintro e w12 ⟨rfl, rfl⟩
    generalize hkk : (1 : Int) + 9 * (XS.length : Nat) = kk at hk ⊢
    replace hkk := Lib.hid hkk
    obtain ⟨⟨⟨a0, a1⟩, ⟨v0, v1, v2⟩, _⟩, _⟩ := HB.out _ ha.out
    have G : Hid (∀ w', Stays w11 w' → (w'.cell? ⟨w.heap.size, 0, none⟩ = some (.float .f32 s) ∧ w'.cell? ⟨w.heap.size, 1, none⟩ = some (.slice A xs.length c) ∧ w'.cell? ⟨w.heap.size + 1, 0, none⟩ = some (.float .f32 a) ∧ w'.cell? ⟨w.heap.size + 1, 1, none⟩ = some (.float .f32 b) ∧ w'.cell? ⟨w.heap.size + 1, 2, none⟩ = some (.float .f32 c') ∧ Hid (Stays w11 w'))) := Lib.hid fun w' h => ⟨(HB.out _ (ha.out.trans h)).1.1.1, (HB.out _ (ha.out.trans h)).1.1.2, (HB.out _ (ha.out.trans h)).1.2.1.1, (HB.out _ (ha.out.trans h)).1.2.1.2.1, (HB.out _ (ha.out.trans h)).1.2.1.2.2, Lib.hid h⟩
    have h5 := Lib.hid (show Stays w11 w11.drew from (Stays.refl w11).drew)
    go_wp2_with fail
    go_region_held (fun w' => (w'.cell? ⟨w.heap.size, 0, none⟩ = some (.float .f32 s) ∧ w'.cell? ⟨w.heap.size, 1, none⟩ = some (.slice A xs.length c) ∧ w'.cell? ⟨w.heap.size + 1, 0, none⟩ = some (.float .f32 a) ∧ w'.cell? ⟨w.heap.size + 1, 1, none⟩ = some (.float .f32 b) ∧ w'.cell? ⟨w.heap.size + 1, 2, none⟩ = some (.float .f32 c') ∧ Hid (Stays w11 w'))) (first | exact G.out _ h5.out | exact G.out _ h6.out | exact G.out _ h7.out | exact G.out _ h8.out)
      (first
        | (go_at_call 24; refine (c_toMp _ o xs _ (HB.out _ (ha.out.trans h5.out)).2 hn').mono ?_; rintro e w13 ⟨vm, rfl, hb, hv1⟩; have h6 := Lib.hid (h5.out.trans hb); clear hb; replace hv1 := Lib.hid hv1)
        | (go_at_call 19; refine (kT.out _).mono ?_; rintro e w13v ⟨rfl, hb⟩; have h7 := Lib.hid (h6.out.trans hb); replace hv1 := Lib.hid (hv1.out.on hb); clear hb)
        | (go_at_call 32; refine (kI.out vm w13v hv1.out hn').mono ?_; rintro e w14 ⟨g2, A2, c2, rfl, hb, hge, hL2⟩; have h8 := Lib.hid (h7.out.trans hb); replace hL2 := Lib.hid hL2; clear hb hge))
    have hb := h8.out
    replace ha := Lib.hid (ha.out.trans hb)
    replace hL0 := Lib.hid (LiesR.below hL0.out hb)
    replace hM := Lib.hid (rows_below hM.out hb)
    clear hb a0 a1 v0 v1 v2 G h5 h6 h7 h8 hv1
    go_wp2_with fail
    refine (c_eqMarkS _ _ _ _ XS w14 hL2.out.rows hL0.out.rows hX.out).mono ?_
    rintro e w15 ⟨rfl, hb⟩
    replace hb : Stays w14 w15 := hb
    replace ha := Lib.hid (ha.out.trans hb)
    replace hM := Lib.hid (rows_below hM.out hb)
    clear hb hL0 hL2
    go_wp2_with fail
    refine (c_heldMarkS A1 g1 c1 XS.length 1 w15 hA1.out hM.out hX.out (by omega)).mono ?_
    rintro e w16 ⟨rfl, rfl⟩
    rw [hkk.out]
    go_wp2
    go_ret
    exact ⟨rfl, (HB.out _ ha.out).1.2.2⟩
end Go.Proofs.Ytifaojlgofibmaa
