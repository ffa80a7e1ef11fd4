/- Grids that are made into a box, in any order. The law on a grid with another cost. The law on a grid with another cost, as it is asked. No condition. -/
import Derived.Test.YteidjmliepmlmaaWf
import Derived.Test.YteidjmliepmlmaaGeE
import Derived.Test.YteidjmliepmlmaaGeF
import Derived.Test.YteidjmliepmlmaaGdG
import Derived.Deep.CutRange
import Derived.Deep.RegionHeld
namespace Go.Proofs.Yteidjmliepmlmaa
open Go Go.RowKit
set_option linter.unusedVariables false
set_option linter.unusedSimpArgs false

/-- A grid of a function's own. -/
structure FreshG (W w : World) (g : Nat) (A : Option Addr) (c : Nat) (xs : List Int) : Prop where
  st : Stays W w
  ge : W.heap.size ≤ g
  lt : g < w.heap.size
  lies : LiesB w g (.slice A xs.length c) xs

theorem GdV.al {w : World} {v : Value} {a b : Int} {xs : List Int} (h : GdV w w.heap.size v a b xs) (o : Obj) : GdV (w.alloc o) (w.alloc o).heap.size v a b xs := h.on (show Stays w _ from (Stays.refl w).alloc o)

/-- A box that is still empty. -/
structure ZB (w : World) (B p : Nat) : Prop where
  ge : B ≤ p
  row : w.heap[p]? = some (.cells #[.int .i64 0, .int .i64 0, .slice none 0 0] 28 (0, 0))

theorem ZB.lt {w : World} {B p : Nat} (h : ZB w B p) : p < w.heap.size := in_heap h.row

theorem ZB.new {B : Nat} (w : World) (h : B ≤ w.heap.size) : ZB (w.alloc (.cells #[.int .i64 0, .int .i64 0, .slice none 0 0] 28)) B w.heap.size := ⟨h, heap_alloc_new w _⟩

theorem ZB.newD (w : World) : ZB (w.drew.alloc (.cells #[.int .i64 0, .int .i64 0, .slice none 0 0] 28)) w.heap.size w.heap.size := ZB.new w.drew (Nat.le_refl _)

theorem ZB.below {w w' : World} {B p : Nat} (h : ZB w B p) (hb : Stays w w') : ZB w' B p := ⟨h.ge, (Below.block hb _ h.lt).trans h.row⟩

/-- A grid that was made into a box, and a code. -/
structure MadeIn (W : World) (a b : Int) (xs : List Int) (code : Int) (s t : Value) (w : World) (p g : Nat) (A : Option Addr) (c : Nat) : Prop where
  es : s = .pointer (some ⟨p, 0, none⟩)
  et : t = .int .i64 code
  box : BoxG w p a b A c xs.length
  fresh : FreshG W w g A c xs
  ge : W.heap.size ≤ p
  ne : p ≠ g

def MadeG (W : World) (a b : Int) (xs : List Int) (code : Int) (s t : Value) (w : World) : Prop := ∃ p g A c, MadeIn W a b xs code s t w p g A c

theorem FreshG.alloc {W w : World} {g : Nat} {A : Option Addr} {c : Nat} {xs : List Int} (h : FreshG W w g A c xs) (a b code : Int) (t : TypeId) :
    MadeG W a b xs code (.pointer (some ⟨w.heap.size, 0, none⟩)) (.int .i64 code) (w.alloc (.cells #[.int .i64 a, .int .i64 b, .slice A xs.length c] t)) := by
  have hs : Stays w (w.alloc (.cells #[.int .i64 a, .int .i64 b, .slice A xs.length c] t)) := by (repeat (first | exact Stays.refl _ | (with_reducible refine Stays.drewN ?_ _) | (with_reducible refine Stays.alloc ?_ _) | (with_reducible refine Stays.drew ?_) | (refine Stays.trans ?_ ‹Stays _ _›)))
  exact ⟨_, g, A, c, rfl, rfl, BoxG.new w a b A c xs.length t, ⟨h.st.trans hs, h.ge, Nat.lt_of_lt_of_le h.lt hs.size, LiesR.below h.lies hs⟩, h.st.size, fun e => by have := h.lt; omega⟩

theorem ZB.cells {w : World} {B p : Nat} (h : ZB w B p) : (w.cell? ⟨p, 0, none⟩ = some (.int .i64 0) ∧ w.cell? ⟨p, 1, none⟩ = some (.int .i64 0) ∧ w.cell? ⟨p, 2, none⟩ = some (.slice none 0 0)) ∧
    w.frozen? ⟨p, 0, none⟩ = false ∧ w.frozen? ⟨p, 1, none⟩ = false ∧ w.frozen? ⟨p, 2, none⟩ = false :=
  ⟨⟨cell_of_row _ _ _ _ _ _ h.row, cell_of_row _ _ _ _ _ _ h.row, cell_of_row _ _ _ _ _ _ h.row⟩, frozen_of_row _ _ _ _ _ h.row, frozen_of_row _ _ _ _ _ h.row, frozen_of_row _ _ _ _ _ h.row⟩

theorem FreshG.sets {W w : World} {g p : Nat} {A : Option Addr} {c : Nat} {xs : List Int} (h : FreshG W w g A c xs) (hz : ZB w W.heap.size p) (hne : p ≠ g) (a b code : Int) :
    MadeG W a b xs code (.pointer (some ⟨p, 0, none⟩)) (.int .i64 code) (((w.setCell ⟨p, 0, none⟩ (.int .i64 a)).setCell ⟨p, 1, none⟩ (.int .i64 b)).setCell ⟨p, 2, none⟩ (.slice A xs.length c)) := by
  have m1 := heap_setCell_same w p 0 _ _ (.int .i64 a) hz.row
  have m2 := heap_setCell_same _ p 1 _ _ (.int .i64 b) m1
  have m3 := heap_setCell_same _ p 2 _ _ (.slice A xs.length c) m2
  have hn := Ne.symm hne
  have hse := ((same_sets p g 0 [.int .i64 a] w hn).trans (same_sets p g 1 [.int .i64 b] _ hn)).trans (same_sets p g 2 [.slice A xs.length c] _ hn)
  refine ⟨_, g, A, c, rfl, rfl, ⟨⟨cell_of_row _ _ _ _ _ _ m3, cell_of_row _ _ _ _ _ _ m3, cell_of_row _ _ _ _ _ _ m3⟩, in_heap m3⟩, ⟨?_, h.ge, Nat.lt_of_lt_of_le h.lt hse.size, LiesR.on h.lies fun _ => hse⟩, hz.ge, hne⟩
  exact ((Below.setCell (show Below W.heap.size W w from h.st) hz.ge _).setCell hz.ge _).setCell hz.ge _

theorem FreshG.setsSt {W w : World} {g p : Nat} {A : Option Addr} {c : Nat} {xs : List Int} (h : FreshG W w g A c xs) (hz : ZB w W.heap.size p) (u v z : Value) :
    Stays W (((w.setCell ⟨p, 0, none⟩ u).setCell ⟨p, 1, none⟩ v).setCell ⟨p, 2, none⟩ z) :=
  ((Below.setCell (show Below W.heap.size W w from h.st) hz.ge _).setCell hz.ge _).setCell hz.ge _

/-- The costs that lie in a block are told by their places, where there are any. -/
structure MarkH (w w' : World) (g n : Nat) (k0 : Int) : Prop where
  same : ∀ g', (0 < n → g' ≠ g) → g' < w.heap.size → Same w w' g'
  below : ∀ B, (0 < n → B ≤ g) → B ≤ w.heap.size → Below B w w'
  cells : ∀ j, j < n → w'.cell? ⟨g, j, none⟩ = some (.int .u8 (IntKind.u8.wrap (k0 + (j : Nat))))

theorem c_markH (A : Option Addr) (g c n : Nat) (a b : Int) (w : World) (hA : 0 < n → A = some ⟨g, 0, none⟩) (hg : 0 < n → g < w.heap.size) (ht : w.there g 0 n) (hn : n ≤ 1048576) :
    Calls Try.prog 17 #[.agg #[.int .i64 a, .int .i64 b, .slice A n c], .int .i64 1] w fun e w' => e = .returned (.int .i64 (1 + (n : Nat))) ∧ MarkH w w' g n 1 := by
  by_cases h0 : 0 < n
  · refine (c_markG A g c n a b w hA hg ht hn).mono ?_
    rintro e w' ⟨rfl, hm⟩
    exact ⟨rfl, fun g' h1 h2 => hm.same g' (h1 h0) h2, fun B h1 h2 => hm.below B (h1 h0) h2, hm.cells⟩
  · refine (c_markG A w.heap.size c n a b w (fun h => absurd h h0) (fun h => absurd h h0) (fun j hj => by omega) hn).mono ?_
    rintro e w' ⟨rfl, hm⟩
    exact ⟨rfl, fun g' _ h2 => hm.same g' (by omega) h2, fun B _ h2 => hm.below B h2 h2, fun j hj => by omega⟩

theorem LiesB.markedH {w w' : World} {g g' n : Nat} {k0 : Int} {v : Value} {xs : List Int} (h : LiesB w g v xs) (hm : MarkH w w' g' n k0) (hne : 0 < xs.length → 0 < n → g ≠ g') : LiesB w' g v xs := by
  by_cases hx : xs = []
  · subst hx
    obtain ⟨A, c, e, _⟩ := h
    exact ⟨A, c, e, fun h => absurd rfl h⟩
  · have h0 : 0 < xs.length := List.length_pos_iff.2 hx
    exact LiesR.on h fun hlt => hm.same g (hne h0) hlt
end Go.Proofs.Yteidjmliepmlmaa

namespace Go.Proofs.Yteidjmliepmlmaa
open Go Go.RowKit
set_option linter.unusedVariables false
set_option linter.unusedSimpArgs false

theorem wcX_len (a b x y z : Int) (xs : List Int) : (wcX a b xs x y z).length ≤ xs.length := by
  unfold wcX
  split
  · rw [List.length_set]; exact Nat.le_refl _
  · exact Nat.zero_le _

set_option maxRecDepth 100000 in
set_option maxHeartbeats 4000000 in
theorem c_lawWithCost (v : Value) (a b x y z : Int) (xs : List Int) (w : World) (h : GdV w w.heap.size v a b xs) (hn : xs.length ≤ 9223372036854775807) (hx : In16 x) (hy : In16 y) :
    Calls Try.prog 3 #[v, .agg #[.int .i16 x, .int .i16 y], .int .u8 z] w fun e w' => e = .returned (.bool true) ∧ Below w.heap.size w w' := by
  obtain ⟨A, c, rfl, h1⟩ := h.val
  have u0 : ((w.alloc (.cells #[.int .i64 a, .int .i64 b, .slice A xs.length c] 24)).alloc (.cells #[.int .i16 x, .int .i16 y] 26)).heap[w.heap.size]? = some (.cells #[.int .i64 a, .int .i64 b, .slice A xs.length c] 24 (0, 0)) := by (repeat (first | (refine heap_top _ _ _ ?_; simp; done) | (with_reducible refine heap_drawn _ _ _ ?_) | (with_reducible refine heap_under _ _ _ ?_ ?_; (simp <;> omega))))
  have u1 : ((w.alloc (.cells #[.int .i64 a, .int .i64 b, .slice A xs.length c] 24)).alloc (.cells #[.int .i16 x, .int .i16 y] 26)).heap[w.heap.size + 1]? = some (.cells #[.int .i16 x, .int .i16 y] 26 (0, 0)) := by (repeat (first | (refine heap_top _ _ _ ?_; simp; done) | (with_reducible refine heap_drawn _ _ _ ?_) | (with_reducible refine heap_under _ _ _ ?_ ?_; (simp <;> omega))))
  have hst : Stays w ((w.alloc (.cells #[.int .i64 a, .int .i64 b, .slice A xs.length c] 24)).alloc (.cells #[.int .i16 x, .int .i16 y] 26)) := by (repeat (first | exact Stays.refl _ | (with_reducible refine Stays.drewN ?_ _) | (with_reducible refine Stays.alloc ?_ _) | (with_reducible refine Stays.drew ?_) | (refine Stays.trans ?_ ‹Stays _ _›)))
  have hlt0 : Hid (w.heap.size < ((w.alloc (.cells #[.int .i64 a, .int .i64 b, .slice A xs.length c] 24)).alloc (.cells #[.int .i16 x, .int .i16 y] 26)).heap.size) := Lib.hid (by simp <;> omega)
  have HB : Hid (∀ w', Stays ((w.alloc (.cells #[.int .i64 a, .int .i64 b, .slice A xs.length c] 24)).alloc (.cells #[.int .i16 x, .int .i16 y] 26)) w' → (((w'.cell? ⟨w.heap.size, 0, none⟩ = some (.int .i64 a) ∧ w'.cell? ⟨w.heap.size, 1, none⟩ = some (.int .i64 b) ∧ w'.cell? ⟨w.heap.size, 2, none⟩ = some (.slice A xs.length c)) ∧ (w'.cell? ⟨w.heap.size + 1, 0, none⟩ = some (.int .i16 x) ∧ w'.cell? ⟨w.heap.size + 1, 1, none⟩ = some (.int .i16 y))) ∧ Below w.heap.size w w') ∧ GdV w' w'.heap.size (.agg #[.int .i64 a, .int .i64 b, .slice A xs.length c]) a b xs) :=
    Lib.hid fun w1 hs => ⟨⟨⟨⟨row_of hs u0 0, row_of hs u0 1, row_of hs u0 2⟩, row_of hs u1 0, row_of hs u1 1⟩, hst.trans hs⟩, GdV.on ⟨A, c, rfl, h1⟩ (hst.trans hs)⟩
  have hsz := fun W => c_szGrid A c xs.length a b 1048576 W hn (by omega) (by omega)
  clear h h1 u0 u1 hst
  by_cases hl : (1048576 : Int) - xs.length < 0
  · simp only [if_pos hl] at hsz
    replace hsz := Lib.hid hsz
    go_enter Try.func3, Try.ntmps3
    go_wp2_with fail
    refine (hsz.out _).mono ?_
    rintro e w1 ⟨rfl, hb⟩
    go_wp2
    go_ret
    exact ⟨rfl, (HB.out _ hb).1.2⟩
  · simp only [if_neg hl] at hsz
    have hn' : xs.length ≤ 1048576 := by omega
    have hL : ¬ ((1048576 : Int) - xs.length < 0) := hl
    generalize (1048576 : Int) - xs.length = L at hL hsz
    replace hsz := Lib.hid hsz
    have kS := fun v w h => c_specWithCost v a b x y z xs w h hn' hx hy
    have kI := fun (A : Option Addr) c w (h : GdV w w.heap.size (.agg #[.int .i64 a, .int .i64 b, .slice A xs.length c]) a b xs) => (show Calls Try.prog 15 #[.agg #[.int .i64 a, .int .i64 b, .slice A xs.length c], .agg #[.int .i16 x, .int .i16 y], .int .u8 z] w (GDone w (wcQ a b xs.length x y a) (wcQ a b xs.length x y b) (wcX a b xs x y z) (askC a b xs.length x y)) from by
      obtain ⟨A', c', e, h1⟩ := h.val
      cases e
      exact c_implWithCost A c a b x y z xs w h1 hn' hx hy)
    have kI' := fun v w (h : GdV w w.heap.size v a b xs) => (show Calls Try.prog 15 #[v, .agg #[.int .i16 x, .int .i16 y], .int .u8 z] w (GDone w (wcQ a b xs.length x y a) (wcQ a b xs.length x y b) (wcX a b xs x y z) (askC a b xs.length x y)) from by
      obtain ⟨A', c', e, h1⟩ := h.val
      cases e
      exact c_implWithCost A' c' a b x y z xs w h1 hn' hx hy)
    have kA := Lib.hid fun W => c_toSp x y W
    have hX := Nat.le_trans (wcX_len a b x y z xs) hn'
    generalize wcX a b xs x y z = XS at kS kI kI' hX
    generalize wcQ a b xs.length x y a = ra at kS kI kI'
    generalize wcQ a b xs.length x y b = rb at kS kI kI'
    generalize askC a b xs.length x y = code at kS kI kI'
    replace kI' := Lib.hid kI'
    replace kS := Lib.hid kS
    replace kI := Lib.hid kI
    replace hX := Lib.hid hX
    have kG := Lib.hid fun W (hs : Stays ((w.alloc (.cells #[.int .i64 a, .int .i64 b, .slice A xs.length c] 24)).alloc (.cells #[.int .i16 x, .int .i16 y] 26)) W) => c_toGd _ a b xs W (HB.out _ hs).2 hn'
    clear hl hn hx hy
    go_enter Try.func3, Try.ntmps3
    go_wp2_with fail
    refine (hsz.out _).mono ?_
    rintro e w1 ⟨rfl, hb⟩
    have ha := Lib.hid (show Stays _ w1 from hb)
    clear hb hsz
    generalize ((w.alloc (.cells #[.int .i64 a, .int .i64 b, .slice A xs.length c] 24)).alloc (.cells #[.int .i16 x, .int .i16 y] 26)) = W0 at HB ha kG hlt0
    have o0 := Lib.hid (show w.heap.size < w1.heap.size from Nat.lt_of_lt_of_le hlt0.out ha.out.size)
    go_upto_region 5 with fail
    go_cut [8, 9] from 23 to 31 (fun s8 s9 wx => MadeG w1 ra rb XS code s8 s9 wx)
    case first =>
      have G1 : Hid (∀ w', Stays w1 w' → ((w'.cell? ⟨w.heap.size, 0, none⟩ = some (.int .i64 a) ∧ w'.cell? ⟨w.heap.size, 1, none⟩ = some (.int .i64 b) ∧ w'.cell? ⟨w.heap.size, 2, none⟩ = some (.slice A xs.length c)) ∧ (w'.cell? ⟨w.heap.size + 1, 0, none⟩ = some (.int .i16 x) ∧ w'.cell? ⟨w.heap.size + 1, 1, none⟩ = some (.int .i16 y)))) := Lib.hid fun w' h => (HB.out _ (ha.out.trans h)).1.1
      have h1 := Lib.hid (show Stays w1 w1.drew from (Stays.refl w1).drew)
      go_region_held (fun w' => ((w'.cell? ⟨w.heap.size, 0, none⟩ = some (.int .i64 a) ∧ w'.cell? ⟨w.heap.size, 1, none⟩ = some (.int .i64 b) ∧ w'.cell? ⟨w.heap.size, 2, none⟩ = some (.slice A xs.length c)) ∧ (w'.cell? ⟨w.heap.size + 1, 0, none⟩ = some (.int .i16 x) ∧ w'.cell? ⟨w.heap.size + 1, 1, none⟩ = some (.int .i16 y)))) (first | exact G1.out _ h1.out | exact G1.out _ h2.out | exact G1.out _ h3.out | exact G1.out _ h4.out | exact G1.out _ (h1.out.alloc _) | exact G1.out _ (h2.out.alloc _) | exact G1.out _ (h3.out.alloc _) | exact G1.out _ (h4.out.alloc _) | exact G1.out _ (hF.out.setsSt hz.out _ _ _))
        (first
          | (go_at_call 12; first | ((with_reducible refine (kS.out v1 _ hv1.out).mono ?_); rintro e w4 ⟨g, A9, c9, rfl, hb, ⟨hge, hgl⟩, hL9⟩; have h4 := Lib.hid (h3.out.trans hb); have hF := Lib.hid (show FreshG w1 w4 g A9 c9 XS from ⟨h4.out, Nat.le_trans (h3.out).size hge, hgl, hL9⟩); (try (have hpg := Lib.hid (show _ ≠ g from Nat.ne_of_lt (Nat.lt_of_lt_of_le hz.out.lt hge)))); (try (replace hz := Lib.hid (hz.out.below hb); obtain ⟨⟨z0, z1, z2⟩, ⟨f0, f1, f2⟩⟩ := hz.out.cells)); clear hb) | ((with_reducible refine (kS.out v1 _ (hv1.out.al _)).mono ?_); rintro e w4 ⟨g, A9, c9, rfl, hb, ⟨hge, hgl⟩, hL9⟩; have hz := Lib.hid ((ZB.new (B := w1.heap.size) _ h3.out.size).below hb); obtain ⟨⟨z0, z1, z2⟩, ⟨f0, f1, f2⟩⟩ := hz.out.cells; have h4 := Lib.hid ((h3.out.alloc _).trans hb); have hF := Lib.hid (show FreshG w1 w4 g A9 c9 XS from ⟨h4.out, Nat.le_trans ((h3.out.alloc _)).size hge, hgl, hL9⟩); (try (have hpg := Lib.hid (show _ ≠ g from Nat.ne_of_lt (Nat.lt_of_lt_of_le (ZB.new (B := w1.heap.size) _ h3.out.size).lt hge)))); clear hb))
          | (go_at_call 14; first | ((with_reducible refine (kA.out _).mono ?_); rintro e w3 ⟨rfl, hb⟩; have h3 := Lib.hid (h2.out.trans hb); (first | replace hv1 := Lib.hid (hv1.out.on hb) | replace hv1 := Lib.hid ((hv1.out.al _).on hb) | skip); (try (replace hz := Lib.hid (hz.out.below hb); skip)); clear hb) | ((with_reducible refine (kA.out _).mono ?_); rintro e w3 ⟨rfl, hb⟩; have hz := Lib.hid ((ZB.new (B := w1.heap.size) _ h2.out.size).below hb); skip; have h3 := Lib.hid ((h2.out.alloc _).trans hb); (first | replace hv1 := Lib.hid (hv1.out.on hb) | replace hv1 := Lib.hid ((hv1.out.al _).on hb) | skip); clear hb))
          | (go_at_call 13; first | ((with_reducible refine (kG.out _ (ha.out.trans h1.out)).mono ?_); rintro e w2 ⟨v1, rfl, hb, hv1⟩; have h2 := Lib.hid (h1.out.trans hb); replace hv1 := Lib.hid hv1; (try (replace hz := Lib.hid (hz.out.below hb); skip)); clear hb) | ((with_reducible refine (kG.out _ (ha.out.trans (h1.out.alloc _))).mono ?_); rintro e w2 ⟨v1, rfl, hb, hv1⟩; have hz := Lib.hid ((ZB.newD w1).below hb); skip; have h2 := Lib.hid ((h1.out.alloc _).trans hb); replace hv1 := Lib.hid hv1; clear hb) | ((with_reducible refine (kG.out _ (ha.out.trans ((Stays.refl w1).alloc _).drew)).mono ?_); rintro e w2 ⟨v1, rfl, hb, hv1⟩; have hz := Lib.hid (((ZB.new (B := w1.heap.size) _ (Nat.le_refl _)).below (Stays.refl _).drew).below hb); skip; have h2 := Lib.hid ((((Stays.refl w1).alloc _).drew).trans hb); replace hv1 := Lib.hid hv1; clear hb)))
      all_goals (go_wp2_with fail; go_meet; (first | exact hF.out.sets hz.out hpg.out ra rb code | exact hF.out.alloc ra rb code _))
    case rest =>
    obtain ⟨p0, g0, A0, c0, hmade⟩ := hcut
    obtain ⟨rfl, rfl, hX0, hF0, hge0, hne0⟩ := hmade
    rename World => w4
    replace hX0 := Lib.hid hX0
    have hL0 := Lib.hid hF0.lies
    have o1 := Lib.hid (show w1.heap.size ≤ p0 from hge0)
    have o2 := Lib.hid (show w1.heap.size ≤ g0 ∧ g0 < w4.heap.size from ⟨hF0.ge, hF0.lt⟩)
    have o3 := Lib.hid (show p0 < w4.heap.size from hX0.out.lt)
    have hs := hF0.st
    replace ha := Lib.hid (ha.out.trans hs)
    have o11 := Lib.hid (show W0.heap.size ≤ w4.heap.size from ha.out.size)
    clear hs hF0 hge0 hne0
    obtain ⟨⟨⟨a0, a1, a2⟩, _⟩, hg⟩ := HB.out _ ha.out
    replace hg := Lib.hid hg
    go_wp2_with fail
    refine (c_toGrid _ a b xs w4 hg.out hn').mono ?_
    rintro e w5 ⟨gx, rfl, hge, hb, hLx⟩
    have hs5 : Stays w5 (w5.alloc (.cells #[.int .i64 a, .int .i64 b, .slice (some ⟨gx, 0, none⟩) xs.length xs.length] 28)) := by (repeat (first | exact Stays.refl _ | (with_reducible refine Stays.drewN ?_ _) | (with_reducible refine Stays.alloc ?_ _) | (with_reducible refine Stays.drew ?_) | (refine Stays.trans ?_ ‹Stays _ _›)))
    have hs45 := (show Stays w4 w5 from hb).trans hs5
    have o4 := Lib.hid (show w4.heap.size ≤ gx from hge)
    have o5 : Hid (0 < xs.length → gx < w5.heap.size) := Lib.hid (LiesB.lt_ hLx)
    replace ha := Lib.hid (ha.out.trans hs45)
    replace hX0 := Lib.hid (hX0.out.below hs45)
    replace hL0 := Lib.hid (LiesR.below hL0.out hs45)
    have hXx := Lib.hid (BoxG.new w5 a b (some ⟨gx, 0, none⟩) xs.length xs.length 28)
    replace hLx := Lib.hid (LiesR.below hLx hs5)
    have o6 : Hid (w5.heap.size < (w5.alloc (.cells #[.int .i64 a, .int .i64 b, .slice (some ⟨gx, 0, none⟩) xs.length xs.length] 28)).heap.size) := Lib.hid (by simp)
    have o7 : Hid (w4.heap.size ≤ w5.heap.size) := Lib.hid hb.size
    clear hb hge hs5 hs45 hg a0 a1 a2
    go_upto_region 7 with fail
    generalize (w5.alloc (.cells #[.int .i64 a, .int .i64 b, .slice (some ⟨gx, 0, none⟩) xs.length xs.length] 28)) = W5 at ha hX0 hL0 hXx hLx o6 ⊢
    generalize w5.heap.size = px at hXx o5 o6 o7 ⊢
    go_cut [11, 12] from 34 to 41 (fun s8 s9 wx => MadeG W5 ra rb XS code s8 s9 wx)
    case first =>
      have G1 : Hid (∀ w', Stays W5 w' → ((w'.cell? ⟨px, 0, none⟩ = some (.int .i64 a) ∧ w'.cell? ⟨px, 1, none⟩ = some (.int .i64 b) ∧ w'.cell? ⟨px, 2, none⟩ = some (.slice (some ⟨gx, 0, none⟩) xs.length xs.length)) ∧ (w'.cell? ⟨w.heap.size + 1, 0, none⟩ = some (.int .i16 x) ∧ w'.cell? ⟨w.heap.size + 1, 1, none⟩ = some (.int .i16 y)))) := Lib.hid fun w' h => ⟨(hXx.out.below h).cells, (HB.out _ (ha.out.trans h)).1.1.2⟩
      have h1 := Lib.hid (show Stays W5 W5.drew from (Stays.refl W5).drew)
      go_region_held (fun w' => ((w'.cell? ⟨px, 0, none⟩ = some (.int .i64 a) ∧ w'.cell? ⟨px, 1, none⟩ = some (.int .i64 b) ∧ w'.cell? ⟨px, 2, none⟩ = some (.slice (some ⟨gx, 0, none⟩) xs.length xs.length)) ∧ (w'.cell? ⟨w.heap.size + 1, 0, none⟩ = some (.int .i16 x) ∧ w'.cell? ⟨w.heap.size + 1, 1, none⟩ = some (.int .i16 y)))) (first | exact G1.out _ h1.out | exact G1.out _ h2.out | exact G1.out _ h3.out | exact G1.out _ h4.out | exact G1.out _ (h1.out.alloc _) | exact G1.out _ (h2.out.alloc _) | exact G1.out _ (h3.out.alloc _) | exact G1.out _ (h4.out.alloc _) | exact G1.out _ (hF.out.setsSt hz.out _ _ _))
        (first
          | (go_at_call 15; first | (have hvx := Lib.hid (LiesB.val (a := a) (b := b) (LiesR.below hLx.out h3.out)); (with_reducible refine (kI.out _ _ _ hvx.out).mono ?_); rintro e w4 ⟨g, A9, c9, rfl, hb, ⟨hge, hgl⟩, hL9⟩; have h4 := Lib.hid (h3.out.trans hb); have hF := Lib.hid (show FreshG W5 w4 g A9 c9 XS from ⟨h4.out, Nat.le_trans (h3.out).size hge, hgl, hL9⟩); (try (have hpg := Lib.hid (show _ ≠ g from Nat.ne_of_lt (Nat.lt_of_lt_of_le hz.out.lt hge)))); (try (replace hz := Lib.hid (hz.out.below hb); obtain ⟨⟨z0, z1, z2⟩, ⟨f0, f1, f2⟩⟩ := hz.out.cells)); clear hb) | (have hvx := Lib.hid (LiesB.val (a := a) (b := b) (LiesR.below hLx.out (h3.out.alloc (.cells #[.int .i64 0, .int .i64 0, .slice none 0 0] 28)))); (with_reducible refine (kI.out _ _ _ hvx.out).mono ?_); rintro e w4 ⟨g, A9, c9, rfl, hb, ⟨hge, hgl⟩, hL9⟩; have hz := Lib.hid ((ZB.new (B := W5.heap.size) _ h3.out.size).below hb); obtain ⟨⟨z0, z1, z2⟩, ⟨f0, f1, f2⟩⟩ := hz.out.cells; have h4 := Lib.hid ((h3.out.alloc _).trans hb); have hF := Lib.hid (show FreshG W5 w4 g A9 c9 XS from ⟨h4.out, Nat.le_trans ((h3.out.alloc _)).size hge, hgl, hL9⟩); (try (have hpg := Lib.hid (show _ ≠ g from Nat.ne_of_lt (Nat.lt_of_lt_of_le (ZB.new (B := W5.heap.size) _ h3.out.size).lt hge)))); clear hb))
          | (go_at_call 14; first | ((with_reducible refine (kA.out _).mono ?_); rintro e w3 ⟨rfl, hb⟩; have h3 := Lib.hid (h1.out.trans hb); (first | replace hv1 := Lib.hid (hv1.out.on hb) | replace hv1 := Lib.hid ((hv1.out.al _).on hb) | skip); (try (replace hz := Lib.hid (hz.out.below hb); skip)); clear hb) | ((with_reducible refine (kA.out _).mono ?_); rintro e w3 ⟨rfl, hb⟩; have hz := Lib.hid ((ZB.newD W5).below hb); skip; have h3 := Lib.hid ((h1.out.alloc _).trans hb); (first | replace hv1 := Lib.hid (hv1.out.on hb) | replace hv1 := Lib.hid ((hv1.out.al _).on hb) | skip); clear hb) | ((with_reducible refine (kA.out _).mono ?_); rintro e w3 ⟨rfl, hb⟩; have hz := Lib.hid (((ZB.new (B := W5.heap.size) _ (Nat.le_refl _)).below (Stays.refl _).drew).below hb); skip; have h3 := Lib.hid ((((Stays.refl W5).alloc _).drew).trans hb); (first | replace hv1 := Lib.hid (hv1.out.on hb) | replace hv1 := Lib.hid ((hv1.out.al _).on hb) | skip); clear hb)))
      all_goals (go_wp2_with fail; go_meet; (first | exact hF.out.sets hz.out hpg.out ra rb code | exact hF.out.alloc ra rb code _))
    case rest =>
    obtain ⟨p1, g1, A1, c1, hmade⟩ := hcut
    obtain ⟨rfl, rfl, hX1, hF1, hge1, hne1⟩ := hmade
    rename World => w6
    replace hX1 := Lib.hid hX1
    have hL1 := Lib.hid hF1.lies
    have o8 := Lib.hid (show W5.heap.size ≤ p1 from hge1)
    have o9 := Lib.hid (show W5.heap.size ≤ g1 ∧ g1 < w6.heap.size from ⟨hF1.ge, hF1.lt⟩)
    have o10 := Lib.hid hne1
    have hl := Lib.hid (show g1 < w6.heap.size from hF1.lt)
    have hs := hF1.st
    replace ha := Lib.hid (ha.out.trans hs)
    replace hX0 := Lib.hid (hX0.out.below hs)
    replace hL0 := Lib.hid (LiesR.below hL0.out hs)
    replace hXx := Lib.hid (hXx.out.below hs)
    replace hLx := Lib.hid (LiesR.below hLx.out hs)
    clear hs hF1 hge1 hne1
    obtain ⟨p00, p01, p02⟩ := hX0.out.cells
    obtain ⟨q0, q1, q2⟩ := hX1.out.cells
    go_wp2_with fail
    refine (c_eqGrid _ _ ra rb XS w6 (LiesB.val hL1.out) (LiesB.val hL0.out) hX.out).mono ?_
    rintro e w7 ⟨rfl, hb⟩
    replace hb : Stays w6 w7 := hb
    replace ha := Lib.hid (ha.out.trans hb)
    replace hX0 := Lib.hid (hX0.out.below hb)
    replace hL0 := Lib.hid (LiesR.below hL0.out hb)
    replace hXx := Lib.hid (hXx.out.below hb)
    replace hLx := Lib.hid (LiesR.below hLx.out hb)
    replace hX1 := Lib.hid (hX1.out.below hb)
    replace hL1 := Lib.hid (LiesR.below hL1.out hb)
    replace hl := Lib.hid (Nat.lt_of_lt_of_le hl.out (hb).size)
    clear hb p00 p01 p02 q0 q1 q2
    obtain ⟨⟨⟨a0, a1, a2⟩, _⟩, _⟩ := HB.out _ ha.out
    obtain ⟨x0, x1, x2⟩ := hXx.out.cells
    have G1 : Hid (∀ w', Stays w7 w' → (((w'.cell? ⟨w.heap.size, 0, none⟩ = some (.int .i64 a) ∧ w'.cell? ⟨w.heap.size, 1, none⟩ = some (.int .i64 b) ∧ w'.cell? ⟨w.heap.size, 2, none⟩ = some (.slice A xs.length c)) ∧ (w'.cell? ⟨px, 0, none⟩ = some (.int .i64 a) ∧ w'.cell? ⟨px, 1, none⟩ = some (.int .i64 b) ∧ w'.cell? ⟨px, 2, none⟩ = some (.slice (some ⟨gx, 0, none⟩) xs.length xs.length))) ∧ Hid (Stays w7 w'))) := Lib.hid fun w' h => ⟨⟨(HB.out _ (ha.out.trans h)).1.1.1, (hXx.out.below h).cells⟩, Lib.hid h⟩
    have h5 := Lib.hid (show Stays w7 w7.drew from (Stays.refl w7).drew)
    go_wp2_with fail
    go_region_held (fun w' => (((w'.cell? ⟨w.heap.size, 0, none⟩ = some (.int .i64 a) ∧ w'.cell? ⟨w.heap.size, 1, none⟩ = some (.int .i64 b) ∧ w'.cell? ⟨w.heap.size, 2, none⟩ = some (.slice A xs.length c)) ∧ (w'.cell? ⟨px, 0, none⟩ = some (.int .i64 a) ∧ w'.cell? ⟨px, 1, none⟩ = some (.int .i64 b) ∧ w'.cell? ⟨px, 2, none⟩ = some (.slice (some ⟨gx, 0, none⟩) xs.length xs.length))) ∧ Hid (Stays w7 w'))) (first | exact G1.out _ h5.out | exact G1.out _ h6.out | exact G1.out _ h7.out)
      (first
        | (go_at_call 13; refine (kG.out _ (ha.out.trans h5.out)).mono ?_; rintro e w8 ⟨v3, rfl, hb, hv3⟩; have h6 := Lib.hid (h5.out.trans hb); clear hb; replace hv3 := Lib.hid hv3)
        | (go_at_call 16; refine (c_eqGrid _ v3 a b xs w8 (LiesB.val (LiesR.below hLx.out h6.out)) hv3.out hn').mono ?_; rintro e w9 ⟨rfl, hb⟩; have h7 := Lib.hid (h6.out.trans hb); clear hb))
    have hb := h7.out
    replace ha := Lib.hid (ha.out.trans hb)
    replace hX0 := Lib.hid (hX0.out.below hb)
    replace hL0 := Lib.hid (LiesR.below hL0.out hb)
    replace hXx := Lib.hid (hXx.out.below hb)
    replace hLx := Lib.hid (LiesR.below hLx.out hb)
    replace hX1 := Lib.hid (hX1.out.below hb)
    replace hL1 := Lib.hid (LiesR.below hL1.out hb)
    replace hl := Lib.hid (Nat.lt_of_lt_of_le hl.out (hb).size)
    clear hb a0 a1 a2 x0 x1 x2 G1 h5 h6 h7 hv3
    obtain ⟨x0, x1, x2⟩ := hXx.out.cells
    go_wp2_with fail
    refine (c_markH (some ⟨gx, 0, none⟩) gx xs.length xs.length a b w9 (LiesB.at_ hLx.out) (LiesB.lt_ hLx.out) (LiesB.there hLx.out) hn').mono ?_
    rintro e w10 ⟨rfl, hm⟩
    have hp1 := Lib.hid hX1.out.lt
    replace ha := Lib.hid (show Stays W0 _ from Below.trans (show Below W0.heap.size W0 _ from ha.out) (hm.below W0.heap.size (fun _ => by have := o4.out; have := o11.out; omega) ha.out.size))
    replace hX0 := Lib.hid (hX0.out.on (hm.same _ (fun _ => by have := o3.out; have := o4.out; omega) hX0.out.lt))
    replace hL0 := Lib.hid (LiesB.markedH hL0.out hm fun _ _ => by have := o2.out; have := o4.out; omega)
    replace hX1 := Lib.hid (hX1.out.on (hm.same _ (fun h => by have := o5.out h; have := o6.out; have := o8.out; omega) hX1.out.lt))
    replace hL1 := Lib.hid (LiesB.markedH hL1.out hm fun _ h => by have := o5.out h; have := o6.out; have := o9.out; omega)
    replace hl := Lib.hid (Nat.lt_of_lt_of_le hl.out (hm.same _ (fun h => by have := o5.out h; have := o6.out; have := o8.out; omega) hp1.out).size)
    clear hm hXx hLx x0 x1 x2 hp1
    have hk0 : ¬ ((1 : Int) + (xs.length : Nat) < 0) := by omega
    generalize (1 : Int) + (xs.length : Nat) = kx at hk0 ⊢
    obtain ⟨p00, p01, p02⟩ := hX0.out.cells
    obtain ⟨q0, q1, q2⟩ := hX1.out.cells
    go_wp2_with fail
    refine (c_eqGrid _ _ ra rb XS w10 (LiesB.val hL1.out) (LiesB.val hL0.out) hX.out).mono ?_
    rintro e w11 ⟨rfl, hb⟩
    replace hb : Stays w10 w11 := hb
    replace ha := Lib.hid (ha.out.trans hb)
    replace hX0 := Lib.hid (hX0.out.below hb)
    replace hL0 := Lib.hid (LiesR.below hL0.out hb)
    replace hX1 := Lib.hid (hX1.out.below hb)
    replace hL1 := Lib.hid (LiesR.below hL1.out hb)
    replace hl := Lib.hid (Nat.lt_of_lt_of_le hl.out (hb).size)
    clear hb p00 p01 p02 q0 q1 q2
    obtain ⟨q0, q1, q2⟩ := hX1.out.cells
    go_wp2_with fail
    refine (c_markH A1 g1 c1 XS.length ra rb w11 (LiesB.at_ hL1.out) (LiesB.lt_ hL1.out) (LiesB.there hL1.out) hX.out).mono ?_
    rintro e w12 ⟨rfl, hm⟩
    have hp1 := Lib.hid hX1.out.lt
    have hA1 := Lib.hid (LiesB.at_ hL1.out)
    replace ha := Lib.hid (show Stays W0 _ from Below.trans (show Below W0.heap.size W0 _ from ha.out) (hm.below W0.heap.size (fun _ => by have := o11.out; have := o7.out; have := o6.out; have := o9.out; omega) ha.out.size))
    replace hX0 := Lib.hid (hX0.out.on (hm.same _ (fun _ => by have := o3.out; have := o7.out; have := o6.out; have := o9.out; omega) hX0.out.lt))
    replace hL0 := Lib.hid (LiesB.markedH hL0.out hm fun _ _ => by have := o2.out; have := o7.out; have := o6.out; have := o9.out; omega)
    replace hX1 := Lib.hid (hX1.out.on (hm.same _ (fun _ => o10.out) hX1.out.lt))
    have hM := Lib.hid hm.cells
    replace hl := Lib.hid (show g1 < w12.heap.size from Nat.lt_of_lt_of_le hl.out (hm.same _ (fun _ => o10.out) hp1.out).size)
    clear hm hL1 q0 q1 q2
    have hk : ¬ ((1 : Int) + (XS.length : Nat) < 0) := by omega
    obtain ⟨q0, q1, q2⟩ := hX1.out.cells
    go_wp2_with fail
    refine (c_heldG A1 g1 c1 XS.length ra rb w12 hA1.out (fun _ => hl.out) hM.out hX.out).mono ?_
    rintro e w13 ⟨rfl, hb⟩
    replace ha := Lib.hid (ha.out.trans hb)
    replace hX0 := Lib.hid (hX0.out.below hb)
    replace hL0 := Lib.hid (LiesR.below hL0.out hb)
    replace hX1 := Lib.hid (hX1.out.below hb)
    replace hM : Hid (∀ j, j < XS.length → w13.cell? ⟨g1, j, none⟩ = some (.int .u8 (IntKind.u8.wrap (1 + (j : Nat))))) := Lib.hid fun j hj => (Below.cell (p := ⟨g1, j, none⟩) hb hl.out).trans (hM.out j hj)
    replace hl := Lib.hid (Nat.lt_of_lt_of_le hl.out hb.size)
    clear hb q0 q1 q2
    generalize hkk : (1 : Int) + (XS.length : Nat) = kk at hk ⊢
    replace hkk := Lib.hid hkk
    go_upto_region 24 with fail
    go_cut [16, 17] from 83 to 91 (fun s8 s9 wx => MadeG w13 ra rb XS code s8 s9 wx)
    case first =>
      have G1 : Hid (∀ w', Stays w13 w' → ((w'.cell? ⟨w.heap.size, 0, none⟩ = some (.int .i64 a) ∧ w'.cell? ⟨w.heap.size, 1, none⟩ = some (.int .i64 b) ∧ w'.cell? ⟨w.heap.size, 2, none⟩ = some (.slice A xs.length c)) ∧ (w'.cell? ⟨w.heap.size + 1, 0, none⟩ = some (.int .i16 x) ∧ w'.cell? ⟨w.heap.size + 1, 1, none⟩ = some (.int .i16 y)))) := Lib.hid fun w' h => (HB.out _ (ha.out.trans h)).1.1
      have h1 := Lib.hid (show Stays w13 w13.drew from (Stays.refl w13).drew)
      go_region_held (fun w' => ((w'.cell? ⟨w.heap.size, 0, none⟩ = some (.int .i64 a) ∧ w'.cell? ⟨w.heap.size, 1, none⟩ = some (.int .i64 b) ∧ w'.cell? ⟨w.heap.size, 2, none⟩ = some (.slice A xs.length c)) ∧ (w'.cell? ⟨w.heap.size + 1, 0, none⟩ = some (.int .i16 x) ∧ w'.cell? ⟨w.heap.size + 1, 1, none⟩ = some (.int .i16 y)))) (first | exact G1.out _ h1.out | exact G1.out _ h2.out | exact G1.out _ h3.out | exact G1.out _ h4.out | exact G1.out _ (h1.out.alloc _) | exact G1.out _ (h2.out.alloc _) | exact G1.out _ (h3.out.alloc _) | exact G1.out _ (h4.out.alloc _) | exact G1.out _ (hF.out.setsSt hz.out _ _ _))
        (first
          | (go_at_call 15; first | ((with_reducible refine (kI'.out v1 _ hv1.out).mono ?_); rintro e w4 ⟨g, A9, c9, rfl, hb, ⟨hge, hgl⟩, hL9⟩; have h4 := Lib.hid (h3.out.trans hb); have hF := Lib.hid (show FreshG w13 w4 g A9 c9 XS from ⟨h4.out, Nat.le_trans (h3.out).size hge, hgl, hL9⟩); (try (have hpg := Lib.hid (show _ ≠ g from Nat.ne_of_lt (Nat.lt_of_lt_of_le hz.out.lt hge)))); (try (replace hz := Lib.hid (hz.out.below hb); obtain ⟨⟨z0, z1, z2⟩, ⟨f0, f1, f2⟩⟩ := hz.out.cells)); clear hb) | ((with_reducible refine (kI'.out v1 _ (hv1.out.al _)).mono ?_); rintro e w4 ⟨g, A9, c9, rfl, hb, ⟨hge, hgl⟩, hL9⟩; have hz := Lib.hid ((ZB.new (B := w13.heap.size) _ h3.out.size).below hb); obtain ⟨⟨z0, z1, z2⟩, ⟨f0, f1, f2⟩⟩ := hz.out.cells; have h4 := Lib.hid ((h3.out.alloc _).trans hb); have hF := Lib.hid (show FreshG w13 w4 g A9 c9 XS from ⟨h4.out, Nat.le_trans ((h3.out.alloc _)).size hge, hgl, hL9⟩); (try (have hpg := Lib.hid (show _ ≠ g from Nat.ne_of_lt (Nat.lt_of_lt_of_le (ZB.new (B := w13.heap.size) _ h3.out.size).lt hge)))); clear hb))
          | (go_at_call 14; first | ((with_reducible refine (kA.out _).mono ?_); rintro e w3 ⟨rfl, hb⟩; have h3 := Lib.hid (h2.out.trans hb); (first | replace hv1 := Lib.hid (hv1.out.on hb) | replace hv1 := Lib.hid ((hv1.out.al _).on hb) | skip); (try (replace hz := Lib.hid (hz.out.below hb); skip)); clear hb) | ((with_reducible refine (kA.out _).mono ?_); rintro e w3 ⟨rfl, hb⟩; have hz := Lib.hid ((ZB.new (B := w13.heap.size) _ h2.out.size).below hb); skip; have h3 := Lib.hid ((h2.out.alloc _).trans hb); (first | replace hv1 := Lib.hid (hv1.out.on hb) | replace hv1 := Lib.hid ((hv1.out.al _).on hb) | skip); clear hb))
          | (go_at_call 13; first | ((with_reducible refine (kG.out _ (ha.out.trans h1.out)).mono ?_); rintro e w2 ⟨v1, rfl, hb, hv1⟩; have h2 := Lib.hid (h1.out.trans hb); replace hv1 := Lib.hid hv1; (try (replace hz := Lib.hid (hz.out.below hb); skip)); clear hb) | ((with_reducible refine (kG.out _ (ha.out.trans (h1.out.alloc _))).mono ?_); rintro e w2 ⟨v1, rfl, hb, hv1⟩; have hz := Lib.hid ((ZB.newD w13).below hb); skip; have h2 := Lib.hid ((h1.out.alloc _).trans hb); replace hv1 := Lib.hid hv1; clear hb) | ((with_reducible refine (kG.out _ (ha.out.trans ((Stays.refl w13).alloc _).drew)).mono ?_); rintro e w2 ⟨v1, rfl, hb, hv1⟩; have hz := Lib.hid (((ZB.new (B := w13.heap.size) _ (Nat.le_refl _)).below (Stays.refl _).drew).below hb); skip; have h2 := Lib.hid ((((Stays.refl w13).alloc _).drew).trans hb); replace hv1 := Lib.hid hv1; clear hb)))
      all_goals (go_wp2_with fail; go_meet; (first | exact hF.out.sets hz.out hpg.out ra rb code | exact hF.out.alloc ra rb code _))
    case rest =>
    obtain ⟨p2, g2, A2, c2, hmade⟩ := hcut
    obtain ⟨rfl, rfl, hX2, hF2, hge2, hne2⟩ := hmade
    rename World => w14
    replace hX2 := Lib.hid hX2
    have hL2 := Lib.hid hF2.lies
    have hs := hF2.st
    replace ha := Lib.hid (ha.out.trans hs)
    replace hX0 := Lib.hid (hX0.out.below hs)
    replace hL0 := Lib.hid (LiesR.below hL0.out hs)
    replace hX1 := Lib.hid (hX1.out.below hs)
    replace hM : Hid (∀ j, j < XS.length → w14.cell? ⟨g1, j, none⟩ = some (.int .u8 (IntKind.u8.wrap (1 + (j : Nat))))) := Lib.hid fun j hj => (Below.cell (p := ⟨g1, j, none⟩) hs hl.out).trans (hM.out j hj)
    replace hl := Lib.hid (Nat.lt_of_lt_of_le hl.out (hs).size)
    clear hs hF2 hge2 hne2
    obtain ⟨p00, p01, p02⟩ := hX0.out.cells
    obtain ⟨q0, q1, q2⟩ := hX2.out.cells
    go_wp2_with fail
    refine (c_eqGrid _ _ ra rb XS w14 (LiesB.val hL2.out) (LiesB.val hL0.out) hX.out).mono ?_
    rintro e w15 ⟨rfl, hb⟩
    replace hb : Stays w14 w15 := hb
    replace ha := Lib.hid (ha.out.trans hb)
    replace hX1 := Lib.hid (hX1.out.below hb)
    replace hM : Hid (∀ j, j < XS.length → w15.cell? ⟨g1, j, none⟩ = some (.int .u8 (IntKind.u8.wrap (1 + (j : Nat))))) := Lib.hid fun j hj => (Below.cell (p := ⟨g1, j, none⟩) hb hl.out).trans (hM.out j hj)
    replace hl := Lib.hid (Nat.lt_of_lt_of_le hl.out (hb).size)
    clear hb p00 p01 p02 q0 q1 q2 hX0 hX2 hL0 hL2
    obtain ⟨q0, q1, q2⟩ := hX1.out.cells
    go_wp2_with fail
    refine (c_heldG A1 g1 c1 XS.length ra rb w15 hA1.out (fun _ => hl.out) hM.out hX.out).mono ?_
    rintro e w16 ⟨rfl, hb⟩
    rw [hkk.out]
    replace ha := Lib.hid (ha.out.trans hb)
    clear hb
    go_wp2
    go_ret
    exact ⟨rfl, (HB.out _ ha.out).1.2⟩
end Go.Proofs.Yteidjmliepmlmaa

namespace Go.Proofs.Yteidjmliepmlmaa
open Go Go.RowKit

theorem c_law2WithCost {p q : Prop} (v : Value) (a b : Int) (xs : List Int) (x y z : Int) (w : World) (h : GdV w w.heap.size v a b xs) (hn : xs.length ≤ 9223372036854775807) (_ : p) (hx : In16 x) (hy : In16 y) (_ : q) :
    Calls Try.prog 3 #[v, .agg #[.int .i16 x, .int .i16 y], .int .u8 z] w fun e w' => e = .returned (.bool true) ∧ Below w.heap.size w w' := c_lawWithCost v a b x y z xs w h hn hx hy
end Go.Proofs.Yteidjmliepmlmaa
