/- The law on the point that lies ahead on a way. No condition. -/
import Derived.Test.YtejljfejajckoaaAhb
import Derived.Deep.CutRange
import Derived.Deep.RegionHeld
namespace Go.Proofs.Ytejljfejajckoaa
open Go Go.ChangeShapes Go.WideShapes Go.RowKit
set_option linter.unusedVariables false
set_option linter.unusedSimpArgs false

theorem c_toPts (A : Option Addr) (c : Nat) (xs : List (List NV)) (w : World) (h : Ls KPt 2 w w.heap.size A xs) (hn : xs.length ≤ 1048576) :
    Calls Try.prog 22 #[.slice A xs.length c] w fun e w' => ∃ g, e = .returned (.slice (some ⟨g, 0, none⟩) xs.length xs.length) ∧ Stays w w' ∧ LiesL KPt 2 w' g (.slice (some ⟨g, 0, none⟩) xs.length xs.length) xs := by
  refine (c_toFloat32A2S A c xs w h hn).mono ?_
  rintro e w' ⟨rfl, hp⟩
  exact ⟨_, rfl, hp.below, hp.lies⟩
theorem Ls.go {K : List Kd} {n : Nat} {w w' : World} {A : Option Addr} {xs : List (List NV)} (h : Ls K n w w.heap.size A xs) (hs : Stays w w') : Ls K n w' w'.heap.size A xs := (h.below hs).more hs.size

theorem c_toPt (x y : Nat) (r : List NV) (fx : FIs .f32 x (gx r)) (fy : FIs .f32 y (gy r)) (w : World) : Calls Try.prog 13 #[.agg #[.float .f32 x, .float .f32 y]] w fun e w' => ∃ x' y', e = .returned (.agg #[.float .f32 x', .float .f32 y']) ∧ FIs .f32 x' (gx r) ∧ FIs .f32 y' (gy r) ∧ Stays w w' := by
  refine (c_toFloat32A2 (.agg #[.float .f32 x, .float .f32 y]) [.f (gx r), .f (gy r)] w ⟨_, rfl, ⟨x, rfl, fx⟩, ⟨y, rfl, fy⟩, trivial⟩).mono ?_
  rintro e w' ⟨cs, rfl, hk, hb⟩
  obtain ⟨x', y', e, fx', fy'⟩ := pt_cells hk
  obtain ⟨l⟩ := cs
  have e : l = [.float .f32 x', .float .f32 y'] := e
  subst e
  exact ⟨x', y', rfl, fx', fy', hb⟩

/-- A box that is still empty. -/
structure ZP2 (w : World) (B p : Nat) : Prop where
  ge : B ≤ p
  row : w.heap[p]? = some (.cells #[.float .f32 0, .float .f32 0] 26 (0, 0))
theorem ZP2.new {B : Nat} (w : World) (h : B ≤ w.heap.size) : ZP2 (w.alloc (.cells #[.float .f32 0, .float .f32 0] 26)) B w.heap.size := ⟨h, heap_alloc_new w _⟩
theorem ZP2.newD (w : World) : ZP2 (w.drew.alloc (.cells #[.float .f32 0, .float .f32 0] 26)) w.heap.size w.heap.size := ZP2.new w.drew (Nat.le_refl _)
theorem ZP2.below {w w' : World} {B p : Nat} (h : ZP2 w B p) (hb : Stays w w') : ZP2 w' B p := ⟨h.ge, (Below.block hb _ (in_heap h.row)).trans h.row⟩
theorem ZP2.cells {w : World} {B p : Nat} (h : ZP2 w B p) : (w.cell? ⟨p, 0, none⟩ = some (.float .f32 0) ∧ w.cell? ⟨p, 1, none⟩ = some (.float .f32 0)) ∧ w.frozen? ⟨p, 0, none⟩ = false ∧ w.frozen? ⟨p, 1, none⟩ = false :=
  ⟨⟨cell_of_row _ _ _ _ _ _ h.row, cell_of_row _ _ _ _ _ _ h.row⟩, frozen_of_row _ _ _ _ _ h.row, frozen_of_row _ _ _ _ _ h.row⟩
/-- A row that was made into a box, and a code. -/
def MadeP2 (W : World) (code : Int) (res : List NV) (s t : Value) (w : World) : Prop := ∃ p rx ry, s = .pointer (some ⟨p, 0, none⟩) ∧ t = .int .i64 code ∧ W.heap.size ≤ p ∧ w.heap[p]? = some (.cells #[.float .f32 rx, .float .f32 ry] 26 (0, 0)) ∧ (FIs .f32 rx (gx res) ∧ FIs .f32 ry (gy res)) ∧ Stays W w
theorem MadeP2.alloc {W w : World} {res : List NV} {rx ry : Nat} (code : Int) (h : Stays W w) (hf : FIs .f32 rx (gx res) ∧ FIs .f32 ry (gy res)) : MadeP2 W code res (.pointer (some ⟨w.heap.size, 0, none⟩)) (.int .i64 code) (w.alloc (.cells #[.float .f32 rx, .float .f32 ry] 26)) :=
  ⟨_, rx, ry, rfl, rfl, h.size, heap_alloc_new w _, hf, h.trans (by (repeat (first | exact Stays.refl _ | (with_reducible refine Stays.drewN ?_ _) | (with_reducible refine Stays.alloc ?_ _) | (with_reducible refine Stays.drew ?_) | (refine Stays.trans ?_ ‹Stays _ _›))))⟩
theorem ZP2.stays {W w : World} {p : Nat} (h : Stays W w) (hz : ZP2 w W.heap.size p) (rx ry : Nat) : Stays W ((w.setCell ⟨p, 0, none⟩ (.float .f32 rx)).setCell ⟨p, 1, none⟩ (.float .f32 ry)) :=
  (Below.setCell (Below.setCell (show Below W.heap.size W w from h) hz.ge _) hz.ge _)
theorem MadeP2.sets {W w : World} {res : List NV} {p rx ry : Nat} (code : Int) (h : Stays W w) (hz : ZP2 w W.heap.size p) (hf : FIs .f32 rx (gx res) ∧ FIs .f32 ry (gy res)) : MadeP2 W code res (.pointer (some ⟨p, 0, none⟩)) (.int .i64 code) ((w.setCell ⟨p, 0, none⟩ (.float .f32 rx)).setCell ⟨p, 1, none⟩ (.float .f32 ry)) := by
  have m1 := heap_setCell_same _ p 0 _ _ (.float .f32 rx) hz.row
  have m2 := heap_setCell_same _ p 1 _ _ (.float .f32 ry) m1
  exact ⟨p, rx, ry, rfl, rfl, hz.ge, m2, hf, hz.stays h rx ry⟩

set_option maxRecDepth 100000 in
set_option maxHeartbeats 4000000 in
theorem c_lawAheadOnWay {p : Prop} (A : Option Addr) (c : Nat) (xs : List (List NV)) (cs : Array Value) (ns : List NV) (b : Nat) (w : World) (h : Ls KPt 2 w w.heap.size A xs) (hn : xs.length ≤ 9223372036854775807) (k : KMs KPt cs.toList ns) (_ : p) (hb : b < 2 ^ 32) :
    Calls Try.prog 4 #[.slice A xs.length c, .agg cs, .float .f32 b] w fun e w' => e = .returned (.bool true) ∧ Below w.heap.size w w' := by
  obtain ⟨ax, ay, e, fa0, fa1⟩ := pt_cells k
  have e : cs = #[.float .f32 ax, .float .f32 ay] := by
    obtain ⟨l⟩ := cs
    exact congrArg Array.mk e
  subst e
  have u0 : (w.alloc (.cells #[.float .f32 ax, .float .f32 ay] 26)).heap[w.heap.size]? = some (.cells #[.float .f32 ax, .float .f32 ay] 26 (0, 0)) := by (repeat (first | (refine heap_top _ _ _ ?_; simp; done) | (with_reducible refine heap_drawn _ _ _ ?_) | (with_reducible refine heap_under _ _ _ ?_ ?_; (simp <;> omega))))
  have hst : Stays w (w.alloc (.cells #[.float .f32 ax, .float .f32 ay] 26)) := by (repeat (first | exact Stays.refl _ | (with_reducible refine Stays.drewN ?_ _) | (with_reducible refine Stays.alloc ?_ _) | (with_reducible refine Stays.drew ?_) | (refine Stays.trans ?_ ‹Stays _ _›)))
  have HB : Hid (∀ W, Stays (w.alloc (.cells #[.float .f32 ax, .float .f32 ay] 26)) W → (W.cell? ⟨w.heap.size, 0, none⟩ = some (.float .f32 ax) ∧ W.cell? ⟨w.heap.size, 1, none⟩ = some (.float .f32 ay)) ∧ Stays w W ∧ Ls KPt 2 W W.heap.size A xs) := Lib.hid fun W hW => ⟨⟨row_of hW u0 0, row_of hW u0 1⟩, hst.trans hW, (h.below (hst.trans hW)).more (hst.trans hW).size⟩
  have kz := fun W => c_szFloat32A2S A c xs.length 1048576 W hn (by omega) (by omega)
  clear h u0 hst
  by_cases hl : (1048576 : Int) - xs.length < 0
  · simp only [if_pos hl] at kz
    replace kz := Lib.hid kz
    go_enter Try.func4, Try.ntmps4
    go_wp2_with fail
    refine (kz.out _).mono ?_
    rintro e w1 ⟨rfl, rfl⟩
    go_wp2
    go_ret
    exact ⟨rfl, (HB.out _ (Stays.refl _)).2.1⟩
  · simp only [if_neg hl] at kz
    have hn' : xs.length ≤ 1048576 := by omega
    have hX : ¬ ((1048576 : Int) - xs.length < 0) := hl
    generalize (1048576 : Int) - xs.length = X at hX kz
    replace kz := Lib.hid kz
    have kT := Lib.hid fun W (hW : Stays (w.alloc (.cells #[.float .f32 ax, .float .f32 ay] 26)) W) => c_toPts A c xs W (HB.out W hW).2.2 hn'
    have kQ := Lib.hid fun W => c_toPt ax ay ns fa0 fa1 W
    have kS := Lib.hid fun A c bx by_ W (h : Ls KPt 2 W W.heap.size A xs) (fb0 : FIs .f32 bx (gx ns)) (fb1 : FIs .f32 by_ (gy ns)) => (show Calls Try.prog 21 #[.slice A xs.length c, .agg #[.float .f32 bx, .float .f32 by_], .float .f32 b] W (AhDone W (ahC (gx ns) (gy ns) (can .f32 b) xs) (ahX (gx ns) (gy ns) (can .f32 b) xs)) from by rw [← fb0.out, ← fb1.out]; exact c_specAhead A c xs bx by_ b W h hn' fb0.lt fb1.lt hb)
    have kI := Lib.hid fun A c bx by_ W (h : Ls KPt 2 W W.heap.size A xs) (hc : xs.length ≤ c) (fb0 : FIs .f32 bx (gx ns)) (fb1 : FIs .f32 by_ (gy ns)) => (show Calls Try.prog 23 #[.slice A xs.length c, .agg #[.float .f32 bx, .float .f32 by_], .float .f32 b] W (AhDone W (ahC (gx ns) (gy ns) (can .f32 b) xs) (ahX (gx ns) (gy ns) (can .f32 b) xs)) from by rw [← fb0.out, ← fb1.out]; exact c_implAhead A c xs bx by_ b W h hn' hc fb0.lt fb1.lt hb)
    generalize ahC (gx ns) (gy ns) (can .f32 b) xs = code at kS kI
    generalize ahX (gx ns) (gy ns) (can .f32 b) xs = res at kS kI
    clear hl hn fa0 fa1 hb
    go_enter Try.func4, Try.ntmps4
    go_wp2_with fail
    refine (kz.out _).mono ?_
    rintro e w1 ⟨rfl, rfl⟩
    have ha := Lib.hid (Stays.refl (w.alloc (.cells #[.float .f32 ax, .float .f32 ay] 26)))
    generalize (w.alloc (.cells #[.float .f32 ax, .float .f32 ay] 26)) = W0 at HB kT ha ⊢
    have ha1 := Lib.hid (Stays.refl W0)
    go_upto_region 5 with fail
    go_cut [8, 9] from 18 to 26 (fun s8 s9 wx => MadeP2 W0 code res s8 s9 wx)
    case first =>
      have G1 : Hid (∀ w', Stays W0 w' → (w'.cell? ⟨w.heap.size, 0, none⟩ = some (.float .f32 ax) ∧ w'.cell? ⟨w.heap.size, 1, none⟩ = some (.float .f32 ay))) := Lib.hid fun w' h => (HB.out w' h).1
      have h1 := Lib.hid (show Stays W0 W0.drew from (Stays.refl W0).drew)
      go_region_held (fun w' => (w'.cell? ⟨w.heap.size, 0, none⟩ = some (.float .f32 ax) ∧ w'.cell? ⟨w.heap.size, 1, none⟩ = some (.float .f32 ay))) (first | exact G1.out _ h1.out | exact G1.out _ h2.out | exact G1.out _ h3.out | exact G1.out _ h4.out | exact G1.out _ (h1.out.alloc _) | exact G1.out _ (h2.out.alloc _) | exact G1.out _ (h3.out.alloc _) | exact G1.out _ (h4.out.alloc _) | exact G1.out _ (ZP2.stays h4.out hz.out _ _))
        (first
          | (go_at_call 21; first | ((with_reducible refine (kS.out _ _ bx by_ _ hLs.out fb0 fb1).mono ?_); rintro e w4 ⟨sx, sy, rfl, fs0, fs1, hb⟩; have h4 := Lib.hid (h3.out.trans hb); have hF := Lib.hid (show FIs .f32 sx (gx res) ∧ FIs .f32 sy (gy res) from ⟨fs0, fs1⟩); (try (replace hz := Lib.hid (hz.out.below hb); obtain ⟨⟨z0, z1⟩, f0, f1⟩ := hz.out.cells)); clear hb) | ((with_reducible refine (kS.out _ _ bx by_ _ (Ls.go hLs.out ((Stays.refl _).alloc _)) fb0 fb1).mono ?_); rintro e w4 ⟨sx, sy, rfl, fs0, fs1, hb⟩; have hz := Lib.hid ((ZP2.new (B := W0.heap.size) _ h3.out.size).below hb); obtain ⟨⟨z0, z1⟩, f0, f1⟩ := hz.out.cells; have h4 := Lib.hid ((h3.out.alloc _).trans hb); have hF := Lib.hid (show FIs .f32 sx (gx res) ∧ FIs .f32 sy (gy res) from ⟨fs0, fs1⟩); clear hb))
          | (go_at_call 13; first | ((with_reducible refine (kQ.out _).mono ?_); rintro e w3 ⟨bx, by_, rfl, fb0, fb1, hb⟩; have h3 := Lib.hid (h2.out.trans hb); (first | replace hLs := Lib.hid (Ls.go hLs.out hb) | replace hLs := Lib.hid (Ls.go hLs.out (((Stays.refl _).alloc _).trans hb))); (try (replace hz := Lib.hid (hz.out.below hb); skip)); clear hb) | ((with_reducible refine (kQ.out _).mono ?_); rintro e w3 ⟨bx, by_, rfl, fb0, fb1, hb⟩; have hz := Lib.hid ((ZP2.new (B := W0.heap.size) _ h2.out.size).below hb); skip; have h3 := Lib.hid ((h2.out.alloc _).trans hb); (first | replace hLs := Lib.hid (Ls.go hLs.out hb) | replace hLs := Lib.hid (Ls.go hLs.out (((Stays.refl _).alloc _).trans hb))); clear hb))
          | (go_at_call 22; first | ((with_reducible refine (kT.out _ h1.out).mono ?_); rintro e w2 ⟨g2, rfl, hb, hp⟩; have h2 := Lib.hid (h1.out.trans hb); have hLs := Lib.hid hp.rows; clear hp; (try (replace hz := Lib.hid (hz.out.below hb); skip)); clear hb) | ((with_reducible refine (kT.out _ (h1.out.alloc _)).mono ?_); rintro e w2 ⟨g2, rfl, hb, hp⟩; have hz := Lib.hid ((ZP2.newD W0).below hb); skip; have h2 := Lib.hid ((h1.out.alloc _).trans hb); have hLs := Lib.hid hp.rows; clear hp; clear hb) | ((with_reducible refine (kT.out _ ((Stays.refl W0).alloc _).drew).mono ?_); rintro e w2 ⟨g2, rfl, hb, hp⟩; have hz := Lib.hid (((ZP2.new (B := W0.heap.size) _ (Nat.le_refl _)).below (Stays.refl _).drew).below hb); skip; have h2 := Lib.hid ((((Stays.refl W0).alloc _).drew).trans hb); have hLs := Lib.hid hp.rows; clear hp; clear hb)))
      all_goals (go_wp2_with fail; go_meet; (first | exact MadeP2.sets code h4.out hz.out hF.out | exact MadeP2.alloc code h4.out hF.out))
    case rest =>
    obtain ⟨p0, rx, ry, rfl, rfl, hge0, hrow0, hf0, hs0⟩ := hcut
    rename World => w4
    replace hge0 := Lib.hid hge0
    replace hrow0 := Lib.hid hrow0
    replace hf0 := Lib.hid hf0
    replace ha := Lib.hid hs0
    clear hs0
    go_wp2_with fail
    refine (kT.out w4 ha.out).mono ?_
    rintro e w5 ⟨g5, rfl, hs5, hp⟩
    have hL := Lib.hid hp
    replace ha := Lib.hid (ha.out.trans hs5)
    replace hrow0 := Lib.hid ((Below.block hs5 _ (in_heap hrow0.out)).trans hrow0.out)
    clear hp hs5
    obtain ⟨e0, e1⟩ := (HB.out w5 ha.out).1
    go_wp2_with fail
    refine (kQ.out _).mono ?_
    rintro e w6 ⟨qx, qy, rfl, fe0, fe1, hs6⟩
    replace ha := Lib.hid (ha.out.trans hs6)
    replace hL := Lib.hid (hL.out.below hs6)
    replace hrow0 := Lib.hid ((Below.block hs6 _ (in_heap hrow0.out)).trans hrow0.out)
    clear hs6 e0 e1
    go_wp2_with fail
    refine (kI.out _ _ qx qy w6 hL.out.rows (Nat.le_refl _) fe0 fe1).mono ?_
    rintro e w7 ⟨jx, jy, rfl, fg0, fg1, hs7⟩
    replace ha := Lib.hid (ha.out.trans hs7)
    replace hL := Lib.hid (hL.out.below hs7)
    replace hrow0 := Lib.hid ((Below.block hs7 _ (in_heap hrow0.out)).trans hrow0.out)
    clear hs7 fe0 fe1
    have hs8 : Stays w7 (w7.alloc (.cells #[.float .f32 jx, .float .f32 jy] 26)) := by (repeat (first | exact Stays.refl _ | (with_reducible refine Stays.drewN ?_ _) | (with_reducible refine Stays.alloc ?_ _) | (with_reducible refine Stays.drew ?_) | (refine Stays.trans ?_ ‹Stays _ _›)))
    have hrow1 := Lib.hid (heap_alloc_new w7 (.cells #[.float .f32 jx, .float .f32 jy] 26))
    replace hrow0 := Lib.hid ((Below.block hs8 _ (in_heap hrow0.out)).trans hrow0.out)
    have ha8 := Lib.hid (ha.out.trans hs8)
    have hL8 := Lib.hid (hL.out.below hs8)
    have hfg := Lib.hid (show FIs .f32 jx (gx res) ∧ FIs .f32 jy (gy res) from ⟨fg0, fg1⟩)
    clear hs8 fg0 fg1
    have c0 := cell_of_row _ _ 0 _ _ _ hrow0.out
    have d0 := cell_of_row _ _ 0 _ _ _ hrow1.out
    have c1 := cell_of_row _ _ 1 _ _ _ hrow0.out
    have d1 := cell_of_row _ _ 1 _ _ _ hrow1.out
    go_wp2_with fail
    generalize (w7.alloc (.cells #[.float .f32 jx, .float .f32 jy] 26)) = W8 at ha8 hL8 hrow0 hrow1 ⊢
    refine (c_eqFloat32A2 (.agg #[.float .f32 jx, .float .f32 jy]) (.agg #[.float .f32 rx, .float .f32 ry]) [.f (gx res), .f (gy res)] _ ⟨_, rfl, ⟨_, rfl, hfg.out.1⟩, ⟨_, rfl, hfg.out.2⟩, trivial⟩ ⟨_, rfl, ⟨_, rfl, hf0.out.1⟩, ⟨_, rfl, hf0.out.2⟩, trivial⟩).mono ?_
    rintro e w9 ⟨rfl, hs9⟩
    replace hs9 : Stays W8 w9 := hs9
    replace ha8 := Lib.hid (ha8.out.trans hs9)
    replace hL8 := Lib.hid (hL8.out.below hs9)
    clear hs9 c0 d0 c1 d1 hrow0 hrow1
    go_wp2_with fail
    refine (kT.out w9 ha8.out).mono ?_
    rintro e w10 ⟨g10, rfl, hs10, hp⟩
    have hL2 := Lib.hid hp
    replace ha8 := Lib.hid (ha8.out.trans hs10)
    replace hL8 := Lib.hid (hL8.out.below hs10)
    clear hp hs10
    go_wp2_with fail
    refine (c_eqFloat32A2S _ _ _ _ xs w10 hL8.out.rows hL2.out.rows hn').mono ?_
    rintro e w11 ⟨rfl, hs11⟩
    replace ha8 := Lib.hid (ha8.out.trans hs11)
    clear hs11
    go_wp2
    go_ret
    exact ⟨rfl, (HB.out _ ha8.out).2.1⟩
end Go.Proofs.Ytejljfejajckoaa
