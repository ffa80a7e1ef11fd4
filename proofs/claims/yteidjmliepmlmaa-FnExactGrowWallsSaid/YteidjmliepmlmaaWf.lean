/- A grid with another cost: the closure, and the function. No condition. -/
import Derived.Test.YteidjmliepmlmaaWe
import Derived.RegionDies
namespace Go.Proofs.Yteidjmliepmlmaa
open Go Go.RowKit
set_option linter.unusedVariables false
set_option linter.unusedSimpArgs false

/-- What the closure has caught. -/
def Caught (w : World) (p0 p1 p2 : Nat) (a b x y z : Int) (A : Option Addr) (c n : Nat) : Prop := ∀ W, Stays w W → (W.cell? ⟨p0, 0, none⟩ = some (.int .i64 a) ∧ W.cell? ⟨p0, 1, none⟩ = some (.int .i64 b) ∧ W.cell? ⟨p0, 2, none⟩ = some (.slice A n c)) ∧ W.cell? ⟨p1, 0, none⟩ = some (.int .u8 z) ∧ W.cell? ⟨p2, 0, none⟩ = some (.int .i16 x) ∧ W.cell? ⟨p2, 1, none⟩ = some (.int .i16 y)

set_option maxRecDepth 100000 in
set_option maxHeartbeats 2000000 in
theorem c_wc1 (p0 p1 p2 : Nat) (a b x y z : Int) (ad : Addr) (c i : Nat) (xs : List Int) (w : World) (hC : Caught w p0 p1 p2 a b x y z (some ad) c xs.length) (h1 : Bs w w.heap.size (some ad) xs) (hn : xs.length ≤ 1048576)
    (hg : gridB a b xs.length = true) (hh : hasB a b x y = true) (hi : y * a + x = i) :
    Calls Try.prog 52 #[.pointer (some ⟨p0, 0, none⟩), .pointer (some ⟨p1, 0, none⟩), .pointer (some ⟨p2, 0, none⟩)] w (CDone w a b (xs.set i z)) := by
  obtain ⟨ha, hb, hne⟩ := gridB_iff.1 hg
  obtain ⟨hx1, hy1⟩ := hasB_iff.1 hh
  have bd := idx_bd ha hb hx1 hy1
  rw [Int.mul_comm b a] at bd
  have hil : i < xs.length := by omega
  have h0 : 0 < xs.length := by omega
  have hst : Stays w (w.alloc (.cells #[.int .i64 0, .int .i64 0, .slice none 0 0] 28)) := by (repeat (first | exact Stays.refl _ | (with_reducible refine Stays.drewN ?_ _) | (with_reducible refine Stays.alloc ?_ _) | (with_reducible refine Stays.drew ?_) | (refine Stays.trans ?_ ‹Stays _ _›)))
  have hr0 : (w.alloc (.cells #[.int .i64 0, .int .i64 0, .slice none 0 0] 28)).heap[w.heap.size]? = some (.cells #[.int .i64 0, .int .i64 0, .slice none 0 0] 28 (0, 0)) := by (repeat (first | (refine heap_top _ _ _ ?_; simp; done) | (with_reducible refine heap_drawn _ _ _ ?_) | (with_reducible refine heap_under _ _ _ ?_ ?_; (simp <;> omega))))
  have kC := Lib.hid fun W (h : Stays w W) => c_clone a b ad c xs W ((h1.below h).more h.size) h0 hn
  have kA := Lib.hid fun g c' W (hc : xs.length ≤ c') => show Calls Try.prog 54 #[.agg #[.int .i64 a, .int .i64 b, .slice (some ⟨g, 0, none⟩) xs.length c'], .agg #[.int .i16 x, .int .i16 y]] W fun e w' => e = .returned (.pointer (some ⟨g, i, none⟩)) ∧ Stays W w' from by
    have := c_at a b x y ⟨g, 0, none⟩ c' xs.length i W ha hb hx1 hy1 hne hc hi
    rw [add_zero_b] at this
    exact this
  obtain ⟨⟨q0, q1, q2⟩, _⟩ := hC _ hst
  replace hC := Lib.hid hC
  replace hst := Lib.hid hst
  replace hr0 := Lib.hid hr0
  clear h1 ha hb hne hx1 hy1 bd hg hh hi h0
  go_enter Try.func52, Try.ntmps52
  go_wp2_with fail
  refine (kC.out _ hst.out).mono ?_
  rintro e w2 ⟨g, c', rfl, hb2, ⟨hge, hgl⟩, hL, hcap⟩
  have hs2 : Stays w w2 := hst.out.trans hb2
  have hgr : w.heap.size + 1 ≤ g := by have := (in_heap hr0.out); simp at hge; omega
  have hst3' : Stays w (w2.alloc (.cells #[.int .i64 0, .int .i64 0, .slice none 0 0] 28)) := hs2.trans (by (repeat (first | exact Stays.refl _ | (with_reducible refine Stays.drewN ?_ _) | (with_reducible refine Stays.alloc ?_ _) | (with_reducible refine Stays.drew ?_) | (refine Stays.trans ?_ ‹Stays _ _›))))
  have hsw : Stays w2 (w2.alloc (.cells #[.int .i64 0, .int .i64 0, .slice none 0 0] 28)) := by (repeat (first | exact Stays.refl _ | (with_reducible refine Stays.drewN ?_ _) | (with_reducible refine Stays.alloc ?_ _) | (with_reducible refine Stays.drew ?_) | (refine Stays.trans ?_ ‹Stays _ _›)))
  have hres : (w2.alloc (.cells #[.int .i64 0, .int .i64 0, .slice none 0 0] 28)).heap[w2.heap.size]? = some (.cells #[.int .i64 0, .int .i64 0, .slice none 0 0] 28 (0, 0)) := heap_alloc_new w2 _
  have HR := Lib.hid fun W (h : Stays w2 W) => (Below.block h w.heap.size (Nat.lt_of_lt_of_le (in_heap hr0.out) hb2.size)).trans ((Below.block hb2 _ (in_heap hr0.out)).trans hr0.out)
  replace hL := Lib.hid hL
  replace hcap := Lib.hid hcap
  replace hgl := Lib.hid hgl
  replace hgr := Lib.hid hgr
  replace hs2 := Lib.hid hs2
  have hlw := Lib.hid (show w.heap.size < w2.heap.size from Nat.lt_of_lt_of_le (in_heap hr0.out) hb2.size)
  clear hb2 hge hst3' q0 q1 q2
  go_wp2_with (refine wpList_store_row rfl _ _ _ rfl _ _ _ rfl rfl hres ?hi ?ho ?h1 ?hB hsw ?_; (case hi => kernel_rfl); (case ho => rfl); (case h1 => first | rfl | simp [Value.oneCell']); (case hB => first | omega | (simp <;> omega)); intro w3 hw3 hq3 hother hsame)
  have S3 := hs2.out.trans hw3
  have hL3 := Lib.hid (LiesR.below hL.out hw3)
  have hbx : Hid (∀ W, Stays w3 W → W.heap[w2.heap.size]? = some (.cells #[.int .i64 a, .int .i64 b, .slice (some ⟨g, 0, none⟩) xs.length c'] 28 (0, 0))) := Lib.hid fun W h => (Below.block h _ (in_heap hq3)).trans hq3
  have hcells : ∀ W, Stays w3 W → (W.cell? ⟨w2.heap.size, 0, none⟩ = some (.int .i64 a) ∧ W.cell? ⟨w2.heap.size, 1, none⟩ = some (.int .i64 b) ∧ W.cell? ⟨w2.heap.size, 2, none⟩ = some (.slice (some ⟨g, 0, none⟩) xs.length c')) ∧ W.cell? ⟨p1, 0, none⟩ = some (.int .u8 z) ∧ W.cell? ⟨p2, 0, none⟩ = some (.int .i16 x) ∧ W.cell? ⟨p2, 1, none⟩ = some (.int .i16 y) := fun W h => ⟨⟨cell_of_row _ _ _ _ _ _ (hbx.out W h), cell_of_row _ _ _ _ _ _ (hbx.out W h), cell_of_row _ _ _ _ _ _ (hbx.out W h)⟩, (hC.out _ (S3.trans h)).2⟩
  have kA3 := Lib.hid fun W => kA.out g c' W hcap.out
  replace S3 := Lib.hid S3
  replace hw3 := Lib.hid hw3
  clear hq3 hother hsame hres hsw
  refine wp_region_soft_tail 5 (Stays.refl _) (oneS 54 #[.agg #[.int .i64 a, .int .i64 b, .slice (some ⟨g, 0, none⟩) xs.length c'], .agg #[.int .i16 x, .int .i16 y]] (fun v => v = .pointer (some ⟨g, i, none⟩))) [] (by kernel_rfl) (by kernel_rfl) (fun _ h => by cases h) ?_
  simp only [List.take_succ_cons, List.take_zero, List.drop_succ_cons, List.drop_zero]
  repeat ((with_reducible apply soft_detG); (case hwa => rfl); (case hA => rfl); (case h => (intro w1 hw1; have hc := hcells w1 hw1; go_simp; exact rfl)); go_simp)
  refine soft_callO (by rfl) rfl ?h (fun w2 h2 => (kA3.out w2).mono fun e w' ⟨h1, h2⟩ => ⟨_, h1, rfl, h2⟩) ?_
  case h => (intro w2 hw2; have hc := hcells w2 hw2; go_simp; try exact ⟨rfl, rfl⟩)
  rintro v rfl
  go_simp
  repeat ((with_reducible apply soft_detG); (case hwa => rfl); (case hA => rfl); (case h => (intro w1 hw1; have hc := hcells w1 hw1; go_simp; exact rfl)); go_simp)
  refine soft_nil ?_
  rintro w4 ⟨hw4, _⟩
  have hL4 := LiesR.below hL3.out hw4
  have hth := LiesB.there hL4
  obtain ⟨v0, hv0⟩ := Option.isSome_iff_exists.1 ((there_part hth i 1 (by omega)) 0 (by omega)).1
  have hf0 := ((there_part hth i 1 (by omega)) 0 (by omega)).2
  rw [Nat.add_zero] at hv0 hf0
  have hgl' := hgl.out
  have hgr' := hgr.out
  have hlw' := hlw.out
  have hwx := S3.out.trans hw4
  have e1 := (heap_setCell_other w4 ⟨g, i, none⟩ w2.heap.size (.int .u8 z) (by show w2.heap.size ≠ g; omega)).trans (hbx.out w4 hw4)
  have hres := (heap_setCell_other w4 ⟨g, i, none⟩ w.heap.size (.int .u8 z) (by show w.heap.size ≠ g; omega)).trans (HR.out w4 (Stays.trans hw3.out hw4))
  have x0 : (w4.setCell ⟨g, i, none⟩ (.int .u8 z)).cell? ⟨w2.heap.size, 0, none⟩ = some (.int .i64 a) := cell_of_row _ _ _ _ _ _ e1
  have x1 : (w4.setCell ⟨g, i, none⟩ (.int .u8 z)).cell? ⟨w2.heap.size, 1, none⟩ = some (.int .i64 b) := cell_of_row _ _ _ _ _ _ e1
  have x2 : (w4.setCell ⟨g, i, none⟩ (.int .u8 z)).cell? ⟨w2.heap.size, 2, none⟩ = some (.slice (some ⟨g, 0, none⟩) xs.length c') := cell_of_row _ _ _ _ _ _ e1
  have hst5 : Stays w (w4.setCell ⟨g, i, none⟩ (.int .u8 z)) := Below.setCell hwx (by show w.heap.size ≤ g; omega) _
  have hL5 := Lib.hid (LiesB.set hL4 hil z)
  have hne := Lib.hid (show g ≠ w.heap.size ∧ w.heap.size ≤ g from ⟨by omega, by omega⟩)
  have hlt5 := Lib.hid (show g < (w4.setCell ⟨g, i, none⟩ (.int .u8 z)).heap.size from by
    have := hw4.size
    have := hw3.out.size
    simp [World.setCell]
    omega)
  clear e1 hwx hgl' hgr' hlw' hth hL4 hcells hw4 hL3 hL hgl hgr hlw hs2 S3 hw3 hbx HR hC
  go_wp2_with (refine wpList_store_row rfl _ _ _ rfl _ _ _ rfl rfl hres ?hi ?ho ?h1 ?hB hst5 ?_; (case hi => kernel_rfl); (case ho => rfl); (case h1 => first | rfl | simp [Value.oneCell']); (case hB => first | omega | (simp <;> omega)); intro w6 hw6 hq6 hother hsame)
  apply end_agg rfl rfl rfl Try.underlying28 rfl (t := 28)
  case hg => exact hq6
  case hi => kernel_rfl
  case hR =>
    have hb := hother g hlt5.out hne.out.1
    have hlt := hlt5.out
    exact ⟨g, c', by rw [List.length_set], hw6, ⟨hne.out.2, by omega⟩, LiesR.on hL5.out fun _ => block_same hb (by omega), by rw [List.length_set]; exact hcap.out⟩

set_option maxRecDepth 100000 in
set_option maxHeartbeats 2000000 in
theorem c_wc1P (p0 p1 p2 : Nat) (a b x y z : Int) (ad : Addr) (c : Nat) (xs : List Int) (w : World) (hC : Caught w p0 p1 p2 a b x y z (some ad) c xs.length) (h1 : Bs w w.heap.size (some ad) xs) (hn : xs.length ≤ 1048576)
    (h0 : 0 < xs.length) (hx : In16 x) (hy : In16 y) (hh : hasB a b x y = false) :
    Calls Try.prog 52 #[.pointer (some ⟨p0, 0, none⟩), .pointer (some ⟨p1, 0, none⟩), .pointer (some ⟨p2, 0, none⟩)] w fun e w' => e = .panicked noSpotP ∧ Stays w w' := by
  have hst : Stays w (w.alloc (.cells #[.int .i64 0, .int .i64 0, .slice none 0 0] 28)) := by (repeat (first | exact Stays.refl _ | (with_reducible refine Stays.drewN ?_ _) | (with_reducible refine Stays.alloc ?_ _) | (with_reducible refine Stays.drew ?_) | (refine Stays.trans ?_ ‹Stays _ _›)))
  have kC := Lib.hid fun W (h : Stays w W) => c_clone a b ad c xs W ((h1.below h).more h.size) h0 hn
  have kA := Lib.hid fun A c' W => c_atPanic a b x y A c' xs.length W hx hy hh
  obtain ⟨⟨q0, q1, q2⟩, _⟩ := hC _ hst
  replace hC := Lib.hid hC
  replace hst := Lib.hid hst
  clear h1 hx hy hh h0
  go_enter Try.func52, Try.ntmps52
  go_wp2_with fail
  refine (kC.out _ hst.out).mono ?_
  rintro e w2 ⟨g, c', rfl, hb2, _, _, _⟩
  have hs2 : Stays w w2 := hst.out.trans hb2
  have hsw : Stays w2 (w2.alloc (.cells #[.int .i64 0, .int .i64 0, .slice none 0 0] 28)) := by (repeat (first | exact Stays.refl _ | (with_reducible refine Stays.drewN ?_ _) | (with_reducible refine Stays.alloc ?_ _) | (with_reducible refine Stays.drew ?_) | (refine Stays.trans ?_ ‹Stays _ _›)))
  have hres : (w2.alloc (.cells #[.int .i64 0, .int .i64 0, .slice none 0 0] 28)).heap[w2.heap.size]? = some (.cells #[.int .i64 0, .int .i64 0, .slice none 0 0] 28 (0, 0)) := heap_alloc_new w2 _
  replace hs2 := Lib.hid hs2
  clear hb2 q0 q1 q2
  go_wp2_with (refine wpList_store_row rfl _ _ _ rfl _ _ _ rfl rfl hres ?hi ?ho ?h1 ?hB hsw ?_; (case hi => kernel_rfl); (case ho => rfl); (case h1 => first | rfl | simp [Value.oneCell']); (case hB => first | omega | (simp <;> omega)); intro w3 hw3 hq3 hother hsame)
  have S3 := hs2.out.trans hw3
  have hbx : Hid (∀ W, Stays w3 W → W.heap[w2.heap.size]? = some (.cells #[.int .i64 a, .int .i64 b, .slice (some ⟨g, 0, none⟩) xs.length c'] 28 (0, 0))) := Lib.hid fun W h => (Below.block h _ (in_heap hq3)).trans hq3
  have G : Hid (∀ W, Stays w3 W → ((W.cell? ⟨w2.heap.size, 0, none⟩ = some (.int .i64 a) ∧ W.cell? ⟨w2.heap.size, 1, none⟩ = some (.int .i64 b) ∧ W.cell? ⟨w2.heap.size, 2, none⟩ = some (.slice (some ⟨g, 0, none⟩) xs.length c')) ∧ (W.cell? ⟨p1, 0, none⟩ = some (.int .u8 z) ∧ W.cell? ⟨p2, 0, none⟩ = some (.int .i16 x) ∧ W.cell? ⟨p2, 1, none⟩ = some (.int .i16 y)) ∧ Hid (Stays w3 W))) := Lib.hid fun W h => ⟨⟨cell_of_row _ _ _ _ _ _ (hbx.out W h), cell_of_row _ _ _ _ _ _ (hbx.out W h), cell_of_row _ _ _ _ _ _ (hbx.out W h)⟩, (hC.out _ (S3.trans h)).2, Lib.hid h⟩
  have h5 := Lib.hid (show Stays w3 w3.drew from (Stays.refl w3).drew)
  replace S3 := Lib.hid S3
  clear hq3 hother hsame hres hsw hbx
  obtain ⟨⟨x0, x1, x2⟩, ⟨z0, s0, s1⟩, _⟩ := G.out w3 (Stays.refl _)
  go_region_dies
  all_goals (try (go_wp2_with (go_at_call 54; refine (kA.out _ _ _).mono ?_; rintro e w5 ⟨rfl, hb⟩)))
  all_goals exact ⟨rfl, rfl, S3.out.trans (Stays.trans (by (repeat (first | exact Stays.refl _ | (with_reducible refine Stays.drewN ?_ _) | (with_reducible refine Stays.alloc ?_ _) | (with_reducible refine Stays.drew ?_) | (refine Stays.trans ?_ ‹Stays _ _›)))) hb)⟩

set_option maxRecDepth 100000 in
set_option maxHeartbeats 2000000 in
theorem c_implWithCost (A : Option Addr) (c : Nat) (a b x y z : Int) (xs : List Int) (w : World) (h1 : Bs w w.heap.size A xs) (hn : xs.length ≤ 1048576) (hx : In16 x) (hy : In16 y) :
    Calls Try.prog 15 #[.agg #[.int .i64 a, .int .i64 b, .slice A xs.length c], .agg #[.int .i16 x, .int .i16 y], .int .u8 z] w (GDone w (wcQ a b xs.length x y a) (wcQ a b xs.length x y b) (wcX a b xs x y z) (askC a b xs.length x y)) := by
  have hst : Stays w ((((w.alloc (.cells #[.int .i64 a, .int .i64 b, .slice A xs.length c] 28)).alloc (.cells #[.int .i16 x, .int .i16 y] 32)).alloc (.cells #[.int .u8 z] 5)).alloc (.cells #[.int .i64 0, .int .i64 0, .slice none 0 0] 28)) := by (repeat (first | exact Stays.refl _ | (with_reducible refine Stays.drewN ?_ _) | (with_reducible refine Stays.alloc ?_ _) | (with_reducible refine Stays.drew ?_) | (refine Stays.trans ?_ ‹Stays _ _›)))
  have u0 : ((((w.alloc (.cells #[.int .i64 a, .int .i64 b, .slice A xs.length c] 28)).alloc (.cells #[.int .i16 x, .int .i16 y] 32)).alloc (.cells #[.int .u8 z] 5)).alloc (.cells #[.int .i64 0, .int .i64 0, .slice none 0 0] 28)).heap[w.heap.size]? = some (.cells #[.int .i64 a, .int .i64 b, .slice A xs.length c] 28 (0, 0)) := by (repeat (first | (refine heap_top _ _ _ ?_; simp; done) | (with_reducible refine heap_drawn _ _ _ ?_) | (with_reducible refine heap_under _ _ _ ?_ ?_; (simp <;> omega))))
  have u1 : ((((w.alloc (.cells #[.int .i64 a, .int .i64 b, .slice A xs.length c] 28)).alloc (.cells #[.int .i16 x, .int .i16 y] 32)).alloc (.cells #[.int .u8 z] 5)).alloc (.cells #[.int .i64 0, .int .i64 0, .slice none 0 0] 28)).heap[w.heap.size + 1]? = some (.cells #[.int .i16 x, .int .i16 y] 32 (0, 0)) := by (repeat (first | (refine heap_top _ _ _ ?_; simp; done) | (with_reducible refine heap_drawn _ _ _ ?_) | (with_reducible refine heap_under _ _ _ ?_ ?_; (simp <;> omega))))
  have u2 : ((((w.alloc (.cells #[.int .i64 a, .int .i64 b, .slice A xs.length c] 28)).alloc (.cells #[.int .i16 x, .int .i16 y] 32)).alloc (.cells #[.int .u8 z] 5)).alloc (.cells #[.int .i64 0, .int .i64 0, .slice none 0 0] 28)).heap[w.heap.size + 1 + 1]? = some (.cells #[.int .u8 z] 5 (0, 0)) := by (repeat (first | (refine heap_top _ _ _ ?_; simp; done) | (with_reducible refine heap_drawn _ _ _ ?_) | (with_reducible refine heap_under _ _ _ ?_ ?_; (simp <;> omega))))
  have u3 : ((((w.alloc (.cells #[.int .i64 a, .int .i64 b, .slice A xs.length c] 28)).alloc (.cells #[.int .i16 x, .int .i16 y] 32)).alloc (.cells #[.int .u8 z] 5)).alloc (.cells #[.int .i64 0, .int .i64 0, .slice none 0 0] 28)).heap[w.heap.size + 1 + 1 + 1]? = some (.cells #[.int .i64 0, .int .i64 0, .slice none 0 0] 28 (0, 0)) := by (repeat (first | (refine heap_top _ _ _ ?_; simp; done) | (with_reducible refine heap_drawn _ _ _ ?_) | (with_reducible refine heap_under _ _ _ ?_ ?_; (simp <;> omega))))
  have hs4 : ((((w.alloc (.cells #[.int .i64 a, .int .i64 b, .slice A xs.length c] 28)).alloc (.cells #[.int .i16 x, .int .i16 y] 32)).alloc (.cells #[.int .u8 z] 5)).alloc (.cells #[.int .i64 0, .int .i64 0, .slice none 0 0] 28)).heap.size = w.heap.size + 1 + 1 + 1 + 1 := by simp
  have k0 := c_implValidGrid (.agg #[.int .i64 a, .int .i64 b, .slice A xs.length c]) a b xs ((((w.alloc (.cells #[.int .i64 a, .int .i64 b, .slice A xs.length c] 28)).alloc (.cells #[.int .i16 x, .int .i16 y] 32)).alloc (.cells #[.int .u8 z] 5)).alloc (.cells #[.int .i64 0, .int .i64 0, .slice none 0 0] 28)) ⟨A, c, rfl, (h1.below hst).more hst.size⟩ hn
  have HCt : ∀ W, Stays ((((w.alloc (.cells #[.int .i64 a, .int .i64 b, .slice A xs.length c] 28)).alloc (.cells #[.int .i16 x, .int .i16 y] 32)).alloc (.cells #[.int .u8 z] 5)).alloc (.cells #[.int .i64 0, .int .i64 0, .slice none 0 0] 28)) W → Caught W w.heap.size (w.heap.size + 1 + 1) (w.heap.size + 1) a b x y z A c xs.length := fun W hW V hV => ⟨⟨row_of (hW.trans hV) u0 0, row_of (hW.trans hV) u0 1, row_of (hW.trans hV) u0 2⟩, row_of (hW.trans hV) u2 0, row_of (hW.trans hV) u1 0, row_of (hW.trans hV) u1 1⟩
  have HR : Hid (∀ W, Stays ((((w.alloc (.cells #[.int .i64 a, .int .i64 b, .slice A xs.length c] 28)).alloc (.cells #[.int .i16 x, .int .i16 y] 32)).alloc (.cells #[.int .u8 z] 5)).alloc (.cells #[.int .i64 0, .int .i64 0, .slice none 0 0] 28)) W → W.heap[w.heap.size + 1 + 1 + 1]? = some (.cells #[.int .i64 0, .int .i64 0, .slice none 0 0] 28 (0, 0))) := Lib.hid fun W h => (Below.block h _ (in_heap u3)).trans u3
  have hB1 := fun W (h : Stays ((((w.alloc (.cells #[.int .i64 a, .int .i64 b, .slice A xs.length c] 28)).alloc (.cells #[.int .i16 x, .int .i16 y] 32)).alloc (.cells #[.int .u8 z] 5)).alloc (.cells #[.int .i64 0, .int .i64 0, .slice none 0 0] 28)) W) => (h1.below (hst.trans h)).more (hst.trans h).size
  have hM : ∃ f : Nat, True := ⟨0, trivial⟩
  -- what madeOrCode gives
  have kM : gridB a b xs.length = true → ∀ W, Stays ((((w.alloc (.cells #[.int .i64 a, .int .i64 b, .slice A xs.length c] 28)).alloc (.cells #[.int .i16 x, .int .i16 y] 32)).alloc (.cells #[.int .u8 z] 5)).alloc (.cells #[.int .i64 0, .int .i64 0, .slice none 0 0] 28)) W → Calls Try.prog 51 #[.func (Fn.func 52) #[] #[.pointer (some ⟨w.heap.size, 0, none⟩), .pointer (some ⟨w.heap.size + 1 + 1, 0, none⟩), .pointer (some ⟨w.heap.size + 1, 0, none⟩)]] W (GDone W (wcQ a b xs.length x y a) (wcQ a b xs.length x y b) (wcX a b xs x y z) (askC a b xs.length x y)) := by
    intro hg W hW
    obtain ⟨ha, hb, hne⟩ := gridB_iff.1 hg
    have bdp := prod_bd ha hb
    have h0 : 0 < xs.length := by omega
    obtain ⟨ad, rfl, _, _⟩ := h1.at_ (List.getElem?_eq_getElem h0)
    unfold wcQ wcX
    cases hh : hasB a b x y with
    | false =>
      have e1 : askC a b xs.length x y = 2 := by unfold askC; rw [hg, hh]; rfl
      rw [e1]
      exact c_madeGP _ W fun V hV => c_wc1P w.heap.size (w.heap.size + 1 + 1) (w.heap.size + 1) a b x y z ad c xs V (HCt V (hW.trans hV)) (hB1 V (hW.trans hV)) hn h0 hx hy hh
    | true =>
      have e1 : askC a b xs.length x y = 0 := by unfold askC; rw [hg, hh]; rfl
      rw [e1]
      obtain ⟨hx1, hy1⟩ := hasB_iff.1 hh
      have bd := idx_bd ha hb hx1 hy1
      exact c_madeG a b _ _ W fun V hV => c_wc1 w.heap.size (w.heap.size + 1 + 1) (w.heap.size + 1) a b x y z ad c (y * a + x).toNat xs V (HCt V (hW.trans hV)) (hB1 V (hW.trans hV)) hn hg hh (by omega)
  have hbad : gridB a b xs.length = false → askC a b xs.length x y = 1 := fun h => by unfold askC; rw [h]; rfl
  have hQ0 : gridB a b xs.length = false → wcQ a b xs.length x y a = 0 ∧ wcQ a b xs.length x y b = 0 ∧ wcX a b xs x y z = [] := fun h => by unfold wcQ wcX; rw [hbad h]; exact ⟨rfl, rfl, rfl⟩
  obtain ⟨⟨q0, q1, q2⟩, _⟩ := HCt _ (Stays.refl _) _ (Stays.refl _)
  clear hM u0 u1 u2 u3 HCt hB1 h1 hx hy
  generalize wcQ a b xs.length x y a = RA at *
  generalize wcQ a b xs.length x y b = RB at *
  generalize wcX a b xs x y z = RX at *
  generalize askC a b xs.length x y = code at *
  replace hs4 := Lib.hid hs4
  generalize gridB a b xs.length = gB at *
  cases gB with
  | false =>
    obtain ⟨rfl, rfl, rfl⟩ := hQ0 rfl
    have hc1 := hbad rfl
    subst hc1
    clear kM hbad hQ0
    replace k0 := Lib.hid k0
    replace hst := Lib.hid hst
    go_enter Try.func15, Try.ntmps15
    go_wp2_with fail
    refine k0.out.mono ?_
    rintro e w1 ⟨rfl, hw1⟩
    have hres := HR.out w1 hw1
    have hst1 : Stays w w1 := hst.out.trans hw1
    go_wp2_with (refine wpList_store_row rfl _ _ _ rfl _ _ _ rfl rfl hres ?hi ?ho ?h1 ?hB hst1 ?_; (case hi => kernel_rfl); (case ho => rfl); (case h1 => first | rfl | simp [Value.oneCell']); (case hB => first | omega | (simp <;> omega)); intro w2 hw2 hq2 _ _)
    apply end_gd rfl rfl rfl Try.underlying28 rfl (t := 28)
    case hg => exact hq2
    case hi => kernel_rfl
    case hR => exact ⟨w.heap.size + 1 + 1 + 1, none, 0, rfl, hw2, ⟨by omega, in_heap hq2⟩, lies_nil _ _⟩
  | true =>
    replace kM := Lib.hid (kM rfl)
    clear hbad hQ0
    replace k0 := Lib.hid k0
    replace hst := Lib.hid hst
    go_enter Try.func15, Try.ntmps15
    go_wp2_with fail
    refine k0.out.mono ?_
    rintro e w1 ⟨rfl, hw1⟩
    replace hw1 := Lib.hid (show Stays ((((w.alloc (.cells #[.int .i64 a, .int .i64 b, .slice A xs.length c] 28)).alloc (.cells #[.int .i16 x, .int .i16 y] 32)).alloc (.cells #[.int .u8 z] 5)).alloc (.cells #[.int .i64 0, .int .i64 0, .slice none 0 0] 28)) w1 from hw1)
    go_wp2_with fail
    refine (kM.out _ hw1.out).mono ?_
    rintro e w2 ⟨g, A2, c2, rfl, hb2, ⟨hge, hgl⟩, hL⟩
    have hs2 := hw1.out.trans hb2
    have hres := HR.out w2 hs2
    have hst2 : Stays w w2 := hst.out.trans hs2
    have hgr : w.heap.size + 1 + 1 + 1 + 1 ≤ g := by have := hw1.out.size; rw [hs4.out] at this; omega
    replace hL := Lib.hid hL
    replace hgl := Lib.hid hgl
    replace hgr := Lib.hid hgr
    clear hb2 hge hs2
    go_wp2_with (refine wpList_store_row rfl _ _ _ rfl _ _ _ rfl rfl hres ?hi ?ho ?h1 ?hB hst2 ?_; (case hi => kernel_rfl); (case ho => rfl); (case h1 => first | rfl | simp [Value.oneCell']); (case hB => first | omega | (simp <;> omega)); intro w6 hw6 hq6 hother hsame)
    apply end_gd rfl rfl rfl Try.underlying28 rfl (t := 28)
    case hg => exact hq6
    case hi => kernel_rfl
    case hR =>
      have hg1 := hgl.out
      have hg2 := hgr.out
      have hb := hother g hg1 (by omega)
      exact ⟨g, A2, c2, rfl, hw6, ⟨by omega, by omega⟩, LiesR.on hL.out fun _ => block_same hb (by omega)⟩
end Go.Proofs.Yteidjmliepmlmaa
