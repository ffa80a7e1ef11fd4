/- A grid with another cost, as the document makes it. No condition. -/
import Derived.Test.YteidjmliepmlmaaWb
import Derived.Test.YteidjmliepmlmaaGeB
namespace Go.Proofs.Yteidjmliepmlmaa
open Go Go.RowKit
set_option linter.unusedVariables false
set_option linter.unusedSimpArgs false

theorem LiesB.set {w : World} {g c i : Nat} {xs : List Int} (h : LiesB w g (.slice (some ⟨g, 0, none⟩) xs.length c) xs) (hi : i < xs.length) (z : Int) : LiesB (w.setCell ⟨g, i, none⟩ (.int .u8 z)) g (.slice (some ⟨g, 0, none⟩) (xs.set i z).length c) (xs.set i z) := by
  have hx : xs ≠ [] := fun e => by rw [e] at hi; simp at hi
  obtain ⟨A', c', e, h⟩ := h
  obtain ⟨_, hlt, hth, hrow⟩ := h hx
  have hth' : w.there g 0 xs.length := by rw [Nat.mul_one] at hth; exact hth
  refine ⟨some ⟨g, 0, none⟩, c, rfl, fun _ => ⟨rfl, ?_, ?_, fun j r hr => ?_⟩⟩
  · simp [World.setCell]; exact hlt
  · rw [List.length_set, Nat.mul_one]
    exact World.there_setCells hth' g i [_]
  · by_cases ej : j = i
    · subst ej
      rw [List.getElem?_set_self hi] at hr
      cases hr
      refine ⟨[.int .u8 z], ⟨rfl, trivial⟩, ?_⟩
      rw [Nat.mul_one]
      exact World.rangeAt_setCells_same w g j [.int .u8 z] (there_part hth' _ _ (by show j + 1 ≤ _; omega))
    · rw [List.getElem?_set_ne (fun e => ej e.symm)] at hr
      obtain ⟨cs, hk, hat⟩ := hrow j r hr
      refine ⟨cs, hk, ?_⟩
      have hl : cs.length = 1 := KMs_len hk
      rw [Nat.mul_one] at hat ⊢
      exact World.rangeAt_setCells_apart hat g i [_] (by
        rcases Nat.lt_or_ge j i with h | h
        · exact Or.inr (Or.inl (by rw [hl]; omega))
        · exact Or.inr (Or.inr (by show i + 1 ≤ j; omega)))

def wcQ (a b : Int) (n : Nat) (x y q : Int) : Int := if askC a b n x y = 0 then q else 0
def wcX (a b : Int) (xs : List Int) (x y z : Int) : List Int := if askC a b xs.length x y = 0 then xs.set (y * a + x).toNat z else []

theorem ask_good {a b x y : Int} {n : Nat} (h : askC a b n x y = 0) : gridB a b n = true ∧ hasB a b x y = true := by
  unfold askC at h
  cases h1 : gridB a b n
  · rw [h1] at h; cases h
  · rw [h1, if_pos rfl] at h
    cases h2 : hasB a b x y
    · rw [h2] at h; cases h
    · exact ⟨rfl, rfl⟩

set_option maxRecDepth 100000 in
set_option maxHeartbeats 2000000 in
theorem c_specWithCost (v : Value) (a b x y z : Int) (xs : List Int) (w : World) (h : GdV w w.heap.size v a b xs) (hn : xs.length ≤ 1048576) (hx : In16 x) (hy : In16 y) :
    Calls Try.prog 12 #[v, .agg #[.int .i16 x, .int .i16 y], .int .u8 z] w (GDone w (wcQ a b xs.length x y a) (wcQ a b xs.length x y b) (wcX a b xs x y z) (askC a b xs.length x y)) := by
  obtain ⟨A, c, rfl, h1⟩ := h.val
  have hst : Stays w ((((w.alloc (.cells #[.int .i64 a, .int .i64 b, .slice A xs.length c] 28)).alloc (.cells #[.int .i16 x, .int .i16 y] 32)).alloc (.cells #[.int .i64 0, .int .i64 0, .slice none 0 0] 28)).alloc (.cells #[.int .i16 x, .int .i16 y] 32)) := by (repeat (first | exact Stays.refl _ | (with_reducible refine Stays.drewN ?_ _) | (with_reducible refine Stays.alloc ?_ _) | (with_reducible refine Stays.drew ?_) | (refine Stays.trans ?_ ‹Stays _ _›)))
  have u0 : ((((w.alloc (.cells #[.int .i64 a, .int .i64 b, .slice A xs.length c] 28)).alloc (.cells #[.int .i16 x, .int .i16 y] 32)).alloc (.cells #[.int .i64 0, .int .i64 0, .slice none 0 0] 28)).alloc (.cells #[.int .i16 x, .int .i16 y] 32)).heap[w.heap.size]? = some (.cells #[.int .i64 a, .int .i64 b, .slice A xs.length c] 28 (0, 0)) := by (repeat (first | (refine heap_top _ _ _ ?_; simp; done) | (with_reducible refine heap_drawn _ _ _ ?_) | (with_reducible refine heap_under _ _ _ ?_ ?_; (simp <;> omega))))
  have u1 : ((((w.alloc (.cells #[.int .i64 a, .int .i64 b, .slice A xs.length c] 28)).alloc (.cells #[.int .i16 x, .int .i16 y] 32)).alloc (.cells #[.int .i64 0, .int .i64 0, .slice none 0 0] 28)).alloc (.cells #[.int .i16 x, .int .i16 y] 32)).heap[w.heap.size + 1]? = some (.cells #[.int .i16 x, .int .i16 y] 32 (0, 0)) := by (repeat (first | (refine heap_top _ _ _ ?_; simp; done) | (with_reducible refine heap_drawn _ _ _ ?_) | (with_reducible refine heap_under _ _ _ ?_ ?_; (simp <;> omega))))
  have u2 : ((((w.alloc (.cells #[.int .i64 a, .int .i64 b, .slice A xs.length c] 28)).alloc (.cells #[.int .i16 x, .int .i16 y] 32)).alloc (.cells #[.int .i64 0, .int .i64 0, .slice none 0 0] 28)).alloc (.cells #[.int .i16 x, .int .i16 y] 32)).heap[w.heap.size + 1 + 1]? = some (.cells #[.int .i64 0, .int .i64 0, .slice none 0 0] 28 (0, 0)) := by (repeat (first | (refine heap_top _ _ _ ?_; simp; done) | (with_reducible refine heap_drawn _ _ _ ?_) | (with_reducible refine heap_under _ _ _ ?_ ?_; (simp <;> omega))))
  have u3 : ((((w.alloc (.cells #[.int .i64 a, .int .i64 b, .slice A xs.length c] 28)).alloc (.cells #[.int .i16 x, .int .i16 y] 32)).alloc (.cells #[.int .i64 0, .int .i64 0, .slice none 0 0] 28)).alloc (.cells #[.int .i16 x, .int .i16 y] 32)).heap[w.heap.size + 1 + 1 + 1]? = some (.cells #[.int .i16 x, .int .i16 y] 32 (0, 0)) := by (repeat (first | (refine heap_top _ _ _ ?_; simp; done) | (with_reducible refine heap_drawn _ _ _ ?_) | (with_reducible refine heap_under _ _ _ ?_ ?_; (simp <;> omega))))
  have k0 := c_asked1 w.heap.size (w.heap.size + 1 + 1 + 1) a b x y A c xs.length _ u0 hn hx hy fun w1 h => ⟨row_of h u3 0, row_of h u3 1⟩
  have HG := grid_at u0
  have HC : Hid (∀ w1, Stays ((((w.alloc (.cells #[.int .i64 a, .int .i64 b, .slice A xs.length c] 28)).alloc (.cells #[.int .i16 x, .int .i16 y] 32)).alloc (.cells #[.int .i64 0, .int .i64 0, .slice none 0 0] 28)).alloc (.cells #[.int .i16 x, .int .i16 y] 32)) w1 → w1.cell? ⟨w.heap.size + 1, 0, none⟩ = some (.int .i16 x) ∧ w1.cell? ⟨w.heap.size + 1, 1, none⟩ = some (.int .i16 y)) := Lib.hid fun w1 h => ⟨row_of h u1 0, row_of h u1 1⟩
  have HR : Hid (∀ w1, Stays ((((w.alloc (.cells #[.int .i64 a, .int .i64 b, .slice A xs.length c] 28)).alloc (.cells #[.int .i16 x, .int .i16 y] 32)).alloc (.cells #[.int .i64 0, .int .i64 0, .slice none 0 0] 28)).alloc (.cells #[.int .i16 x, .int .i16 y] 32)) w1 → w1.heap[w.heap.size + 1 + 1]? = some (.cells #[.int .i64 0, .int .i64 0, .slice none 0 0] 28 (0, 0))) := Lib.hid fun w1 h => (Below.block h _ (in_heap u2)).trans u2
  have hs4 : Hid (((((w.alloc (.cells #[.int .i64 a, .int .i64 b, .slice A xs.length c] 28)).alloc (.cells #[.int .i16 x, .int .i16 y] 32)).alloc (.cells #[.int .i64 0, .int .i64 0, .slice none 0 0] 28)).alloc (.cells #[.int .i16 x, .int .i16 y] 32)).heap.size = w.heap.size + 1 + 1 + 1 + 1) := Lib.hid (by simp)
  unfold wcQ wcX
  by_cases hz : askC a b xs.length x y = 0
  · obtain ⟨hg, hh⟩ := ask_good hz
    rw [hz] at k0 ⊢
    simp only [if_true]
    obtain ⟨ha, hb, hne⟩ := gridB_iff.1 hg
    obtain ⟨hx1, hy1⟩ := hasB_iff.1 hh
    have bd := idx_bd ha hb hx1 hy1
    rw [Int.mul_comm b a] at bd
    have kI := fun W (h : Stays ((((w.alloc (.cells #[.int .i64 a, .int .i64 b, .slice A xs.length c] 28)).alloc (.cells #[.int .i16 x, .int .i16 y] 32)).alloc (.cells #[.int .i64 0, .int .i64 0, .slice none 0 0] 28)).alloc (.cells #[.int .i16 x, .int .i16 y] 32)) W) => c_l07Index w.heap.size a b x y A c xs.length W (HG.on h) ha hb hx1 hy1
    obtain ⟨i, hi⟩ : ∃ i : Nat, y * a + x = i := ⟨(y * a + x).toNat, by omega⟩
    have hil : i < xs.length := by omega
    have h0 : 0 < xs.length := by omega
    rw [hi] at kI ⊢
    have hii : ((i : Int)).toNat = i := by omega
    rw [hii]
    have kC := fun W (h : Stays ((((w.alloc (.cells #[.int .i64 a, .int .i64 b, .slice A xs.length c] 28)).alloc (.cells #[.int .i16 x, .int .i16 y] 32)).alloc (.cells #[.int .i64 0, .int .i64 0, .slice none 0 0] 28)).alloc (.cells #[.int .i16 x, .int .i16 y] 32)) W) => c_l07Copy w.heap.size a b A c xs W (HG.on h) ((h1.below (hst.trans h)).more (hst.trans h).size) h0 hn
    have hil' : (i : Int) < (xs.length : Int) := by omega
    replace k0 := Lib.hid k0
    replace kI := Lib.hid kI
    replace kC := Lib.hid kC
    replace hst := Lib.hid hst
    clear HG h1 h u0 u1 u2 u3 hz hg hh ha hb hne hx1 hy1 bd hi hii hx hy h0
    go_enter Try.func12, Try.ntmps12
    go_wp2_with fail
    refine k0.out.mono ?_
    rintro e w1 ⟨rfl, hw1⟩
    replace hw1 := Lib.hid hw1
    go_wp2_with fail
    refine (kC.out w1 hw1.out).mono ?_
    rintro e w2 ⟨g, c', rfl, hb2, ⟨hge, hgl⟩, hL, hcap⟩
    have hs2 : Stays ((((w.alloc (.cells #[.int .i64 a, .int .i64 b, .slice A xs.length c] 28)).alloc (.cells #[.int .i16 x, .int .i16 y] 32)).alloc (.cells #[.int .i64 0, .int .i64 0, .slice none 0 0] 28)).alloc (.cells #[.int .i16 x, .int .i16 y] 32)) w2 := hw1.out.trans hb2
    have hgr : w.heap.size + 1 + 1 + 1 + 1 ≤ g := by have := hw1.out.size; rw [hs4.out] at this; omega
    have hst3 : Stays w (w2.alloc (.cells #[.int .i64 0, .int .i64 0, .slice none 0 0] 28)) := (hst.out.trans hs2).trans (by (repeat (first | exact Stays.refl _ | (with_reducible refine Stays.drewN ?_ _) | (with_reducible refine Stays.alloc ?_ _) | (with_reducible refine Stays.drew ?_) | (refine Stays.trans ?_ ‹Stays _ _›))))
    have hst3' : Stays ((((w.alloc (.cells #[.int .i64 a, .int .i64 b, .slice A xs.length c] 28)).alloc (.cells #[.int .i16 x, .int .i16 y] 32)).alloc (.cells #[.int .i64 0, .int .i64 0, .slice none 0 0] 28)).alloc (.cells #[.int .i16 x, .int .i16 y] 32)) (w2.alloc (.cells #[.int .i64 0, .int .i64 0, .slice none 0 0] 28)) := hs2.trans (by (repeat (first | exact Stays.refl _ | (with_reducible refine Stays.drewN ?_ _) | (with_reducible refine Stays.alloc ?_ _) | (with_reducible refine Stays.drew ?_) | (refine Stays.trans ?_ ‹Stays _ _›))))
    have hsw : Stays w2 (w2.alloc (.cells #[.int .i64 0, .int .i64 0, .slice none 0 0] 28)) := by (repeat (first | exact Stays.refl _ | (with_reducible refine Stays.drewN ?_ _) | (with_reducible refine Stays.alloc ?_ _) | (with_reducible refine Stays.drew ?_) | (refine Stays.trans ?_ ‹Stays _ _›)))
    have hres : (w2.alloc (.cells #[.int .i64 0, .int .i64 0, .slice none 0 0] 28)).heap[w2.heap.size]? = some (.cells #[.int .i64 0, .int .i64 0, .slice none 0 0] 28 (0, 0)) := heap_alloc_new w2 _
    replace hL := Lib.hid hL
    replace hcap := Lib.hid hcap
    replace hgl := Lib.hid hgl
    replace hgr := Lib.hid hgr
    have hsz2 := Lib.hid hs2.size
    replace hs2 := Lib.hid hs2
    replace hst3 := Lib.hid hst3
    replace hst3' := Lib.hid hst3'
    clear hb2 hge
    go_wp2_with (refine wpList_store_row rfl _ _ _ rfl _ _ _ rfl rfl hres ?hi ?ho ?h1 ?hB hsw ?_; (case hi => kernel_rfl); (case ho => rfl); (case h1 => first | rfl | simp [Value.oneCell']); (case hB => first | omega | (simp <;> omega)); intro w3 hw3 hq3 hother hsame)
    have S3 := hs2.out.trans hw3
    have hL3 := Lib.hid (LiesR.below hL.out hw3)
    have hbx : Hid (∀ W, Stays w3 W → W.heap[w2.heap.size]? = some (.cells #[.int .i64 a, .int .i64 b, .slice (some ⟨g, 0, none⟩) xs.length c'] 28 (0, 0))) := Lib.hid fun W h => (Below.block h _ (in_heap hq3)).trans hq3
    have hcells : ∀ W, Stays w3 W → W.cell? ⟨w2.heap.size, 2, none⟩ = some (.slice (some ⟨g, 0, none⟩) xs.length c') ∧ W.cell? ⟨w.heap.size + 1, 0, none⟩ = some (.int .i16 x) ∧ W.cell? ⟨w.heap.size + 1, 1, none⟩ = some (.int .i16 y) := fun W h => ⟨cell_of_row _ _ _ _ _ _ (hbx.out W h), HC.out _ (S3.trans h)⟩
    have kI3 := Lib.hid fun W (h : Stays w3 W) => kI.out W (S3.trans h)
    replace S3 := Lib.hid S3
    replace hw3 := Lib.hid hw3
    clear hq3 hother hsame hres hsw
    refine wp_region_soft_tail 6 (Stays.refl _) (oneS 48 #[.pointer (some ⟨w.heap.size, 0, none⟩), .agg #[.int .i16 x, .int .i16 y]] (fun v => v = .int .i64 i)) [] (by kernel_rfl) (by kernel_rfl) (fun _ h => by cases h) ?_
    simp only [List.take_succ_cons, List.take_zero, List.drop_succ_cons, List.drop_zero]
    repeat ((with_reducible apply soft_detG); (case hwa => rfl); (case hA => rfl); (case h => (intro w1 hw1; have hc := hcells w1 hw1; go_simp; exact rfl)); go_simp)
    refine soft_callO (by rfl) rfl ?h (fun w2 h2 => (kI3.out w2 h2).mono fun e w' ⟨h1, h2⟩ => ⟨_, h1, rfl, h2⟩) ?_
    case h => (intro w2 hw2; have hc := hcells w2 hw2; go_simp; try exact ⟨rfl, rfl⟩)
    rintro v rfl
    go_simp
    repeat ((with_reducible apply soft_detG); (case hwa => rfl); (case hA => rfl); (case h => (intro w1 hw1; have hc := hcells w1 hw1; go_simp; exact rfl)); go_simp)
    refine soft_nil ?_
    rintro w4 ⟨hw4, _⟩
    have hL4 := LiesR.below hL3.out hw4
    have hth := LiesB.there hL4
    obtain ⟨v0, hv0⟩ := Option.isSome_iff_exists.1 ((there_part hth i 1 (by omega)) 0 (by omega)).1
    have hf0 := ((there_part hth i 1 (by omega)) 0 (by omega)).2
    rw [Nat.add_zero] at hv0 hf0
    have hgl' := hgl.out
    have hgr' := hgr.out
    have hS4 := S3.out.trans hw4
    have hwx := (hst.out.trans hS4)
    have e1 := (heap_setCell_other w4 ⟨g, i, none⟩ w2.heap.size (.int .u8 z) (by show w2.heap.size ≠ g; omega)).trans (hbx.out w4 hw4)
    have hres := (heap_setCell_other w4 ⟨g, i, none⟩ (w.heap.size + 1 + 1) (.int .u8 z) (by show w.heap.size + 1 + 1 ≠ g; omega)).trans (HR.out w4 hS4)
    have x0 : (w4.setCell ⟨g, i, none⟩ (.int .u8 z)).cell? ⟨w2.heap.size, 0, none⟩ = some (.int .i64 a) := cell_of_row _ _ _ _ _ _ e1
    have x1 : (w4.setCell ⟨g, i, none⟩ (.int .u8 z)).cell? ⟨w2.heap.size, 1, none⟩ = some (.int .i64 b) := cell_of_row _ _ _ _ _ _ e1
    have x2 : (w4.setCell ⟨g, i, none⟩ (.int .u8 z)).cell? ⟨w2.heap.size, 2, none⟩ = some (.slice (some ⟨g, 0, none⟩) xs.length c') := cell_of_row _ _ _ _ _ _ e1
    have hst5 : Stays w (w4.setCell ⟨g, i, none⟩ (.int .u8 z)) := Below.setCell hwx (by show w.heap.size ≤ g; omega) _
    have hL5 := Lib.hid (LiesB.set hL4 hil z)
    have hne := Lib.hid (show g ≠ w.heap.size + 1 + 1 ∧ w.heap.size ≤ g from ⟨by omega, by omega⟩)
    have hlt5 := Lib.hid (show g < (w4.setCell ⟨g, i, none⟩ (.int .u8 z)).heap.size from by
      have := hw4.size
      have := hw3.out.size
      simp [World.setCell]
      omega)
    clear e1 hwx hS4 hgl' hgr' hth hL4 hcells hw4 hL3 hL hgl hgr hsz2 hs2 hst3 hst3' S3 hw3 hbx HC HR
    go_wp2_with (refine wpList_store_row rfl _ _ _ rfl _ _ _ rfl rfl hres ?hi ?ho ?h1 ?hB hst5 ?_; (case hi => kernel_rfl); (case ho => rfl); (case h1 => first | rfl | simp [Value.oneCell']); (case hB => first | omega | (simp <;> omega)); intro w6 hw6 hq6 hother hsame)
    apply end_gd rfl rfl rfl Try.underlying28 rfl (t := 28)
    case hg => exact hq6
    case hi => kernel_rfl
    case hR =>
      have hb := hother g hlt5.out hne.out.1
      have hlt := hlt5.out
      exact ⟨g, some ⟨g, 0, none⟩, c', by rw [List.length_set]; rfl, hw6, ⟨hne.out.2, by omega⟩, LiesR.on hL5.out fun _ => block_same hb (by omega)⟩
  · rw [if_neg hz, if_neg hz, if_neg hz]
    generalize askC a b xs.length x y = code at *
    have hz' : (code == 0) = false := by simpa using hz
    have hz2 : (code != 0) = true := by rw [bne, hz']; rfl
    replace k0 := Lib.hid k0
    replace hst := Lib.hid hst
    clear HG h1 h u0 u1 u2 u3 HC hx hy
    go_enter Try.func12, Try.ntmps12
    go_wp2_with fail
    refine k0.out.mono ?_
    rintro e w1 ⟨rfl, hw1⟩
    have hres := HR.out w1 hw1
    have hst1 : Stays w w1 := hst.out.trans hw1
    go_wp2_with (refine wpList_store_row rfl _ _ _ rfl _ _ _ rfl rfl hres ?hi ?ho ?h1 ?hB hst1 ?_; (case hi => kernel_rfl); (case ho => rfl); (case h1 => first | rfl | simp [Value.oneCell']); (case hB => first | omega | (simp <;> omega)); intro w2 hw2 hq2 _ _)
    apply end_gd rfl rfl rfl Try.underlying28 rfl (t := 28)
    case hg => exact hq2
    case hi => kernel_rfl
    case hR => exact ⟨w.heap.size + 1 + 1, none, 0, rfl, hw2, ⟨by omega, in_heap hq2⟩, lies_nil _ _⟩
end Go.Proofs.Yteidjmliepmlmaa
