/- Curves: two lists of numbers in a struct: counted, copied, compared, opened. No condition. -/
import Derived.Test.YtmcbeaihjdnelaaFl
namespace Go.Proofs.Ytmcbeaihjdnelaa
open Go Go.RowKit
set_option linter.unusedVariables false
set_option linter.unusedSimpArgs false

theorem c_szCurve (A A' : Option Addr) (c c' n m : Nat) (left : Int) (w : World) (hn : n ≤ 9223372036854775807) (hm : m ≤ 9223372036854775807) (h0 : 0 ≤ left) (h1 : left ≤ 1048576) :
    Calls Try.prog 28 #[.agg #[.slice A n c, .slice A' m c'], .int .i64 left] w fun e w' => e = .returned (.int .i64 (if left - n - m < 0 then -1 else left - n - m)) ∧ Below w.heap.size w w' := by
  have k1 := fun W => c_szFloat32S A c n left W hn h0 h1
  by_cases hl : left - (n : Int) < 0
  · have e1 : (if left - (n : Int) - (m : Int) < 0 then (-1 : Int) else left - n - m) = -1 := if_pos (by omega)
    rw [e1]
    simp only [if_pos hl] at k1
    have k1 := Lib.hid k1
    go_enter Try.func28, Try.ntmps28
    go_wp2_with (go_at_call 76; with_reducible refine (k1.out _).mono ?_; rintro e w' ⟨rfl, rfl⟩)
    go_ret
    exact ⟨rfl, by first | exact Below.refl _ _ | exact (Below.refl _ _).alloc (Nat.le_refl _) _⟩
  · simp only [if_neg hl] at k1
    have k2 := fun W => c_szFloat32S A' c' m (left - n) W hm (by omega) (by omega)
    have hX : (if left - (n : Int) - (m : Int) < 0 then (-1 : Int) else left - n - m) = -1 ∨ 0 ≤ (if left - (n : Int) - (m : Int) < 0 then (-1 : Int) else left - n - m) := by split <;> omega
    generalize (if left - (n : Int) - (m : Int) < 0 then (-1 : Int) else left - n - m) = X at k2 hX ⊢
    generalize left - (n : Int) = L at hl k1 k2
    have k1 := Lib.hid k1
    have k2 := Lib.hid k2
    rcases hX with rfl | hX
    all_goals
      go_enter Try.func28, Try.ntmps28
      go_wp2_with (first | (go_at_call 76; with_reducible refine (k1.out _).mono ?_; rintro e w' ⟨rfl, rfl⟩) | (go_at_call 76; with_reducible refine (k2.out _).mono ?_; rintro e w' ⟨rfl, rfl⟩))
      go_ret
      exact ⟨rfl, by first | exact Below.refl _ _ | exact (Below.refl _ _).alloc (Nat.le_refl _) _⟩

/-- A graph as a value: two lists that lie in memory. -/
structure CuV (w : World) (B : Nat) (v : Value) (ps ls : List (List NV)) : Prop where
  val : ∃ A c A' c', v = .agg #[.slice A ps.length c, .slice A' ls.length c'] ∧ Ls KFl 1 w B A ps ∧ Ls KFl 1 w B A' ls

theorem CuV.below {w w' : World} {B : Nat} {v : Value} {ps ls : List (List NV)} (h : CuV w B v ps ls) (hb : Below B w w') : CuV w' B v ps ls := by
  obtain ⟨A, c, A', c', e, h1, h2⟩ := h.val
  exact ⟨A, c, A', c', e, h1.below hb, h2.below hb⟩

theorem CuV.more {w : World} {B B' : Nat} {v : Value} {ps ls : List (List NV)} (h : CuV w B v ps ls) (hB : B ≤ B') : CuV w B' v ps ls := by
  obtain ⟨A, c, A', c', e, h1, h2⟩ := h.val
  exact ⟨A, c, A', c', e, h1.more hB, h2.more hB⟩

theorem CuV.on {w w' : World} {v : Value} {ps ls : List (List NV)} (h : CuV w w.heap.size v ps ls) (hb : Below w.heap.size w w') : CuV w' w'.heap.size v ps ls := (h.below hb).more hb.size

set_option maxRecDepth 100000 in
set_option maxHeartbeats 800000 in
theorem c_eqCurve (v v' : Value) (ps ls : List (List NV)) (w : World) (h : CuV w w.heap.size v ps ls) (h' : CuV w w.heap.size v' ps ls) (hn : ps.length ≤ 1048576) (hm : ls.length ≤ 1048576) :
    Calls Try.prog 33 #[v, v'] w fun e w' => e = .returned (.bool true) ∧ Below w.heap.size w w' := by
  obtain ⟨A, c, A', c', rfl, h1, h2⟩ := h.val
  obtain ⟨D, d, D', d', rfl, h3, h4⟩ := h'.val
  have u0 : ((w.alloc (.cells #[.slice A ps.length c, .slice A' ls.length c'] 67)).alloc (.cells #[.slice D ps.length d, .slice D' ls.length d'] 67)).heap[w.heap.size]? = some (.cells #[.slice A ps.length c, .slice A' ls.length c'] 67 (0, 0)) := by (repeat (first | (refine heap_top _ _ _ ?_; simp; done) | (with_reducible refine heap_drawn _ _ _ ?_) | (with_reducible refine heap_under _ _ _ ?_ ?_; (simp <;> omega))))
  have u1 : ((w.alloc (.cells #[.slice A ps.length c, .slice A' ls.length c'] 67)).alloc (.cells #[.slice D ps.length d, .slice D' ls.length d'] 67)).heap[w.heap.size + 1]? = some (.cells #[.slice D ps.length d, .slice D' ls.length d'] 67 (0, 0)) := by (repeat (first | (refine heap_top _ _ _ ?_; simp; done) | (with_reducible refine heap_drawn _ _ _ ?_) | (with_reducible refine heap_under _ _ _ ?_ ?_; (simp <;> omega))))
  have hA := Lib.hid fun w1 (h : Stays ((w.alloc (.cells #[.slice A ps.length c, .slice A' ls.length c'] 67)).alloc (.cells #[.slice D ps.length d, .slice D' ls.length d'] 67)) w1) => row_of h u0
  have hA' := Lib.hid fun w1 (h : Stays ((w.alloc (.cells #[.slice A ps.length c, .slice A' ls.length c'] 67)).alloc (.cells #[.slice D ps.length d, .slice D' ls.length d'] 67)) w1) => row_of h u1
  clear u0 u1
  have hS : Stays ((w.alloc (.cells #[.slice A ps.length c, .slice A' ls.length c'] 67)).alloc (.cells #[.slice D ps.length d, .slice D' ls.length d'] 67)) ((w.alloc (.cells #[.slice A ps.length c, .slice A' ls.length c'] 67)).alloc (.cells #[.slice D ps.length d, .slice D' ls.length d'] 67)) := Stays.refl _
  have hW : Hid (∀ w1, Stays ((w.alloc (.cells #[.slice A ps.length c, .slice A' ls.length c'] 67)).alloc (.cells #[.slice D ps.length d, .slice D' ls.length d'] 67)) w1 → Below w.heap.size w w1) := Lib.hid fun w1 h => Stays.trans (show Stays w _ from (Stays.alloc (Stays.alloc (Stays.refl w) _) _)) h
  have k1 := Lib.hid fun W (hb : Below w.heap.size w W) => c_eqFloat32S A D c d ps W ((h1.below hb).more hb.size) ((h3.below hb).more hb.size) hn
  have k2 := Lib.hid fun W (hb : Below w.heap.size w W) => c_eqFloat32S A' D' c' d' ls W ((h2.below hb).more hb.size) ((h4.below hb).more hb.size) hm
  clear h1 h2 h3 h4 h h'
  go_enter Try.func33, Try.ntmps33
  go_wp2_with fail
  refine (k1.out _ (hW.out _ hS)).mono ?_
  rintro e w1 ⟨rfl, hw1⟩
  replace hS := Stays.trans hS hw1
  clear hw1
  have hc := hA.out _ hS
  have hc' := hA'.out _ hS
  go_wp2_with fail
  refine (k2.out _ (hW.out _ hS)).mono ?_
  rintro e w2 ⟨rfl, hw1⟩
  replace hS := Stays.trans hS hw1
  clear hw1
  go_wp2
  go_ret
  exact ⟨rfl, hW.out _ hS⟩

theorem Same.of_block {w w' : World} {g : Nat} (h : w'.heap[g]? = w.heap[g]?) (hs : w.heap.size ≤ w'.heap.size) : Same w w' g :=
  ⟨fun p hp => by subst hp; unfold World.cell?; rw [h], fun p hp => by subst hp; unfold World.frozen?; rw [h], hs⟩

set_option maxRecDepth 100000 in
set_option maxHeartbeats 800000 in
theorem c_toCurve (v : Value) (ps ls : List (List NV)) (w : World) (h : CuV w w.heap.size v ps ls) (hn : ps.length ≤ 1048576) (hm : ls.length ≤ 1048576) :
    Calls Try.prog 30 #[v] w fun e w' => ∃ g1 g2, e = .returned (.agg #[.slice (some ⟨g1, 0, none⟩) ps.length ps.length, .slice (some ⟨g2, 0, none⟩) ls.length ls.length]) ∧ w.heap.size ≤ g1 ∧ g1 < g2 ∧ Below w.heap.size w w' ∧
      LiesL KFl 1 w' g1 (.slice (some ⟨g1, 0, none⟩) ps.length ps.length) ps ∧ LiesL KFl 1 w' g2 (.slice (some ⟨g2, 0, none⟩) ls.length ls.length) ls := by
  obtain ⟨A, c, A', c', rfl, h1, h2⟩ := h.val
  have k1 := Lib.hid fun W (hb : Below w.heap.size w W) => c_toFloat32S A c ps W ((h1.below hb).more hb.size) hn
  have k2 := Lib.hid fun W (hb : Below w.heap.size w W) => c_toFloat32S A' c' ls W ((h2.below hb).more hb.size) hm
  clear h1 h2 h
  have E : Hid ((((w.alloc (.cells #[.slice A ps.length c, .slice A' ls.length c'] 63)).alloc (.cells #[.slice none 0 0, .slice none 0 0] 67)).alloc (.cells #[.slice none 0 0, .slice none 0 0] 67)).heap[w.heap.size]? = some (.cells #[.slice A ps.length c, .slice A' ls.length c'] 63 (0, 0)) ∧ (((w.alloc (.cells #[.slice A ps.length c, .slice A' ls.length c'] 63)).alloc (.cells #[.slice none 0 0, .slice none 0 0] 67)).alloc (.cells #[.slice none 0 0, .slice none 0 0] 67)).heap[w.heap.size + 1]? = some (.cells #[.slice none 0 0, .slice none 0 0] 67 (0, 0)) ∧ (((w.alloc (.cells #[.slice A ps.length c, .slice A' ls.length c'] 63)).alloc (.cells #[.slice none 0 0, .slice none 0 0] 67)).alloc (.cells #[.slice none 0 0, .slice none 0 0] 67)).heap[w.heap.size + 1 + 1]? = some (.cells #[.slice none 0 0, .slice none 0 0] 67 (0, 0)) ∧ (((w.alloc (.cells #[.slice A ps.length c, .slice A' ls.length c'] 63)).alloc (.cells #[.slice none 0 0, .slice none 0 0] 67)).alloc (.cells #[.slice none 0 0, .slice none 0 0] 67)).heap.size = w.heap.size + 3 ∧ Below w.heap.size w (((w.alloc (.cells #[.slice A ps.length c, .slice A' ls.length c'] 63)).alloc (.cells #[.slice none 0 0, .slice none 0 0] 67)).alloc (.cells #[.slice none 0 0, .slice none 0 0] 67))) :=
    Lib.hid ⟨by (repeat (first | (refine heap_top _ _ _ ?_; simp; done) | (with_reducible refine heap_drawn _ _ _ ?_) | (with_reducible refine heap_under _ _ _ ?_ ?_; (simp <;> omega)))), by (repeat (first | (refine heap_top _ _ _ ?_; simp; done) | (with_reducible refine heap_drawn _ _ _ ?_) | (with_reducible refine heap_under _ _ _ ?_ ?_; (simp <;> omega)))), by (repeat (first | (refine heap_top _ _ _ ?_; simp; done) | (with_reducible refine heap_drawn _ _ _ ?_) | (with_reducible refine heap_under _ _ _ ?_ ?_; (simp <;> omega)))), by simp, show Stays w _ from by (repeat (first | exact Stays.refl _ | (with_reducible refine Stays.drewN ?_ _) | (with_reducible refine Stays.alloc ?_ _) | (with_reducible refine Stays.drew ?_) | (refine Stays.trans ?_ ‹Stays _ _›)))⟩
  go_enter Try.func30, Try.ntmps30
  go_wp2_with fail
  generalize (((w.alloc (.cells #[.slice A ps.length c, .slice A' ls.length c'] 63)).alloc (.cells #[.slice none 0 0, .slice none 0 0] 67)).alloc (.cells #[.slice none 0 0, .slice none 0 0] 67)) = W0 at E ⊢
  obtain ⟨e0, e1, e2, es, eb⟩ := E.out
  refine (k1.out _ eb).mono ?_
  rintro e w1 ⟨rfl, hp⟩
  replace hp := Lib.hid hp
  generalize hg1 : W0.heap.size = g1 at hp ⊢
  replace e0 := (hp.out.below.block w.heap.size (by omega)).trans e0
  replace e1 := (hp.out.below.block (w.heap.size + 1) (by omega)).trans e1
  replace e2 := (hp.out.below.block (w.heap.size + 1 + 1) (by omega)).trans e2
  have hb1 : Below w.heap.size w w1 := eb.trans (hp.out.below.mono eb.size)
  have hs1 := hp.out.lt
  rw [hg1] at hs1
  have c0 : w1.cell? ⟨w.heap.size + 1 + 1, 0, none⟩ = some (.slice none 0 0) := cell_of_row _ _ _ _ _ _ e2
  have d0 : w1.frozen? ⟨w.heap.size + 1 + 1, 0, none⟩ = false := frozen_of_row _ _ _ _ _ e2
  have n0 := (heap_setCell_other w1 ⟨w.heap.size + 1 + 1, 0, none⟩ w.heap.size (.slice (some ⟨g1, 0, none⟩) ps.length ps.length) (by simp; omega)).trans e0
  have n1 := (heap_setCell_other w1 ⟨w.heap.size + 1 + 1, 0, none⟩ (w.heap.size + 1) (.slice (some ⟨g1, 0, none⟩) ps.length ps.length) (by simp)).trans e1
  have n2 := heap_setCell_same w1 (w.heap.size + 1 + 1) 0 _ _ (.slice (some ⟨g1, 0, none⟩) ps.length ps.length) e2
  have hb2 : Below w.heap.size w (w1.setCell ⟨w.heap.size + 1 + 1, 0, none⟩ (.slice (some ⟨g1, 0, none⟩) ps.length ps.length)) := hb1.setCell (by simp; omega) _
  have c1 : (w1.setCell ⟨w.heap.size + 1 + 1, 0, none⟩ (.slice (some ⟨g1, 0, none⟩) ps.length ps.length)).cell? ⟨w.heap.size, 1, none⟩ = some (.slice A' ls.length c') := cell_of_row _ _ _ _ _ _ n0
  have hL1 : LiesL KFl 1 (w1.setCell ⟨w.heap.size + 1 + 1, 0, none⟩ (.slice (some ⟨g1, 0, none⟩) ps.length ps.length)) g1 (.slice (some ⟨g1, 0, none⟩) ps.length ps.length) ps := by
    have := hp.out.lies
    rw [hg1] at this
    exact this.on fun _ => same_sets (w.heap.size + 1 + 1) g1 0 [_] w1 (by omega)
  replace n0 := Lib.hid n0
  replace n1 := Lib.hid n1
  replace n2 := Lib.hid n2
  replace hL1 := Lib.hid hL1
  replace hb2 := Lib.hid hb2
  replace hs1 := Lib.hid (show g1 < (w1.setCell ⟨w.heap.size + 1 + 1, 0, none⟩ (.slice (some ⟨g1, 0, none⟩) ps.length ps.length)).heap.size from by simp [World.setCell]; exact hs1)
  have hge := Lib.hid (show w.heap.size + 3 ≤ g1 from by omega)
  clear hp e0 e1 e2 hb1 eb es hg1 E W0
  go_wp2_with fail
  clear c0 d0 c1
  generalize (w1.setCell ⟨w.heap.size + 1 + 1, 0, none⟩ (.slice (some ⟨g1, 0, none⟩) ps.length ps.length)) = W2 at n0 n1 n2 hL1 hb2 hs1 ⊢
  refine (k2.out _ hb2.out).mono ?_
  rintro e w3 ⟨rfl, hp⟩
  replace hp := Lib.hid hp
  generalize hg2 : W2.heap.size = g2 at hp hs1 ⊢
  have e1 := (hp.out.below.block (w.heap.size + 1) (by have := hge.out; have := hs1.out; omega)).trans n1.out
  have e2 := (hp.out.below.block (w.heap.size + 1 + 1) (by have := hge.out; have := hs1.out; omega)).trans n2.out
  have hb3 : Below w.heap.size w w3 := hb2.out.trans (hp.out.below.mono hb2.out.size)
  have c0 : w3.cell? ⟨w.heap.size + 1 + 1, 1, none⟩ = some (.slice none 0 0) := cell_of_row _ _ _ _ _ _ e2
  have d0 : w3.frozen? ⟨w.heap.size + 1 + 1, 1, none⟩ = false := frozen_of_row _ _ _ _ _ e2
  have m1 := (heap_setCell_other w3 ⟨w.heap.size + 1 + 1, 1, none⟩ (w.heap.size + 1) (.slice (some ⟨g2, 0, none⟩) ls.length ls.length) (by simp)).trans e1
  have m2 := heap_setCell_same w3 (w.heap.size + 1 + 1) 1 _ _ (.slice (some ⟨g2, 0, none⟩) ls.length ls.length) e2
  have c1 : (w3.setCell ⟨w.heap.size + 1 + 1, 1, none⟩ (.slice (some ⟨g2, 0, none⟩) ls.length ls.length)).cell? ⟨w.heap.size + 1 + 1, 0, none⟩ = some (.slice (some ⟨g1, 0, none⟩) ps.length ps.length) := cell_of_row _ _ _ _ _ _ m2
  have c2 : (w3.setCell ⟨w.heap.size + 1 + 1, 1, none⟩ (.slice (some ⟨g2, 0, none⟩) ls.length ls.length)).cell? ⟨w.heap.size + 1 + 1, 1, none⟩ = some (.slice (some ⟨g2, 0, none⟩) ls.length ls.length) := cell_of_row _ _ _ _ _ _ m2
  have hst : Stays w (w3.setCell ⟨w.heap.size + 1 + 1, 1, none⟩ (.slice (some ⟨g2, 0, none⟩) ls.length ls.length)) := hb3.setCell (by simp; omega) _
  have hL2 : LiesL KFl 1 w3 g2 (.slice (some ⟨g2, 0, none⟩) ls.length ls.length) ls := by
    have := hp.out.lies
    rw [hg2] at this
    exact this
  replace hL2 := Lib.hid (hL2.on fun _ => same_sets (w.heap.size + 1 + 1) g2 1 [.slice (some ⟨g2, 0, none⟩) ls.length ls.length] w3 (by have := hge.out; have := hs1.out; omega))
  have hL1b := hL1.out.below (hp.out.below.mono (by omega))
  replace hL1 := Lib.hid (hL1b.on fun _ => same_sets (w.heap.size + 1 + 1) g1 1 [.slice (some ⟨g2, 0, none⟩) ls.length ls.length] w3 (by have := hge.out; omega))
  have hres := m1
  have hgs := Lib.hid (show g2 < (w3.setCell ⟨w.heap.size + 1 + 1, 1, none⟩ (.slice (some ⟨g2, 0, none⟩) ls.length ls.length)).heap.size from by have := hp.out.lt; rw [hg2] at this; simp [World.setCell]; exact this)
  clear hL1b e1 e2 m1 m2 hb3 n0 n1 n2 hb2 hp hg2
  change Hid (LiesL KFl 1 (w3.setCell ⟨w.heap.size + 1 + 1, 1, none⟩ (.slice (some ⟨g2, 0, none⟩) ls.length ls.length)) g1 _ ps) at hL1
  change Hid (LiesL KFl 1 (w3.setCell ⟨w.heap.size + 1 + 1, 1, none⟩ (.slice (some ⟨g2, 0, none⟩) ls.length ls.length)) g2 _ ls) at hL2
  go_wp2_with (refine wpList_store_row rfl _ _ _ rfl _ _ _ rfl rfl hres ?hi ?ho ?h1 ?hB hst ?_; (case hi => kernel_rfl); (case ho => rfl); (case h1 => first | rfl | simp [Value.oneCell']); (case hB => first | omega | (simp <;> omega)); intro w2 hw2 hq2 hother hsame)
  go_wp2
  apply end_agg rfl rfl rfl Try.underlying67 rfl (t := 67)
  case hg => exact hq2
  case hi => kernel_rfl
  case hR =>
    have hp1 : g1 ≠ w.heap.size + 1 := by have := hge.out; omega
    have hp2 : g2 ≠ w.heap.size + 1 := by have := hge.out; have := hs1.out; omega
    have hlt := hgs.out
    refine ⟨g1, g2, rfl, by have := hge.out; omega, hs1.out, hw2, ?_, ?_⟩
    · exact hL1.out.on fun h => Same.of_block (hother g1 h hp1) (by omega)
    · exact hL2.out.on fun h => Same.of_block (hother g2 h hp2) (by omega)
end Go.Proofs.Ytmcbeaihjdnelaa

namespace Go.Proofs.Ytmcbeaihjdnelaa
open Go Go.ChangeShapes Go.WideShapes Go.RowKit
set_option linter.unusedVariables false
set_option linter.unusedSimpArgs false

set_option maxRecDepth 100000 in
theorem open_curve {H : Type} {enc : TypeId × Value → H} {w : World} {held : Bool} {r : Reach} {b0 : Nat} {v : Value} {d : DataW H} {p : List MemPlace} (hval : Value.okWide Try.prog w r b0 63 v)
    (h : DataW.Trod enc Try.prog w 0 (fun _ => true) held 63 v d p) : ∃ ps ls, CuV w w.heap.size v ps ls ∧ ps.length ≤ 9223372036854775807 ∧ ls.length ≤ 9223372036854775807 := by
  obtain ⟨v0, v1, y0, y1, n, rfl, _, _, h0, h1⟩ := Joins.open_agg2 Try.underlying63 (by kernel_rfl) (by kernel_rfl) hval h
  obtain ⟨A, ps, c, e0, l0, b0⟩ := trod_rows (K := KFl) Try.underlying61 rfl (by decide) (by kernel_rfl) (by kernel_rfl) h0
  obtain ⟨A', ls, c', e1, l1, b1⟩ := trod_rows (K := KFl) Try.underlying61 rfl (by decide) (by kernel_rfl) (by kernel_rfl) h1
  cases e0
  cases e1
  exact ⟨ps, ls, ⟨A, c, A', c', rfl, l0, l1⟩, b0, b1⟩
end Go.Proofs.Ytmcbeaihjdnelaa
