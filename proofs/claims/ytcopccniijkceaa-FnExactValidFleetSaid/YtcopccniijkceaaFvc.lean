/- Fleets as values. No condition. -/
import Derived.Test.YtcopccniijkceaaFvb
import Derived.Test.YtcopccniijkceaaGv
namespace Go.Proofs.Ytcopccniijkceaa
open Go Go.ChangeShapes Go.WideShapes Go.RowKit
set_option linter.unusedVariables false
set_option linter.unusedSimpArgs false

/-- A fleet as a value. -/
def FlV (w : World) (B : Nat) (v : Value) (o og : Option Nat) (xss : List (List (List NV))) : Prop := ∃ s g A c, v = .agg #[.float .f32 s, .float .f32 g, .slice A xss.length c] ∧ FIs .f32 s o ∧ FIs .f32 g og ∧ LsS w B A xss
theorem FlV.on {w w' : World} {v : Value} {o og : Option Nat} {xss : List (List (List NV))} (h : FlV w w.heap.size v o og xss) (hb : Below w.heap.size w w') : FlV w' w'.heap.size v o og xss := by
  obtain ⟨s, g, A, c, e, hf, hg, h1⟩ := h
  exact ⟨s, g, A, c, e, hf, hg, (h1.below hb).more hb.size⟩

theorem PutS.lss {w wr w3 : World} {xss : List (List (List NV))} (h : PutS w wr xss xss.length) (hm : ∀ (j : Nat) (xs : List (List NV)), xss[j]? = some xs → xs.length ≤ 1048576) (hs : ∀ g, w.heap.size ≤ g → g < wr.heap.size → Same wr w3 g) : LsS w3 w3.heap.size (some ⟨w.heap.size, 0, none⟩) xss := fun i xs hx => by
  have hi := (List.getElem?_eq_some_iff.1 hx).1
  obtain ⟨g, hg, hc, hl⟩ := h.rows i xs hi hx
  have h0 := hs w.heap.size (Nat.le_refl _) h.lt
  refine ⟨_, _, xs.length, rfl, Nat.lt_of_lt_of_le h.lt h0.size, ?_, (hl.on fun hlt => hs g (Nat.le_of_lt hg) hlt).rows, Nat.le_trans (hm i xs hx) (by omega)⟩
  have e : (⟨w.heap.size, 0, none⟩ : Addr).add i = ⟨w.heap.size, i, none⟩ := by unfold Addr.add; split <;> simp_all
  rw [e]
  exact (h0.cell ⟨w.heap.size, i, none⟩ rfl).trans hc
set_option maxRecDepth 100000 in
set_option maxHeartbeats 2000000 in
theorem c_szFleet (s g : Nat) (A : Option Addr) (c : Nat) (xss : List (List (List NV))) (w : World) (h : LsS w w.heap.size A xss) (hn : xss.length ≤ 9223372036854775807) :
    Calls Try.prog 9 #[.agg #[.float .f32 s, .float .f32 g, .slice A xss.length c], .int .i64 1048576] w fun e w' => (e = .returned (.int .i64 (-1)) ∨ ∃ L : Int, 0 ≤ L ∧ e = .returned (.int .i64 L) ∧ xss.length ≤ 1048576 ∧ ∀ (j : Nat) (xs : List (List NV)), xss[j]? = some xs → xs.length ≤ 1048576) ∧ Below w.heap.size w w' := by
  have hst : Stays w (w.alloc (.cells #[.float .f32 s, .float .f32 g, .slice A xss.length c] 25)) := by (repeat (first | exact Stays.refl _ | (with_reducible refine Stays.drewN ?_ _) | (with_reducible refine Stays.alloc ?_ _) | (with_reducible refine Stays.drew ?_) | (refine Stays.trans ?_ ‹Stays _ _›)))
  have k := Lib.hid (c_szSightSS A c xss 1048576 (w.alloc (.cells #[.float .f32 s, .float .f32 g, .slice A xss.length c] 25)) _ (h.below (show Below w.heap.size w _ from hst)) hn (by omega) (by omega))
  replace hst := Lib.hid hst
  clear h
  go_enter Try.func9, Try.ntmps9
  go_wp2_with fail
  refine k.out.mono ?_
  rintro e w' ⟨h, rfl⟩
  rcases h with rfl | ⟨L, hL, rfl, h1, h2⟩
  · go_wp2
    go_ret
    exact ⟨Or.inl rfl, hst.out⟩
  · have hL' : ¬ L < 0 := by omega
    replace h2 := Lib.hid h2
    go_wp2
    go_ret
    exact ⟨Or.inr ⟨L, hL, rfl, h1, h2.out⟩, hst.out⟩

set_option maxRecDepth 100000 in
set_option maxHeartbeats 2000000 in
theorem c_eqFleet (v v' : Value) (o og : Option Nat) (xss : List (List (List NV))) (w : World) (h : FlV w w.heap.size v o og xss) (h' : FlV w w.heap.size v' o og xss) (hn : xss.length ≤ 1048576) (hm : ∀ (j : Nat) (xs : List (List NV)), xss[j]? = some xs → xs.length ≤ 1048576) :
    Calls Try.prog 13 #[v, v'] w fun e w' => e = .returned (.bool true) ∧ Below w.heap.size w w' := by
  obtain ⟨s, g, A, c, rfl, hf, hg, h1⟩ := h
  obtain ⟨s', g', A', c', rfl, hf', hg', h2⟩ := h'
  have hee : can .f32 s = can .f32 s' := by rw [hf.out, hf'.out]
  replace hee := Lib.hid hee
  have hee2 : can .f32 g = can .f32 g' := by rw [hg.out, hg'.out]
  replace hee2 := Lib.hid hee2
  have u0 : ((w.alloc (.cells #[.float .f32 s, .float .f32 g, .slice A xss.length c] 30)).alloc (.cells #[.float .f32 s', .float .f32 g', .slice A' xss.length c'] 30)).heap[w.heap.size]? = some (.cells #[.float .f32 s, .float .f32 g, .slice A xss.length c] 30 (0, 0)) := by (repeat (first | (refine heap_top _ _ _ ?_; simp; done) | (with_reducible refine heap_drawn _ _ _ ?_) | (with_reducible refine heap_under _ _ _ ?_ ?_; (simp <;> omega))))
  have u1 : ((w.alloc (.cells #[.float .f32 s, .float .f32 g, .slice A xss.length c] 30)).alloc (.cells #[.float .f32 s', .float .f32 g', .slice A' xss.length c'] 30)).heap[w.heap.size + 1]? = some (.cells #[.float .f32 s', .float .f32 g', .slice A' xss.length c'] 30 (0, 0)) := by (repeat (first | (refine heap_top _ _ _ ?_; simp; done) | (with_reducible refine heap_drawn _ _ _ ?_) | (with_reducible refine heap_under _ _ _ ?_ ?_; (simp <;> omega))))
  have hA := Lib.hid fun w1 (h : Stays ((w.alloc (.cells #[.float .f32 s, .float .f32 g, .slice A xss.length c] 30)).alloc (.cells #[.float .f32 s', .float .f32 g', .slice A' xss.length c'] 30)) w1) => row_of h u0
  have hA' := Lib.hid fun w1 (h : Stays ((w.alloc (.cells #[.float .f32 s, .float .f32 g, .slice A xss.length c] 30)).alloc (.cells #[.float .f32 s', .float .f32 g', .slice A' xss.length c'] 30)) w1) => row_of h u1
  clear u0 u1
  have hS : Stays ((w.alloc (.cells #[.float .f32 s, .float .f32 g, .slice A xss.length c] 30)).alloc (.cells #[.float .f32 s', .float .f32 g', .slice A' xss.length c'] 30)) ((w.alloc (.cells #[.float .f32 s, .float .f32 g, .slice A xss.length c] 30)).alloc (.cells #[.float .f32 s', .float .f32 g', .slice A' xss.length c'] 30)) := Stays.refl _
  have hW : Hid (∀ w1, Stays ((w.alloc (.cells #[.float .f32 s, .float .f32 g, .slice A xss.length c] 30)).alloc (.cells #[.float .f32 s', .float .f32 g', .slice A' xss.length c'] 30)) w1 → Below w.heap.size w w1) := Lib.hid fun w1 h => Stays.trans (show Stays w _ from (Stays.alloc (Stays.alloc (Stays.refl w) _) _)) h
  have k1 := Lib.hid fun W (hb : Below w.heap.size w W) => c_eqSightSS A A' c c' xss W ((h1.below hb).more hb.size) ((h2.below hb).more hb.size) hn hm
  clear h1 h2 hf hf' hg hg'
  go_enter Try.func13, Try.ntmps13
  go_wp2_with (first
    | ((with_reducible refine wpList_widen rfl _ _ _ rfl _ rfl (some_of Try.underlying22) Try.underlying111 ?_); intro r n hr)
    | (go_at_call 56; refine (c_sameFloat _ _ _ (wide_same hee.out ‹FIs _ _ _› ‹FIs _ _ _›)).mono ?_; rintro e w1 ⟨rfl, hw1⟩; replace hS := Stays.trans (show Stays _ _ from by first | exact hS | exact hS.drewN _ | exact (hS.drewN _).drewN _) hw1; clear hw1; have hc := hA.out _ hS; have hc' := hA'.out _ hS)
    | (go_at_call 56; refine (c_sameFloat _ _ _ (wide_same hee2.out ‹FIs _ _ _› ‹FIs _ _ _›)).mono ?_; rintro e w1 ⟨rfl, hw1⟩; replace hS := Stays.trans (show Stays _ _ from by first | exact hS | exact hS.drewN _ | exact (hS.drewN _).drewN _) hw1; clear hw1; have hc := hA.out _ hS; have hc' := hA'.out _ hS)
    | (go_at_call 57; refine (k1.out _ (hW.out _ hS)).mono ?_; rintro e w1 ⟨rfl, hw1⟩; replace hS := Stays.trans hS hw1; clear hw1))
  go_ret
  exact ⟨rfl, hW.out _ hS⟩


theorem same_blockF {w w' : World} {g : Nat} (h : w'.heap[g]? = w.heap[g]?) (hs : w.heap.size ≤ w'.heap.size) : Same w w' g :=
  ⟨fun p hp => by subst hp; unfold World.cell?; rw [h], fun p hp => by subst hp; unfold World.frozen?; rw [h], hs⟩

set_option maxRecDepth 100000 in
set_option maxHeartbeats 2000000 in
theorem c_toFleet (v : Value) (o og : Option Nat) (xss : List (List (List NV))) (w : World) (h : FlV w w.heap.size v o og xss) (hn : xss.length ≤ 1048576) (hm : ∀ (j : Nat) (xs : List (List NV)), xss[j]? = some xs → xs.length ≤ 1048576) :
    Calls Try.prog 11 #[v] w fun e w' => ∃ v', e = .returned v' ∧ Below w.heap.size w w' ∧ FlV w' w'.heap.size v' o og xss := by
  obtain ⟨s, g, A, c, rfl, hf, hg, h1⟩ := h
  have k1 := Lib.hid fun W (hb : Below w.heap.size w W) => c_toSightSS A c xss W ((h1.below hb).more hb.size) hn hm
  replace hf := Lib.hid hf
  replace hg := Lib.hid hg
  clear h1
  have n0 : (((w.alloc (.cells #[.float .f32 s, .float .f32 g, .slice A xss.length c] 25)).alloc (.cells #[.float .f32 0, .float .f32 0, .slice none 0 0] 30)).alloc (.cells #[.float .f32 s, .float .f32 g, .slice none 0 0] 30)).heap[w.heap.size]? = some (.cells #[.float .f32 s, .float .f32 g, .slice A xss.length c] 25 (0, 0)) := by (repeat (first | (refine heap_top _ _ _ ?_; simp; done) | (with_reducible refine heap_drawn _ _ _ ?_) | (with_reducible refine heap_under _ _ _ ?_ ?_; (simp <;> omega))))
  have n1 : (((w.alloc (.cells #[.float .f32 s, .float .f32 g, .slice A xss.length c] 25)).alloc (.cells #[.float .f32 0, .float .f32 0, .slice none 0 0] 30)).alloc (.cells #[.float .f32 s, .float .f32 g, .slice none 0 0] 30)).heap[w.heap.size + 1]? = some (.cells #[.float .f32 0, .float .f32 0, .slice none 0 0] 30 (0, 0)) := by (repeat (first | (refine heap_top _ _ _ ?_; simp; done) | (with_reducible refine heap_drawn _ _ _ ?_) | (with_reducible refine heap_under _ _ _ ?_ ?_; (simp <;> omega))))
  have n2 : (((w.alloc (.cells #[.float .f32 s, .float .f32 g, .slice A xss.length c] 25)).alloc (.cells #[.float .f32 0, .float .f32 0, .slice none 0 0] 30)).alloc (.cells #[.float .f32 s, .float .f32 g, .slice none 0 0] 30)).heap[w.heap.size + 1 + 1]? = some (.cells #[.float .f32 s, .float .f32 g, .slice none 0 0] 30 (0, 0)) := by (repeat (first | (refine heap_top _ _ _ ?_; simp; done) | (with_reducible refine heap_drawn _ _ _ ?_) | (with_reducible refine heap_under _ _ _ ?_ ?_; (simp <;> omega))))
  have hb2 : Below w.heap.size w (((w.alloc (.cells #[.float .f32 s, .float .f32 g, .slice A xss.length c] 25)).alloc (.cells #[.float .f32 0, .float .f32 0, .slice none 0 0] 30)).alloc (.cells #[.float .f32 s, .float .f32 g, .slice none 0 0] 30)) := show Stays w _ from by (repeat (first | exact Stays.refl _ | (with_reducible refine Stays.drewN ?_ _) | (with_reducible refine Stays.alloc ?_ _) | (with_reducible refine Stays.drew ?_) | (refine Stays.trans ?_ ‹Stays _ _›)))
  have hs2 : (((w.alloc (.cells #[.float .f32 s, .float .f32 g, .slice A xss.length c] 25)).alloc (.cells #[.float .f32 0, .float .f32 0, .slice none 0 0] 30)).alloc (.cells #[.float .f32 s, .float .f32 g, .slice none 0 0] 30)).heap.size = w.heap.size + 3 := by simp
  replace n1 := Lib.hid n1
  replace n2 := Lib.hid n2
  replace hb2 := Lib.hid hb2
  replace hs2 := Lib.hid hs2
  clear n0
  go_enter Try.func11, Try.ntmps11
  go_wp2_with fail
  generalize (((w.alloc (.cells #[.float .f32 s, .float .f32 g, .slice A xss.length c] 25)).alloc (.cells #[.float .f32 0, .float .f32 0, .slice none 0 0] 30)).alloc (.cells #[.float .f32 s, .float .f32 g, .slice none 0 0] 30)) = W2 at n1 n2 hb2 hs2 ⊢
  refine (k1.out _ hb2.out).mono ?_
  rintro e w3 ⟨rfl, hp⟩
  replace hp := Lib.hid hp
  generalize hg2e : W2.heap.size = g2 at ⊢
  have hg2 : g2 = w.heap.size + 3 := by rw [← hg2e]; exact hs2.out
  have e1 := (hp.out.below.block (w.heap.size + 1) (by have := hs2.out; omega)).trans n1.out
  have e2 := (hp.out.below.block (w.heap.size + 1 + 1) (by have := hs2.out; omega)).trans n2.out
  have hb3 : Below w.heap.size w w3 := hb2.out.trans (hp.out.below.mono hb2.out.size)
  have c0 : w3.cell? ⟨w.heap.size + 1 + 1, 2, none⟩ = some (.slice none 0 0) := cell_of_row _ _ _ _ _ _ e2
  have d0 : w3.frozen? ⟨w.heap.size + 1 + 1, 2, none⟩ = false := frozen_of_row _ _ _ _ _ e2
  have m1 := (heap_setCell_other w3 ⟨w.heap.size + 1 + 1, 2, none⟩ (w.heap.size + 1) (.slice (some ⟨g2, 0, none⟩) xss.length xss.length) (by simp)).trans e1
  have m2 := heap_setCell_same w3 (w.heap.size + 1 + 1) 2 _ _ (.slice (some ⟨g2, 0, none⟩) xss.length xss.length) e2
  have c1 : (w3.setCell ⟨w.heap.size + 1 + 1, 2, none⟩ (.slice (some ⟨g2, 0, none⟩) xss.length xss.length)).cell? ⟨w.heap.size + 1 + 1, 0, none⟩ = some (.float .f32 s) := cell_of_row _ _ _ _ _ _ m2
  have c1' : (w3.setCell ⟨w.heap.size + 1 + 1, 2, none⟩ (.slice (some ⟨g2, 0, none⟩) xss.length xss.length)).cell? ⟨w.heap.size + 1 + 1, 1, none⟩ = some (.float .f32 g) := cell_of_row _ _ _ _ _ _ m2
  have c2 : (w3.setCell ⟨w.heap.size + 1 + 1, 2, none⟩ (.slice (some ⟨g2, 0, none⟩) xss.length xss.length)).cell? ⟨w.heap.size + 1 + 1, 2, none⟩ = some (.slice (some ⟨g2, 0, none⟩) xss.length xss.length) := cell_of_row _ _ _ _ _ _ m2
  have hst : Stays w (w3.setCell ⟨w.heap.size + 1 + 1, 2, none⟩ (.slice (some ⟨g2, 0, none⟩) xss.length xss.length)) := hb3.setCell (by simp; omega) _
  have hres := m1
  have hsm := Lib.hid (fun q (hq : g2 ≤ q) => same_sets (w.heap.size + 1 + 1) q 2 [.slice (some ⟨g2, 0, none⟩) xss.length xss.length] w3 (by omega))
  replace hg2 := Lib.hid hg2
  clear e1 e2 m1 m2 hb3 n1 n2 hb2
  have hp := hp.out
  have hlt3 := hp.lt
  have hrows : Hid (∀ W, (∀ q, g2 ≤ q → q < w3.heap.size → Same w3 W q) → LsS W W.heap.size (some ⟨g2, 0, none⟩) xss) := Lib.hid fun W hW => by rw [← hg2e]; rw [← hg2e] at hW; exact hp.lss hm hW
  replace hlt3 := Lib.hid (show g2 < w3.heap.size from by rw [← hg2e]; exact hlt3)
  clear hp hg2e hm
  change Hid (∀ q, g2 ≤ q → Same w3 (w3.setCell ⟨w.heap.size + 1 + 1, 2, none⟩ (.slice (some ⟨g2, 0, none⟩) xss.length xss.length)) q) at hsm
  go_wp2_with (refine wpList_store_row rfl _ _ _ rfl _ _ _ rfl rfl hres ?hi ?ho ?h1 ?hB hst ?_; (case hi => kernel_rfl); (case ho => rfl); (case h1 => first | rfl | simp [Value.oneCell']); (case hB => first | omega | (simp <;> omega)); intro w2 hw2 hq2 hother hsame)
  go_wp2
  apply end_agg rfl rfl rfl Try.underlying30 rfl (t := 30)
  case hg => exact hq2
  case hi => kernel_rfl
  case hR =>
    refine ⟨_, rfl, hw2, s, g, _, _, rfl, hf.out, hg.out, hrows.out _ fun q hq hq3 => ?_⟩
    have h3 := hsm.out q hq
    have hp2 : q ≠ w.heap.size + 1 := by have := hg2.out; omega
    exact h3.trans (same_blockF (hother q (Nat.lt_of_lt_of_le hq3 h3.size) hp2) (Nat.le_of_eq hsame.symm))

/-- A fleet in a block of its own. -/
theorem boxFl (t : TypeId) {w : World} {v : Value} {o og : Option Nat} {xss : List (List (List NV))} (h : FlV w w.heap.size v o og xss) : ∃ s g A c, v = .agg #[.float .f32 s, .float .f32 g, .slice A xss.length c] ∧ FIs .f32 s o ∧ FIs .f32 g og ∧
    ∀ w1, Stays (w.alloc (.cells #[.float .f32 s, .float .f32 g, .slice A xss.length c] t)) w1 → ((w1.cell? ⟨w.heap.size, 0, none⟩ = some (.float .f32 s) ∧ w1.cell? ⟨w.heap.size, 1, none⟩ = some (.float .f32 g) ∧ w1.cell? ⟨w.heap.size, 2, none⟩ = some (.slice A xss.length c)) ∧ Below w.heap.size w w1) ∧ FlV w1 w1.heap.size (.agg #[.float .f32 s, .float .f32 g, .slice A xss.length c]) o og xss ∧ LsS w1 w1.heap.size A xss := by
  obtain ⟨s, g, A, c, rfl, hf, hg, h1⟩ := h
  refine ⟨s, g, A, c, rfl, hf, hg, fun w1 hb => ?_⟩
  have hb' : Below w.heap.size w w1 := (show Stays w _ from by (repeat (first | exact Stays.refl _ | (with_reducible refine Stays.drewN ?_ _) | (with_reducible refine Stays.alloc ?_ _) | (with_reducible refine Stays.drew ?_) | (refine Stays.trans ?_ ‹Stays _ _›)))).trans hb
  exact ⟨⟨⟨row_of hb (heap_alloc_new w _) 0, row_of hb (heap_alloc_new w _) 1, row_of hb (heap_alloc_new w _) 2⟩, hb'⟩, ⟨s, g, A, c, rfl, hf, hg, (h1.below hb').more hb'.size⟩, (h1.below hb').more hb'.size⟩

set_option maxRecDepth 100000 in
/-- An argument that is a fleet, opened. -/
theorem open_fleet {H : Type} {enc : TypeId × Value → H} {w : World} {held : Bool} {r : Reach} {b0 : Nat} {v : Value} {d : DataW H} {p : List MemPlace} (hval : Value.okWide Try.prog w r b0 25 v)
    (h : DataW.Trod enc Try.prog w 0 (fun _ => true) held 25 v d p) : ∃ o og xss, FlV w w.heap.size v o og xss ∧ xss.length ≤ 9223372036854775807 := by
  obtain ⟨v0, v1, v2, y0, y1, y2, n, rfl, _, _, h0, h1, h2⟩ := Joins.open_agg3 Try.underlying25 (by kernel_rfl) (by kernel_rfl) hval h
  obtain ⟨ins, hk, _⟩ := trod_scal 12 22 [.f .f32] n [v0] y0 (by kernel_rfl) h0
  obtain ⟨ins', hk', _⟩ := trod_scal 12 22 [.f .f32] n [v1] y1 (by kernel_rfl) h1
  obtain ⟨A', ls, c', e1, l1, b1⟩ := trod_nest h2
  cases e1
  match ins, hk, ins', hk' with
  | [n0], ⟨⟨x, hx, hf⟩, _⟩, [n1], ⟨⟨y, hy, hg⟩, _⟩ =>
    subst hx hy
    exact ⟨n0.gf, n1.gf, ls, ⟨x, y, A', c', rfl, hf, hg, l1⟩, b1⟩
end Go.Proofs.Ytcopccniijkceaa
