/- Maps, as a side and a list of marks: counted, copied, compared, opened. No condition. -/
import Derived.Test.YtmcbeaihjdnelaaMkA
import Derived.Test.YtmcbeaihjdnelaaGv
namespace Go.Proofs.Ytmcbeaihjdnelaa
open Go Go.ChangeShapes Go.WideShapes Go.RowKit
set_option linter.unusedVariables false
set_option linter.unusedSimpArgs false

def mkOf (r : List NV) : Mk := ⟨(r.getD 0 (.i 0)).gi, (r.getD 1 (.i 0)).gi, (r.getD 2 (.i 0)).gi, (r.getD 3 (.i 0)).gf, (r.getD 4 (.i 0)).gf, (r.getD 5 (.i 0)).gf, (r.getD 6 (.i 0)).gf, (r.getD 7 (.i 0)).gi, (r.getD 8 (.i 0)).gi⟩
theorem mkOf_ok {cs : List Value} {r : List NV} (h : KMs mkK cs r) : KMs mkK cs (mkOf r).ins := by
  have hl := KMs_len h
  have hr := KMs_rlen h
  match cs, r, hl, hr, h with
  | [c0, c1, c2, c3, c4, c5, c6, c7, c8], [n0, n1, n2, n3, n4, n5, n6, n7, n8], _, _, ⟨h0, h1, h2, h3, h4, h5, h6, h7, h8, _⟩ => exact ⟨h0, h1, h2, h3, h4, h5, h6, h7, h8, trivial⟩

theorem rows_mks {w : World} {B : Nat} {A : Option Addr} {xs : List (List NV)} (h : Ls mkK 9 w B A xs) : Mks w B A (xs.map mkOf) := fun i r hr => by
  rw [List.getElem?_map] at hr
  cases e : xs[i]? with
  | none => rw [e] at hr; cases hr
  | some x =>
    rw [e] at hr
    cases hr
    obtain ⟨ad, ea, hlt, cs, hk, hc⟩ := h i x e
    exact ⟨ad, ea, hlt, cs, mkOf_ok hk, hc⟩

/-- A map as a value. -/
structure MpV (w : World) (B : Nat) (v : Value) (o : Option Nat) (xs : List Mk) : Prop where
  val : ∃ s A c, v = .agg #[.float .f32 s, .slice A xs.length c] ∧ FIs .f32 s o ∧ Mks w B A xs

theorem MpV.on {w w' : World} {v : Value} {o : Option Nat} {xs : List Mk} (h : MpV w w.heap.size v o xs) (hb : Below w.heap.size w w') : MpV w' w'.heap.size v o xs := by
  obtain ⟨s, A, c, e, hf, h1⟩ := h.val
  exact ⟨s, A, c, e, hf, (h1.below hb).more hb.size⟩

set_option maxRecDepth 100000 in
set_option maxHeartbeats 800000 in
theorem c_eqLandMap (v v' : Value) (o : Option Nat) (xs : List Mk) (w : World) (h : MpV w w.heap.size v o xs) (h' : MpV w w.heap.size v' o xs) (hn : xs.length ≤ 1048576) :
    Calls Try.prog 27 #[v, v'] w fun e w' => e = .returned (.bool true) ∧ Below w.heap.size w w' := by
  obtain ⟨s, A, c, rfl, hf, h1⟩ := h.val
  obtain ⟨s', A', c', rfl, hf', h2⟩ := h'.val
  have hee : can .f32 s = can .f32 s' := by rw [hf.out, hf'.out]
  replace hee := Lib.hid hee
  have u0 : ((w.alloc (.cells #[.float .f32 s, .slice A xs.length c] 56)).alloc (.cells #[.float .f32 s', .slice A' xs.length c'] 56)).heap[w.heap.size]? = some (.cells #[.float .f32 s, .slice A xs.length c] 56 (0, 0)) := by (repeat (first | (refine heap_top _ _ _ ?_; simp; done) | (with_reducible refine heap_drawn _ _ _ ?_) | (with_reducible refine heap_under _ _ _ ?_ ?_; (simp <;> omega))))
  have u1 : ((w.alloc (.cells #[.float .f32 s, .slice A xs.length c] 56)).alloc (.cells #[.float .f32 s', .slice A' xs.length c'] 56)).heap[w.heap.size + 1]? = some (.cells #[.float .f32 s', .slice A' xs.length c'] 56 (0, 0)) := by (repeat (first | (refine heap_top _ _ _ ?_; simp; done) | (with_reducible refine heap_drawn _ _ _ ?_) | (with_reducible refine heap_under _ _ _ ?_ ?_; (simp <;> omega))))
  have hA := Lib.hid fun w1 (h : Stays ((w.alloc (.cells #[.float .f32 s, .slice A xs.length c] 56)).alloc (.cells #[.float .f32 s', .slice A' xs.length c'] 56)) w1) => row_of h u0
  have hA' := Lib.hid fun w1 (h : Stays ((w.alloc (.cells #[.float .f32 s, .slice A xs.length c] 56)).alloc (.cells #[.float .f32 s', .slice A' xs.length c'] 56)) w1) => row_of h u1
  clear u0 u1
  have hS : Stays ((w.alloc (.cells #[.float .f32 s, .slice A xs.length c] 56)).alloc (.cells #[.float .f32 s', .slice A' xs.length c'] 56)) ((w.alloc (.cells #[.float .f32 s, .slice A xs.length c] 56)).alloc (.cells #[.float .f32 s', .slice A' xs.length c'] 56)) := Stays.refl _
  have hW : Hid (∀ w1, Stays ((w.alloc (.cells #[.float .f32 s, .slice A xs.length c] 56)).alloc (.cells #[.float .f32 s', .slice A' xs.length c'] 56)) w1 → Below w.heap.size w w1) := Lib.hid fun w1 h => Stays.trans (show Stays w _ from (Stays.alloc (Stays.alloc (Stays.refl w) _) _)) h
  have k1 := Lib.hid fun W (hb : Below w.heap.size w W) => c_eqMarkS A A' c c' xs W ((h1.below hb).more hb.size) ((h2.below hb).more hb.size) hn
  clear h1 h2 h h' hf hf'
  go_enter Try.func27, Try.ntmps27
  go_wp2_with (first
    | ((with_reducible refine wpList_widen rfl _ _ _ rfl _ rfl (some_of Try.underlying22) Try.underlying70 ?_); intro r n hr)
    | (go_at_call 32; refine (c_sameFloat _ _ _ (wide_same hee.out ‹FIs _ _ _› ‹FIs _ _ _›)).mono ?_; rintro e w1 ⟨rfl, hw1⟩; replace hS := Stays.trans (show Stays _ _ from by first | exact hS | exact hS.drewN _ | exact (hS.drewN _).drewN _) hw1; clear hw1; have hc := hA.out _ hS; have hc' := hA'.out _ hS)
    | (go_at_call 75; refine (k1.out _ (hW.out _ hS)).mono ?_; rintro e w1 ⟨rfl, hw1⟩; replace hS := Stays.trans hS hw1; clear hw1))
  go_ret
  exact ⟨rfl, hW.out _ hS⟩

theorem same_block {w w' : World} {g : Nat} (h : w'.heap[g]? = w.heap[g]?) (hs : w.heap.size ≤ w'.heap.size) : Same w w' g :=
  ⟨fun p hp => by subst hp; unfold World.cell?; rw [h], fun p hp => by subst hp; unfold World.frozen?; rw [h], hs⟩

set_option maxRecDepth 100000 in
set_option maxHeartbeats 800000 in
theorem c_toLandMap (v : Value) (o : Option Nat) (xs : List Mk) (w : World) (h : MpV w w.heap.size v o xs) (hn : xs.length ≤ 1048576) :
    Calls Try.prog 23 #[v] w fun e w' => ∃ s g, e = .returned (.agg #[.float .f32 s, .slice (some ⟨g, 0, none⟩) xs.length xs.length]) ∧ FIs .f32 s o ∧ w.heap.size ≤ g ∧ Below w.heap.size w w' ∧ LiesR mkK 9 Mk.ins w' g (.slice (some ⟨g, 0, none⟩) xs.length xs.length) xs := by
  obtain ⟨s, A, c, rfl, hf, h1⟩ := h.val
  have k1 := Lib.hid fun W (hb : Below w.heap.size w W) => c_toMarkS A c xs W ((h1.below hb).more hb.size) hn
  replace hf := Lib.hid hf
  clear h1 h
  have n0 : (((w.alloc (.cells #[.float .f32 s, .slice A xs.length c] 50)).alloc (.cells #[.float .f32 0, .slice none 0 0] 56)).alloc (.cells #[.float .f32 s, .slice none 0 0] 56)).heap[w.heap.size]? = some (.cells #[.float .f32 s, .slice A xs.length c] 50 (0, 0)) := by (repeat (first | (refine heap_top _ _ _ ?_; simp; done) | (with_reducible refine heap_drawn _ _ _ ?_) | (with_reducible refine heap_under _ _ _ ?_ ?_; (simp <;> omega))))
  have n1 : (((w.alloc (.cells #[.float .f32 s, .slice A xs.length c] 50)).alloc (.cells #[.float .f32 0, .slice none 0 0] 56)).alloc (.cells #[.float .f32 s, .slice none 0 0] 56)).heap[w.heap.size + 1]? = some (.cells #[.float .f32 0, .slice none 0 0] 56 (0, 0)) := by (repeat (first | (refine heap_top _ _ _ ?_; simp; done) | (with_reducible refine heap_drawn _ _ _ ?_) | (with_reducible refine heap_under _ _ _ ?_ ?_; (simp <;> omega))))
  have n2 : (((w.alloc (.cells #[.float .f32 s, .slice A xs.length c] 50)).alloc (.cells #[.float .f32 0, .slice none 0 0] 56)).alloc (.cells #[.float .f32 s, .slice none 0 0] 56)).heap[w.heap.size + 1 + 1]? = some (.cells #[.float .f32 s, .slice none 0 0] 56 (0, 0)) := by (repeat (first | (refine heap_top _ _ _ ?_; simp; done) | (with_reducible refine heap_drawn _ _ _ ?_) | (with_reducible refine heap_under _ _ _ ?_ ?_; (simp <;> omega))))
  have hb2 : Below w.heap.size w (((w.alloc (.cells #[.float .f32 s, .slice A xs.length c] 50)).alloc (.cells #[.float .f32 0, .slice none 0 0] 56)).alloc (.cells #[.float .f32 s, .slice none 0 0] 56)) := show Stays w _ from by (repeat (first | exact Stays.refl _ | (with_reducible refine Stays.drewN ?_ _) | (with_reducible refine Stays.alloc ?_ _) | (with_reducible refine Stays.drew ?_) | (refine Stays.trans ?_ ‹Stays _ _›)))
  have hs2 : (((w.alloc (.cells #[.float .f32 s, .slice A xs.length c] 50)).alloc (.cells #[.float .f32 0, .slice none 0 0] 56)).alloc (.cells #[.float .f32 s, .slice none 0 0] 56)).heap.size = w.heap.size + 3 := by simp
  replace n1 := Lib.hid n1
  replace n2 := Lib.hid n2
  replace hb2 := Lib.hid hb2
  replace hs2 := Lib.hid hs2
  clear n0
  go_enter Try.func23, Try.ntmps23
  go_wp2_with fail
  generalize (((w.alloc (.cells #[.float .f32 s, .slice A xs.length c] 50)).alloc (.cells #[.float .f32 0, .slice none 0 0] 56)).alloc (.cells #[.float .f32 s, .slice none 0 0] 56)) = W2 at n1 n2 hb2 hs2 ⊢
  refine (k1.out _ hb2.out).mono ?_
  rintro e w3 ⟨rfl, hp⟩
  replace hp := Lib.hid hp
  generalize hg2e : W2.heap.size = g2 at ⊢
  have hg2 : g2 = w.heap.size + 3 := by rw [← hg2e]; exact hs2.out
  have e1 := (hp.out.below.block (w.heap.size + 1) (by have := hs2.out; omega)).trans n1.out
  have e2 := (hp.out.below.block (w.heap.size + 1 + 1) (by have := hs2.out; omega)).trans n2.out
  have hb3 : Below w.heap.size w w3 := hb2.out.trans (hp.out.below.mono hb2.out.size)
  have c0 : w3.cell? ⟨w.heap.size + 1 + 1, 1, none⟩ = some (.slice none 0 0) := cell_of_row _ _ _ _ _ _ e2
  have d0 : w3.frozen? ⟨w.heap.size + 1 + 1, 1, none⟩ = false := frozen_of_row _ _ _ _ _ e2
  have m1 := (heap_setCell_other w3 ⟨w.heap.size + 1 + 1, 1, none⟩ (w.heap.size + 1) (.slice (some ⟨g2, 0, none⟩) xs.length xs.length) (by simp)).trans e1
  have m2 := heap_setCell_same w3 (w.heap.size + 1 + 1) 1 _ _ (.slice (some ⟨g2, 0, none⟩) xs.length xs.length) e2
  have c1 : (w3.setCell ⟨w.heap.size + 1 + 1, 1, none⟩ (.slice (some ⟨g2, 0, none⟩) xs.length xs.length)).cell? ⟨w.heap.size + 1 + 1, 0, none⟩ = some (.float .f32 s) := cell_of_row _ _ _ _ _ _ m2
  have c2 : (w3.setCell ⟨w.heap.size + 1 + 1, 1, none⟩ (.slice (some ⟨g2, 0, none⟩) xs.length xs.length)).cell? ⟨w.heap.size + 1 + 1, 1, none⟩ = some (.slice (some ⟨g2, 0, none⟩) xs.length xs.length) := cell_of_row _ _ _ _ _ _ m2
  have hst : Stays w (w3.setCell ⟨w.heap.size + 1 + 1, 1, none⟩ (.slice (some ⟨g2, 0, none⟩) xs.length xs.length)) := hb3.setCell (by simp; omega) _
  have hL2 : LiesR mkK 9 Mk.ins w3 g2 (.slice (some ⟨g2, 0, none⟩) xs.length xs.length) xs := by
    have := hp.out.lies
    rw [hg2e] at this
    exact this
  replace hL2 := Lib.hid (hL2.on fun _ => same_sets (w.heap.size + 1 + 1) g2 1 [.slice (some ⟨g2, 0, none⟩) xs.length xs.length] w3 (by omega))
  have hres := m1
  have hgs := Lib.hid (show g2 < (w3.setCell ⟨w.heap.size + 1 + 1, 1, none⟩ (.slice (some ⟨g2, 0, none⟩) xs.length xs.length)).heap.size from by have := hp.out.lt; rw [hg2e] at this; simp [World.setCell]; exact this)
  replace hg2 := Lib.hid hg2
  clear e1 e2 m1 m2 hb3 n1 n2 hb2 hp hg2e
  change Hid (LiesR mkK 9 Mk.ins (w3.setCell ⟨w.heap.size + 1 + 1, 1, none⟩ (.slice (some ⟨g2, 0, none⟩) xs.length xs.length)) g2 _ xs) at hL2
  go_wp2_with (refine wpList_store_row rfl _ _ _ rfl _ _ _ rfl rfl hres ?hi ?ho ?h1 ?hB hst ?_; (case hi => kernel_rfl); (case ho => rfl); (case h1 => first | rfl | simp [Value.oneCell']); (case hB => first | omega | (simp <;> omega)); intro w2 hw2 hq2 hother hsame)
  go_wp2
  apply end_agg rfl rfl rfl Try.underlying56 rfl (t := 56)
  case hg => exact hq2
  case hi => kernel_rfl
  case hR =>
    have hp2 : g2 ≠ w.heap.size + 1 := by have := hg2.out; omega
    have hlt := hgs.out
    exact ⟨s, g2, rfl, hf.out, by have := hg2.out; omega, hw2, hL2.out.on fun h => same_block (hother g2 h hp2) (by omega)⟩

/-- A copy of a map, as a value. -/
theorem c_toMp (v : Value) (o : Option Nat) (xs : List Mk) (w : World) (h : MpV w w.heap.size v o xs) (hn : xs.length ≤ 1048576) :
    Calls Try.prog 23 #[v] w fun e w' => ∃ v', e = .returned v' ∧ Below w.heap.size w w' ∧ MpV w' w'.heap.size v' o xs := by
  refine (c_toLandMap v o xs w h hn).mono ?_
  rintro e w' ⟨s, g, rfl, hf, _, hb, l⟩
  exact ⟨_, rfl, hb, s, _, _, rfl, hf, l.rows⟩

/-- A map in a block of its own. -/
theorem boxMp (t : TypeId) {w : World} {v : Value} {o : Option Nat} {xs : List Mk} (h : MpV w w.heap.size v o xs) : ∃ s A c, v = .agg #[.float .f32 s, .slice A xs.length c] ∧ FIs .f32 s o ∧
    ∀ w1, Stays (w.alloc (.cells #[.float .f32 s, .slice A xs.length c] t)) w1 → ((w1.cell? ⟨w.heap.size, 0, none⟩ = some (.float .f32 s) ∧ w1.cell? ⟨w.heap.size, 1, none⟩ = some (.slice A xs.length c)) ∧ Below w.heap.size w w1) ∧ MpV w1 w1.heap.size (.agg #[.float .f32 s, .slice A xs.length c]) o xs := by
  obtain ⟨s, A, c, rfl, hf, h1⟩ := h.val
  refine ⟨s, A, c, rfl, hf, fun w1 hb => ?_⟩
  have hb' : Below w.heap.size w w1 := (show Stays w _ from by (repeat (first | exact Stays.refl _ | (with_reducible refine Stays.drewN ?_ _) | (with_reducible refine Stays.alloc ?_ _) | (with_reducible refine Stays.drew ?_) | (refine Stays.trans ?_ ‹Stays _ _›)))).trans hb
  exact ⟨⟨⟨row_of hb (heap_alloc_new w _) 0, row_of hb (heap_alloc_new w _) 1⟩, hb'⟩, h.on hb'⟩

set_option maxRecDepth 100000 in
/-- An argument that is a map, opened. -/
theorem open_map {H : Type} {enc : TypeId × Value → H} {w : World} {held : Bool} {r : Reach} {b0 : Nat} {v : Value} {d : DataW H} {p : List MemPlace} (hval : Value.okWide Try.prog w r b0 50 v)
    (h : DataW.Trod enc Try.prog w 0 (fun _ => true) held 50 v d p) : ∃ o xs, MpV w w.heap.size v o xs ∧ xs.length ≤ 9223372036854775807 := by
  obtain ⟨v0, v1, y0, y1, n, rfl, _, _, h0, h1⟩ := Joins.open_agg2 Try.underlying50 (by kernel_rfl) (by kernel_rfl) hval h
  obtain ⟨ins, hk, _⟩ := trod_scal 12 22 [.f .f32] n [v0] y0 (by kernel_rfl) h0
  obtain ⟨A', ls, c', e1, l1, b1⟩ := trod_rows (K := mkK) Try.underlying48 rfl (by decide) (by kernel_rfl) (by kernel_rfl) h1
  cases e1
  match ins, hk with
  | [n0], ⟨⟨x, hx, hf⟩, _⟩ =>
    subst hx
    exact ⟨n0.gf, ls.map mkOf, ⟨x, A', c', by rw [List.length_map], hf, rows_mks l1⟩, by rw [List.length_map]; exact b1⟩
end Go.Proofs.Ytmcbeaihjdnelaa
