/- Spots of grids: what is asked of a list of spots; the cost of a spot, as the document says it. No condition. -/
import Derived.Test.YtdahlpljgcibfaaGeA
namespace Go.Proofs.Ytdahlpljgcibfaa
open Go Go.RowKit
set_option linter.unusedVariables false
set_option linter.unusedSimpArgs false

/-- A spot as a value. -/
def IsSpot (v : Value) (x y : Int) : Prop := v = .agg #[.int .i16 x, .int .i16 y]

def askC (a b : Int) (n : Nat) (x y : Int) : Int := if gridB a b n then (if hasB a b x y then 0 else 2) else 1

set_option maxRecDepth 100000 in
set_option maxHeartbeats 1000000 in
theorem c_asked1 (p g : Nat) (a b x y : Int) (A : Option Addr) (c n : Nat) (w : World) (hg : w.heap[p]? = some (.cells #[.int .i64 a, .int .i64 b, .slice A n c] 27 (0, 0))) (hn : n ≤ 1048576) (hx : In16 x) (hy : In16 y)
    (hs : ∀ w1, Stays w w1 → w1.cell? ⟨g, 0, none⟩ = some (.int .i16 x) ∧ w1.cell? ⟨g, 1, none⟩ = some (.int .i16 y)) :
    Calls Try.prog 56 #[.pointer (some ⟨p, 0, none⟩), .slice (some ⟨g, 0, none⟩) 1 1] w fun e w' => e = .returned (.int .i64 (askC a b n x y)) ∧ Stays w w' := by
  have k0 := c_l07Ok p a b A c n w hg hn
  have HG := grid_at hg
  have HS := Lib.hid hs
  unfold askC
  cases hgb : gridB a b n with
  | false =>
    rw [hgb] at k0
    replace k0 := Lib.hid k0
    clear hg HG hs
    go_enter Try.func56, Try.ntmps56
    go_wp2_with (go_at_call 48; refine k0.out.mono ?_; rintro e w1 ⟨rfl, hw1⟩)
    go_ret
    exact ⟨rfl, hw1⟩
  | true =>
    obtain ⟨ha, hb, hne⟩ := gridB_iff.1 hgb
    rw [hgb] at k0
    have k1 := fun W (h : Stays w W) => c_l07Spot p a b x y A c n W (HG.on h) ha hb hx hy
    generalize hasB a b x y = q at k1 ⊢
    replace k0 := Lib.hid k0
    replace k1 := Lib.hid k1
    clear hg HG hs ha hb hne hgb hx hy
    cases q
    all_goals
      go_enter Try.func56, Try.ntmps56
      go_wp2_with fail
      refine k0.out.mono ?_
      rintro e w1 ⟨rfl, hw1⟩
      replace hw1 := Lib.hid (show Stays w w1 from hw1)
      obtain ⟨q0, q1⟩ := HS.out w1 hw1.out
      go_wp2
      refine wp_loop_rounds 2 ?_
      rw [rounds_succ]
      go_wp2_with fail
      refine (k1.out w1 hw1.out).mono ?_
      rintro e w2 ⟨rfl, hw2⟩
      replace hw2 := Lib.hid (hw1.out.trans hw2)
      go_wp2
      try rw [rounds_succ]
      try go_wp2
      go_ret
      exact ⟨rfl, hw2.out⟩

def costV (a b : Int) (xs : List Int) (x y : Int) : Int := if gridB a b xs.length && hasB a b x y then xs.getD (y * a + x).toNat 0 else 0

set_option maxRecDepth 100000 in
set_option maxHeartbeats 1000000 in
theorem c_specCostAt (v : Value) (a b x y : Int) (xs : List Int) (w : World) (h : GdV w w.heap.size v a b xs) (hn : xs.length ≤ 1048576) (hx : In16 x) (hy : In16 y) :
    Calls Try.prog 25 #[v, .agg #[.int .i16 x, .int .i16 y]] w fun e w' => e = .returned (.tuple #[.int .u8 (costV a b xs x y), .int .i64 (askC a b xs.length x y)]) ∧ Below w.heap.size w w' := by
  obtain ⟨A, c, rfl, h1⟩ := h.val
  have hst : Stays w (((w.alloc (.cells #[.int .i64 a, .int .i64 b, .slice A xs.length c] 27)).alloc (.cells #[.int .i16 x, .int .i16 y] 40)).alloc (.cells #[.int .i16 x, .int .i16 y] 40)) := by (repeat (first | exact Stays.refl _ | (with_reducible refine Stays.drewN ?_ _) | (with_reducible refine Stays.alloc ?_ _) | (with_reducible refine Stays.drew ?_) | (refine Stays.trans ?_ ‹Stays _ _›)))
  have u0 : (((w.alloc (.cells #[.int .i64 a, .int .i64 b, .slice A xs.length c] 27)).alloc (.cells #[.int .i16 x, .int .i16 y] 40)).alloc (.cells #[.int .i16 x, .int .i16 y] 40)).heap[w.heap.size]? = some (.cells #[.int .i64 a, .int .i64 b, .slice A xs.length c] 27 (0, 0)) := by (repeat (first | (refine heap_top _ _ _ ?_; simp; done) | (with_reducible refine heap_drawn _ _ _ ?_) | (with_reducible refine heap_under _ _ _ ?_ ?_; (simp <;> omega))))
  have u1 : (((w.alloc (.cells #[.int .i64 a, .int .i64 b, .slice A xs.length c] 27)).alloc (.cells #[.int .i16 x, .int .i16 y] 40)).alloc (.cells #[.int .i16 x, .int .i16 y] 40)).heap[w.heap.size + 1]? = some (.cells #[.int .i16 x, .int .i16 y] 40 (0, 0)) := by (repeat (first | (refine heap_top _ _ _ ?_; simp; done) | (with_reducible refine heap_drawn _ _ _ ?_) | (with_reducible refine heap_under _ _ _ ?_ ?_; (simp <;> omega))))
  have u2 : (((w.alloc (.cells #[.int .i64 a, .int .i64 b, .slice A xs.length c] 27)).alloc (.cells #[.int .i16 x, .int .i16 y] 40)).alloc (.cells #[.int .i16 x, .int .i16 y] 40)).heap[w.heap.size + 1 + 1]? = some (.cells #[.int .i16 x, .int .i16 y] 40 (0, 0)) := by (repeat (first | (refine heap_top _ _ _ ?_; simp; done) | (with_reducible refine heap_drawn _ _ _ ?_) | (with_reducible refine heap_under _ _ _ ?_ ?_; (simp <;> omega))))
  have k0 := c_asked1 w.heap.size (w.heap.size + 1 + 1) a b x y A c xs.length _ u0 hn hx hy fun w1 h => ⟨row_of h u2 0, row_of h u2 1⟩
  have HG := grid_at u0
  have HC : Hid (∀ w1, Stays (((w.alloc (.cells #[.int .i64 a, .int .i64 b, .slice A xs.length c] 27)).alloc (.cells #[.int .i16 x, .int .i16 y] 40)).alloc (.cells #[.int .i16 x, .int .i16 y] 40)) w1 → w1.cell? ⟨w.heap.size, 2, none⟩ = some (.slice A xs.length c) ∧ w1.cell? ⟨w.heap.size + 1, 0, none⟩ = some (.int .i16 x) ∧ w1.cell? ⟨w.heap.size + 1, 1, none⟩ = some (.int .i16 y)) := Lib.hid fun w1 h => ⟨row_of h u0 2, row_of h u1 0, row_of h u1 1⟩
  have H1 := Lib.hid fun (w1 : World) (h : Stays w w1) => h1.below h
  unfold costV
  cases hgb : gridB a b xs.length with
  | false =>
    have e1 : askC a b xs.length x y = 1 := by unfold askC; rw [hgb]; rfl
    rw [e1] at k0 ⊢
    replace k0 := Lib.hid k0
    replace hst := Lib.hid hst
    clear HG h1 h u0 u1 u2 e1 hgb
    go_enter Try.func25, Try.ntmps25
    go_wp2_with (go_at_call 56; refine k0.out.mono ?_; rintro e w1 ⟨rfl, hw1⟩)
    go_ret2
    exact ⟨rfl, hst.out.trans hw1⟩
  | true =>
    obtain ⟨ha, hb, hne⟩ := gridB_iff.1 hgb
    cases hhb : hasB a b x y with
    | false =>
      have e1 : askC a b xs.length x y = 2 := by unfold askC; rw [hgb, hhb]; rfl
      rw [e1] at k0 ⊢
      replace k0 := Lib.hid k0
      replace hst := Lib.hid hst
      clear HG h1 h u0 u1 u2 e1 hgb hhb
      go_enter Try.func25, Try.ntmps25
      go_wp2_with (go_at_call 56; refine k0.out.mono ?_; rintro e w1 ⟨rfl, hw1⟩)
      go_ret2
      exact ⟨rfl, hst.out.trans hw1⟩
    | true =>
      obtain ⟨hx1, hy1⟩ := hasB_iff.1 hhb
      have e1 : askC a b xs.length x y = 0 := by unfold askC; rw [hgb, hhb]; rfl
      rw [e1] at k0 ⊢
      have bd := idx_bd ha hb hx1 hy1
      have kI := fun W (h : Stays _ W) => c_l07Index w.heap.size a b x y A c xs.length W (HG.on h) ha hb hx1 hy1
      rw [Int.mul_comm b a] at bd
      obtain ⟨i, hi⟩ : ∃ i : Nat, y * a + x = i := ⟨(y * a + x).toNat, by omega⟩
      have hil : i < xs.length := by omega
      rw [hi] at kI ⊢
      have hii : ((i : Int)).toNat = i := by omega
      rw [hii]
      have hr : xs[i]? = some xs[i] := List.getElem?_eq_getElem hil
      have hval : xs.getD i 0 = xs[i] := by rw [List.getD_eq_getElem?_getD, hr]; rfl
      simp only [Bool.and_self, if_true]
      rw [hval]
      obtain ⟨ad, rfl, hbl, hc0⟩ := Bs.at_ h1 hr
      generalize xs[i] = z at hc0 hr ⊢
      replace k0 := Lib.hid k0
      replace kI := Lib.hid kI
      have hst0 := hst
      replace hst := Lib.hid hst
      have hZ : Hid (∀ w1, Stays w w1 → w1.cell? (ad.add i) = some (.int .u8 z)) := Lib.hid fun w1 h => (Below.cell h (by rw [block_add]; exact hbl)).trans hc0
      have hil' : (i : Int) < (xs.length : Int) := by omega
      clear HG h1 h u0 u1 u2 e1 hgb hhb ha hb hne hx1 hy1 bd hi hii hr hval hc0 hbl hst0 hx hy H1
      go_enter Try.func25, Try.ntmps25
      go_wp2_with (go_at_call 56; refine k0.out.mono ?_; rintro e w1 ⟨rfl, hw1⟩)
      replace hw1 := Lib.hid hw1
      have hcells : ∀ w2, Stays w1 w2 → _ := fun w2 h => And.intro (HC.out w2 (hw1.out.trans h)) (hZ.out w2 (hst.out.trans (hw1.out.trans h)))
      refine wp_region_soft_tail 6 (Stays.refl _) (oneS 57 #[.pointer (some ⟨w.heap.size, 0, none⟩), .agg #[.int .i16 x, .int .i16 y]] (fun v => v = .int .i64 i)) [] (by kernel_rfl) (by kernel_rfl) (fun _ h => by cases h) ?_
      simp only [List.take_succ_cons, List.take_zero, List.drop_succ_cons, List.drop_zero]
      repeat ((with_reducible apply soft_detG); (case hwa => rfl); (case hA => rfl); (case h => (intro w1 hw1; have hc := hcells w1 hw1; go_simp; exact rfl)); go_simp)
      refine soft_callO (by rfl) rfl ?h (fun w2 h2 => (kI.out w2 (hw1.out.trans h2)).mono fun e w' ⟨h1, h2⟩ => ⟨_, h1, rfl, h2⟩) ?_
      case h => (intro w2 hw2; have hc := hcells w2 hw2; go_simp; try exact ⟨rfl, rfl⟩)
      rintro v rfl
      go_simp
      repeat ((with_reducible apply soft_detG); (case hwa => rfl); (case hA => rfl); (case h => (intro w1 hw1; have hc := hcells w1 hw1; go_simp; exact rfl)); go_simp)
      refine soft_nil ?_
      rintro w2 ⟨hw2, _⟩
      replace hw2 := Lib.hid (hst.out.trans (hw1.out.trans hw2))
      clear hcells
      go_wp2
      go_ret2
      exact ⟨rfl, hw2.out⟩
end Go.Proofs.Ytdahlpljgcibfaa
