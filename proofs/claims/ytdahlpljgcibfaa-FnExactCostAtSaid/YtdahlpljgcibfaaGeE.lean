/- The cost of a spot, as the program says it, and the law. No condition. -/
import Derived.Test.YtdahlpljgcibfaaGeD
import Derived.Deep.RegionHeld
namespace Go.Proofs.Ytdahlpljgcibfaa
open Go Go.RowKit
set_option linter.unusedVariables false
set_option linter.unusedSimpArgs false

set_option maxRecDepth 100000 in
set_option maxHeartbeats 1000000 in
theorem c_implCostAt (A : Option Addr) (c : Nat) (a b x y : Int) (xs : List Int) (w : World) (h1 : Bs w w.heap.size A xs) (hc : xs.length ≤ c) (hn : xs.length ≤ 1048576) (hx : In16 x) (hy : In16 y) :
    Calls Try.prog 27 #[.agg #[.int .i64 a, .int .i64 b, .slice A xs.length c], .agg #[.int .i16 x, .int .i16 y]] w fun e w' => e = .returned (.tuple #[.int .u8 (costV a b xs x y), .int .i64 (askC a b xs.length x y)]) ∧ Below w.heap.size w w' := by
  have hst : Stays w ((w.alloc (.cells #[.int .i64 a, .int .i64 b, .slice A xs.length c] 27)).alloc (.cells #[.int .i16 x, .int .i16 y] 40)) := by (repeat (first | exact Stays.refl _ | (with_reducible refine Stays.drewN ?_ _) | (with_reducible refine Stays.alloc ?_ _) | (with_reducible refine Stays.drew ?_) | (refine Stays.trans ?_ ‹Stays _ _›)))
  have u0 : ((w.alloc (.cells #[.int .i64 a, .int .i64 b, .slice A xs.length c] 27)).alloc (.cells #[.int .i16 x, .int .i16 y] 40)).heap[w.heap.size]? = some (.cells #[.int .i64 a, .int .i64 b, .slice A xs.length c] 27 (0, 0)) := by (repeat (first | (refine heap_top _ _ _ ?_; simp; done) | (with_reducible refine heap_drawn _ _ _ ?_) | (with_reducible refine heap_under _ _ _ ?_ ?_; (simp <;> omega))))
  have u1 : ((w.alloc (.cells #[.int .i64 a, .int .i64 b, .slice A xs.length c] 27)).alloc (.cells #[.int .i16 x, .int .i16 y] 40)).heap[w.heap.size + 1]? = some (.cells #[.int .i16 x, .int .i16 y] 40 (0, 0)) := by (repeat (first | (refine heap_top _ _ _ ?_; simp; done) | (with_reducible refine heap_drawn _ _ _ ?_) | (with_reducible refine heap_under _ _ _ ?_ ?_; (simp <;> omega))))
  have k0 := c_implValidGrid (.agg #[.int .i64 a, .int .i64 b, .slice A xs.length c]) a b xs ((w.alloc (.cells #[.int .i64 a, .int .i64 b, .slice A xs.length c] 27)).alloc (.cells #[.int .i16 x, .int .i16 y] 40)) ⟨A, c, rfl, (h1.below hst).more hst.size⟩ hn
  have hmf : ∀ (fn : Fn) (first cap : Array Value) (w : World), (Instr.makeFunc fn first cap).run Try.prog w = .ok (.func fn first cap) w := fun _ _ _ _ => rfl
  have HC : ∀ w1, Stays ((w.alloc (.cells #[.int .i64 a, .int .i64 b, .slice A xs.length c] 27)).alloc (.cells #[.int .i16 x, .int .i16 y] 40)) w1 → w1.cell? ⟨w.heap.size, 0, none⟩ = some (.int .i64 a) ∧ w1.cell? ⟨w.heap.size, 1, none⟩ = some (.int .i64 b) ∧ w1.cell? ⟨w.heap.size, 2, none⟩ = some (.slice A xs.length c) ∧ w1.cell? ⟨w.heap.size + 1, 0, none⟩ = some (.int .i16 x) ∧ w1.cell? ⟨w.heap.size + 1, 1, none⟩ = some (.int .i16 y) := fun w1 h => ⟨row_of h u0 0, row_of h u0 1, row_of h u0 2, row_of h u1 0, row_of h u1 1⟩
  unfold costV
  cases hgb : gridB a b xs.length with
  | false =>
    rw [hgb] at k0
    have e1 : askC a b xs.length x y = 1 := by unfold askC; rw [hgb]; rfl
    rw [e1]
    replace k0 := Lib.hid k0
    replace hst := Lib.hid hst
    clear HC h1 u0 u1 e1 hgb
    go_enter Try.func27, Try.ntmps27
    go_wp2_with (go_at_call 17; refine k0.out.mono ?_; rintro e w1 ⟨rfl, hw1⟩)
    go_ret2
    exact ⟨rfl, hst.out.trans hw1⟩
  | true =>
    rw [hgb] at k0
    obtain ⟨ha, hb, hne⟩ := gridB_iff.1 hgb
    cases hhb : hasB a b x y with
    | false =>
      have e1 : askC a b xs.length x y = 2 := by unfold askC; rw [hgb, hhb]; rfl
      rw [e1]
      have kM := fun W (h : Stays ((w.alloc (.cells #[.int .i64 a, .int .i64 b, .slice A xs.length c] 27)).alloc (.cells #[.int .i16 x, .int .i16 y] 40)) W) => c_madeP #[.pointer (some ⟨w.heap.size, 0, none⟩), .pointer (some ⟨w.heap.size + 1, 0, none⟩)] W fun W2 h2 => c_cost1P w.heap.size (w.heap.size + 1) a b x y A c xs.length W2 hx hy hhb (HC W2 (h.trans h2))
      replace k0 := Lib.hid k0
      replace kM := Lib.hid kM
      replace hst := Lib.hid hst
      clear HC h1 u0 u1 e1 hgb hhb ha hb hne hx hy
      go_enter Try.func27, Try.ntmps27
      go_wp2_with (first
        | (go_at_call 17; refine k0.out.mono ?_; rintro e w1 ⟨rfl, hw1⟩; replace hw1 := Lib.hid (show Stays _ w1 from hw1))
        | (go_at_call 58; refine (kM.out _ hw1.out).mono ?_; rintro e w2 ⟨rfl, hw2⟩))
      go_ret2
      exact ⟨rfl, hst.out.trans (hw1.out.trans hw2)⟩
    | true =>
      obtain ⟨hx1, hy1⟩ := hasB_iff.1 hhb
      have e1 : askC a b xs.length x y = 0 := by unfold askC; rw [hgb, hhb]; rfl
      rw [e1]
      have bd := idx_bd ha hb hx1 hy1
      rw [Int.mul_comm b a] at bd
      obtain ⟨i, hi⟩ : ∃ i : Nat, y * a + x = i := ⟨(y * a + x).toNat, by omega⟩
      have hil : i < xs.length := by omega
      have hii : (y * a + x).toNat = i := by omega
      rw [hii]
      have hr : xs[i]? = some xs[i] := List.getElem?_eq_getElem hil
      have hval : xs.getD i 0 = xs[i] := by rw [List.getD_eq_getElem?_getD, hr]; rfl
      simp only [Bool.and_self, if_true]
      rw [hval]
      obtain ⟨ad, rfl, hbl, hc0⟩ := Bs.at_ h1 hr
      generalize xs[i] = z at hc0 hr ⊢
      have hZ : ∀ w1, Stays w w1 → w1.cell? (ad.add i) = some (.int .u8 z) := fun w1 h => (Below.cell h (by rw [block_add]; exact hbl)).trans hc0
      have kM := fun W (h : Stays ((w.alloc (.cells #[.int .i64 a, .int .i64 b, .slice (some ad) xs.length c] 27)).alloc (.cells #[.int .i16 x, .int .i16 y] 40)) W) => c_made #[.pointer (some ⟨w.heap.size, 0, none⟩), .pointer (some ⟨w.heap.size + 1, 0, none⟩)] z W fun W2 h2 => c_cost1 w.heap.size (w.heap.size + 1) a b x y z ad c xs.length i W2 ha hb hx1 hy1 hne hc hi (HC W2 (h.trans h2)) fun w3 h3 => hZ w3 (hst.trans (h.trans (h2.trans h3)))
      replace k0 := Lib.hid k0
      replace kM := Lib.hid kM
      replace hst := Lib.hid hst
      clear HC h1 u0 u1 e1 hgb hhb ha hb hne hx hy hx1 hy1 bd hi hil hii hr hval hZ hbl hc0
      go_enter Try.func27, Try.ntmps27
      go_wp2_with (first
        | (go_at_call 17; refine k0.out.mono ?_; rintro e w1 ⟨rfl, hw1⟩; replace hw1 := Lib.hid (show Stays _ w1 from hw1))
        | (go_at_call 58; refine (kM.out _ hw1.out).mono ?_; rintro e w2 ⟨rfl, hw2⟩))
      go_ret2
      exact ⟨rfl, hst.out.trans (hw1.out.trans hw2)⟩

theorem c_toSp (x y : Int) (w : World) : Calls Try.prog 26 #[.agg #[.int .i16 x, .int .i16 y]] w fun e w' => e = .returned (.agg #[.int .i16 x, .int .i16 y]) ∧ Stays w w' := by
  refine (c_toSpot (.agg #[.int .i16 x, .int .i16 y]) [.i x, .i y] w ⟨_, rfl, rfl, rfl, trivial⟩).mono ?_
  rintro e w' ⟨cs, rfl, hk, hb⟩
  have hl := KMs_len hk
  obtain ⟨l⟩ := cs
  match l, hl, hk with
  | [c0, c1], _, ⟨h0, h1, _⟩ =>
    have h0 : c0 = .int .i16 x := h0
    have h1 : c1 = .int .i16 y := h1
    subst h0 h1
    exact ⟨rfl, hb⟩

set_option maxRecDepth 100000 in
set_option maxHeartbeats 2000000 in
theorem c_lawCostAt (v : Value) (a b x y : Int) (xs : List Int) (w : World) (h : GdV w w.heap.size v a b xs) (hn : xs.length ≤ 9223372036854775807) (hx : In16 x) (hy : In16 y) :
    Calls Try.prog 6 #[v, .agg #[.int .i16 x, .int .i16 y]] w fun e w' => e = .returned (.bool true) ∧ Below w.heap.size w w' := by
  obtain ⟨A, c, rfl, h1⟩ := h.val
  have u0 : ((w.alloc (.cells #[.int .i64 a, .int .i64 b, .slice A xs.length c] 24)).alloc (.cells #[.int .i16 x, .int .i16 y] 37)).heap[w.heap.size]? = some (.cells #[.int .i64 a, .int .i64 b, .slice A xs.length c] 24 (0, 0)) := by (repeat (first | (refine heap_top _ _ _ ?_; simp; done) | (with_reducible refine heap_drawn _ _ _ ?_) | (with_reducible refine heap_under _ _ _ ?_ ?_; (simp <;> omega))))
  have u1 : ((w.alloc (.cells #[.int .i64 a, .int .i64 b, .slice A xs.length c] 24)).alloc (.cells #[.int .i16 x, .int .i16 y] 37)).heap[w.heap.size + 1]? = some (.cells #[.int .i16 x, .int .i16 y] 37 (0, 0)) := by (repeat (first | (refine heap_top _ _ _ ?_; simp; done) | (with_reducible refine heap_drawn _ _ _ ?_) | (with_reducible refine heap_under _ _ _ ?_ ?_; (simp <;> omega))))
  have hst : Stays w ((w.alloc (.cells #[.int .i64 a, .int .i64 b, .slice A xs.length c] 24)).alloc (.cells #[.int .i16 x, .int .i16 y] 37)) := by (repeat (first | exact Stays.refl _ | (with_reducible refine Stays.drewN ?_ _) | (with_reducible refine Stays.alloc ?_ _) | (with_reducible refine Stays.drew ?_) | (refine Stays.trans ?_ ‹Stays _ _›)))
  have HB : Hid (∀ w1, Stays ((w.alloc (.cells #[.int .i64 a, .int .i64 b, .slice A xs.length c] 24)).alloc (.cells #[.int .i16 x, .int .i16 y] 37)) w1 → ((w1.cell? ⟨w.heap.size, 0, none⟩ = some (.int .i64 a) ∧ w1.cell? ⟨w.heap.size, 1, none⟩ = some (.int .i64 b) ∧ w1.cell? ⟨w.heap.size, 2, none⟩ = some (.slice A xs.length c) ∧ w1.cell? ⟨w.heap.size + 1, 0, none⟩ = some (.int .i16 x) ∧ w1.cell? ⟨w.heap.size + 1, 1, none⟩ = some (.int .i16 y)) ∧ Below w.heap.size w w1) ∧ GdV w1 w1.heap.size (.agg #[.int .i64 a, .int .i64 b, .slice A xs.length c]) a b xs) :=
    Lib.hid fun w1 hs => ⟨⟨⟨row_of hs u0 0, row_of hs u0 1, row_of hs u0 2, row_of hs u1 0, row_of hs u1 1⟩, hst.trans hs⟩, GdV.on ⟨A, c, rfl, h1⟩ (hst.trans hs)⟩
  have hsz := fun W => c_szGrid A c xs.length a b 1048576 W hn (by omega) (by omega)
  clear h h1 u0 u1 hst
  by_cases hl : (1048576 : Int) - xs.length < 0
  · simp only [if_pos hl] at hsz
    replace hsz := Lib.hid hsz
    go_enter Try.func6, Try.ntmps6
    go_wp2_with fail
    refine (hsz.out _).mono ?_
    rintro e w1 ⟨rfl, hb⟩
    go_wp2
    go_ret
    exact ⟨rfl, (HB.out _ hb).1.2⟩
  · simp only [if_neg hl] at hsz
    have hn' : xs.length ≤ 1048576 := by omega
    have hX : ¬ ((1048576 : Int) - xs.length < 0) := hl
    generalize (1048576 : Int) - xs.length = X at hX hsz
    replace hsz := Lib.hid hsz
    have kS := Lib.hid fun v w h => c_specCostAt v a b x y xs w h hn' hx hy
    have kI := Lib.hid fun A c w h hc => c_implCostAt A c a b x y xs w h hc hn' hx hy
    have kT := Lib.hid fun W => c_toSp x y W
    generalize costV a b xs x y = val at kS kI
    generalize askC a b xs.length x y = code at kS kI
    clear hl hn hx hy
    go_enter Try.func6, Try.ntmps6
    go_wp2_with fail
    refine (hsz.out _).mono ?_
    rintro e w1 ⟨rfl, hb⟩
    have hb1 := Lib.hid (show Stays _ w1 from hb)
    clear hb
    generalize ((w.alloc (.cells #[.int .i64 a, .int .i64 b, .slice A xs.length c] 24)).alloc (.cells #[.int .i16 x, .int .i16 y] 37)) = W0 at HB hb1
    have G1 : Hid (∀ w', Stays w1 w' → (w'.cell? ⟨w.heap.size, 0, none⟩ = some (.int .i64 a) ∧ w'.cell? ⟨w.heap.size, 1, none⟩ = some (.int .i64 b) ∧ w'.cell? ⟨w.heap.size, 2, none⟩ = some (.slice A xs.length c) ∧ w'.cell? ⟨w.heap.size + 1, 0, none⟩ = some (.int .i16 x) ∧ w'.cell? ⟨w.heap.size + 1, 1, none⟩ = some (.int .i16 y)) ∧ Hid (Stays w1 w')) := Lib.hid fun w' h => ⟨(HB.out _ (hb1.out.trans h)).1.1, Lib.hid h⟩
    have h1 := Lib.hid (show Stays w1 w1.drew from (Stays.refl w1).drew)
    go_wp2_with fail
    go_region_held (fun w' => (w'.cell? ⟨w.heap.size, 0, none⟩ = some (.int .i64 a) ∧ w'.cell? ⟨w.heap.size, 1, none⟩ = some (.int .i64 b) ∧ w'.cell? ⟨w.heap.size, 2, none⟩ = some (.slice A xs.length c) ∧ w'.cell? ⟨w.heap.size + 1, 0, none⟩ = some (.int .i16 x) ∧ w'.cell? ⟨w.heap.size + 1, 1, none⟩ = some (.int .i16 y)) ∧ Hid (Stays w1 w')) (first | exact G1.out _ h1.out | exact G1.out _ h2.out | exact G1.out _ h3.out | exact G1.out _ h4.out)
      (first
        | (go_at_call 25; refine (kS.out v1 _ (hv1.out)).mono ?_; rintro e w4 ⟨rfl, hb⟩; have h4 := Lib.hid (h3.out.trans hb); clear hb)
        | (go_at_call 26; refine (kT.out _).mono ?_; rintro e w3 ⟨rfl, hb⟩; have h3 := Lib.hid (h2.out.trans hb); replace hv1 := Lib.hid (hv1.out.on hb); clear hb)
        | (go_at_call 16; refine (c_toGd _ a b xs _ (HB.out _ (hb1.out.trans h1.out)).2 hn').mono ?_; rintro e w2 ⟨v1, rfl, hb, hv1⟩; have h2 := Lib.hid (h1.out.trans hb); clear hb; replace hv1 := Lib.hid hv1))
    have hb4 := Lib.hid (hb1.out.trans h4.out)
    clear h1 h2 h3 h4 G1 hb1 hv1
    obtain ⟨⟨⟨q0, q1, q2, q3, q4⟩, _⟩, hg⟩ := HB.out _ hb4.out
    replace hg := Lib.hid hg
    go_wp2_with fail
    refine (c_toGrid _ a b xs w4 hg.out hn').mono ?_
    rintro e w5 ⟨g, rfl, _, hb, hL⟩
    have hb5 := Lib.hid (hb4.out.trans hb)
    have hbx := heap_alloc_new w5 (.cells #[.int .i64 a, .int .i64 b, .slice (some ⟨g, 0, none⟩) xs.length xs.length] 27)
    have hsx : Stays w5 (w5.alloc (.cells #[.int .i64 a, .int .i64 b, .slice (some ⟨g, 0, none⟩) xs.length xs.length] 27)) := by (repeat (first | exact Stays.refl _ | (with_reducible refine Stays.drewN ?_ _) | (with_reducible refine Stays.alloc ?_ _) | (with_reducible refine Stays.drew ?_) | (refine Stays.trans ?_ ‹Stays _ _›)))
    have HX : Hid (∀ w', Stays (w5.alloc (.cells #[.int .i64 a, .int .i64 b, .slice (some ⟨g, 0, none⟩) xs.length xs.length] 27)) w' → (w'.cell? ⟨w5.heap.size, 0, none⟩ = some (.int .i64 a) ∧ w'.cell? ⟨w5.heap.size, 1, none⟩ = some (.int .i64 b) ∧ w'.cell? ⟨w5.heap.size, 2, none⟩ = some (.slice (some ⟨g, 0, none⟩) xs.length xs.length)) ∧ Bs w' w'.heap.size (some ⟨g, 0, none⟩) xs) := Lib.hid fun w' hs => ⟨⟨row_of hs hbx 0, row_of hs hbx 1, row_of hs hbx 2⟩, (hL.below (hsx.trans hs)).rows⟩
    have hb5x := Lib.hid (hb5.out.trans hsx)
    have hxx := Lib.hid (Stays.refl (w5.alloc (.cells #[.int .i64 a, .int .i64 b, .slice (some ⟨g, 0, none⟩) xs.length xs.length] 27)))
    clear hb hL hbx hsx hg q0 q1 q2 q3 q4
    obtain ⟨⟨⟨q0, q1, q2, q3, q4⟩, _⟩, _⟩ := HB.out _ hb5x.out
    go_wp2_with fail
    generalize (w5.alloc (.cells #[.int .i64 a, .int .i64 b, .slice (some ⟨g, 0, none⟩) xs.length xs.length] 27)) = WX at HX hb5x hxx q0 q1 q2 q3 q4 ⊢
    have G5 : Hid (∀ w', Stays WX w' → (w'.cell? ⟨w5.heap.size, 0, none⟩ = some (.int .i64 a) ∧ w'.cell? ⟨w5.heap.size, 1, none⟩ = some (.int .i64 b) ∧ w'.cell? ⟨w5.heap.size, 2, none⟩ = some (.slice (some ⟨g, 0, none⟩) xs.length xs.length)) ∧ (w'.cell? ⟨w.heap.size + 1, 0, none⟩ = some (.int .i16 x) ∧ w'.cell? ⟨w.heap.size + 1, 1, none⟩ = some (.int .i16 y)) ∧ Hid (Stays WX w')) := Lib.hid fun w' h => ⟨(HX.out _ (hxx.out.trans h)).1, (HB.out _ (hb5x.out.trans h)).1.1.2.2.2, Lib.hid h⟩
    have h5 := Lib.hid (show Stays WX WX.drew from (Stays.refl WX).drew)
    clear q0 q1 q2 q3 q4
    go_region_held (fun w' => (w'.cell? ⟨w5.heap.size, 0, none⟩ = some (.int .i64 a) ∧ w'.cell? ⟨w5.heap.size, 1, none⟩ = some (.int .i64 b) ∧ w'.cell? ⟨w5.heap.size, 2, none⟩ = some (.slice (some ⟨g, 0, none⟩) xs.length xs.length)) ∧ (w'.cell? ⟨w.heap.size + 1, 0, none⟩ = some (.int .i16 x) ∧ w'.cell? ⟨w.heap.size + 1, 1, none⟩ = some (.int .i16 y)) ∧ Hid (Stays WX w')) (first | exact G5.out _ h5.out | exact G5.out _ h6.out | exact G5.out _ h7.out)
      (first
        | (go_at_call 27; refine (kI.out _ _ _ (HX.out _ (hxx.out.trans h6.out)).2 (Nat.le_refl _)).mono ?_; rintro e w7 ⟨rfl, hb⟩; have h7 := Lib.hid (h6.out.trans hb); clear hb)
        | (go_at_call 26; refine (kT.out _).mono ?_; rintro e w6 ⟨rfl, hb⟩; have h6 := Lib.hid (h5.out.trans hb); clear hb))
    have hb7 := Lib.hid (hb5x.out.trans h7.out)
    have hx7 := Lib.hid (hxx.out.trans h7.out)
    clear h5 h6 h7 G5 hb5x hxx
    have G : Hid (∀ w', Stays w7 w' → (w'.cell? ⟨w.heap.size, 0, none⟩ = some (.int .i64 a) ∧ w'.cell? ⟨w.heap.size, 1, none⟩ = some (.int .i64 b) ∧ w'.cell? ⟨w.heap.size, 2, none⟩ = some (.slice A xs.length c) ∧ w'.cell? ⟨w.heap.size + 1, 0, none⟩ = some (.int .i16 x) ∧ w'.cell? ⟨w.heap.size + 1, 1, none⟩ = some (.int .i16 y)) ∧ (w'.cell? ⟨w5.heap.size, 0, none⟩ = some (.int .i64 a) ∧ w'.cell? ⟨w5.heap.size, 1, none⟩ = some (.int .i64 b) ∧ w'.cell? ⟨w5.heap.size, 2, none⟩ = some (.slice (some ⟨g, 0, none⟩) xs.length xs.length)) ∧ Hid (Stays w7 w')) := Lib.hid fun w' h => ⟨(HB.out _ (hb7.out.trans h)).1.1, (HX.out _ (hx7.out.trans h)).1, Lib.hid h⟩
    have h8 := Lib.hid (show Stays w7 w7.drew from (Stays.refl w7).drew)
    go_wp2_with fail
    go_region_held (fun w' => (w'.cell? ⟨w.heap.size, 0, none⟩ = some (.int .i64 a) ∧ w'.cell? ⟨w.heap.size, 1, none⟩ = some (.int .i64 b) ∧ w'.cell? ⟨w.heap.size, 2, none⟩ = some (.slice A xs.length c) ∧ w'.cell? ⟨w.heap.size + 1, 0, none⟩ = some (.int .i16 x) ∧ w'.cell? ⟨w.heap.size + 1, 1, none⟩ = some (.int .i16 y)) ∧ (w'.cell? ⟨w5.heap.size, 0, none⟩ = some (.int .i64 a) ∧ w'.cell? ⟨w5.heap.size, 1, none⟩ = some (.int .i64 b) ∧ w'.cell? ⟨w5.heap.size, 2, none⟩ = some (.slice (some ⟨g, 0, none⟩) xs.length xs.length)) ∧ Hid (Stays w7 w')) (first | exact G.out _ h8.out | exact G.out _ h9.out | exact G.out _ h10.out)
      (first
        | (go_at_call 16; refine (c_toGd _ a b xs _ (HB.out _ (hb7.out.trans h8.out)).2 hn').mono ?_; rintro e w9 ⟨v3, rfl, hb, hv3⟩; have h9 := Lib.hid (h8.out.trans hb); clear hb; replace hv3 := Lib.hid hv3)
        | (go_at_call 18; refine (c_eqGrid _ v3 a b xs w9 ⟨_, _, rfl, (HX.out _ (hx7.out.trans h9.out)).2⟩ hv3.out hn').mono ?_; rintro e w10 ⟨rfl, hb⟩; have h10 := Lib.hid (h9.out.trans hb); clear hb))
    go_wp2
    go_ret
    exact ⟨rfl, (HB.out _ (hb7.out.trans h10.out)).1.2⟩
end Go.Proofs.Ytdahlpljgcibfaa
