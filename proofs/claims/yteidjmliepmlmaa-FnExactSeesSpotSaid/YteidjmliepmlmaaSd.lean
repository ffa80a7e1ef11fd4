/- The law on whether a spot is seen from another one. No condition. -/
import Derived.Test.YteidjmliepmlmaaSq
import Derived.Test.YteidjmliepmlmaaGeF
namespace Go.Proofs.Yteidjmliepmlmaa
open Go Go.RowKit
set_option linter.unusedVariables false
set_option linter.unusedSimpArgs false

set_option maxRecDepth 100000 in
set_option maxHeartbeats 2000000 in
theorem c_lawSees (v : Value) (a b ax ay bx by' : Int) (xs : List Int) (w : World) (h : GdV w w.heap.size v a b xs) (hn : xs.length ≤ 9223372036854775807) (hax : In16 ax) (hay : In16 ay) (hbx : In16 bx) (hby : In16 by') :
    Calls Try.prog 7 #[v, .agg #[.int .i16 ax, .int .i16 ay], .agg #[.int .i16 bx, .int .i16 by']] w fun e w' => e = .returned (.bool true) ∧ Below w.heap.size w w' := by
  obtain ⟨A, c, rfl, h1⟩ := h.val
  have u0 : (((w.alloc (.cells #[.int .i64 a, .int .i64 b, .slice A xs.length c] 24)).alloc (.cells #[.int .i16 ax, .int .i16 ay] 26)).alloc (.cells #[.int .i16 bx, .int .i16 by'] 26)).heap[w.heap.size]? = some (.cells #[.int .i64 a, .int .i64 b, .slice A xs.length c] 24 (0, 0)) := by (repeat (first | (refine heap_top _ _ _ ?_; simp; done) | (with_reducible refine heap_drawn _ _ _ ?_) | (with_reducible refine heap_under _ _ _ ?_ ?_; (simp <;> omega))))
  have u1 : (((w.alloc (.cells #[.int .i64 a, .int .i64 b, .slice A xs.length c] 24)).alloc (.cells #[.int .i16 ax, .int .i16 ay] 26)).alloc (.cells #[.int .i16 bx, .int .i16 by'] 26)).heap[w.heap.size + 1]? = some (.cells #[.int .i16 ax, .int .i16 ay] 26 (0, 0)) := by (repeat (first | (refine heap_top _ _ _ ?_; simp; done) | (with_reducible refine heap_drawn _ _ _ ?_) | (with_reducible refine heap_under _ _ _ ?_ ?_; (simp <;> omega))))
  have u2 : (((w.alloc (.cells #[.int .i64 a, .int .i64 b, .slice A xs.length c] 24)).alloc (.cells #[.int .i16 ax, .int .i16 ay] 26)).alloc (.cells #[.int .i16 bx, .int .i16 by'] 26)).heap[w.heap.size + 1 + 1]? = some (.cells #[.int .i16 bx, .int .i16 by'] 26 (0, 0)) := by (repeat (first | (refine heap_top _ _ _ ?_; simp; done) | (with_reducible refine heap_drawn _ _ _ ?_) | (with_reducible refine heap_under _ _ _ ?_ ?_; (simp <;> omega))))
  have hst : Stays w (((w.alloc (.cells #[.int .i64 a, .int .i64 b, .slice A xs.length c] 24)).alloc (.cells #[.int .i16 ax, .int .i16 ay] 26)).alloc (.cells #[.int .i16 bx, .int .i16 by'] 26)) := by (repeat (first | exact Stays.refl _ | (with_reducible refine Stays.drewN ?_ _) | (with_reducible refine Stays.alloc ?_ _) | (with_reducible refine Stays.drew ?_) | (refine Stays.trans ?_ ‹Stays _ _›)))
  have HB : Hid (∀ w', Stays (((w.alloc (.cells #[.int .i64 a, .int .i64 b, .slice A xs.length c] 24)).alloc (.cells #[.int .i16 ax, .int .i16 ay] 26)).alloc (.cells #[.int .i16 bx, .int .i16 by'] 26)) w' → (((w'.cell? ⟨w.heap.size, 0, none⟩ = some (.int .i64 a) ∧ w'.cell? ⟨w.heap.size, 1, none⟩ = some (.int .i64 b) ∧ w'.cell? ⟨w.heap.size, 2, none⟩ = some (.slice A xs.length c)) ∧ (w'.cell? ⟨w.heap.size + 1, 0, none⟩ = some (.int .i16 ax) ∧ w'.cell? ⟨w.heap.size + 1, 1, none⟩ = some (.int .i16 ay) ∧ w'.cell? ⟨w.heap.size + 1 + 1, 0, none⟩ = some (.int .i16 bx) ∧ w'.cell? ⟨w.heap.size + 1 + 1, 1, none⟩ = some (.int .i16 by'))) ∧ Below w.heap.size w w') ∧ GdV w' w'.heap.size (.agg #[.int .i64 a, .int .i64 b, .slice A xs.length c]) a b xs) :=
    Lib.hid fun w1 hs => ⟨⟨⟨⟨row_of hs u0 0, row_of hs u0 1, row_of hs u0 2⟩, row_of hs u1 0, row_of hs u1 1, row_of hs u2 0, row_of hs u2 1⟩, hst.trans hs⟩, GdV.on ⟨A, c, rfl, h1⟩ (hst.trans hs)⟩
  have hsz := fun W => c_szGrid A c xs.length a b 1048576 W hn (by omega) (by omega)
  clear h h1 u0 u1 u2 hst
  by_cases hl : (1048576 : Int) - xs.length < 0
  · simp only [if_pos hl] at hsz
    replace hsz := Lib.hid hsz
    go_enter Try.func7, Try.ntmps7
    go_wp2_with fail
    refine (hsz.out _).mono ?_
    rintro e w1 ⟨rfl, hb⟩
    go_wp2
    go_ret
    exact ⟨rfl, (HB.out _ hb).1.2⟩
  · simp only [if_neg hl] at hsz
    have hn' : xs.length ≤ 1048576 := by omega
    have hX : ¬ ((1048576 : Int) - xs.length < 0) := hl
    generalize (1048576 : Int) - xs.length = X at hX hsz
    replace hsz := Lib.hid hsz
    have kS := Lib.hid fun v w h => c_specSees v a b ax ay bx by' xs w h hn' hax hay hbx hby
    have kI := Lib.hid fun A c w h hc => c_implSees A c a b ax ay bx by' xs w h hc hn' hax hay hbx hby
    have kA := Lib.hid fun W => c_toSp ax ay W
    have kB := Lib.hid fun W => c_toSp bx by' W
    generalize seeV a b xs ax ay bx by' = val at kS kI
    generalize ask2 a b xs.length ax ay bx by' = code at kS kI
    clear hl hn hax hay hbx hby
    go_enter Try.func7, Try.ntmps7
    go_wp2_with fail
    refine (hsz.out _).mono ?_
    rintro e w1 ⟨rfl, hb⟩
    have hb1 := Lib.hid (show Stays _ w1 from hb)
    clear hb
    generalize (((w.alloc (.cells #[.int .i64 a, .int .i64 b, .slice A xs.length c] 24)).alloc (.cells #[.int .i16 ax, .int .i16 ay] 26)).alloc (.cells #[.int .i16 bx, .int .i16 by'] 26)) = W0 at HB hb1
    have G1 : Hid (∀ w', Stays w1 w' → ((w'.cell? ⟨w.heap.size, 0, none⟩ = some (.int .i64 a) ∧ w'.cell? ⟨w.heap.size, 1, none⟩ = some (.int .i64 b) ∧ w'.cell? ⟨w.heap.size, 2, none⟩ = some (.slice A xs.length c)) ∧ (w'.cell? ⟨w.heap.size + 1, 0, none⟩ = some (.int .i16 ax) ∧ w'.cell? ⟨w.heap.size + 1, 1, none⟩ = some (.int .i16 ay) ∧ w'.cell? ⟨w.heap.size + 1 + 1, 0, none⟩ = some (.int .i16 bx) ∧ w'.cell? ⟨w.heap.size + 1 + 1, 1, none⟩ = some (.int .i16 by'))) ∧ Hid (Stays w1 w')) := Lib.hid fun w' h => ⟨(HB.out _ (hb1.out.trans h)).1.1, Lib.hid h⟩
    have h1 := Lib.hid (show Stays w1 w1.drew from (Stays.refl w1).drew)
    obtain ⟨⟨⟨q0, q1, q2⟩, _⟩, _⟩ := HB.out _ hb1.out
    go_wp2_with fail
    clear q0 q1 q2
    go_region_held (fun w' => ((w'.cell? ⟨w.heap.size, 0, none⟩ = some (.int .i64 a) ∧ w'.cell? ⟨w.heap.size, 1, none⟩ = some (.int .i64 b) ∧ w'.cell? ⟨w.heap.size, 2, none⟩ = some (.slice A xs.length c)) ∧ (w'.cell? ⟨w.heap.size + 1, 0, none⟩ = some (.int .i16 ax) ∧ w'.cell? ⟨w.heap.size + 1, 1, none⟩ = some (.int .i16 ay) ∧ w'.cell? ⟨w.heap.size + 1 + 1, 0, none⟩ = some (.int .i16 bx) ∧ w'.cell? ⟨w.heap.size + 1 + 1, 1, none⟩ = some (.int .i16 by'))) ∧ Hid (Stays w1 w')) (first | exact G1.out _ h1.out | exact G1.out _ h2.out | exact G1.out _ h3.out | exact G1.out _ h3b.out | exact G1.out _ h4.out)
      (first
        | (go_at_call 30; refine (kS.out v1 _ (hv1.out)).mono ?_; rintro e w4 ⟨rfl, hb⟩; have h4 := Lib.hid (h3b.out.trans hb); clear hb)
        | (go_at_call 14; (with_reducible refine (kA.out _).mono ?_); rintro e w3 ⟨rfl, hb⟩; have h3 := Lib.hid (h2.out.trans hb); replace hv1 := Lib.hid (hv1.out.on hb); clear hb)
        | (go_at_call 14; (with_reducible refine (kB.out _).mono ?_); rintro e w3b ⟨rfl, hb⟩; have h3b := Lib.hid (h3.out.trans hb); replace hv1 := Lib.hid (hv1.out.on hb); clear hb)
        | (go_at_call 13; refine (c_toGd _ a b xs _ (HB.out _ (hb1.out.trans h1.out)).2 hn').mono ?_; rintro e w2 ⟨v1, rfl, hb, hv1⟩; have h2 := Lib.hid (h1.out.trans hb); clear hb; replace hv1 := Lib.hid hv1))
    have hb4 := Lib.hid (hb1.out.trans h4.out)
    clear h1 h2 h3 h3b h4 G1 hb1 hv1
    obtain ⟨⟨⟨⟨q0, q1, q2⟩, p0, p1, p2, p3⟩, _⟩, hg⟩ := HB.out _ hb4.out
    replace hg := Lib.hid hg
    go_wp2_with fail
    refine (c_toGrid _ a b xs w4 hg.out hn').mono ?_
    rintro e w5 ⟨g, rfl, _, hb, hL⟩
    have hb5 := Lib.hid (hb4.out.trans hb)
    have hbx := heap_alloc_new w5 (.cells #[.int .i64 a, .int .i64 b, .slice (some ⟨g, 0, none⟩) xs.length xs.length] 28)
    have hsx : Stays w5 (w5.alloc (.cells #[.int .i64 a, .int .i64 b, .slice (some ⟨g, 0, none⟩) xs.length xs.length] 28)) := by (repeat (first | exact Stays.refl _ | (with_reducible refine Stays.drewN ?_ _) | (with_reducible refine Stays.alloc ?_ _) | (with_reducible refine Stays.drew ?_) | (refine Stays.trans ?_ ‹Stays _ _›)))
    have HX : Hid (∀ w', Stays (w5.alloc (.cells #[.int .i64 a, .int .i64 b, .slice (some ⟨g, 0, none⟩) xs.length xs.length] 28)) w' → (w'.cell? ⟨w5.heap.size, 0, none⟩ = some (.int .i64 a) ∧ w'.cell? ⟨w5.heap.size, 1, none⟩ = some (.int .i64 b) ∧ w'.cell? ⟨w5.heap.size, 2, none⟩ = some (.slice (some ⟨g, 0, none⟩) xs.length xs.length)) ∧ Bs w' w'.heap.size (some ⟨g, 0, none⟩) xs) := Lib.hid fun w' hs => ⟨⟨row_of hs hbx 0, row_of hs hbx 1, row_of hs hbx 2⟩, (hL.below (hsx.trans hs)).rows⟩
    have hb5x := Lib.hid (hb5.out.trans hsx)
    have hxx := Lib.hid (Stays.refl (w5.alloc (.cells #[.int .i64 a, .int .i64 b, .slice (some ⟨g, 0, none⟩) xs.length xs.length] 28)))
    clear hb hL hbx hsx hg q0 q1 q2 p0 p1 p2 p3
    obtain ⟨⟨⟨⟨q0, q1, q2⟩, p0, p1, p2, p3⟩, _⟩, _⟩ := HB.out _ hb5x.out
    go_wp2_with fail
    generalize (w5.alloc (.cells #[.int .i64 a, .int .i64 b, .slice (some ⟨g, 0, none⟩) xs.length xs.length] 28)) = WX at HX hb5x hxx q0 q1 q2 p0 p1 p2 p3 ⊢
    have G5 : Hid (∀ w', Stays WX w' → (w'.cell? ⟨w5.heap.size, 0, none⟩ = some (.int .i64 a) ∧ w'.cell? ⟨w5.heap.size, 1, none⟩ = some (.int .i64 b) ∧ w'.cell? ⟨w5.heap.size, 2, none⟩ = some (.slice (some ⟨g, 0, none⟩) xs.length xs.length)) ∧ (w'.cell? ⟨w.heap.size + 1, 0, none⟩ = some (.int .i16 ax) ∧ w'.cell? ⟨w.heap.size + 1, 1, none⟩ = some (.int .i16 ay) ∧ w'.cell? ⟨w.heap.size + 1 + 1, 0, none⟩ = some (.int .i16 bx) ∧ w'.cell? ⟨w.heap.size + 1 + 1, 1, none⟩ = some (.int .i16 by')) ∧ Hid (Stays WX w')) := Lib.hid fun w' h => ⟨(HX.out _ (hxx.out.trans h)).1, (HB.out _ (hb5x.out.trans h)).1.1.2, Lib.hid h⟩
    have h5 := Lib.hid (show Stays WX WX.drew from (Stays.refl WX).drew)
    clear q0 q1 q2 p0 p1 p2 p3
    go_region_held (fun w' => (w'.cell? ⟨w5.heap.size, 0, none⟩ = some (.int .i64 a) ∧ w'.cell? ⟨w5.heap.size, 1, none⟩ = some (.int .i64 b) ∧ w'.cell? ⟨w5.heap.size, 2, none⟩ = some (.slice (some ⟨g, 0, none⟩) xs.length xs.length)) ∧ (w'.cell? ⟨w.heap.size + 1, 0, none⟩ = some (.int .i16 ax) ∧ w'.cell? ⟨w.heap.size + 1, 1, none⟩ = some (.int .i16 ay) ∧ w'.cell? ⟨w.heap.size + 1 + 1, 0, none⟩ = some (.int .i16 bx) ∧ w'.cell? ⟨w.heap.size + 1 + 1, 1, none⟩ = some (.int .i16 by')) ∧ Hid (Stays WX w')) (first | exact G5.out _ h5.out | exact G5.out _ h6.out | exact G5.out _ h6b.out | exact G5.out _ h7.out)
      (first
        | (go_at_call 31; refine (kI.out _ _ _ (HX.out _ (hxx.out.trans h6b.out)).2 (Nat.le_refl _)).mono ?_; rintro e w7 ⟨rfl, hb⟩; have h7 := Lib.hid (h6b.out.trans hb); clear hb)
        | (go_at_call 14; (with_reducible refine (kA.out _).mono ?_); rintro e w6 ⟨rfl, hb⟩; have h6 := Lib.hid (h5.out.trans hb); clear hb)
        | (go_at_call 14; (with_reducible refine (kB.out _).mono ?_); rintro e w6b ⟨rfl, hb⟩; have h6b := Lib.hid (h6.out.trans hb); clear hb))
    have hb7 := Lib.hid (hb5x.out.trans h7.out)
    have hx7 := Lib.hid (hxx.out.trans h7.out)
    clear h5 h6 h6b h7 G5 hb5x hxx
    have G : Hid (∀ w', Stays w7 w' → (w'.cell? ⟨w.heap.size, 0, none⟩ = some (.int .i64 a) ∧ w'.cell? ⟨w.heap.size, 1, none⟩ = some (.int .i64 b) ∧ w'.cell? ⟨w.heap.size, 2, none⟩ = some (.slice A xs.length c)) ∧ (w'.cell? ⟨w5.heap.size, 0, none⟩ = some (.int .i64 a) ∧ w'.cell? ⟨w5.heap.size, 1, none⟩ = some (.int .i64 b) ∧ w'.cell? ⟨w5.heap.size, 2, none⟩ = some (.slice (some ⟨g, 0, none⟩) xs.length xs.length)) ∧ Hid (Stays w7 w')) := Lib.hid fun w' h => ⟨(HB.out _ (hb7.out.trans h)).1.1.1, (HX.out _ (hx7.out.trans h)).1, Lib.hid h⟩
    have h8 := Lib.hid (show Stays w7 w7.drew from (Stays.refl w7).drew)
    go_wp2_with fail
    go_region_held (fun w' => (w'.cell? ⟨w.heap.size, 0, none⟩ = some (.int .i64 a) ∧ w'.cell? ⟨w.heap.size, 1, none⟩ = some (.int .i64 b) ∧ w'.cell? ⟨w.heap.size, 2, none⟩ = some (.slice A xs.length c)) ∧ (w'.cell? ⟨w5.heap.size, 0, none⟩ = some (.int .i64 a) ∧ w'.cell? ⟨w5.heap.size, 1, none⟩ = some (.int .i64 b) ∧ w'.cell? ⟨w5.heap.size, 2, none⟩ = some (.slice (some ⟨g, 0, none⟩) xs.length xs.length)) ∧ Hid (Stays w7 w')) (first | exact G.out _ h8.out | exact G.out _ h9.out | exact G.out _ h10.out)
      (first
        | (go_at_call 13; refine (c_toGd _ a b xs _ (HB.out _ (hb7.out.trans h8.out)).2 hn').mono ?_; rintro e w9 ⟨v3, rfl, hb, hv3⟩; have h9 := Lib.hid (h8.out.trans hb); clear hb; replace hv3 := Lib.hid hv3)
        | (go_at_call 16; refine (c_eqGrid _ v3 a b xs w9 ⟨_, _, rfl, (HX.out _ (hx7.out.trans h9.out)).2⟩ hv3.out hn').mono ?_; rintro e w10 ⟨rfl, hb⟩; have h10 := Lib.hid (h9.out.trans hb); clear hb))
    go_wp2
    go_ret
    exact ⟨rfl, (HB.out _ (hb7.out.trans h10.out)).1.2⟩

theorem c_lawSeesSpot {p : Prop} (v : Value) (a b : Int) (xs : List Int) (ax ay bx by' : Int) (w : World) (h : GdV w w.heap.size v a b xs) (hn : xs.length ≤ 9223372036854775807) (_ : p) (hax : In16 ax) (hay : In16 ay) (hbx : In16 bx) (hby : In16 by') :
    Calls Try.prog 7 #[v, .agg #[.int .i16 ax, .int .i16 ay], .agg #[.int .i16 bx, .int .i16 by']] w fun e w' => e = .returned (.bool true) ∧ Below w.heap.size w w' := c_lawSees v a b ax ay bx by' xs w h hn hax hay hbx hby
end Go.Proofs.Yteidjmliepmlmaa
