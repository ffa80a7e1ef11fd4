/- The law on a number that a curve corrects. No condition. -/
import Derived.Test.YtmcbeaihjdnelaaCrD
namespace Go.Proofs.Ytmcbeaihjdnelaa
open Go Go.RowKit
set_option linter.unusedVariables false
set_option linter.unusedSimpArgs false

set_option maxRecDepth 100000 in
set_option maxHeartbeats 1000000 in
theorem c_lawCorrectBy (v : Value) (q : Nat) (ps ls : List (List NV)) (w : World) (h : CuV w w.heap.size v ps ls) (hn : ps.length ≤ 9223372036854775807) (hm : ls.length ≤ 9223372036854775807) :
    Calls Try.prog 6 #[v, .float .f32 q] w fun e w' => e = .returned (.bool true) ∧ Below w.heap.size w w' := by
  obtain ⟨A, c, A', c', rfl, HB⟩ := boxCu 63 h
  clear h
  replace HB := Lib.hid HB
  have hsz := fun W => c_szCurve A A' c c' ps.length ls.length 1048576 W hn hm (by omega) (by omega)
  by_cases hl : (1048576 : Int) - ps.length - ls.length < 0
  · simp only [if_pos hl] at hsz
    replace hsz := Lib.hid hsz
    go_enter Try.func6, Try.ntmps6
    go_wp2_with fail
    refine (hsz.out _).mono ?_
    rintro e w1 ⟨rfl, hb⟩
    go_wp2
    go_ret
    exact ⟨rfl, (HB.out _ hb).1.2⟩
  · simp only [if_neg hl] at hsz
    have hn' : ps.length ≤ 1048576 := by omega
    have hm' : ls.length ≤ 1048576 := by omega
    have hX : ¬ ((1048576 : Int) - ps.length - ls.length < 0) := hl
    generalize (1048576 : Int) - ps.length - ls.length = X at hX hsz
    replace hsz := Lib.hid hsz
    have kS := Lib.hid fun v w h => c_specCorrect v ps ls q w h hn' hm'
    have kI := Lib.hid fun v w h hc => c_implCorrect v ps ls q w h hn' hm' hc
    generalize crV ps ls (can .f32 q) = val at kS kI
    generalize crC ps ls (can .f32 q) = code at kS kI
    clear hl hn hm
    go_enter Try.func6, Try.ntmps6
    go_wp2_with fail
    refine (hsz.out _).mono ?_
    rintro e w1 ⟨rfl, hb⟩
    have hb1 := Lib.hid (show Stays _ w1 from hb)
    clear hb
    generalize (w.alloc (.cells #[.slice A ps.length c, .slice A' ls.length c'] 63)) = W0 at HB hb1
    obtain ⟨⟨⟨q0, q1⟩, _⟩, hg⟩ := HB.out _ hb1.out
    replace hg := Lib.hid hg
    go_wp2_with fail
    refine (c_toCu _ ps ls w1 hg.out hn' hm').mono ?_
    rintro e w2 ⟨v1, rfl, hb, hv1⟩
    have hb2 := Lib.hid (hb1.out.trans hb)
    clear hb
    replace hv1 := Lib.hid hv1
    go_wp2_with fail
    refine (kS.out v1 w2 hv1.out).mono ?_
    rintro e w3 ⟨x0, rfl, hx0, hb⟩
    replace hx0 := Lib.hid hx0
    have hb3 := Lib.hid (hb2.out.trans hb)
    clear hb hv1 q0 q1 hg
    obtain ⟨⟨⟨q0, q1⟩, _⟩, hg⟩ := HB.out _ hb3.out
    replace hg := Lib.hid hg
    go_wp2_with fail
    refine (c_toCurve _ ps ls w3 hg.out hn' hm').mono ?_
    rintro e w4 ⟨g1, g2, rfl, _, _, hb, l1, l2⟩
    have hb4 := Lib.hid (hb3.out.trans hb)
    clear hb q0 q1 hg
    have hv2 := toCu_val l1 l2
    clear l1 l2
    obtain ⟨D, d, D', d', eD, HX⟩ := boxCu 67 hv2
    clear hv2
    cases eD
    replace HX := Lib.hid HX
    go_wp2_with fail
    have hb4x := Lib.hid (hb4.out.trans (show Stays w4 (w4.alloc (.cells #[.slice (some ⟨g1, 0, none⟩) ps.length ps.length, .slice (some ⟨g2, 0, none⟩) ls.length ls.length] 67)) from by (repeat (first | exact Stays.refl _ | (with_reducible refine Stays.drewN ?_ _) | (with_reducible refine Stays.alloc ?_ _) | (with_reducible refine Stays.drew ?_) | (refine Stays.trans ?_ ‹Stays _ _›)))))
    have hxx := Lib.hid (Stays.refl (w4.alloc (.cells #[.slice (some ⟨g1, 0, none⟩) ps.length ps.length, .slice (some ⟨g2, 0, none⟩) ls.length ls.length] 67)))
    generalize (w4.alloc (.cells #[.slice (some ⟨g1, 0, none⟩) ps.length ps.length, .slice (some ⟨g2, 0, none⟩) ls.length ls.length] 67)) = WX at HX hb4x hxx ⊢
    refine (kI.out _ WX (HX.out _ hxx.out).2 (fun A c b e => by cases e; exact Nat.le_refl _)).mono ?_
    rintro e w5 ⟨x1, rfl, hx1, hb⟩
    have hb5 := Lib.hid (hb4x.out.trans hb)
    replace hxx := Lib.hid (hxx.out.trans hb)
    have hee : can .f32 x1 = can .f32 x0 := by rw [hx1.out, hx0.out.out]
    replace hee := Lib.hid hee
    clear hb hx1
    go_wp2_with (first
      | ((with_reducible refine wpList_widen rfl _ _ _ rfl _ rfl (some_of Try.underlying22) Try.underlying70 ?_); intro r n hr)
      | (go_at_call 32; refine (c_sameFloat _ _ _ (wide_same hee.out ‹FIs _ _ _› ‹FIs _ _ _›)).mono ?_; rintro e w6 ⟨rfl, hb⟩))
    have hsz6 : Stays w5 w6 := Stays.trans (by (repeat (first | exact Stays.refl _ | (with_reducible refine Stays.drewN ?_ _) | (with_reducible refine Stays.alloc ?_ _) | (with_reducible refine Stays.drew ?_) | (refine Stays.trans ?_ ‹Stays _ _›)))) hb
    replace hb5 := Lib.hid (hb5.out.trans hsz6)
    replace hxx := Lib.hid (hxx.out.trans hsz6)
    clear hb hsz6
    obtain ⟨⟨⟨q0, q1⟩, _⟩, hg⟩ := HB.out _ hb5.out
    replace hg := Lib.hid hg
    have G : Hid (∀ w', Stays w6 w' → (w'.cell? ⟨w.heap.size, 0, none⟩ = some (.slice A ps.length c) ∧ w'.cell? ⟨w.heap.size, 1, none⟩ = some (.slice A' ls.length c') ∧ w'.cell? ⟨w4.heap.size, 0, none⟩ = some (.slice (some ⟨g1, 0, none⟩) ps.length ps.length) ∧ w'.cell? ⟨w4.heap.size, 1, none⟩ = some (.slice (some ⟨g2, 0, none⟩) ls.length ls.length) ∧ Hid (Stays w6 w'))) := Lib.hid fun w' h => ⟨(HB.out _ (hb5.out.trans h)).1.1.1, (HB.out _ (hb5.out.trans h)).1.1.2, (HX.out _ (hxx.out.trans h)).1.1.1, (HX.out _ (hxx.out.trans h)).1.1.2, Lib.hid h⟩
    have h5 := Lib.hid (show Stays w6 w6.drew from (Stays.refl w6).drew)
    go_region_held (fun w' => (w'.cell? ⟨w.heap.size, 0, none⟩ = some (.slice A ps.length c) ∧ w'.cell? ⟨w.heap.size, 1, none⟩ = some (.slice A' ls.length c') ∧ w'.cell? ⟨w4.heap.size, 0, none⟩ = some (.slice (some ⟨g1, 0, none⟩) ps.length ps.length) ∧ w'.cell? ⟨w4.heap.size, 1, none⟩ = some (.slice (some ⟨g2, 0, none⟩) ls.length ls.length) ∧ Hid (Stays w6 w'))) (first | exact G.out _ h5.out | exact G.out _ h6.out | exact G.out _ h7.out)
      (first
        | (go_at_call 30; refine (c_toCu _ ps ls _ (HB.out _ (hb5.out.trans h5.out)).2 hn' hm').mono ?_; rintro e w7 ⟨v3, rfl, hb, hv3⟩; have h6 := Lib.hid (h5.out.trans hb); clear hb; replace hv3 := Lib.hid hv3)
        | (go_at_call 33; refine (c_eqCurve _ v3 ps ls w7 (HX.out _ (hxx.out.trans h6.out)).2 hv3.out hn' hm').mono ?_; rintro e w8 ⟨rfl, hb⟩; have h7 := Lib.hid (h6.out.trans hb); clear hb))
    go_wp2
    go_ret
    exact ⟨rfl, (HB.out _ (hb5.out.trans h7.out)).1.2⟩
end Go.Proofs.Ytmcbeaihjdnelaa
