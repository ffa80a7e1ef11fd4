/- Curves: ValidCurve as the document says it, and the law. No condition. -/
import Derived.Test.YtifaojlgofibmabCuC
namespace Go.Proofs.Ytifaojlgofibmab
open Go Go.RowKit
set_option linter.unusedVariables false
set_option linter.unusedSimpArgs false

theorem c_specValidCurve (v : Value) (ps ls : List (List NV)) (w : World) (h : CuV w w.heap.size v ps ls) (hn : ps.length ≤ 1048576) (hm : ls.length ≤ 1048576) :
    Calls Try.prog 8 #[v] w fun e w' => e = .returned (.bool (curveB ps ls)) ∧ Below w.heap.size w w' := by
  obtain ⟨A, c, A', c', rfl, h1, h2⟩ := h.val
  have hk : Calls Try.prog 32 #[.pointer (some ⟨w.heap.size, 0, none⟩)] (w.alloc (.cells #[.slice A ps.length c, .slice A' ls.length c'] 27)) fun e w' => e = .returned (.bool (curveB ps ls)) ∧ Below (w.alloc (.cells #[.slice A ps.length c, .slice A' ls.length c'] 27)).heap.size (w.alloc (.cells #[.slice A ps.length c, .slice A' ls.length c'] 27)) w' := by
    have hb : Stays w (w.alloc (.cells #[.slice A ps.length c, .slice A' ls.length c'] 27)) := by (repeat (first | exact Stays.refl _ | (with_reducible refine Stays.drewN ?_ _) | (with_reducible refine Stays.alloc ?_ _) | (with_reducible refine Stays.drew ?_) | (refine Stays.trans ?_ ‹Stays _ _›)))
    exact c_l04Curve w.heap.size A A' c c' ps ls _ (heap_alloc_new w _) ((h1.below hb).more hb.size) ((h2.below hb).more hb.size) hn hm
  generalize curveB ps ls = b at hk ⊢
  replace hk := Lib.hid hk
  clear h h1 h2
  go_enter Try.func8, Try.ntmps8
  go_wp2_with (go_at_call 32; refine hk.out.mono ?_; rintro e w1 ⟨rfl, hw1⟩)
  go_ret
  exact ⟨rfl, (show Stays w _ from by (repeat (first | exact Stays.refl _ | (with_reducible refine Stays.drewN ?_ _) | (with_reducible refine Stays.alloc ?_ _) | (with_reducible refine Stays.drew ?_) | (refine Stays.trans ?_ ‹Stays _ _›)))).trans hw1⟩

theorem toCu_val {w : World} {g1 g2 : Nat} {ps ls : List (List NV)} (h1 : LiesL KFl 1 w g1 (.slice (some ⟨g1, 0, none⟩) ps.length ps.length) ps) (h2 : LiesL KFl 1 w g2 (.slice (some ⟨g2, 0, none⟩) ls.length ls.length) ls) :
    CuV w w.heap.size (.agg #[.slice (some ⟨g1, 0, none⟩) ps.length ps.length, .slice (some ⟨g2, 0, none⟩) ls.length ls.length]) ps ls := ⟨_, _, _, _, rfl, h1.rows, h2.rows⟩

/-- A copy of a graph, as a value. -/
theorem c_toCu (v : Value) (ps ls : List (List NV)) (w : World) (h : CuV w w.heap.size v ps ls) (hn : ps.length ≤ 1048576) (hm : ls.length ≤ 1048576) :
    Calls Try.prog 9 #[v] w fun e w' => ∃ v', e = .returned v' ∧ Below w.heap.size w w' ∧ CuV w' w'.heap.size v' ps ls := by
  refine (c_toCurve v ps ls w h hn hm).mono ?_
  rintro e w' ⟨g1, g2, rfl, _, _, hb, l1, l2⟩
  exact ⟨_, rfl, hb, toCu_val l1 l2⟩

/-- An argument that is a graph, in its box. -/
theorem boxCu (t : TypeId) {w : World} {v : Value} {ps ls : List (List NV)} (h : CuV w w.heap.size v ps ls) : ∃ A c A' c', v = .agg #[.slice A ps.length c, .slice A' ls.length c'] ∧
    ∀ w1, Stays (w.alloc (.cells #[.slice A ps.length c, .slice A' ls.length c'] t)) w1 → ((w1.cell? ⟨w.heap.size, 0, none⟩ = some (.slice A ps.length c) ∧ w1.cell? ⟨w.heap.size, 1, none⟩ = some (.slice A' ls.length c')) ∧ Below w.heap.size w w1) ∧ CuV w1 w1.heap.size (.agg #[.slice A ps.length c, .slice A' ls.length c']) ps ls := by
  obtain ⟨A, c, A', c', rfl, h1, h2⟩ := h.val
  refine ⟨A, c, A', c', rfl, fun w1 hb => ?_⟩
  have hb' : Below w.heap.size w w1 := (show Stays w _ from by (repeat (first | exact Stays.refl _ | (with_reducible refine Stays.drewN ?_ _) | (with_reducible refine Stays.alloc ?_ _) | (with_reducible refine Stays.drew ?_) | (refine Stays.trans ?_ ‹Stays _ _›)))).trans hb
  exact ⟨⟨⟨row_of hb (heap_alloc_new w _) 0, row_of hb (heap_alloc_new w _) 1⟩, hb'⟩, h.on hb'⟩

set_option maxRecDepth 100000 in
set_option maxHeartbeats 1000000 in
theorem c_lawValidCurve (v : Value) (ps ls : List (List NV)) (w : World) (h : CuV w w.heap.size v ps ls) (hn : ps.length ≤ 9223372036854775807) (hm : ls.length ≤ 9223372036854775807) :
    Calls Try.prog 3 #[v] w fun e w' => e = .returned (.bool true) ∧ Below w.heap.size w w' := by
  obtain ⟨A, c, A', c', rfl, HB⟩ := boxCu 24 h
  clear h
  replace HB := Lib.hid HB
  have hsz := fun W => c_szCurve A A' c c' ps.length ls.length 1048576 W hn hm (by omega) (by omega)
  by_cases hl : (1048576 : Int) - ps.length - ls.length < 0
  · simp only [if_pos hl] at hsz
    replace hsz := Lib.hid hsz
    go_enter Try.func3, Try.ntmps3
    go_wp2_with fail
    refine (hsz.out _).mono ?_
    rintro e w1 ⟨rfl, hb⟩
    go_wp2
    go_ret
    exact ⟨rfl, (HB.out _ hb).1.2⟩
  · simp only [if_neg hl] at hsz
    have hn' : ps.length ≤ 1048576 := by omega
    have hm' : ls.length ≤ 1048576 := by omega
    have hX : ¬ ((1048576 : Int) - ps.length - ls.length < 0) := hl
    generalize (1048576 : Int) - ps.length - ls.length = X at hX hsz
    replace hsz := Lib.hid hsz
    clear hl hn hm
    go_enter Try.func3, Try.ntmps3
    go_wp2_with fail
    refine (hsz.out _).mono ?_
    rintro e w1 ⟨rfl, hb⟩
    have hb1 := Lib.hid (show Stays _ w1 from hb)
    clear hb
    generalize (w.alloc (.cells #[.slice A ps.length c, .slice A' ls.length c'] 24)) = W0 at HB hb1
    obtain ⟨⟨⟨q0, q1⟩, _⟩, hg⟩ := HB.out _ hb1.out
    replace hg := Lib.hid hg
    go_wp2_with fail
    refine (c_toCu _ ps ls w1 hg.out hn' hm').mono ?_
    rintro e w2 ⟨v1, rfl, hb, hv1⟩
    have hb2 := Lib.hid (hb1.out.trans hb)
    clear hb
    replace hv1 := Lib.hid hv1
    go_wp2_with fail
    refine (c_specValidCurve v1 ps ls w2 hv1.out hn' hm').mono ?_
    rintro e w3 ⟨rfl, hb⟩
    have hb3 := Lib.hid (hb2.out.trans hb)
    clear hb hv1 q0 q1 hg
    obtain ⟨⟨⟨q0, q1⟩, _⟩, hg⟩ := HB.out _ hb3.out
    replace hg := Lib.hid hg
    go_wp2_with fail
    refine (c_toCurve _ ps ls w3 hg.out hn' hm').mono ?_
    rintro e w4 ⟨g1, g2, rfl, _, _, hb, l1, l2⟩
    have hb4 := Lib.hid (hb3.out.trans hb)
    clear hb q0 q1 hg
    have hv2 := toCu_val l1 l2
    clear l1 l2
    obtain ⟨D, d, D', d', eD, HX⟩ := boxCu 27 hv2
    clear hv2
    cases eD
    replace HX := Lib.hid HX
    go_wp2_with fail
    have hb4x := Lib.hid (hb4.out.trans (show Stays w4 (w4.alloc (.cells #[.slice (some ⟨g1, 0, none⟩) ps.length ps.length, .slice (some ⟨g2, 0, none⟩) ls.length ls.length] 27)) from by (repeat (first | exact Stays.refl _ | (with_reducible refine Stays.drewN ?_ _) | (with_reducible refine Stays.alloc ?_ _) | (with_reducible refine Stays.drew ?_) | (refine Stays.trans ?_ ‹Stays _ _›)))))
    have hxx := Lib.hid (Stays.refl (w4.alloc (.cells #[.slice (some ⟨g1, 0, none⟩) ps.length ps.length, .slice (some ⟨g2, 0, none⟩) ls.length ls.length] 27)))
    generalize (w4.alloc (.cells #[.slice (some ⟨g1, 0, none⟩) ps.length ps.length, .slice (some ⟨g2, 0, none⟩) ls.length ls.length] 27)) = WX at HX hb4x hxx ⊢
    have hvX := (HX.out _ hxx.out).2.val
    obtain ⟨A1, c1, A2, c2, eV, r1, r2⟩ := hvX
    cases eV
    refine (c_implValidCurve _ _ _ _ ps ls WX r1 r2 hn' hm' (Nat.le_refl _)).mono ?_
    rintro e w5 ⟨rfl, hb⟩
    have hb5 := Lib.hid (hb4x.out.trans hb)
    replace hxx := Lib.hid (hxx.out.trans hb)
    clear hb r1 r2
    obtain ⟨⟨⟨q0, q1⟩, _⟩, hg⟩ := HB.out _ hb5.out
    replace hg := Lib.hid hg
    obtain ⟨⟨⟨x0, x1⟩, _⟩, hvx⟩ := HX.out _ hxx.out
    clear hvx
    generalize curveB ps ls = bg
    have G : Hid (∀ w', Stays w5 w' → (w'.cell? ⟨w.heap.size, 0, none⟩ = some (.slice A ps.length c) ∧ w'.cell? ⟨w.heap.size, 1, none⟩ = some (.slice A' ls.length c') ∧ w'.cell? ⟨w4.heap.size, 0, none⟩ = some (.slice (some ⟨g1, 0, none⟩) ps.length ps.length) ∧ w'.cell? ⟨w4.heap.size, 1, none⟩ = some (.slice (some ⟨g2, 0, none⟩) ls.length ls.length) ∧ Hid (Stays w5 w'))) := Lib.hid fun w' h => ⟨(HB.out _ (hb5.out.trans h)).1.1.1, (HB.out _ (hb5.out.trans h)).1.1.2, (HX.out _ (hxx.out.trans h)).1.1.1, (HX.out _ (hxx.out.trans h)).1.1.2, Lib.hid h⟩
    have h5 := Lib.hid (show Stays w5 w5.drew from (Stays.refl w5).drew)
    cases bg
    all_goals
      go_wp2_with fail
      go_region_held (fun w' => (w'.cell? ⟨w.heap.size, 0, none⟩ = some (.slice A ps.length c) ∧ w'.cell? ⟨w.heap.size, 1, none⟩ = some (.slice A' ls.length c') ∧ w'.cell? ⟨w4.heap.size, 0, none⟩ = some (.slice (some ⟨g1, 0, none⟩) ps.length ps.length) ∧ w'.cell? ⟨w4.heap.size, 1, none⟩ = some (.slice (some ⟨g2, 0, none⟩) ls.length ls.length) ∧ Hid (Stays w5 w'))) (first | exact G.out _ h5.out | exact G.out _ h6.out | exact G.out _ h7.out)
        (first
          | (go_at_call 9; refine (c_toCu _ ps ls _ (HB.out _ (hb5.out.trans h5.out)).2 hn' hm').mono ?_; rintro e w6 ⟨v3, rfl, hb, hv3⟩; have h6 := Lib.hid (h5.out.trans hb); clear hb; replace hv3 := Lib.hid hv3)
          | (go_at_call 11; refine (c_eqCurve _ v3 ps ls w6 (HX.out _ (hxx.out.trans h6.out)).2 hv3.out hn' hm').mono ?_; rintro e w7 ⟨rfl, hb⟩; have h7 := Lib.hid (h6.out.trans hb); clear hb))
      go_wp2
      go_ret
      exact ⟨rfl, (HB.out _ (hb5.out.trans h7.out)).1.2⟩
end Go.Proofs.Ytifaojlgofibmab
