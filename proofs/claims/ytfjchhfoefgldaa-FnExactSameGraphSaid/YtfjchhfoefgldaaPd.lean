/- Graphs: SameGraph on both sides, and its law. No condition. -/
import Derived.Test.YtfjchhfoefgldaaPc
import Derived.Deep.RegionHeld
namespace Go.Proofs.Ytfjchhfoefgldaa
open Go Go.RowKit
set_option linter.unusedVariables false
set_option linter.unusedSimpArgs false

theorem c_specSameGraph (v v' : Value) (ps ls ps' ls' : List (List NV)) (w : World) (h : GrV w w.heap.size v ps ls) (h' : GrV w w.heap.size v' ps' ls') (hn : ps.length ≤ 1048576) (hm : ls.length ≤ 1048576) :
    Calls Try.prog 34 #[v, v'] w fun e w' => e = .returned (.bool (graphS ps ls ps' ls')) ∧ Below w.heap.size w w' := by
  obtain ⟨A, c, A', c', rfl, h1, h2⟩ := h.val
  obtain ⟨D, d, D', d', rfl, h3, h4⟩ := h'.val
  have hst : Stays w ((w.alloc (.cells #[.slice A ps.length c, .slice A' ls.length c'] 46)).alloc (.cells #[.slice D ps'.length d, .slice D' ls'.length d'] 46)) := by (repeat (first | exact Stays.refl _ | (with_reducible refine Stays.drewN ?_ _) | (with_reducible refine Stays.alloc ?_ _) | (with_reducible refine Stays.drew ?_) | (refine Stays.trans ?_ ‹Stays _ _›)))
  have u0 : ((w.alloc (.cells #[.slice A ps.length c, .slice A' ls.length c'] 46)).alloc (.cells #[.slice D ps'.length d, .slice D' ls'.length d'] 46)).heap[w.heap.size]? = some (.cells #[.slice A ps.length c, .slice A' ls.length c'] 46 (0, 0)) := by (repeat (first | (refine heap_top _ _ _ ?_; simp; done) | (with_reducible refine heap_drawn _ _ _ ?_) | (with_reducible refine heap_under _ _ _ ?_ ?_; (simp <;> omega))))
  have u1 : ((w.alloc (.cells #[.slice A ps.length c, .slice A' ls.length c'] 46)).alloc (.cells #[.slice D ps'.length d, .slice D' ls'.length d'] 46)).heap[w.heap.size + 1]? = some (.cells #[.slice D ps'.length d, .slice D' ls'.length d'] 46 (0, 0)) := by (repeat (first | (refine heap_top _ _ _ ?_; simp; done) | (with_reducible refine heap_drawn _ _ _ ?_) | (with_reducible refine heap_under _ _ _ ?_ ?_; (simp <;> omega))))
  have hk := c_l06Same w.heap.size (w.heap.size + 1) A A' D D' c c' d d' ps ls ps' ls' ((w.alloc (.cells #[.slice A ps.length c, .slice A' ls.length c'] 46)).alloc (.cells #[.slice D ps'.length d, .slice D' ls'.length d'] 46)) u0 u1 ((h1.below hst).more hst.size) ((h2.below hst).more hst.size) ((h3.below hst).more hst.size) ((h4.below hst).more hst.size) hn hm
  generalize graphS ps ls ps' ls' = b at hk ⊢
  replace hk := Lib.hid hk
  replace hst := Lib.hid hst
  clear h h' h1 h2 h3 h4 u0 u1
  go_enter Try.func34, Try.ntmps34
  go_wp2_with (go_at_call 60; refine hk.out.mono ?_; rintro e w1 ⟨rfl, hw1⟩)
  go_ret
  exact ⟨rfl, hst.out.trans hw1⟩

set_option maxRecDepth 100000 in
theorem c_implSameGraph (v v' : Value) (ps ls ps' ls' : List (List NV)) (w : World) (h : GrV w w.heap.size v ps ls) (h' : GrV w w.heap.size v' ps' ls') (hn : ps.length ≤ 1048576) (hm : ls.length ≤ 1048576) (hn' : ps'.length ≤ 1048576) (hm' : ls'.length ≤ 1048576) :
    Calls Try.prog 35 #[v, v'] w fun e w' => e = .returned (.bool (graphS ps ls ps' ls')) ∧ Below w.heap.size w w' := by
  obtain ⟨A, c, A', c', rfl, h1, h2⟩ := h.val
  obtain ⟨D, d, D', d', rfl, h3, h4⟩ := h'.val
  have hst : Stays w ((w.alloc (.cells #[.slice A ps.length c, .slice A' ls.length c'] 46)).alloc (.cells #[.slice D ps'.length d, .slice D' ls'.length d'] 46)) := by (repeat (first | exact Stays.refl _ | (with_reducible refine Stays.drewN ?_ _) | (with_reducible refine Stays.alloc ?_ _) | (with_reducible refine Stays.drew ?_) | (refine Stays.trans ?_ ‹Stays _ _›)))
  have u0 : ((w.alloc (.cells #[.slice A ps.length c, .slice A' ls.length c'] 46)).alloc (.cells #[.slice D ps'.length d, .slice D' ls'.length d'] 46)).heap[w.heap.size]? = some (.cells #[.slice A ps.length c, .slice A' ls.length c'] 46 (0, 0)) := by (repeat (first | (refine heap_top _ _ _ ?_; simp; done) | (with_reducible refine heap_drawn _ _ _ ?_) | (with_reducible refine heap_under _ _ _ ?_ ?_; (simp <;> omega))))
  have u1 : ((w.alloc (.cells #[.slice A ps.length c, .slice A' ls.length c'] 46)).alloc (.cells #[.slice D ps'.length d, .slice D' ls'.length d'] 46)).heap[w.heap.size + 1]? = some (.cells #[.slice D ps'.length d, .slice D' ls'.length d'] 46 (0, 0)) := by (repeat (first | (refine heap_top _ _ _ ?_; simp; done) | (with_reducible refine heap_drawn _ _ _ ?_) | (with_reducible refine heap_under _ _ _ ?_ ?_; (simp <;> omega))))
  have hA := Lib.hid fun w1 (h : Stays ((w.alloc (.cells #[.slice A ps.length c, .slice A' ls.length c'] 46)).alloc (.cells #[.slice D ps'.length d, .slice D' ls'.length d'] 46)) w1) => And.intro (row_of h u0) (row_of h u1)
  have kP := fun (W : World) (hs : Stays ((w.alloc (.cells #[.slice A ps.length c, .slice A' ls.length c'] 46)).alloc (.cells #[.slice D ps'.length d, .slice D' ls'.length d'] 46)) W) => c_eqfPose A D c d ps ps' W ((h1.below (hst.trans hs)).more (hst.trans hs).size) ((h3.below (hst.trans hs)).more (hst.trans hs).size) hn hn'
  have kL := fun (W : World) (hs : Stays ((w.alloc (.cells #[.slice A ps.length c, .slice A' ls.length c'] 46)).alloc (.cells #[.slice D ps'.length d, .slice D' ls'.length d'] 46)) W) => c_eqfLink A' D' c' d' ls ls' W ((h2.below (hst.trans hs)).more (hst.trans hs).size) ((h4.below (hst.trans hs)).more (hst.trans hs).size) hm hm'
  unfold graphS
  generalize pairB samP ps ps' = b1 at kP ⊢
  generalize pairB linkS ls ls' = b2 at kL ⊢
  replace kP := Lib.hid kP
  replace kL := Lib.hid kL
  replace hst := Lib.hid hst
  have hS : Stays ((w.alloc (.cells #[.slice A ps.length c, .slice A' ls.length c'] 46)).alloc (.cells #[.slice D ps'.length d, .slice D' ls'.length d'] 46)) ((w.alloc (.cells #[.slice A ps.length c, .slice A' ls.length c'] 46)).alloc (.cells #[.slice D ps'.length d, .slice D' ls'.length d'] 46)) := Stays.refl _
  clear h h' h1 h2 h3 h4 u0 u1
  obtain ⟨hc, hc'⟩ := hA.out _ hS
  cases b1
  all_goals
    go_enter Try.func35, Try.ntmps35
    go_wp2_with (first
      | (go_at_call 61; refine (kP.out _ hS).mono ?_; rintro e w1 ⟨rfl, hw1⟩; replace hS := Stays.trans hS hw1; clear hw1 hc hc'; obtain ⟨hc, hc'⟩ := hA.out _ hS)
      | (go_at_call 62; refine (kL.out _ hS).mono ?_; rintro e w1 ⟨rfl, hw1⟩; replace hS := Stays.trans hS hw1; clear hw1 hc hc'))
    go_ret
    exact ⟨ret_b (by simp), hst.out.trans hS⟩

theorem toGr_val {w : World} {g1 g2 : Nat} {ps ls : List (List NV)} (h1 : LiesL KPose 3 w g1 (.slice (some ⟨g1, 0, none⟩) ps.length ps.length) ps) (h2 : LiesL KLink 6 w g2 (.slice (some ⟨g2, 0, none⟩) ls.length ls.length) ls) :
    GrV w w.heap.size (.agg #[.slice (some ⟨g1, 0, none⟩) ps.length ps.length, .slice (some ⟨g2, 0, none⟩) ls.length ls.length]) ps ls := ⟨_, _, _, _, rfl, h1.rows, h2.rows⟩

theorem c_toGr (v : Value) (ps ls : List (List NV)) (w : World) (h : GrV w w.heap.size v ps ls) (hn : ps.length ≤ 1048576) (hm : ls.length ≤ 1048576) :
    Calls Try.prog 31 #[v] w fun e w' => ∃ v', e = .returned v' ∧ Below w.heap.size w w' ∧ GrV w' w'.heap.size v' ps ls := by
  refine (c_toPoseGraph v ps ls w h hn hm).mono ?_
  rintro e w' ⟨g1, g2, rfl, _, _, hb, l1, l2⟩
  exact ⟨_, rfl, hb, toGr_val l1 l2⟩

theorem boxGr (t : TypeId) {w : World} {v : Value} {ps ls : List (List NV)} (h : GrV w w.heap.size v ps ls) : ∃ A c A' c', v = .agg #[.slice A ps.length c, .slice A' ls.length c'] ∧
    ∀ w1, Stays (w.alloc (.cells #[.slice A ps.length c, .slice A' ls.length c'] t)) w1 → (w1.cell? ⟨w.heap.size, 0, none⟩ = some (.slice A ps.length c) ∧ w1.cell? ⟨w.heap.size, 1, none⟩ = some (.slice A' ls.length c')) ∧ Below w.heap.size w w1 ∧ GrV w1 w1.heap.size (.agg #[.slice A ps.length c, .slice A' ls.length c']) ps ls := by
  obtain ⟨A, c, A', c', rfl, h1, h2⟩ := h.val
  refine ⟨A, c, A', c', rfl, fun w1 hb => ?_⟩
  have hb' : Below w.heap.size w w1 := (show Stays w _ from by (repeat (first | exact Stays.refl _ | (with_reducible refine Stays.drewN ?_ _) | (with_reducible refine Stays.alloc ?_ _) | (with_reducible refine Stays.drew ?_) | (refine Stays.trans ?_ ‹Stays _ _›)))).trans hb
  exact ⟨⟨row_of hb (heap_alloc_new w _) 0, row_of hb (heap_alloc_new w _) 1⟩, hb', h.on hb'⟩

set_option maxRecDepth 100000 in
set_option maxHeartbeats 2000000 in
theorem c_lawSameGraph (v v' : Value) (ps ls ps' ls' : List (List NV)) (w : World) (h : GrV w w.heap.size v ps ls) (h' : GrV w w.heap.size v' ps' ls') (hn : ps.length ≤ 9223372036854775807) (hm : ls.length ≤ 9223372036854775807) (hn' : ps'.length ≤ 9223372036854775807) (hm' : ls'.length ≤ 9223372036854775807) :
    Calls Try.prog 10 #[v, v'] w fun e w' => e = .returned (.bool true) ∧ Below w.heap.size w w' := by
  obtain ⟨A, c, A', c', rfl, HA⟩ := boxGr 40 h
  have hh : GrV (w.alloc (.cells #[.slice A ps.length c, .slice A' ls.length c'] 40)) (w.alloc (.cells #[.slice A ps.length c, .slice A' ls.length c'] 40)).heap.size v' ps' ls' := h'.on (show Stays w _ from by (repeat (first | exact Stays.refl _ | (with_reducible refine Stays.drewN ?_ _) | (with_reducible refine Stays.alloc ?_ _) | (with_reducible refine Stays.drew ?_) | (refine Stays.trans ?_ ‹Stays _ _›))))
  obtain ⟨D, d, D', d', rfl, HD⟩ := boxGr 40 hh
  have hsz1 : (w.alloc (.cells #[.slice A ps.length c, .slice A' ls.length c'] 40)).heap.size = w.heap.size + 1 := by simp
  rw [hsz1] at HD
  have HB : Hid (∀ w1, Stays ((w.alloc (.cells #[.slice A ps.length c, .slice A' ls.length c'] 40)).alloc (.cells #[.slice D ps'.length d, .slice D' ls'.length d'] 40)) w1 → ((w1.cell? ⟨w.heap.size, 0, none⟩ = some (.slice A ps.length c) ∧ w1.cell? ⟨w.heap.size, 1, none⟩ = some (.slice A' ls.length c')) ∧ (w1.cell? ⟨w.heap.size + 1, 0, none⟩ = some (.slice D ps'.length d) ∧ w1.cell? ⟨w.heap.size + 1, 1, none⟩ = some (.slice D' ls'.length d'))) ∧ Below w.heap.size w w1 ∧
      GrV w1 w1.heap.size (.agg #[.slice A ps.length c, .slice A' ls.length c']) ps ls ∧ GrV w1 w1.heap.size (.agg #[.slice D ps'.length d, .slice D' ls'.length d']) ps' ls') := Lib.hid fun w1 hb => by
    obtain ⟨b1, b2, b3⟩ := HD w1 hb
    obtain ⟨a1, a2, a3⟩ := HA w1 (Stays.trans (by (repeat (first | exact Stays.refl _ | (with_reducible refine Stays.drewN ?_ _) | (with_reducible refine Stays.alloc ?_ _) | (with_reducible refine Stays.drew ?_) | (refine Stays.trans ?_ ‹Stays _ _›)))) hb)
    exact ⟨⟨a1, b1⟩, a2, a3, b3⟩
  clear h h' hh HA HD hsz1
  have k1 := fun W => c_szPoseGraph A A' c c' ps.length ls.length 1048576 W hn hm (by omega) (by omega)
  by_cases hl : (1048576 : Int) - ps.length - ls.length < 0
  · simp only [if_pos hl] at k1
    replace k1 := Lib.hid k1
    go_enter Try.func10, Try.ntmps10
    go_wp2_with fail
    refine (k1.out _).mono ?_
    rintro e w1 ⟨rfl, hb⟩
    go_wp2
    go_ret
    exact ⟨rfl, (HB.out _ hb).2.1⟩
  · simp only [if_neg hl] at k1
    have hps : ps.length ≤ 1048576 := by omega
    have hls : ls.length ≤ 1048576 := by omega
    have k2 := fun W => c_szPoseGraph D D' d d' ps'.length ls'.length ((1048576 : Int) - ps.length - ls.length) W hn' hm' (by omega) (by omega)
    have hX : ¬ ((1048576 : Int) - ps.length - ls.length < 0) := hl
    have hX' : (1048576 : Int) - ps.length - ls.length ≤ 1048576 := by omega
    generalize (1048576 : Int) - ps.length - ls.length = X at hX hX' k1 k2
    replace k1 := Lib.hid k1
    by_cases hl2 : X - ps'.length - ls'.length < 0
    · simp only [if_pos hl2] at k2
      replace k2 := Lib.hid k2
      go_enter Try.func10, Try.ntmps10
      go_wp2_with fail
      refine (k1.out _).mono ?_
      rintro e w1 ⟨rfl, hb⟩
      obtain ⟨⟨_, q0, q1⟩, _⟩ := HB.out _ hb
      replace hb := Lib.hid (show Stays _ w1 from hb)
      go_wp2_with fail
      refine (k2.out _).mono ?_
      rintro e w2 ⟨rfl, hb2⟩
      go_wp2
      go_ret
      exact ⟨rfl, (HB.out _ (hb.out.trans hb2)).2.1⟩
    · simp only [if_neg hl2] at k2
      have hps' : ps'.length ≤ 1048576 := by omega
      have hls' : ls'.length ≤ 1048576 := by omega
      have hY : ¬ (X - ps'.length - ls'.length < 0) := hl2
      generalize X - (ps'.length : Int) - (ls'.length : Int) = Y at hY k2
      replace k2 := Lib.hid k2
      have kS := fun v v' w h h' => c_specSameGraph v v' ps ls ps' ls' w h h' hps hls
      have kI := fun v v' w h h' => c_implSameGraph v v' ps ls ps' ls' w h h' hps hls hps' hls'
      generalize graphS ps ls ps' ls' = bg at kS kI
      replace kS := Lib.hid kS
      replace kI := Lib.hid kI
      clear hl hl2 hn hm hn' hm' hX'
      go_enter Try.func10, Try.ntmps10
      go_wp2_with fail
      refine (k1.out _).mono ?_
      rintro e w1 ⟨rfl, hb⟩
      obtain ⟨⟨_, q0, q1⟩, _⟩ := HB.out _ hb
      replace hb := Lib.hid (show Stays _ w1 from hb)
      go_wp2_with fail
      refine (k2.out _).mono ?_
      rintro e w2 ⟨rfl, hb'⟩
      have hb2 := Lib.hid (hb.out.trans hb')
      clear hb hb' q0 q1
      generalize ((w.alloc (.cells #[.slice A ps.length c, .slice A' ls.length c'] 40)).alloc (.cells #[.slice D ps'.length d, .slice D' ls'.length d'] 40)) = W0 at HB hb2
      have G2 : Hid (∀ w', Stays w2 w' → (w'.cell? ⟨w.heap.size, 0, none⟩ = some (.slice A ps.length c) ∧ w'.cell? ⟨w.heap.size, 1, none⟩ = some (.slice A' ls.length c') ∧ w'.cell? ⟨w.heap.size + 1, 0, none⟩ = some (.slice D ps'.length d) ∧ w'.cell? ⟨w.heap.size + 1, 1, none⟩ = some (.slice D' ls'.length d')) ∧ Hid (Stays w2 w')) := Lib.hid fun w' h => by
        obtain ⟨⟨⟨a0, a1⟩, b0, b1⟩, _⟩ := HB.out _ (hb2.out.trans h)
        exact ⟨⟨a0, a1, b0, b1⟩, Lib.hid h⟩
      have h2 := Lib.hid (show Stays w2 w2.drew from (Stays.refl w2).drew)
      go_wp2_with fail
      go_region_held (fun w' => (w'.cell? ⟨w.heap.size, 0, none⟩ = some (.slice A ps.length c) ∧ w'.cell? ⟨w.heap.size, 1, none⟩ = some (.slice A' ls.length c') ∧ w'.cell? ⟨w.heap.size + 1, 0, none⟩ = some (.slice D ps'.length d) ∧ w'.cell? ⟨w.heap.size + 1, 1, none⟩ = some (.slice D' ls'.length d')) ∧ Hid (Stays w2 w')) (first | exact G2.out _ h2.out | exact G2.out _ h3.out | exact G2.out _ h4.out | exact G2.out _ h5.out)
        (first
          | (go_at_call 31; refine (c_toGr (.agg #[.slice D ps'.length d, .slice D' ls'.length d']) ps' ls' _ (HB.out _ (hb2.out.trans h3.out)).2.2.2 hps' hls').mono ?_; rintro e w4 ⟨v2, rfl, hb, hv2⟩; have h4 := Lib.hid (h3.out.trans hb); replace hv1 := Lib.hid (hv1.out.on hb); clear hb; replace hv2 := Lib.hid hv2)
          | (go_at_call 31; refine (c_toGr (.agg #[.slice A ps.length c, .slice A' ls.length c']) ps ls _ (HB.out _ (hb2.out.trans h2.out)).2.2.1 hps hls).mono ?_; rintro e w3 ⟨v1, rfl, hb, hv1⟩; have h3 := Lib.hid (h2.out.trans hb); clear hb; replace hv1 := Lib.hid hv1)
          | (go_at_call 34; refine (kS.out v1 v2 _ hv1.out hv2.out).mono ?_; rintro e w5 ⟨rfl, hb⟩; have h5 := Lib.hid (h4.out.trans hb); clear hb))
      have hb5 := Lib.hid (hb2.out.trans h5.out)
      clear h2 h3 h4 h5 G2 hb2 hv1 hv2
      obtain ⟨⟨⟨q0, q1⟩, q2, q3⟩, _⟩ := HB.out _ hb5.out
      go_wp2_with fail
      refine (c_toGr _ ps ls w5 (HB.out _ hb5.out).2.2.1 hps hls).mono ?_
      rintro e w6 ⟨x1, rfl, hb, hx1⟩
      obtain ⟨E, e', E', f', rfl, HE⟩ := boxGr 46 hx1
      replace HE := Lib.hid HE
      have hs6 := show Stays w6 (w6.alloc (.cells #[.slice E ps.length e', .slice E' ls.length f'] 46)) from by (repeat (first | exact Stays.refl _ | (with_reducible refine Stays.drewN ?_ _) | (with_reducible refine Stays.alloc ?_ _) | (with_reducible refine Stays.drew ?_) | (refine Stays.trans ?_ ‹Stays _ _›)))
      have hb6 := Lib.hid ((hb5.out.trans hb).trans hs6)
      have hx6 := Lib.hid (Stays.refl (w6.alloc (.cells #[.slice E ps.length e', .slice E' ls.length f'] 46)))
      clear hb hx1 hs6 q0 q1 q2 q3
      obtain ⟨⟨⟨q0, q1⟩, q2, q3⟩, _⟩ := HB.out _ hb6.out
      go_wp2_with fail
      generalize (w6.alloc (.cells #[.slice E ps.length e', .slice E' ls.length f'] 46)) = W6 at HE hb6 hx6 q0 q1 q2 q3 ⊢
      refine (c_toGr _ ps' ls' W6 (HB.out _ hb6.out).2.2.2 hps' hls').mono ?_
      rintro e w7 ⟨x2, rfl, hb, hx2⟩
      obtain ⟨F, g', F', i', rfl, HF⟩ := boxGr 46 hx2
      replace HF := Lib.hid HF
      have hs7 := Stays.trans (show Stays W6 w7 from hb) (show Stays w7 (w7.alloc (.cells #[.slice F ps'.length g', .slice F' ls'.length i'] 46)) from by (repeat (first | exact Stays.refl _ | (with_reducible refine Stays.drewN ?_ _) | (with_reducible refine Stays.alloc ?_ _) | (with_reducible refine Stays.drew ?_) | (refine Stays.trans ?_ ‹Stays _ _›))))
      have hb7 := Lib.hid (hb6.out.trans hs7)
      have hx7 := Lib.hid (hx6.out.trans hs7)
      have hy7 := Lib.hid (Stays.refl (w7.alloc (.cells #[.slice F ps'.length g', .slice F' ls'.length i'] 46)))
      clear hb hx2 hs7 q0 q1 q2 q3 hx6
      obtain ⟨⟨q0, q1⟩, _⟩ := HE.out _ hx7.out
      go_wp2_with fail
      generalize (w7.alloc (.cells #[.slice F ps'.length g', .slice F' ls'.length i'] 46)) = W7 at HF hb7 hx7 hy7 q0 q1 ⊢
      refine (kI.out _ _ W7 (HE.out _ hx7.out).2.2 (HF.out _ hy7.out).2.2).mono ?_
      rintro e w8 ⟨rfl, hb⟩
      have hb8 := Lib.hid (hb7.out.trans hb)
      have hx8 := Lib.hid (hx7.out.trans hb)
      have hy8 := Lib.hid (hy7.out.trans hb)
      clear hb hb7 hx7 hy7 q0 q1
      cases bg
      all_goals
        have G8 : Hid (∀ w', Stays w8 w' → (w'.cell? ⟨w.heap.size, 0, none⟩ = some (.slice A ps.length c) ∧ w'.cell? ⟨w.heap.size, 1, none⟩ = some (.slice A' ls.length c') ∧ w'.cell? ⟨w6.heap.size, 0, none⟩ = some (.slice E ps.length e') ∧ w'.cell? ⟨w6.heap.size, 1, none⟩ = some (.slice E' ls.length f')) ∧ Hid (Stays w8 w')) := Lib.hid fun w' h => by
          obtain ⟨⟨⟨a0, a1⟩, b0, b1⟩, _⟩ := HB.out _ (hb8.out.trans h)
          obtain ⟨⟨c0, c1⟩, _⟩ := HE.out _ (hx8.out.trans h)
          exact ⟨⟨a0, a1, c0, c1⟩, Lib.hid h⟩
        have h8 := Lib.hid (show Stays w8 w8.drew from (Stays.refl w8).drew)
        go_wp2_with fail
        go_region_held (fun w' => (w'.cell? ⟨w.heap.size, 0, none⟩ = some (.slice A ps.length c) ∧ w'.cell? ⟨w.heap.size, 1, none⟩ = some (.slice A' ls.length c') ∧ w'.cell? ⟨w6.heap.size, 0, none⟩ = some (.slice E ps.length e') ∧ w'.cell? ⟨w6.heap.size, 1, none⟩ = some (.slice E' ls.length f')) ∧ Hid (Stays w8 w')) (first | exact G8.out _ h8.out | exact G8.out _ h9.out | exact G8.out _ h10.out)
          (first
            | (go_at_call 31; refine (c_toGr _ ps ls _ (HB.out _ (hb8.out.trans h8.out)).2.2.1 hps hls).mono ?_; rintro e w9 ⟨v1, rfl, hb, hv1⟩; have h9 := Lib.hid (h8.out.trans hb); clear hb; replace hv1 := Lib.hid hv1)
            | (go_at_call 33; refine (c_eqPoseGraph _ v1 ps ls w9 (HE.out _ (hx8.out.trans h9.out)).2.2 hv1.out hps hls).mono ?_; rintro e w10 ⟨rfl, hb⟩; have h10 := Lib.hid (h9.out.trans hb); clear hb))
        have hb10 := Lib.hid (hb8.out.trans h10.out)
        have hy10 := Lib.hid (hy8.out.trans h10.out)
        clear h8 h9 h10 G8 hv1
        have GA : Hid (∀ w', Stays w10 w' → (w'.cell? ⟨w.heap.size + 1, 0, none⟩ = some (.slice D ps'.length d) ∧ w'.cell? ⟨w.heap.size + 1, 1, none⟩ = some (.slice D' ls'.length d') ∧ w'.cell? ⟨w7.heap.size, 0, none⟩ = some (.slice F ps'.length g') ∧ w'.cell? ⟨w7.heap.size, 1, none⟩ = some (.slice F' ls'.length i')) ∧ Hid (Stays w10 w')) := Lib.hid fun w' h => by
          obtain ⟨⟨⟨a0, a1⟩, b0, b1⟩, _⟩ := HB.out _ (hb10.out.trans h)
          obtain ⟨⟨c0, c1⟩, _⟩ := HF.out _ (hy10.out.trans h)
          exact ⟨⟨b0, b1, c0, c1⟩, Lib.hid h⟩
        have h10 := Lib.hid (show Stays w10 w10.drew from (Stays.refl w10).drew)
        go_wp2_with fail
        go_region_held (fun w' => (w'.cell? ⟨w.heap.size + 1, 0, none⟩ = some (.slice D ps'.length d) ∧ w'.cell? ⟨w.heap.size + 1, 1, none⟩ = some (.slice D' ls'.length d') ∧ w'.cell? ⟨w7.heap.size, 0, none⟩ = some (.slice F ps'.length g') ∧ w'.cell? ⟨w7.heap.size, 1, none⟩ = some (.slice F' ls'.length i')) ∧ Hid (Stays w10 w')) (first | exact GA.out _ h10.out | exact GA.out _ h11.out | exact GA.out _ h12.out)
          (first
            | (go_at_call 31; refine (c_toGr _ ps' ls' _ (HB.out _ (hb10.out.trans h10.out)).2.2.2 hps' hls').mono ?_; rintro e w11 ⟨v1, rfl, hb, hv1⟩; have h11 := Lib.hid (h10.out.trans hb); clear hb; replace hv1 := Lib.hid hv1)
            | (go_at_call 33; refine (c_eqPoseGraph _ v1 ps' ls' w11 (HF.out _ (hy10.out.trans h11.out)).2.2 hv1.out hps' hls').mono ?_; rintro e w12 ⟨rfl, hb⟩; have h12 := Lib.hid (h11.out.trans hb); clear hb))
        go_wp2
        go_ret
        exact ⟨rfl, (HB.out _ (hb10.out.trans h12.out)).2.1⟩
end Go.Proofs.Ytfjchhfoefgldaa
