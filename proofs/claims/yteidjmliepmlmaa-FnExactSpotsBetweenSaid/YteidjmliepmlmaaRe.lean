/- The law on the spots between two spots. No condition. -/
import Derived.Test.YteidjmliepmlmaaRz
import Derived.Test.YteidjmliepmlmaaGeF
namespace Go.Proofs.Yteidjmliepmlmaa
open Go Go.ChangeShapes Go.WideShapes Go.RowKit
set_option linter.unusedVariables false
set_option linter.unusedSimpArgs false

theorem line_len (ax ay bx by' : Int) : (line ax ay bx by').length = (lnN (bx - ax) (by' - ay)).toNat + 1 := lnR_len _ _ _ _ _ _
theorem sbX_len (ax ay bx by' : Int) : (sbX ax ay bx by').length ≤ 1048576 := by
  unfold sbX
  split
  · rename_i h
    unfold sbB at h
    simp only [Bool.and_eq_true, in23_iff] at h
    have := lnN_bd h.1.1 h.2.1 h.1.2 h.2.2
    rw [line_len]
    omega
  · simp

set_option maxRecDepth 100000 in
set_option maxHeartbeats 2000000 in
theorem c_lawSpotsBetween (ax ay bx by' : Int) (w : World) (hax : In16 ax) (hay : In16 ay) (hbx : In16 bx) (hby : In16 by') :
    Calls Try.prog 6 #[.agg #[.int .i16 ax, .int .i16 ay], .agg #[.int .i16 bx, .int .i16 by']] w fun e w' => e = .returned (.bool true) ∧ Below w.heap.size w w' := by
    have kS := fun W => c_specSB ax ay bx by' W hax hay hbx hby
    have kI := fun W => c_implSB ax ay bx by' W hax hay hbx hby
    have kA := Lib.hid fun W => c_toSp ax ay W
    have kB := Lib.hid fun W => c_toSp bx by' W
    have hX := Lib.hid (sbX_len ax ay bx by')
    generalize sbX ax ay bx by' = XS at kS kI hX
    generalize sbC ax ay bx by' = code at kS kI
    replace kS := Lib.hid kS
    replace kI := Lib.hid kI
    have hsa : Stays w ((w.alloc (.cells #[.int .i16 ax, .int .i16 ay] 26)).alloc (.cells #[.int .i16 bx, .int .i16 by'] 26)) := by (repeat (first | exact Stays.refl _ | (with_reducible refine Stays.drewN ?_ _) | (with_reducible refine Stays.alloc ?_ _) | (with_reducible refine Stays.drew ?_) | (refine Stays.trans ?_ ‹Stays _ _›)))
    have u0 : ((w.alloc (.cells #[.int .i16 ax, .int .i16 ay] 26)).alloc (.cells #[.int .i16 bx, .int .i16 by'] 26)).heap[w.heap.size]? = some (.cells #[.int .i16 ax, .int .i16 ay] 26 (0, 0)) := by (repeat (first | (refine heap_top _ _ _ ?_; simp; done) | (with_reducible refine heap_drawn _ _ _ ?_) | (with_reducible refine heap_under _ _ _ ?_ ?_; (simp <;> omega))))
    have u1 : ((w.alloc (.cells #[.int .i16 ax, .int .i16 ay] 26)).alloc (.cells #[.int .i16 bx, .int .i16 by'] 26)).heap[w.heap.size + 1]? = some (.cells #[.int .i16 bx, .int .i16 by'] 26 (0, 0)) := by (repeat (first | (refine heap_top _ _ _ ?_; simp; done) | (with_reducible refine heap_drawn _ _ _ ?_) | (with_reducible refine heap_under _ _ _ ?_ ?_; (simp <;> omega))))
    have HB := Lib.hid fun w1 (h : Stays ((w.alloc (.cells #[.int .i16 ax, .int .i16 ay] 26)).alloc (.cells #[.int .i16 bx, .int .i16 by'] 26)) w1) => show w1.cell? ⟨w.heap.size, 0, none⟩ = some (.int .i16 ax) ∧ w1.cell? ⟨w.heap.size, 1, none⟩ = some (.int .i16 ay) ∧ w1.cell? ⟨w.heap.size + 1, 0, none⟩ = some (.int .i16 bx) ∧ w1.cell? ⟨w.heap.size + 1, 1, none⟩ = some (.int .i16 by') ∧ Stays w w1 from ⟨row_of h u0 0, row_of h u0 1, row_of h u1 0, row_of h u1 1, hsa.trans h⟩
    have ha := Lib.hid (Stays.refl ((w.alloc (.cells #[.int .i16 ax, .int .i16 ay] 26)).alloc (.cells #[.int .i16 bx, .int .i16 by'] 26)))
    clear hsa u0 u1 hax hay hbx hby
    go_enter Try.func6, Try.ntmps6
    go_wp2_with fail
    generalize ((w.alloc (.cells #[.int .i16 ax, .int .i16 ay] 26)).alloc (.cells #[.int .i16 bx, .int .i16 by'] 26)) = W0 at HB ha ⊢
    have G : Hid (∀ w', Stays W0 w' → (w'.cell? ⟨w.heap.size, 0, none⟩ = some (.int .i16 ax) ∧ w'.cell? ⟨w.heap.size, 1, none⟩ = some (.int .i16 ay) ∧ w'.cell? ⟨w.heap.size + 1, 0, none⟩ = some (.int .i16 bx) ∧ w'.cell? ⟨w.heap.size + 1, 1, none⟩ = some (.int .i16 by') ∧ Hid (Stays W0 w'))) := Lib.hid fun w' h => ⟨(HB.out _ (ha.out.trans h)).1, (HB.out _ (ha.out.trans h)).2.1, (HB.out _ (ha.out.trans h)).2.2.1, (HB.out _ (ha.out.trans h)).2.2.2.1, Lib.hid h⟩
    have h5 := Lib.hid (show Stays W0 W0.drew from (Stays.refl W0).drew)
    go_wp2_with fail
    go_region_held (fun w' => (w'.cell? ⟨w.heap.size, 0, none⟩ = some (.int .i16 ax) ∧ w'.cell? ⟨w.heap.size, 1, none⟩ = some (.int .i16 ay) ∧ w'.cell? ⟨w.heap.size + 1, 0, none⟩ = some (.int .i16 bx) ∧ w'.cell? ⟨w.heap.size + 1, 1, none⟩ = some (.int .i16 by') ∧ Hid (Stays W0 w'))) (first | exact G.out _ h5.out | exact G.out _ h6.out | exact G.out _ h7.out | exact G.out _ h8.out)
      (first
        | (go_at_call 14; with_reducible refine (kA.out _).mono ?_; rintro e wa ⟨rfl, hb⟩; have h6 := Lib.hid (h5.out.trans hb); clear hb)
        | (go_at_call 14; with_reducible refine (kB.out _).mono ?_; rintro e wb ⟨rfl, hb⟩; have h7 := Lib.hid (h6.out.trans hb); clear hb)
        | (go_at_call 26; refine (kS.out wb).mono ?_; rintro e wc ⟨v0, rfl, hg, hb⟩; have h8 := Lib.hid (h7.out.trans hb); obtain ⟨g0, hge0, hL0⟩ := GrowL.lies (K := KSpot) rfl hg; replace hL0 := Lib.hid hL0; obtain ⟨A0, c0, rfl⟩ := hg.form; clear hb hg hge0))
    replace ha := Lib.hid (ha.out.trans h8.out)
    have o1 : Hid (W0.heap.size ≤ wc.heap.size) := Lib.hid ha.out.size
    have o2 : Hid (0 < XS.length → g0 < wc.heap.size) := Lib.hid (LiesL_lt hL0.out)
    clear G h5 h6 h7 h8
    have G : Hid (∀ w', Stays wc w' → (w'.cell? ⟨w.heap.size, 0, none⟩ = some (.int .i16 ax) ∧ w'.cell? ⟨w.heap.size, 1, none⟩ = some (.int .i16 ay) ∧ w'.cell? ⟨w.heap.size + 1, 0, none⟩ = some (.int .i16 bx) ∧ w'.cell? ⟨w.heap.size + 1, 1, none⟩ = some (.int .i16 by') ∧ Hid (Stays wc w'))) := Lib.hid fun w' h => ⟨(HB.out _ (ha.out.trans h)).1, (HB.out _ (ha.out.trans h)).2.1, (HB.out _ (ha.out.trans h)).2.2.1, (HB.out _ (ha.out.trans h)).2.2.2.1, Lib.hid h⟩
    have h5 := Lib.hid (show Stays wc wc.drew from (Stays.refl wc).drew)
    go_wp2_with fail
    go_region_held (fun w' => (w'.cell? ⟨w.heap.size, 0, none⟩ = some (.int .i16 ax) ∧ w'.cell? ⟨w.heap.size, 1, none⟩ = some (.int .i16 ay) ∧ w'.cell? ⟨w.heap.size + 1, 0, none⟩ = some (.int .i16 bx) ∧ w'.cell? ⟨w.heap.size + 1, 1, none⟩ = some (.int .i16 by') ∧ Hid (Stays wc w'))) (first | exact G.out _ h5.out | exact G.out _ h6.out | exact G.out _ h7.out | exact G.out _ h8.out)
      (first
        | (go_at_call 14; with_reducible refine (kA.out _).mono ?_; rintro e wd ⟨rfl, hb⟩; have h6 := Lib.hid (h5.out.trans hb); clear hb)
        | (go_at_call 14; with_reducible refine (kB.out _).mono ?_; rintro e we ⟨rfl, hb⟩; have h7 := Lib.hid (h6.out.trans hb); clear hb)
        | (go_at_call 27; refine (kI.out we).mono ?_; rintro e wf ⟨v1, rfl, hg, hb⟩; have h8 := Lib.hid (h7.out.trans hb); obtain ⟨g1, hge1, hL1⟩ := GrowL.lies (K := KSpot) rfl hg; replace hL1 := Lib.hid hL1; have o5 : Hid (wc.heap.size ≤ g1) := Lib.hid (Nat.le_trans h7.out.size hge1); obtain ⟨A1, c1, rfl⟩ := hg.form; clear hb hg hge1))
    replace ha := Lib.hid (ha.out.trans h8.out)
    replace hL0 := Lib.hid (LiesR.below hL0.out h8.out)
    clear G h5 h6 h7 h8
    go_wp2_with fail
    refine (c_eqSpotS _ _ _ _ XS wf hL1.out.rows hL0.out.rows hX.out).mono ?_
    rintro e w6 ⟨rfl, hb⟩
    replace hb : Stays wf w6 := hb
    replace ha := Lib.hid (ha.out.trans hb)
    replace hL0 := Lib.hid (LiesR.below hL0.out hb)
    replace hL1 := Lib.hid (LiesR.below hL1.out hb)
    clear hb
    go_wp2_with fail
    refine (c_markSpotS A1 g1 c1 XS.length 1 w6 (LiesL_at hL1.out) (LiesL_there hL1.out) hX.out (by omega)).mono ?_
    rintro e w7 ⟨rfl, hm⟩
    have hA1 := Lib.hid (LiesL_at hL1.out)
    replace ha := Lib.hid (show Stays W0 _ from Below.trans (show Below W0.heap.size W0 _ from ha.out) (hm.below W0.heap.size (by have := o1.out; have := o5.out; omega)))
    replace hL0 := Lib.hid (LiesL_same hL0.out fun hx => hm.same g0 (by have := o2.out (List.length_pos_iff.2 hx); have := o5.out; omega))
    have hM := Lib.hid hm.rows
    clear hm hL1
    have hk : ¬ ((1 : Int) + 2 * (XS.length : Nat) < 0) := by omega
    go_wp2_with fail
    refine (c_heldSpotS A1 g1 c1 XS.length 1 w7 hA1.out hM.out hX.out (by omega)).mono ?_
    rintro e w8 ⟨rfl, rfl⟩
    generalize hkk : (1 : Int) + 2 * (XS.length : Nat) = kk at hk ⊢
    replace hkk := Lib.hid hkk
    have G : Hid (∀ w', Stays w7 w' → (w'.cell? ⟨w.heap.size, 0, none⟩ = some (.int .i16 ax) ∧ w'.cell? ⟨w.heap.size, 1, none⟩ = some (.int .i16 ay) ∧ w'.cell? ⟨w.heap.size + 1, 0, none⟩ = some (.int .i16 bx) ∧ w'.cell? ⟨w.heap.size + 1, 1, none⟩ = some (.int .i16 by') ∧ Hid (Stays w7 w'))) := Lib.hid fun w' h => ⟨(HB.out _ (ha.out.trans h)).1, (HB.out _ (ha.out.trans h)).2.1, (HB.out _ (ha.out.trans h)).2.2.1, (HB.out _ (ha.out.trans h)).2.2.2.1, Lib.hid h⟩
    have h5 := Lib.hid (show Stays w7 w7.drew from (Stays.refl w7).drew)
    go_wp2_with fail
    go_region_held (fun w' => (w'.cell? ⟨w.heap.size, 0, none⟩ = some (.int .i16 ax) ∧ w'.cell? ⟨w.heap.size, 1, none⟩ = some (.int .i16 ay) ∧ w'.cell? ⟨w.heap.size + 1, 0, none⟩ = some (.int .i16 bx) ∧ w'.cell? ⟨w.heap.size + 1, 1, none⟩ = some (.int .i16 by') ∧ Hid (Stays w7 w'))) (first | exact G.out _ h5.out | exact G.out _ h6.out | exact G.out _ h7.out | exact G.out _ h8.out)
      (first
        | (go_at_call 14; with_reducible refine (kA.out _).mono ?_; rintro e wg ⟨rfl, hb⟩; have h6 := Lib.hid (h5.out.trans hb); clear hb)
        | (go_at_call 14; with_reducible refine (kB.out _).mono ?_; rintro e wh ⟨rfl, hb⟩; have h7 := Lib.hid (h6.out.trans hb); clear hb)
        | (go_at_call 27; refine (kI.out wh).mono ?_; rintro e wi ⟨v2, rfl, hg, hb⟩; have h8 := Lib.hid (h7.out.trans hb); obtain ⟨g2, hge2, hL2⟩ := GrowL.lies (K := KSpot) rfl hg; replace hL2 := Lib.hid hL2; obtain ⟨A2, c2, rfl⟩ := hg.form; clear hb hg hge2))
    have hb := h8.out
    replace ha := Lib.hid (ha.out.trans hb)
    replace hL0 := Lib.hid (LiesR.below hL0.out hb)
    replace hM := Lib.hid (rows_belowS hM.out hb)
    clear hb G h5 h6 h7 h8
    go_wp2_with fail
    refine (c_eqSpotS _ _ _ _ XS wi hL2.out.rows hL0.out.rows hX.out).mono ?_
    rintro e w15 ⟨rfl, hb⟩
    replace hb : Stays wi w15 := hb
    replace ha := Lib.hid (ha.out.trans hb)
    replace hM := Lib.hid (rows_belowS hM.out hb)
    clear hb hL0 hL2
    go_wp2_with fail
    refine (c_heldSpotS A1 g1 c1 XS.length 1 w15 hA1.out hM.out hX.out (by omega)).mono ?_
    rintro e w16 ⟨rfl, rfl⟩
    rw [hkk.out]
    go_wp2
    go_ret
    exact ⟨rfl, (HB.out _ ha.out).2.2.2.2⟩
end Go.Proofs.Yteidjmliepmlmaa
