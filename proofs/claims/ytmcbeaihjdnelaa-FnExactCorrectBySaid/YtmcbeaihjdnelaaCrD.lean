/- A number that a curve corrects, as the document has it. No condition. -/
import Derived.Test.YtmcbeaihjdnelaaCrC
namespace Go.Proofs.Ytmcbeaihjdnelaa
open Go Go.ChangeShapes Go.WideShapes Go.RowKit
set_option linter.unusedVariables false
set_option linter.unusedSimpArgs false

set_option maxRecDepth 100000 in
set_option maxHeartbeats 600000 in
theorem c_specCorrect (v : Value) (us vs : List (List NV)) (q : Nat) (w : World) (h : CuV w w.heap.size v us vs) (hn : us.length ≤ 1048576) (hm : vs.length ≤ 1048576) :
    Calls Try.prog 29 #[v, .float .f32 q] w (FlDone w (crC us vs (can .f32 q)) (crV us vs (can .f32 q))) := by
  obtain ⟨A, c, A', c', rfl, h1, h2⟩ := h.val
  have hst : Stays w (w.alloc (.cells #[.slice A us.length c, .slice A' vs.length c'] 67)) := by (repeat (first | exact Stays.refl _ | (with_reducible refine Stays.drewN ?_ _) | (with_reducible refine Stays.alloc ?_ _) | (with_reducible refine Stays.drew ?_) | (refine Stays.trans ?_ ‹Stays _ _›)))
  have hg : (w.alloc (.cells #[.slice A us.length c, .slice A' vs.length c'] 67)).heap[w.heap.size]? = some (.cells #[.slice A us.length c, .slice A' vs.length c'] 67 (0, 0)) := heap_alloc_new w _
  have HW := Lib.hid fun W (hW : Stays (w.alloc (.cells #[.slice A us.length c, .slice A' vs.length c'] 67)) W) => And.intro (And.intro (row_of hW hg 0) (row_of hW hg 1)) (hst.trans hW)
  have U := Lib.hid fun k r (hr : us[k]? = some r) => show ∃ ad b, A = some ad ∧ FIs .f32 b (cat us k) ∧ ∀ W, Stays (w.alloc (.cells #[.slice A us.length c, .slice A' vs.length c'] 67)) W → W.cell? (ad.add k) = some (.float .f32 b) from by
    obtain ⟨ad, b, e, hbl, hc, hf⟩ := Fl.at_ h1 hr
    exact ⟨ad, b, e, hf.of_eq (cat_of hr).symm, fun W hW => ((hst.trans hW).cell (by rw [block_add]; exact hbl)).trans hc⟩
  have V := Lib.hid fun k r (hr : vs[k]? = some r) => show ∃ ad b, A' = some ad ∧ FIs .f32 b (cat vs k) ∧ ∀ W, Stays (w.alloc (.cells #[.slice A us.length c, .slice A' vs.length c'] 67)) W → W.cell? (ad.add k) = some (.float .f32 b) from by
    obtain ⟨ad, b, e, hbl, hc, hf⟩ := Fl.at_ h2 hr
    exact ⟨ad, b, e, hf.of_eq (cat_of hr).symm, fun W hW => ((hst.trans hW).cell (by rw [block_add]; exact hbl)).trans hc⟩
  have kV := Lib.hid (c_l04Curve w.heap.size A A' c c' us vs (w.alloc (.cells #[.slice A us.length c, .slice A' vs.length c'] 67)) hg ((h1.below hst).more hst.size) ((h2.below hst).more hst.size) hn hm)
  clear h h1 h2 hst hg
  unfold crC crV
  cases hok : curveB us vs with
  | false =>
    rw [hok] at kV
    simp only [Bool.false_eq_true, if_false]
    clear hok
    go_enter Try.func29, Try.ntmps29
    go_wp2_with fail
    generalize (w.alloc (.cells #[.slice A us.length c, .slice A' vs.length c'] 67)) = W0 at HW U V kV ⊢
    refine (kV.out).mono ?_
    rintro e w1 ⟨rfl, hb⟩
    replace hb := Lib.hid (show Stays W0 w1 from hb)
    clear kV
    obtain ⟨⟨q0, q1⟩, hst⟩ := HW.out _ hb.out
    replace hst := Lib.hid hst
    go_wp2
    go_ret2
    exact ⟨_, rfl, FIs.self (by decide), hst.out⟩
  | true =>
    rw [hok] at kV
    simp only [if_true]
    obtain ⟨hs2, hs32, hsl⟩ := (curveB_iff.1 hok).1
    have hv2 : 2 ≤ vs.length := by omega
    have hsl3 : us.length ≤ vs.length := by omega
    replace hsl := Lib.hid hsl
    cases hq : (FloatKind.f32.format.order q q == some Ordering.eq) with
    | false =>
      have hq' : selfc (can .f32 q) = false := by rw [← selfc_of]; exact hq
      simp only [hq', Bool.false_eq_true, if_false]
      clear hq' hok
      have hq2 : (FloatKind.f32.format.order q q != some Ordering.eq) = true := by unfold bne; rw [hq]; rfl
      go_enter Try.func29, Try.ntmps29
      go_wp2_with fail
      generalize (w.alloc (.cells #[.slice A us.length c, .slice A' vs.length c'] 67)) = W0 at HW U V kV ⊢
      refine (kV.out).mono ?_
      rintro e w1 ⟨rfl, hb⟩
      replace hb := Lib.hid (show Stays W0 w1 from hb)
      clear kV
      obtain ⟨⟨q0, q1⟩, hst⟩ := HW.out _ hb.out
      replace hst := Lib.hid hst
      go_wp2
      go_ret2
      exact ⟨_, rfl, FIs.self (by decide), hst.out⟩
    | true =>
      have hself : selfc (can .f32 q) = true := by rw [← selfc_of]; exact hq
      simp only [hself, if_true]
      have hq2 : (FloatKind.f32.format.order q q != some Ordering.eq) = false := by unfold bne; rw [hq]; rfl
      obtain ⟨ad, b0, rfl, f0, d0⟩ := U.out 0 us[0] (List.getElem?_eq_getElem (by omega))
      obtain ⟨ad', p0, rfl, e0, g0⟩ := V.out 0 vs[0] (List.getElem?_eq_getElem (by omega))
      have hle := lec_of q b0
      rw [f0.out] at hle
      replace d0 := Lib.hid d0
      replace g0 := Lib.hid g0
      cases h1 : (FloatKind.f32.format.order q b0 == some Ordering.lt || FloatKind.f32.format.order q b0 == some Ordering.eq) with
      | true =>
        rw [h1] at hle
        simp only [← hle, if_true]
        clear hle hok
        go_enter Try.func29, Try.ntmps29
        go_wp2_with fail
        generalize (w.alloc (.cells #[.slice (some ad) us.length c, .slice (some ad') vs.length c'] 67)) = W0 at HW U V kV d0 g0 ⊢
        refine (kV.out).mono ?_
        rintro e w1 ⟨rfl, hb⟩
        replace hb := Lib.hid (show Stays W0 w1 from hb)
        clear kV
        obtain ⟨⟨q0, q1⟩, hst⟩ := HW.out _ hb.out
        replace hst := Lib.hid hst
        have x0 : w1.cell? ad = some (.float .f32 b0) := d0.out w1 hb.out
        have y0 : w1.cell? ad' = some (.float .f32 p0) := g0.out w1 hb.out
        go_wp2
        go_ret2
        exact ⟨_, rfl, e0, hst.out⟩
      | false =>
        rw [h1] at hle
        simp only [← hle, Bool.false_eq_true, if_false]
        obtain ⟨adx, bl, hx, fl, dl⟩ := U.out (us.length - 1) (us[us.length - 1]'(by omega)) (List.getElem?_eq_getElem (by omega))
        cases hx
        obtain ⟨ady, pl, hx, el, gl⟩ := V.out (us.length - 1) (vs[us.length - 1]'(by have := hsl.out; omega)) (List.getElem?_eq_getElem (by omega))
        cases hx
        have hge := gec_of q bl
        rw [fl.out] at hge
        replace dl := Lib.hid dl
        replace gl := Lib.hid gl
        have hL1 : IntKind.i64.wrap ((us.length : Int) - 1) = ((us.length - 1 : Nat) : Int) := by rw [IntWalk.i64_in _ (by omega)]; omega
        have hL2 : ((us.length - 1 : Nat) : Int) < (us.length : Int) := by omega
        have hL3 : ((us.length - 1 : Nat) : Int) < (vs.length : Int) := by omega
        have hL4 : (us.length : Int) - 1 = ((us.length - 1 : Nat) : Int) := by omega
        cases h2 : (FloatKind.f32.format.order q bl == some Ordering.gt || FloatKind.f32.format.order q bl == some Ordering.eq) with
        | true =>
          rw [h2] at hge
          simp only [← hge, if_true]
          clear hge hok hle
          go_enter Try.func29, Try.ntmps29
          go_wp2_with fail
          generalize (w.alloc (.cells #[.slice (some ad) us.length c, .slice (some ad') vs.length c'] 67)) = W0 at HW U V kV d0 dl g0 gl ⊢
          refine (kV.out).mono ?_
          rintro e w1 ⟨rfl, hb⟩
          replace hb := Lib.hid (show Stays W0 w1 from hb)
          clear kV
          obtain ⟨⟨q0, q1⟩, hst⟩ := HW.out _ hb.out
          replace hst := Lib.hid hst
          have x0 : w1.cell? ad = some (.float .f32 b0) := d0.out w1 hb.out
          have xl := dl.out w1 hb.out
          have yl := gl.out w1 hb.out
          go_wp2
          go_ret2
          exact ⟨_, rfl, el, hst.out⟩
        | false =>
          rw [h2] at hge
          simp only [← hge, Bool.false_eq_true, if_false]
          have bw := fun j (hj : j < us.length) => show ∃ b, cat us j = can .f32 b from by
            obtain ⟨_, b, _, hf, _⟩ := U.out j us[j] (List.getElem?_eq_getElem hj)
            exact ⟨b, hf.out.symm⟩
          have g0le : lec (cat us 0) (can .f32 q) = true := by
            have hf0 := cu_fin hok (show 0 < us.length by omega)
            rw [← f0.out] at hle hf0 ⊢
            exact le_turn hself hf0 hle.symm
          have gLle : lec (cat us (us.length - 1)) (can .f32 q) = false := by
            have hf0 := cu_fin hok (show us.length - 1 < us.length by omega)
            rw [← fl.out] at hge hf0 ⊢
            exact ge_turn hself hf0 hge.symm
          have gm := Lib.hid fun d a (h : a + d < us.length) => cu_mono hok bw (q := q) d a h
          replace g0le := Lib.hid g0le
          replace gLle := Lib.hid gLle
          replace f0 := Lib.hid f0
          replace fl := Lib.hid fl
          clear bw hge hle hok hself e0 el
          go_enter Try.func29, Try.ntmps29
          go_wp2_with fail
          generalize (w.alloc (.cells #[.slice (some ad) us.length c, .slice (some ad') vs.length c'] 67)) = W0 at HW U V kV d0 dl g0 gl ⊢
          refine (kV.out).mono ?_
          rintro e w1 ⟨rfl, hb⟩
          replace hb := Lib.hid (show Stays W0 w1 from hb)
          clear kV
          obtain ⟨⟨q0, q1⟩, hst⟩ := HW.out _ hb.out
          replace hst := Lib.hid hst
          have x0 : w1.cell? ad = some (.float .f32 b0) := d0.out w1 hb.out
          have xl := dl.out w1 hb.out
          clear dl gl d0 g0
          go_wp2
          go_loopw [7] (fun iv wr => ∃ k : Nat, k + 1 < us.length ∧ iv = .int .i64 k ∧ Hid (∀ j, 1 ≤ j → j ≤ k → lec (cat us j) (can .f32 q) = true) ∧ Hid (Stays W0 wr)) (fun iv _ => us.length - (intOf iv).toNat)
          case atStart => exact ⟨0, by omega, rfl, Lib.hid fun j h1 h2 => by omega, hb⟩
          case round =>
            clear x0 xl q0 q1 hst hb
            obtain ⟨k, hk, rfl, hI, hS⟩ := hrel
            obtain ⟨⟨q0, q1⟩, hst⟩ := HW.out _ hS.out
            replace hst := Lib.hid hst
            have hkv : k < vs.length := by omega
            obtain ⟨a1, bk, ha, fk, dk⟩ := U.out k (us[k]'(by omega)) (List.getElem?_eq_getElem (by omega))
            cases ha
            obtain ⟨a2, bn, ha, fn, dn⟩ := U.out (k + 1) (us[k + 1]'(by omega)) (List.getElem?_eq_getElem (by omega))
            cases ha
            obtain ⟨a3, pk, ha, ek, gk⟩ := V.out k (vs[k]'(by omega)) (List.getElem?_eq_getElem (by omega))
            cases ha
            obtain ⟨a4, pn, ha, en, gn⟩ := V.out (k + 1) (vs[k + 1]'(by omega)) (List.getElem?_eq_getElem (by omega))
            cases ha
            simp only [fl_nx] at dn gn
            have hC := Lib.hid fun W (hW : Stays W0 W) => And.intro (HW.out W hW).1 (And.intro (And.intro (dk W hW) (dn W hW)) (And.intro (gk W hW) (gn W hW)))
            replace fk := Lib.hid fk
            replace fn := Lib.hid fn
            replace ek := Lib.hid ek
            replace en := Lib.hid en
            have hk1 : (k : Int) < (us.length : Int) := by omega
            have hk2 : (k : Int) + 1 < (us.length : Int) := by omega
            have hk3 : (k : Int) < (vs.length : Int) := by omega
            have hk4 : (k : Int) + 1 < (vs.length : Int) := by omega
            have hk5 : IntKind.i64.wrap ((k : Int) + 1) = (k : Int) + 1 := IntWalk.i64_in _ (by omega)
            have hk6 : ((k : Int) + 1).toNat = k + 1 := by omega
            have hk7 : k + 1 < us.length := by omega
            have hk0 : k < us.length := by omega
            have hk8 : k + 1 < vs.length := by omega
            clear dk dn gk gn
            have hnx := lec_of bn q
            rw [fn.out.out] at hnx
            obtain ⟨⟨_, _⟩, ⟨zk, zn⟩, _⟩ := hC.out wr hS.out
            cases hle : (FloatKind.f32.format.order bn q == some Ordering.lt || FloatKind.f32.format.order bn q == some Ordering.eq) with
            | true =>
              rw [hle] at hnx
              have hk' : k + 1 + 1 < us.length := by
                refine Nat.lt_of_le_of_ne (by omega) fun e => ?_
                have := gLle.out
                rw [show us.length - 1 = k + 1 by omega, ← hnx] at this
                cases this
              have hI2 := Lib.hid fun j (h1 : 1 ≤ j) (h2 : j ≤ k + 1) => show lec (cat us j) (can .f32 q) = true from by
                by_cases e : j = k + 1
                · rw [e]; exact hnx.symm
                · exact hI.out j h1 (by omega)
              clear hnx
              go_wp2
              go_roundw
              case rel => exact ⟨k + 1, hk', by go_num, hI2, hS⟩
              case measure => simp [intOf]; omega
            | false =>
              rw [hle] at hnx
              have hcr := Lib.hid (corI_eq (us := us) (o := can .f32 q) ⟨hk, hI.out, hnx.symm⟩)
              clear hnx
              go_upto_region 13 with fail
              clear q0 q1 zk zn
              have hcells := fun W (hW : Stays wr W) => hC.out W (hS.out.trans hW)
              refine wp_region_soft_tail 20 (Stays.refl _) (fun _ _ _ => False) [] (by kernel_rfl) (by kernel_rfl) (fun _ h => by cases h) ?_
              simp only [List.take_succ_cons, List.take_zero, List.drop_succ_cons, List.drop_zero]
              repeat ((with_reducible apply soft_detG); (case hwa => rfl); (case hA => rfl); (case h => (intro w1 hw1; have hc := hcells w1 hw1; go_simp; exact rfl)); go_simp)
              ((with_reducible refine soft_fop rfl ?hA _ _ _ _ _ rfl rfl _ _ _ rfl rfl ?_); (case hA => rfl); intro r1 hr1; go_simp)
              repeat ((with_reducible apply soft_detG); (case hwa => rfl); (case hA => rfl); (case h => (intro w1 hw1; have hc := hcells w1 hw1; go_simp; exact rfl)); go_simp)
              ((with_reducible refine soft_fop rfl ?hA _ _ _ _ _ rfl rfl _ _ _ rfl rfl ?_); (case hA => rfl); intro r2 hr2; go_simp)
              repeat ((with_reducible apply soft_detG); (case hwa => rfl); (case hA => rfl); (case h => (intro w1 hw1; have hc := hcells w1 hw1; go_simp; exact rfl)); go_simp)
              ((with_reducible refine soft_fop rfl ?hA _ _ _ _ _ rfl rfl _ _ _ rfl rfl ?_); (case hA => rfl); intro r3 hr3; go_simp)
              repeat ((with_reducible apply soft_detG); (case hwa => rfl); (case hA => rfl); (case h => (intro w1 hw1; have hc := hcells w1 hw1; go_simp; exact rfl)); go_simp)
              refine soft_nil ?_
              rintro w3 ⟨hv, _⟩
              replace hS := Lib.hid (hS.out.trans hv)
              clear hv hcells
              have hsh := Lib.hid (show FIs .f32 r3 (share (can .f32 q) (cat us k) (cat us (k + 1))) from hr3.of_eq (by rw [hr1.out, hr2.out, fk.out.out, fn.out.out]; rfl))
              clear hr1 hr2 hr3
              go_upto_region 14 with fail
              have hcells := fun W (hW : Stays w3 W) => hC.out W (hS.out.trans hW)
              refine wp_region_soft_tail 21 (Stays.refl _) (fun _ _ _ => False) [] (by kernel_rfl) (by kernel_rfl) (fun _ h => by cases h) ?_
              simp only [List.take_succ_cons, List.take_zero, List.drop_succ_cons, List.drop_zero]
              repeat ((with_reducible apply soft_detG); (case hwa => rfl); (case hA => rfl); (case h => (intro w1 hw1; have hc := hcells w1 hw1; go_simp; exact rfl)); go_simp)
              ((with_reducible refine soft_fop rfl ?hA _ _ _ _ _ rfl rfl _ _ _ rfl rfl ?_); (case hA => rfl); intro r4 hr4; go_simp)
              repeat ((with_reducible apply soft_detG); (case hwa => rfl); (case hA => rfl); (case h => (intro w1 hw1; have hc := hcells w1 hw1; go_simp; exact rfl)); go_simp)
              ((with_reducible refine soft_fop rfl ?hA _ _ _ _ _ rfl rfl _ _ _ rfl rfl ?_); (case hA => rfl); intro r5 hr5; go_simp)
              repeat ((with_reducible apply soft_detG); (case hwa => rfl); (case hA => rfl); (case h => (intro w1 hw1; have hc := hcells w1 hw1; go_simp; exact rfl)); go_simp)
              ((with_reducible refine soft_fop rfl ?hA _ _ _ _ _ rfl rfl _ _ _ rfl rfl ?_); (case hA => rfl); intro r6 hr6; go_simp)
              repeat ((with_reducible apply soft_detG); (case hwa => rfl); (case hA => rfl); (case h => (intro w1 hw1; have hc := hcells w1 hw1; go_simp; exact rfl)); go_simp)
              refine soft_nil ?_
              rintro w4 ⟨hv, _⟩
              replace hS := Lib.hid (hS.out.trans hv)
              clear hv hcells
              have hfin := Lib.hid (show FIs .f32 r6 (crX us vs (can .f32 q) (corI us (can .f32 q))) from hr6.of_eq (by rw [hcr.out]; unfold crX betw; rw [hr5.out, hr4.out, ek.out.out, en.out.out, hsh.out.out]))
              clear hr4 hr5 hr6
              go_wp2
              go_ret2
              exact ⟨_, rfl, hfin.out, (HW.out _ hS.out).2⟩
end Go.Proofs.Ytmcbeaihjdnelaa
