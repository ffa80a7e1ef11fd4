/- The centre of a map, as the document has it. No condition. -/
import Derived.Test.YtejljfejajckoaaCec
namespace Go.Proofs.Ytejljfejajckoaa
open Go Go.ChangeShapes Go.WideShapes Go.RowKit
set_option linter.unusedVariables false
set_option linter.unusedSimpArgs false

set_option maxRecDepth 100000 in
set_option maxHeartbeats 4000000 in
theorem c_specCentre (v : Value) (o : Option Nat) (xs : List Mk) (w : World) (h : MpV w w.heap.size v o xs) (hn : xs.length ≤ 1048576) :
    Calls Try.prog 46 #[v] w (V3Done w (ceC o xs) (ceV pX o xs) (ceV pY o xs) (ceV pZ o xs)) := by
  obtain ⟨sd, A, c, rfl, hfs, h1⟩ := h.val
  have hst : Stays w ((w.alloc (.cells #[.float .f32 sd, .slice A xs.length c] 35)).alloc (.cells #[.float .f32 0, .float .f32 0, .float .f32 0] 66)) := by (repeat (first | exact Stays.refl _ | (with_reducible refine Stays.drewN ?_ _) | (with_reducible refine Stays.alloc ?_ _) | (with_reducible refine Stays.drew ?_) | (refine Stays.trans ?_ ‹Stays _ _›)))
  have u0 : ((w.alloc (.cells #[.float .f32 sd, .slice A xs.length c] 35)).alloc (.cells #[.float .f32 0, .float .f32 0, .float .f32 0] 66)).heap[w.heap.size]? = some (.cells #[.float .f32 sd, .slice A xs.length c] 35 (0, 0)) := by (repeat (first | (refine heap_top _ _ _ ?_; simp; done) | (with_reducible refine heap_drawn _ _ _ ?_) | (with_reducible refine heap_under _ _ _ ?_ ?_; (simp <;> omega))))
  have u1 : ((w.alloc (.cells #[.float .f32 sd, .slice A xs.length c] 35)).alloc (.cells #[.float .f32 0, .float .f32 0, .float .f32 0] 66)).heap[w.heap.size + 1]? = some (.cells #[.float .f32 0, .float .f32 0, .float .f32 0] 66 (0, 0)) := by (repeat (first | (refine heap_top _ _ _ ?_; simp; done) | (with_reducible refine heap_drawn _ _ _ ?_) | (with_reducible refine heap_under _ _ _ ?_ ?_; (simp <;> omega))))
  have HW : Hid (∀ W, Stays ((w.alloc (.cells #[.float .f32 sd, .slice A xs.length c] 35)).alloc (.cells #[.float .f32 0, .float .f32 0, .float .f32 0] 66)) W → (W.cell? ⟨w.heap.size, 0, none⟩ = some (.float .f32 sd) ∧ W.cell? ⟨w.heap.size, 1, none⟩ = some (.slice A xs.length c)) ∧ Stays w W ∧ W.heap[w.heap.size + 1]? = some (.cells #[.float .f32 0, .float .f32 0, .float .f32 0] 66 (0, 0))) := Lib.hid fun W hW => ⟨⟨row_of hW u0 0, row_of hW u0 1⟩, hst.trans hW, (Below.block hW _ (in_heap u1)).trans u1⟩
  have kV := Lib.hid (c_l05Ok w.heap.size sd o hfs A c xs ((w.alloc (.cells #[.float .f32 sd, .slice A xs.length c] 35)).alloc (.cells #[.float .f32 0, .float .f32 0, .float .f32 0] 66)) u0 ((h1.below hst).more hst.size) hn)
  have H := Lib.hid fun W (hW : Stays ((w.alloc (.cells #[.float .f32 sd, .slice A xs.length c] 35)).alloc (.cells #[.float .f32 0, .float .f32 0, .float .f32 0] 66)) W) ad (e : A = some ad) k m (hk : xs[k]? = some m) => mark_at (m := m) (Nat.le_trans hst.size hW.size) (by rw [← e]; exact h1.below (hst.trans hW)) hk
  have hA : 0 < xs.length → ∃ ad, A = some ad := fun hp => by
    obtain ⟨ad, e, _, _⟩ := h1 0 xs[0] (List.getElem?_eq_getElem hp)
    exact ⟨ad, e⟩
  unfold ceC ceV
  clear u0 u1 h h1 hst hfs
  cases hok : mapOK o xs with
  | false =>
    rw [hok] at kV
    simp only [Bool.false_eq_true, if_false]
    clear hok hA
    go_enter Try.func46, Try.ntmps46
    go_wp2_with fail
    generalize ((w.alloc (.cells #[.float .f32 sd, .slice A xs.length c] 35)).alloc (.cells #[.float .f32 0, .float .f32 0, .float .f32 0] 66)) = W0 at HW kV ⊢
    with_reducible refine kV.out.mono ?_
    rintro e w1 ⟨rfl, hb⟩
    replace hb := Lib.hid (show Stays W0 w1 from hb)
    clear kV
    obtain ⟨⟨q0, q1⟩, hst, hres⟩ := HW.out _ hb.out
    go_wp2_with ((refine wpList_store_row rfl _ _ _ rfl _ _ _ rfl rfl hres ?hi ?ho ?h1 ?hB hst ?_); (case hi => kernel_rfl); (case ho => rfl); (case h1 => first | rfl | simp [Value.oneCell']); (case hB => first | omega | (simp <;> omega)); intro w9 hw9 hq9 ho9 hsz9)
    apply end_gd rfl rfl rfl Try.underlying66 rfl (t := 66)
    case hg => exact hq9
    case hi => kernel_rfl
    case hR => exact ⟨_, _, _, rfl, FIs.self (by decide), FIs.self (by decide), FIs.self (by decide), hw9⟩
  | true =>
    rw [hok] at kV
    have hpos9 : ∀ m, xs[0]? = some m → gtZ m.d = true := fun m hm => by
      unfold mapOK at hok
      rw [Bool.and_eq_true] at hok
      have g := ((marksOK_iff.1 hok.2 0) m hm).1
      unfold validB at g
      simp only [Bool.and_eq_true] at g
      unfold gtZ
      rw [can_zero]
      exact g.1.1.2.2
    simp only [if_true]
    clear hok
    by_cases h0 : xs.length = 0
    · have h0' : (((xs.length : Nat) : Int) == 0) = true := by rw [h0]; rfl
      simp only [if_pos h0]
      replace h0 := Lib.hid h0
      clear hA hpos9
      go_enter Try.func46, Try.ntmps46
      go_wp2_with fail
      generalize ((w.alloc (.cells #[.float .f32 sd, .slice A xs.length c] 35)).alloc (.cells #[.float .f32 0, .float .f32 0, .float .f32 0] 66)) = W0 at HW kV ⊢
      with_reducible refine kV.out.mono ?_
      rintro e w1 ⟨rfl, hb⟩
      replace hb := Lib.hid (show Stays W0 w1 from hb)
      clear kV
      obtain ⟨⟨q0, q1⟩, hst, hres⟩ := HW.out _ hb.out
      go_wp2_with ((refine wpList_store_row rfl _ _ _ rfl _ _ _ rfl rfl hres ?hi ?ho ?h1 ?hB hst ?_); (case hi => kernel_rfl); (case ho => rfl); (case h1 => first | rfl | simp [Value.oneCell']); (case hB => first | omega | (simp <;> omega)); intro w9 hw9 hq9 ho9 hsz9)
      apply end_gd rfl rfl rfl Try.underlying66 rfl (t := 66)
      case hg => exact hq9
      case hi => kernel_rfl
      case hR => exact ⟨_, _, _, rfl, FIs.self (by decide), FIs.self (by decide), FIs.self (by decide), hw9⟩
    · have h0' : (((xs.length : Nat) : Int) == 0) = false := beq_eq_false_iff_ne.2 (by omega)
      have hpos : 0 < xs.length := by omega
      simp only [if_neg h0]
      obtain ⟨ad, rfl⟩ := hA hpos
      replace hpos9 := Lib.hid hpos9
      clear hA
      go_enter Try.func46, Try.ntmps46
      go_wp2_with fail
      generalize ((w.alloc (.cells #[.float .f32 sd, .slice (some ad) xs.length c] 35)).alloc (.cells #[.float .f32 0, .float .f32 0, .float .f32 0] 66)) = W0 at HW kV H ⊢
      with_reducible refine kV.out.mono ?_
      rintro e w1 ⟨rfl, hb⟩
      replace hb := Lib.hid (show Stays W0 w1 from hb)
      clear kV
      obtain ⟨⟨q0, q1⟩, hst, hres⟩ := HW.out _ hb.out
      have ha := heap_alloc_new w1 (.cells #[.float .f32 0, .float .f32 0, .float .f32 0] 66)
      have hsA : Stays w1 (w1.alloc (.cells #[.float .f32 0, .float .f32 0, .float .f32 0] 66)) := by (repeat (first | exact Stays.refl _ | (with_reducible refine Stays.drewN ?_ _) | (with_reducible refine Stays.alloc ?_ _) | (with_reducible refine Stays.drew ?_) | (refine Stays.trans ?_ ‹Stays _ _›)))
      have hrow0 := Lib.hid ha
      have hbA := Lib.hid (hb.out.trans hsA)
      clear ha hsA hst hres
      go_upto_region 7 with fail
      clear q0 q1
      generalize hp0 : w1.heap.size = p0 at hrow0 ⊢
      have hge0 := Lib.hid (show w1.heap.size ≤ p0 by omega)
      have hlt0 := Lib.hid (in_heap hrow0.out)
      have hs0 := Lib.hid (show Stays w1 (w1.alloc (.cells #[.float .f32 0, .float .f32 0, .float .f32 0] 66)) from by (repeat (first | exact Stays.refl _ | (with_reducible refine Stays.drewN ?_ _) | (with_reducible refine Stays.alloc ?_ _) | (with_reducible refine Stays.drew ?_) | (refine Stays.trans ?_ ‹Stays _ _›))))
      clear hp0
      generalize (w1.alloc (.cells #[.float .f32 0, .float .f32 0, .float .f32 0] 66)) = w2 at hrow0 hbA hs0 hlt0 ⊢
      go_wp2
      go_loopw [5, 6] (fun wv iv wr => ∃ (k x y z u : Nat), k ≤ xs.length ∧ iv = .int .i64 k ∧ wv = .float .f32 u ∧ Hid (wr.heap[p0]? = some (.cells #[.float .f32 x, .float .f32 y, .float .f32 z] 66 (0, 0))) ∧ Hid ((0 < k → FIs .f32 x (sumK pX xs k) ∧ FIs .f32 y (sumK pY xs k) ∧ FIs .f32 z (sumK pZ xs k)) ∧ FIs .f32 u (if k = 0 then can .f32 0 else sumK Mk.d xs k)) ∧ Hid (Stays w1 wr)) (fun _ iv _ => xs.length - (intOf iv).toNat)
      case atStart => exact ⟨0, 0, 0, 0, 0, Nat.zero_le _, rfl, rfl, hrow0, Lib.hid ⟨fun h => absurd h (by decide), FIs.self (by decide)⟩, hs0⟩
      case round =>
        obtain ⟨k, x, y, z, u, hk, rfl, rfl, hrow, hf, hs⟩ := hrel
        obtain ⟨⟨q0, q1⟩, _⟩ := HW.out wr (hb.out.trans hs.out)
        by_cases hlt : k < xs.length
        · have hlt' : (k : Int) < (xs.length : Int) := by omega
          have hk9 : IntKind.i64.wrap ((k : Int) + 1) = (k : Int) + 1 := IntWalk.i64_in _ (by omega)
          have hgk : xs[k]? = some xs[k] := List.getElem?_eq_getElem hlt
          obtain ⟨ra, rb, rc, rd, hfm, hm⟩ := H.out w1 hb.out ad rfl k _ hgk
          replace hfm := Lib.hid hfm
          replace hm := Lib.hid hm
          by_cases hk0 : k = 0
          · subst hk0
            have nx := Lib.hid (And.intro (And.intro (sumK_one (f := pX) hgk) (And.intro (sumK_one (f := pY) hgk) (sumK_one (f := pZ) hgk))) (sumK_one (f := Mk.d) hgk))
            have hg9 := Lib.hid (hpos9.out _ hgk)
            generalize xs[0] = m at hfm hm nx hg9
            have e0 : ad.add (0 * 9) = ad := rfl
            have hm' := hm.out
            rw [e0] at hm'
            replace hm := Lib.hid hm'
            clear hgk hm' e0
            go_upto_region 11 with fail
            clear q0 q1
            go_wp2
            refine wp_loop_rounds 4 ?_
            rw [rounds_succ]
            go_upto_region 14 with fail
            have hcells := fun W' (hW : Stays wr W') => hm.out W' (hs.out.trans hW)
            refine wp_region_soft_tail 11 (Stays.refl _) (fun _ _ _ => False) [] (by kernel_rfl) (by kernel_rfl) (fun _ h => by cases h) ?_
            simp only [List.take_succ_cons, List.take_zero, List.drop_succ_cons, List.drop_zero]
            repeat ((with_reducible apply soft_detG); (case hwa => rfl); (case hA => rfl); (case h => (intro w1 hw1; have hc := hcells w1 hw1; go_simp; exact rfl)); go_simp)
            ((with_reducible refine soft_fop rfl ?hA _ _ _ _ _ rfl rfl _ _ _ rfl rfl ?_); (case hA => rfl); intro r0 hr0; go_simp)
            repeat ((with_reducible apply soft_detG); (case hwa => rfl); (case hA => rfl); (case h => (intro w1 hw1; have hc := hcells w1 hw1; go_simp; exact rfl)); go_simp)
            refine soft_nil ?_
            rintro v0 ⟨hv, _⟩
            have hp0 := Lib.hid (show FIs .f32 r0 (pX m) from hr0.of_eq (by rw [mul_swap, hfm.out.1.out, hfm.out.2.2.2.out]; rfl))
            replace hrow := Lib.hid ((Below.block hv _ (in_heap hrow.out)).trans hrow.out)
            replace hs := Lib.hid (hs.out.trans hv)
            clear hcells hr0 hv
            have c9 := cell_of_row _ _ 0 _ _ _ hrow.out
            have f9 := frozen_of_row _ _ 0 _ _ hrow.out
            go_wp2
            clear c9 f9
            have hrowN : (v0.setCell ⟨p0, 0, none⟩ (.float .f32 r0)).heap[p0]? = some (.cells #[.float .f32 r0, .float .f32 y, .float .f32 z] 66 (0, 0)) := heap_setCell_same v0 p0 0 _ _ (.float .f32 r0) hrow.out
            have hsN : Stays w1 (v0.setCell ⟨p0, 0, none⟩ (.float .f32 r0)) := hs.out.setCell _ _ hge0.out
            replace hrow := Lib.hid hrowN
            replace hs := Lib.hid hsN
            clear hrowN hsN
            generalize (v0.setCell ⟨p0, 0, none⟩ (.float .f32 r0)) = u0 at hrow hs ⊢
            rw [rounds_succ]
            go_upto_region 14 with fail
            have hcells := fun W' (hW : Stays u0 W') => hm.out W' (hs.out.trans hW)
            refine wp_region_soft_tail 11 (Stays.refl _) (fun _ _ _ => False) [] (by kernel_rfl) (by kernel_rfl) (fun _ h => by cases h) ?_
            simp only [List.take_succ_cons, List.take_zero, List.drop_succ_cons, List.drop_zero]
            repeat ((with_reducible apply soft_detG); (case hwa => rfl); (case hA => rfl); (case h => (intro w1 hw1; have hc := hcells w1 hw1; go_simp; exact rfl)); go_simp)
            ((with_reducible refine soft_fop rfl ?hA _ _ _ _ _ rfl rfl _ _ _ rfl rfl ?_); (case hA => rfl); intro r1 hr1; go_simp)
            repeat ((with_reducible apply soft_detG); (case hwa => rfl); (case hA => rfl); (case h => (intro w1 hw1; have hc := hcells w1 hw1; go_simp; exact rfl)); go_simp)
            refine soft_nil ?_
            rintro v1 ⟨hv, _⟩
            have hp1 := Lib.hid (show FIs .f32 r1 (pY m) from hr1.of_eq (by rw [mul_swap, hfm.out.2.1.out, hfm.out.2.2.2.out]; rfl))
            replace hrow := Lib.hid ((Below.block hv _ (in_heap hrow.out)).trans hrow.out)
            replace hs := Lib.hid (hs.out.trans hv)
            clear hcells hr1 hv
            have c9 := cell_of_row _ _ 1 _ _ _ hrow.out
            have f9 := frozen_of_row _ _ 1 _ _ hrow.out
            go_wp2
            clear c9 f9
            have hrowN : (v1.setCell ⟨p0, 1, none⟩ (.float .f32 r1)).heap[p0]? = some (.cells #[.float .f32 r0, .float .f32 r1, .float .f32 z] 66 (0, 0)) := heap_setCell_same v1 p0 1 _ _ (.float .f32 r1) hrow.out
            have hsN : Stays w1 (v1.setCell ⟨p0, 1, none⟩ (.float .f32 r1)) := hs.out.setCell _ _ hge0.out
            replace hrow := Lib.hid hrowN
            replace hs := Lib.hid hsN
            clear hrowN hsN
            generalize (v1.setCell ⟨p0, 1, none⟩ (.float .f32 r1)) = u1 at hrow hs ⊢
            rw [rounds_succ]
            go_upto_region 14 with fail
            have hcells := fun W' (hW : Stays u1 W') => hm.out W' (hs.out.trans hW)
            refine wp_region_soft_tail 11 (Stays.refl _) (fun _ _ _ => False) [] (by kernel_rfl) (by kernel_rfl) (fun _ h => by cases h) ?_
            simp only [List.take_succ_cons, List.take_zero, List.drop_succ_cons, List.drop_zero]
            repeat ((with_reducible apply soft_detG); (case hwa => rfl); (case hA => rfl); (case h => (intro w1 hw1; have hc := hcells w1 hw1; go_simp; exact rfl)); go_simp)
            ((with_reducible refine soft_fop rfl ?hA _ _ _ _ _ rfl rfl _ _ _ rfl rfl ?_); (case hA => rfl); intro r2 hr2; go_simp)
            repeat ((with_reducible apply soft_detG); (case hwa => rfl); (case hA => rfl); (case h => (intro w1 hw1; have hc := hcells w1 hw1; go_simp; exact rfl)); go_simp)
            refine soft_nil ?_
            rintro v2 ⟨hv, _⟩
            have hp2 := Lib.hid (show FIs .f32 r2 (pZ m) from hr2.of_eq (by rw [mul_swap, hfm.out.2.2.1.out, hfm.out.2.2.2.out]; rfl))
            replace hrow := Lib.hid ((Below.block hv _ (in_heap hrow.out)).trans hrow.out)
            replace hs := Lib.hid (hs.out.trans hv)
            clear hcells hr2 hv
            have c9 := cell_of_row _ _ 2 _ _ _ hrow.out
            have f9 := frozen_of_row _ _ 2 _ _ hrow.out
            go_wp2
            clear c9 f9
            have hrowN : (v2.setCell ⟨p0, 2, none⟩ (.float .f32 r2)).heap[p0]? = some (.cells #[.float .f32 r0, .float .f32 r1, .float .f32 r2] 66 (0, 0)) := heap_setCell_same v2 p0 2 _ _ (.float .f32 r2) hrow.out
            have hsN : Stays w1 (v2.setCell ⟨p0, 2, none⟩ (.float .f32 r2)) := hs.out.setCell _ _ hge0.out
            replace hrow := Lib.hid hrowN
            replace hs := Lib.hid hsN
            clear hrowN hsN
            generalize (v2.setCell ⟨p0, 2, none⟩ (.float .f32 r2)) = u2 at hrow hs ⊢
            rw [rounds_succ]
            have c6 := (hm.out u2 hs.out).2.2.2.2.2.2.1
            go_wp2_with ((with_reducible refine wpList_fop rfl _ _ _ _ _ rfl rfl _ _ _ rfl rfl ?_); intro r n hr; have hs1 := Lib.hid hr; clear hr)
            clear c6
            have hU := Lib.hid (show FIs .f32 r (if 0 + 1 = 0 then can .f32 0 else sumK Mk.d xs (0 + 1)) from hs1.out.of_eq (by rw [if_neg (by decide), show can .f32 u = can .f32 0 from hf.out.2.out, zero_add32 hfm.out.2.2.2.lt (by rw [hfm.out.2.2.2.out]; exact hg9.out), hfm.out.2.2.2.out]; exact nx.out.2.symm))
            have hX := Lib.hid (show 0 < 0 + 1 → FIs .f32 r0 (sumK pX xs (0 + 1)) ∧ FIs .f32 r1 (sumK pY xs (0 + 1)) ∧ FIs .f32 r2 (sumK pZ xs (0 + 1)) from fun _ => ⟨hp0.out.of_eq nx.out.1.1.symm, hp1.out.of_eq nx.out.1.2.1.symm, hp2.out.of_eq nx.out.1.2.2.symm⟩)
            go_roundw
            case rel => exact ⟨0 + 1, r0, r1, r2, r, by omega, by go_num, rfl, hrow, Lib.hid ⟨hX.out, hU.out⟩, Lib.hid (hs.out.drewN _)⟩
            case measure => simp [intOf]; omega
          · have hk1 : ((k : Int) == 0) = false := beq_eq_false_iff_ne.2 (by omega)
            have nx := Lib.hid (And.intro (And.intro (sumK_next (f := pX) (Nat.pos_of_ne_zero hk0) hgk) (And.intro (sumK_next (f := pY) (Nat.pos_of_ne_zero hk0) hgk) (sumK_next (f := pZ) (Nat.pos_of_ne_zero hk0) hgk))) (sumK_next (f := Mk.d) (Nat.pos_of_ne_zero hk0) hgk))
            replace hk0 := Lib.hid hk0
            generalize xs[k] = m at hfm hm nx
            clear hgk
            go_upto_region 11 with fail
            clear q0 q1
            go_wp2
            refine wp_loop_rounds 4 ?_
            rw [rounds_succ]
            go_upto_region 14 with fail
            have hcells := fun W' (hW : Stays wr W') => hm.out W' (hs.out.trans hW)
            refine wp_region_soft_tail 11 (Stays.refl _) (fun _ _ _ => False) [] (by kernel_rfl) (by kernel_rfl) (fun _ h => by cases h) ?_
            simp only [List.take_succ_cons, List.take_zero, List.drop_succ_cons, List.drop_zero]
            repeat ((with_reducible apply soft_detG); (case hwa => rfl); (case hA => rfl); (case h => (intro w1 hw1; have hc := hcells w1 hw1; go_simp; exact rfl)); go_simp)
            ((with_reducible refine soft_fop rfl ?hA _ _ _ _ _ rfl rfl _ _ _ rfl rfl ?_); (case hA => rfl); intro r0 hr0; go_simp)
            repeat ((with_reducible apply soft_detG); (case hwa => rfl); (case hA => rfl); (case h => (intro w1 hw1; have hc := hcells w1 hw1; go_simp; exact rfl)); go_simp)
            refine soft_nil ?_
            rintro v0 ⟨hv, _⟩
            have hp0 := Lib.hid (show FIs .f32 r0 (pX m) from hr0.of_eq (by rw [mul_swap, hfm.out.1.out, hfm.out.2.2.2.out]; rfl))
            replace hrow := Lib.hid ((Below.block hv _ (in_heap hrow.out)).trans hrow.out)
            replace hs := Lib.hid (hs.out.trans hv)
            clear hcells hr0 hv
            have c9 := fun n => cell_of_row (v0.drewN n) _ 0 _ _ _ hrow.out
            have f9 := fun n => frozen_of_row (v0.drewN n) _ 0 _ _ hrow.out
            have c8 := cell_of_row _ _ 0 _ _ _ hrow.out
            go_wp2_with ((with_reducible refine wpList_fop rfl _ _ _ _ _ rfl rfl _ _ _ rfl rfl ?_); intro q0 n0 hq0; have hs0' := Lib.hid hq0; clear hq0)
            clear c8
            clear c9 f9
            have hrowN : ((v0.setCell ⟨p0, 0, none⟩ (.float .f32 q0)).drewN n0).heap[p0]? = some (.cells #[.float .f32 q0, .float .f32 y, .float .f32 z] 66 (0, 0)) := heap_setCell_same v0 p0 0 _ _ (.float .f32 q0) hrow.out
            have hsN : Stays w1 ((v0.setCell ⟨p0, 0, none⟩ (.float .f32 q0)).drewN n0) := (hs.out.setCell _ _ hge0.out).drewN _
            replace hrow := Lib.hid hrowN
            replace hs := Lib.hid hsN
            clear hrowN hsN
            generalize ((v0.setCell ⟨p0, 0, none⟩ (.float .f32 q0)).drewN n0) = u0 at hrow hs ⊢
            rw [rounds_succ]
            go_upto_region 14 with fail
            have hcells := fun W' (hW : Stays u0 W') => hm.out W' (hs.out.trans hW)
            refine wp_region_soft_tail 11 (Stays.refl _) (fun _ _ _ => False) [] (by kernel_rfl) (by kernel_rfl) (fun _ h => by cases h) ?_
            simp only [List.take_succ_cons, List.take_zero, List.drop_succ_cons, List.drop_zero]
            repeat ((with_reducible apply soft_detG); (case hwa => rfl); (case hA => rfl); (case h => (intro w1 hw1; have hc := hcells w1 hw1; go_simp; exact rfl)); go_simp)
            ((with_reducible refine soft_fop rfl ?hA _ _ _ _ _ rfl rfl _ _ _ rfl rfl ?_); (case hA => rfl); intro r1 hr1; go_simp)
            repeat ((with_reducible apply soft_detG); (case hwa => rfl); (case hA => rfl); (case h => (intro w1 hw1; have hc := hcells w1 hw1; go_simp; exact rfl)); go_simp)
            refine soft_nil ?_
            rintro v1 ⟨hv, _⟩
            have hp1 := Lib.hid (show FIs .f32 r1 (pY m) from hr1.of_eq (by rw [mul_swap, hfm.out.2.1.out, hfm.out.2.2.2.out]; rfl))
            replace hrow := Lib.hid ((Below.block hv _ (in_heap hrow.out)).trans hrow.out)
            replace hs := Lib.hid (hs.out.trans hv)
            clear hcells hr1 hv
            have c9 := fun n => cell_of_row (v1.drewN n) _ 1 _ _ _ hrow.out
            have f9 := fun n => frozen_of_row (v1.drewN n) _ 1 _ _ hrow.out
            have c8 := cell_of_row _ _ 1 _ _ _ hrow.out
            go_wp2_with ((with_reducible refine wpList_fop rfl _ _ _ _ _ rfl rfl _ _ _ rfl rfl ?_); intro q1 n1 hq1; have hs1' := Lib.hid hq1; clear hq1)
            clear c8
            clear c9 f9
            have hrowN : ((v1.setCell ⟨p0, 1, none⟩ (.float .f32 q1)).drewN n1).heap[p0]? = some (.cells #[.float .f32 q0, .float .f32 q1, .float .f32 z] 66 (0, 0)) := heap_setCell_same v1 p0 1 _ _ (.float .f32 q1) hrow.out
            have hsN : Stays w1 ((v1.setCell ⟨p0, 1, none⟩ (.float .f32 q1)).drewN n1) := (hs.out.setCell _ _ hge0.out).drewN _
            replace hrow := Lib.hid hrowN
            replace hs := Lib.hid hsN
            clear hrowN hsN
            generalize ((v1.setCell ⟨p0, 1, none⟩ (.float .f32 q1)).drewN n1) = u1 at hrow hs ⊢
            rw [rounds_succ]
            go_upto_region 14 with fail
            have hcells := fun W' (hW : Stays u1 W') => hm.out W' (hs.out.trans hW)
            refine wp_region_soft_tail 11 (Stays.refl _) (fun _ _ _ => False) [] (by kernel_rfl) (by kernel_rfl) (fun _ h => by cases h) ?_
            simp only [List.take_succ_cons, List.take_zero, List.drop_succ_cons, List.drop_zero]
            repeat ((with_reducible apply soft_detG); (case hwa => rfl); (case hA => rfl); (case h => (intro w1 hw1; have hc := hcells w1 hw1; go_simp; exact rfl)); go_simp)
            ((with_reducible refine soft_fop rfl ?hA _ _ _ _ _ rfl rfl _ _ _ rfl rfl ?_); (case hA => rfl); intro r2 hr2; go_simp)
            repeat ((with_reducible apply soft_detG); (case hwa => rfl); (case hA => rfl); (case h => (intro w1 hw1; have hc := hcells w1 hw1; go_simp; exact rfl)); go_simp)
            refine soft_nil ?_
            rintro v2 ⟨hv, _⟩
            have hp2 := Lib.hid (show FIs .f32 r2 (pZ m) from hr2.of_eq (by rw [mul_swap, hfm.out.2.2.1.out, hfm.out.2.2.2.out]; rfl))
            replace hrow := Lib.hid ((Below.block hv _ (in_heap hrow.out)).trans hrow.out)
            replace hs := Lib.hid (hs.out.trans hv)
            clear hcells hr2 hv
            have c9 := fun n => cell_of_row (v2.drewN n) _ 2 _ _ _ hrow.out
            have f9 := fun n => frozen_of_row (v2.drewN n) _ 2 _ _ hrow.out
            have c8 := cell_of_row _ _ 2 _ _ _ hrow.out
            go_wp2_with ((with_reducible refine wpList_fop rfl _ _ _ _ _ rfl rfl _ _ _ rfl rfl ?_); intro q2 n2 hq2; have hs2' := Lib.hid hq2; clear hq2)
            clear c8
            clear c9 f9
            have hrowN : ((v2.setCell ⟨p0, 2, none⟩ (.float .f32 q2)).drewN n2).heap[p0]? = some (.cells #[.float .f32 q0, .float .f32 q1, .float .f32 q2] 66 (0, 0)) := heap_setCell_same v2 p0 2 _ _ (.float .f32 q2) hrow.out
            have hsN : Stays w1 ((v2.setCell ⟨p0, 2, none⟩ (.float .f32 q2)).drewN n2) := (hs.out.setCell _ _ hge0.out).drewN _
            replace hrow := Lib.hid hrowN
            replace hs := Lib.hid hsN
            clear hrowN hsN
            generalize ((v2.setCell ⟨p0, 2, none⟩ (.float .f32 q2)).drewN n2) = u2 at hrow hs ⊢
            rw [rounds_succ]
            have c6 := (hm.out u2 hs.out).2.2.2.2.2.2.1
            go_wp2_with ((with_reducible refine wpList_fop rfl _ _ _ _ _ rfl rfl _ _ _ rfl rfl ?_); intro r n hr; have hs1 := Lib.hid hr; clear hr)
            clear c6
            have hU := Lib.hid (show FIs .f32 r (if k + 1 = 0 then can .f32 0 else sumK Mk.d xs (k + 1)) from hs1.out.of_eq (by rw [if_neg (by omega), hf.out.2.out, if_neg hk0.out, nx.out.2, hfm.out.2.2.2.out]))
            have hX := Lib.hid (show 0 < k + 1 → FIs .f32 q0 (sumK pX xs (k + 1)) ∧ FIs .f32 q1 (sumK pY xs (k + 1)) ∧ FIs .f32 q2 (sumK pZ xs (k + 1)) from fun _ => ⟨hs0'.out.of_eq (by rw [nx.out.1.1, (hf.out.1 (Nat.pos_of_ne_zero hk0.out)).1.out, hp0.out.out]), hs1'.out.of_eq (by rw [nx.out.1.2.1, (hf.out.1 (Nat.pos_of_ne_zero hk0.out)).2.1.out, hp1.out.out]), hs2'.out.of_eq (by rw [nx.out.1.2.2, (hf.out.1 (Nat.pos_of_ne_zero hk0.out)).2.2.out, hp2.out.out])⟩)
            go_roundw
            case rel => exact ⟨k + 1, q0, q1, q2, r, by omega, by go_num, rfl, hrow, Lib.hid ⟨hX.out, hU.out⟩, Lib.hid (hs.out.drewN _)⟩
            case measure => simp [intOf]; omega
        · have ek : k = xs.length := by omega
          have hlt2 : ¬ (k : Int) < (xs.length : Int) := by omega
          rw [ek] at hf
          replace ek := Lib.hid ek
          go_upto_region 19 with fail
          clear q0 q1
          go_wp2
          refine wp_loop_rounds 4 ?_
          rw [rounds_succ]
          have c9 := fun n => cell_of_row (wr.drewN n) _ 0 _ _ _ hrow.out
          have f9 := fun n => frozen_of_row (wr.drewN n) _ 0 _ _ hrow.out
          have c8 := cell_of_row _ _ 0 _ _ _ hrow.out
          go_wp2_with ((with_reducible refine wpList_fop rfl _ _ _ _ _ rfl rfl _ _ _ rfl rfl ?_); intro q0 n0 hq0; have hs0' := Lib.hid hq0; clear hq0)
          clear c8 c9 f9
          have hrowN : ((wr.setCell ⟨p0, 0, none⟩ (.float .f32 q0)).drewN n0).heap[p0]? = some (.cells #[.float .f32 q0, .float .f32 y, .float .f32 z] 66 (0, 0)) := heap_setCell_same wr p0 0 _ _ (.float .f32 q0) hrow.out
          have hsN : Stays w1 ((wr.setCell ⟨p0, 0, none⟩ (.float .f32 q0)).drewN n0) := (hs.out.setCell _ _ hge0.out).drewN _
          replace hrow := Lib.hid hrowN
          replace hs := Lib.hid hsN
          clear hrowN hsN
          generalize ((wr.setCell ⟨p0, 0, none⟩ (.float .f32 q0)).drewN n0) = u0 at hrow hs ⊢
          rw [rounds_succ]
          have c9 := fun n => cell_of_row (u0.drewN n) _ 1 _ _ _ hrow.out
          have f9 := fun n => frozen_of_row (u0.drewN n) _ 1 _ _ hrow.out
          have c8 := cell_of_row _ _ 1 _ _ _ hrow.out
          go_wp2_with ((with_reducible refine wpList_fop rfl _ _ _ _ _ rfl rfl _ _ _ rfl rfl ?_); intro q1 n1 hq1; have hs1' := Lib.hid hq1; clear hq1)
          clear c8 c9 f9
          have hrowN : ((u0.setCell ⟨p0, 1, none⟩ (.float .f32 q1)).drewN n1).heap[p0]? = some (.cells #[.float .f32 q0, .float .f32 q1, .float .f32 z] 66 (0, 0)) := heap_setCell_same u0 p0 1 _ _ (.float .f32 q1) hrow.out
          have hsN : Stays w1 ((u0.setCell ⟨p0, 1, none⟩ (.float .f32 q1)).drewN n1) := (hs.out.setCell _ _ hge0.out).drewN _
          replace hrow := Lib.hid hrowN
          replace hs := Lib.hid hsN
          clear hrowN hsN
          generalize ((u0.setCell ⟨p0, 1, none⟩ (.float .f32 q1)).drewN n1) = u1 at hrow hs ⊢
          rw [rounds_succ]
          have c9 := fun n => cell_of_row (u1.drewN n) _ 2 _ _ _ hrow.out
          have f9 := fun n => frozen_of_row (u1.drewN n) _ 2 _ _ hrow.out
          have c8 := cell_of_row _ _ 2 _ _ _ hrow.out
          go_wp2_with ((with_reducible refine wpList_fop rfl _ _ _ _ _ rfl rfl _ _ _ rfl rfl ?_); intro q2 n2 hq2; have hs2' := Lib.hid hq2; clear hq2)
          clear c8 c9 f9
          have hrowN : ((u1.setCell ⟨p0, 2, none⟩ (.float .f32 q2)).drewN n2).heap[p0]? = some (.cells #[.float .f32 q0, .float .f32 q1, .float .f32 q2] 66 (0, 0)) := heap_setCell_same u1 p0 2 _ _ (.float .f32 q2) hrow.out
          have hsN : Stays w1 ((u1.setCell ⟨p0, 2, none⟩ (.float .f32 q2)).drewN n2) := (hs.out.setCell _ _ hge0.out).drewN _
          replace hrow := Lib.hid hrowN
          replace hs := Lib.hid hsN
          clear hrowN hsN
          generalize ((u1.setCell ⟨p0, 2, none⟩ (.float .f32 q2)).drewN n2) = u2 at hrow hs ⊢
          rw [rounds_succ]
          have g0 := cell_of_row _ _ 0 _ _ _ hrow.out
          have g1 := cell_of_row _ _ 1 _ _ _ hrow.out
          have g2 := cell_of_row _ _ 2 _ _ _ hrow.out
          obtain ⟨_, hst, hres⟩ := HW.out u2 (hb.out.trans hs.out)
          have hfin := Lib.hid (show FIs .f32 q0 (cenK pX xs) ∧ FIs .f32 q1 (cenK pY xs) ∧ FIs .f32 q2 (cenK pZ xs) from ⟨hs0'.out.of_eq (by unfold cenK; rw [(hf.out.1 hpos).1.out, hf.out.2.out, if_neg (by omega)]), hs1'.out.of_eq (by unfold cenK; rw [(hf.out.1 hpos).2.1.out, hf.out.2.out, if_neg (by omega)]), hs2'.out.of_eq (by unfold cenK; rw [(hf.out.1 hpos).2.2.out, hf.out.2.out, if_neg (by omega)])⟩)
          go_wp2_with ((refine wpList_store_row rfl _ _ _ rfl _ _ _ rfl rfl hres ?hi ?ho ?h1 ?hB hst ?_); (case hi => kernel_rfl); (case ho => rfl); (case h1 => first | rfl | simp [Value.oneCell']); (case hB => first | omega | (simp <;> omega)); intro w9 hw9 hq9 ho9 hsz9)
          apply end_gd rfl rfl rfl Try.underlying66 rfl (t := 66)
          case hg => exact hq9
          case hi => kernel_rfl
          case hR => exact ⟨_, _, _, rfl, hfin.out.1, hfin.out.2.1, hfin.out.2.2, hw9⟩
end Go.Proofs.Ytejljfejajckoaa
