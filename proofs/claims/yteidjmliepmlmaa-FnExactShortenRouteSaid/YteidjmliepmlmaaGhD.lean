/- Routes: the walk through one, as the program does it. No condition. -/
import Derived.Test.YteidjmliepmlmaaGhC
namespace Go.Proofs.Yteidjmliepmlmaa
open Go Go.RowKit
set_option linter.unusedVariables false
set_option linter.unusedSimpArgs false

set_option maxRecDepth 100000 in
set_option maxHeartbeats 1000000 in
theorem c_isRoute (a b : Int) (A D : Option Addr) (c d : Nat) (xs : List Int) (rs : List (List NV)) (w : World) (h1 : Bs w w.heap.size A xs) (hc : xs.length ≤ c) (hg : gridB a b xs.length = true) (h2 : Ls KSpot 2 w w.heap.size D rs) (hd : rs.length ≤ d) (hS : InS rs) (hn : rs.length ≤ 1048576) :
    Calls Try.prog 65 #[.agg #[.int .i64 a, .int .i64 b, .slice A xs.length c], .slice D rs.length d] w fun e w' => e = .returned (.bool (routeB a b xs rs)) ∧ Below w.heap.size w w' := by
  have hst : Stays w (w.alloc (.cells #[.int .i64 a, .int .i64 b, .slice A xs.length c] 28)) := by (repeat (first | exact Stays.refl _ | (with_reducible refine Stays.drewN ?_ _) | (with_reducible refine Stays.alloc ?_ _) | (with_reducible refine Stays.drew ?_) | (refine Stays.trans ?_ ‹Stays _ _›)))
  have hbx := heap_alloc_new w (.cells #[.int .i64 a, .int .i64 b, .slice A xs.length c] 28)
  have HC : Hid (∀ w1, Stays (w.alloc (.cells #[.int .i64 a, .int .i64 b, .slice A xs.length c] 28)) w1 → w1.cell? ⟨w.heap.size, 0, none⟩ = some (.int .i64 a) ∧ w1.cell? ⟨w.heap.size, 1, none⟩ = some (.int .i64 b) ∧ w1.cell? ⟨w.heap.size, 2, none⟩ = some (.slice A xs.length c)) := Lib.hid fun w1 h => ⟨row_of h hbx 0, row_of h hbx 1, row_of h hbx 2⟩
  have H2 := Lib.hid h2
  have kF := Lib.hid fun x y hx hy W (h : Stays w W) => c_isFree a b x y A c xs W ((h1.below h).more h.size) hc hg hx hy
  have kL := Lib.hid fun x y u v hx hy hu hv W (h : Stays w W) => c_leads a b x y u v A c xs W ((h1.below h).more h.size) hc hg hx hy hu hv
  replace hS := Lib.hid hS
  replace hst := Lib.hid hst
  clear h1 h2 hc hg hbx
  by_cases h0 : rs.length = 0
  · have e0 : rs = [] := List.eq_nil_of_length_eq_zero h0
    subst e0
    have r : Hid (routeB a b xs [] = false) := Lib.hid (routeB_head rfl)
    go_enter Try.func65, Try.ntmps65
    go_wp2
    have hcells : ∀ w1, Stays (w.alloc (.cells #[.int .i64 a, .int .i64 b, .slice A xs.length c] 28)) w1 → _ := fun w1 h => HC.out w1 h
    refine wp_region_soft_tail 10 (Stays.refl _) (fun _ _ _ => True) [] (by kernel_rfl) (by kernel_rfl) (fun _ h => by cases h) ?_
    simp only [List.take_succ_cons, List.take_zero, List.drop_succ_cons, List.drop_zero]
    repeat (first | ((with_reducible apply soft_detG); (case hwa => rfl); (case hA => rfl); (case h => (intro w1 hw1; have hc := hcells w1 hw1; go_simp; exact rfl)); go_simp) | ((with_reducible apply soft_skipG); (case hwa => rfl); (case hA => rfl); go_simp))
    refine soft_nil ?_
    rintro w2 ⟨hw2, _⟩
    replace hw2 := Lib.hid (hst.out.trans hw2)
    clear hcells
    go_wp2
    go_ret
    exact ⟨ret_b (by rw [r.out]), hw2.out⟩
  · obtain ⟨r0, rs', e⟩ : ∃ r0 rs', rs = r0 :: rs' := by
      cases rs with
      | nil => exact absurd rfl h0
      | cons r0 rs' => exact ⟨_, _, rfl⟩
    have hr0 : rs[0]? = some r0 := by rw [e]; rfl
    have hh : headB a b xs rs = freeB a b xs (sx r0) (sy r0) := by rw [e]; rfl
    obtain ⟨hx0, hy0⟩ := hS.out 0 r0 hr0
    obtain ⟨dd, rfl, hbl, hrow⟩ := H2.out 0 r0 hr0
    obtain ⟨c0', c1', hK, g0, g1⟩ := row2 rfl hrow
    obtain ⟨rfl, rfl⟩ := sp_cells hK
    have kF0 := kF.out (sx r0) (sy r0) hx0 hy0
    have ha0 : dd.add (0 * 2) = dd := rfl
    rw [ha0] at g0 g1
    have hcells : ∀ w1, Stays (w.alloc (.cells #[.int .i64 a, .int .i64 b, .slice A xs.length c] 28)) w1 → (w1.cell? ⟨w.heap.size, 0, none⟩ = some (.int .i64 a) ∧ w1.cell? ⟨w.heap.size, 1, none⟩ = some (.int .i64 b) ∧ w1.cell? ⟨w.heap.size, 2, none⟩ = some (.slice A xs.length c)) ∧ w1.cell? dd = some (.int .i16 (sx r0)) ∧ w1.cell? ⟨dd.block, dd.off + 1, none⟩ = some (.int .i16 (sy r0)) := fun w1 h => ⟨HC.out w1 h, (Below.cell (hst.out.trans h) hbl).trans g0, (Below.cell (p := ⟨dd.block, dd.off + 1, none⟩) (hst.out.trans h) hbl).trans g1⟩
    have h0' : ¬ ((rs.length : Nat) : Int) = 0 := by omega
    have hq0 : (((rs.length : Nat) : Int) == 0) = false := beq_eq_false_iff_ne.2 h0'
    have h0n : 0 < rs.length := by omega
    generalize freeB a b xs (sx r0) (sy r0) = f0 at kF0 hh
    generalize sx r0 = x0 at kF0 hcells hx0
    generalize sy r0 = y0 at kF0 hcells hy0
    replace kF0 := Lib.hid kF0
    replace hh := Lib.hid hh
    replace hr0 := Lib.hid hr0
    clear e hx0 hy0 hrow hK g0 g1 ha0 hbl
    cases f0 with
    | false =>
      have r := Lib.hid (routeB_head hh.out)
      go_enter Try.func65, Try.ntmps65
      go_wp2
      refine wp_region_soft_tail 10 (Stays.refl _) (oneS 91 #[.agg #[.int .i64 a, .int .i64 b, .slice A xs.length c], .agg #[.int .i16 x0, .int .i16 y0]] (fun v => v = .bool false)) [] (by kernel_rfl) (by kernel_rfl) (fun _ h => by cases h) ?_
      simp only [List.take_succ_cons, List.take_zero, List.drop_succ_cons, List.drop_zero]
      repeat (first | ((with_reducible apply soft_detG); (case hwa => rfl); (case hA => rfl); (case h => (intro w1 hw1; have hc := hcells w1 hw1; go_simp; exact rfl)); go_simp) | ((with_reducible apply soft_skipG); (case hwa => rfl); (case hA => rfl); go_simp))
      refine soft_callO (by rfl) rfl ?h (fun w2 h2 => (kF0.out w2 (hst.out.trans h2)).mono fun e w' ⟨h1, h2⟩ => ⟨_, h1, rfl, h2⟩) ?_
      case h => (intro w2 hw2; have hc := hcells w2 hw2; go_simp; try exact ⟨rfl, rfl⟩)
      rintro v rfl
      go_simp
      repeat (first | ((with_reducible apply soft_detG); (case hwa => rfl); (case hA => rfl); (case h => (intro w1 hw1; have hc := hcells w1 hw1; go_simp; exact rfl)); go_simp) | ((with_reducible apply soft_skipG); (case hwa => rfl); (case hA => rfl); go_simp))
      refine soft_nil ?_
      rintro w2 ⟨hw2, _⟩
      replace hw2 := Lib.hid (hst.out.trans hw2)
      clear hcells
      go_wp2
      go_ret
      exact ⟨ret_b (by rw [r.out]), hw2.out⟩
    | true =>
      obtain ⟨A', hsl, hA'⟩ := spot_tail (ad := dd) (n := rs.length) (c := d) (by omega) hd
      replace hA' := Lib.hid hA'
      have h1i : (1 : Int) ≤ (rs.length : Int) := by omega
      go_enter Try.func65, Try.ntmps65
      go_wp2
      refine wp_region_soft_tail 10 (Stays.refl _) (oneS 91 #[.agg #[.int .i64 a, .int .i64 b, .slice A xs.length c], .agg #[.int .i16 x0, .int .i16 y0]] (fun v => v = .bool true)) [] (by kernel_rfl) (by kernel_rfl) (fun _ h => by cases h) ?_
      simp only [List.take_succ_cons, List.take_zero, List.drop_succ_cons, List.drop_zero]
      repeat (first | ((with_reducible apply soft_detG); (case hwa => rfl); (case hA => rfl); (case h => (intro w1 hw1; have hc := hcells w1 hw1; go_simp; exact rfl)); go_simp) | ((with_reducible apply soft_skipG); (case hwa => rfl); (case hA => rfl); go_simp))
      refine soft_callO (by rfl) rfl ?h (fun w2 h2 => (kF0.out w2 (hst.out.trans h2)).mono fun e w' ⟨h1, h2⟩ => ⟨_, h1, rfl, h2⟩) ?_
      case h => (intro w2 hw2; have hc := hcells w2 hw2; go_simp; try exact ⟨rfl, rfl⟩)
      rintro v rfl
      go_simp
      repeat (first | ((with_reducible apply soft_detG); (case hwa => rfl); (case hA => rfl); (case h => (intro w1 hw1; have hc := hcells w1 hw1; go_simp; exact rfl)); go_simp) | ((with_reducible apply soft_skipG); (case hwa => rfl); (case hA => rfl); go_simp))
      refine soft_nil ?_
      rintro w2 ⟨hw2, _⟩
      replace hw2 := Lib.hid (show Stays (w.alloc (.cells #[.int .i64 a, .int .i64 b, .slice A xs.length c] 28)) w2 from hw2)
      clear hcells
      go_wp2
      go_loopw [21] (fun iv wr => ∃ k : Nat, k ≤ rs.length - 1 ∧ iv = .int .i64 k ∧ Hid (Stays (w.alloc (.cells #[.int .i64 a, .int .i64 b, .slice A xs.length c] 28)) wr) ∧ Hid (∀ j, j < k → stepB a b xs rs j)) (fun iv _ => rs.length - (intOf iv).toNat)
      case atStart => exact ⟨0, Nat.zero_le _, rfl, hw2, Lib.hid fun j hj => by omega⟩
      case round =>
        clear hw2
        obtain ⟨k, hk, rfl, hb, hgd⟩ := hrel
        by_cases hlt : k + 1 < rs.length
        · have hbw := hst.out.trans hb.out
          have hkp : rs[k]? = some (rs[k]'(by omega)) := List.getElem?_eq_getElem _
          have hkq : rs[k + 1]? = some rs[k + 1] := List.getElem?_eq_getElem hlt
          obtain ⟨d1, e, hbl, hrow⟩ := (H2.out.below hbw) k _ hkp
          cases e
          obtain ⟨d2, e, _, hrow'⟩ := (H2.out.below hbw) (k + 1) _ hkq
          cases e
          obtain ⟨hpx, hpy⟩ := hS.out k _ hkp
          obtain ⟨hqx, hqy⟩ := hS.out (k + 1) _ hkq
          have hst2 := stepB_at (a := a) (b := b) (xs := xs) hkp hkq
          generalize rs[k]'(by omega) = p at hrow hpx hpy hst2
          generalize rs[k + 1] = q at hrow' hqx hqy hst2
          obtain ⟨c0, c1, hK, g0, g1⟩ := row2 rfl hrow
          obtain ⟨d0, d1, hK', k0, k1⟩ := row2 rfl hrow'
          obtain ⟨rfl, rfl⟩ := sp_cells hK
          obtain ⟨rfl, rfl⟩ := sp_cells hK'
          have hAe := hA'.out (by omega)
          subst hAe
          have eA : dd.add ((k + 1) * 2) = ⟨dd.block, dd.off + 2 + k * 2, none⟩ := next_spot dd k
          have m0 : wr.cell? ⟨dd.block, dd.off + 2 + k * 2, none⟩ = some (.int .i16 (sx q)) := by rw [← eA]; exact k0
          have m1 : wr.cell? ⟨dd.block, dd.off + 2 + k * 2 + 1, none⟩ = some (.int .i16 (sy q)) := by rw [eA] at k1; exact k1
          have kL1 := kL.out (sx p) (sy p) (sx q) (sy q) hpx hpy hqx hqy
          have bad : Hid (leadB a b xs (sx p) (sy p) (sx q) (sy q) = false → routeB a b xs rs = false) := Lib.hid fun h => routeB_bad (k := k) fun g => by have := hst2.1 g; rw [h] at this; cases this
          have nx : Hid (leadB a b xs (sx p) (sy p) (sx q) (sy q) = true → Hid (∀ j, j < k + 1 → stepB a b xs rs j)) := Lib.hid fun h => Lib.hid fun j hj => by
            by_cases e : j = k
            · subst e; exact hst2.2 h
            · exact hgd.out j (by omega)
          generalize leadB a b xs (sx p) (sy p) (sx q) (sy q) = l0 at kL1 bad nx
          have hsb : Stays wr (wr.alloc (.cells #[.int .i16 (sx q), .int .i16 (sy q)] 32)) := by (repeat (first | exact Stays.refl _ | (with_reducible refine Stays.drewN ?_ _) | (with_reducible refine Stays.alloc ?_ _) | (with_reducible refine Stays.drew ?_) | (refine Stays.trans ?_ ‹Stays _ _›)))
          have hbq := heap_alloc_new wr (.cells #[.int .i16 (sx q), .int .i16 (sy q)] 32)
          have hlt1 : ∀ n, (dd.add n).block < wr.heap.size := fun n => by rw [block_add]; exact Nat.lt_of_lt_of_le hbl hbw.size
          have hcells : ∀ w1, Stays (wr.alloc (.cells #[.int .i16 (sx q), .int .i16 (sy q)] 32)) w1 → (w1.cell? ⟨w.heap.size, 0, none⟩ = some (.int .i64 a) ∧ w1.cell? ⟨w.heap.size, 1, none⟩ = some (.int .i64 b) ∧ w1.cell? ⟨w.heap.size, 2, none⟩ = some (.slice A xs.length c)) ∧ w1.cell? (dd.add (k * 2)) = some (.int .i16 (sx p)) ∧ w1.cell? ⟨(dd.add (k * 2)).block, (dd.add (k * 2)).off + 1, none⟩ = some (.int .i16 (sy p)) ∧ w1.cell? ⟨wr.heap.size, 0, none⟩ = some (.int .i16 (sx q)) ∧ w1.cell? ⟨wr.heap.size, 1, none⟩ = some (.int .i16 (sy q)) := fun w1 h =>
            ⟨HC.out w1 (hb.out.trans (hsb.trans h)), (Below.cell (hsb.trans h) (hlt1 _)).trans g0, (Below.cell (p := ⟨(dd.add (k * 2)).block, (dd.add (k * 2)).off + 1, none⟩) (hsb.trans h) (hlt1 _)).trans g1, row_of h hbq 0, row_of h hbq 1⟩
          have hsb2 := Lib.hid (hb.out.trans hsb)
          have hlt' : (k : Int) < (rs.length : Int) := by omega
          have hlt2 : (k : Int) < ((rs.length - 1 : Nat) : Int) := by omega
          generalize sx p = px at hcells kL1
          generalize sy p = py at hcells kL1
          generalize sx q = qx at hcells kL1 m0 hsb hbq hsb2
          generalize sy q = qy at hcells kL1 m1 hsb hbq hsb2
          replace kL1 := Lib.hid kL1
          clear hkp hkq hrow hrow' hpx hpy hqx hqy hst2 hK hK' g0 g1 k0 k1 eA hlt1 hbw hbl hsb hbq
          cases l0 with
          | false =>
            have bd := Lib.hid (bad.out rfl)
            go_wp2_with fail
            generalize (wr.alloc (.cells #[.int .i16 qx, .int .i16 qy] 32)) = WM at hcells hsb2 ⊢
            refine wp_region_soft_tail 7 (Stays.refl _) (oneS 92 #[.agg #[.int .i64 a, .int .i64 b, .slice A xs.length c], .agg #[.int .i16 px, .int .i16 py], .agg #[.int .i16 qx, .int .i16 qy]] (fun v => v = .bool false)) [] (by kernel_rfl) (by kernel_rfl) (fun _ h => by cases h) ?_
            simp only [List.take_succ_cons, List.take_zero, List.drop_succ_cons, List.drop_zero]
            repeat ((with_reducible apply soft_detG); (case hwa => rfl); (case hA => rfl); (case h => (intro w1 hw1; have hc := hcells w1 hw1; go_simp; exact rfl)); go_simp)
            refine soft_callO (by rfl) rfl ?h (fun w2 h2 => (kL1.out w2 (hst.out.trans (hsb2.out.trans h2))).mono fun e w' ⟨h1, h2⟩ => ⟨_, h1, rfl, h2⟩) ?_
            case h => (intro w2 hw2; have hc := hcells w2 hw2; go_simp; try exact ⟨rfl, rfl⟩)
            rintro v rfl
            go_simp
            repeat ((with_reducible apply soft_detG); (case hwa => rfl); (case hA => rfl); (case h => (intro w1 hw1; have hc := hcells w1 hw1; go_simp; exact rfl)); go_simp)
            refine soft_nil ?_
            rintro w2 ⟨hw2, _⟩
            replace hw2 := Lib.hid (show Stays (w.alloc (.cells #[.int .i64 a, .int .i64 b, .slice A xs.length c] 28)) w2 from hsb2.out.trans hw2)
            clear hcells
            go_wp2
            go_ret
            exact ⟨ret_b (by rw [bd.out]), hst.out.trans hw2.out⟩
          | true =>
            have nx1 := nx.out rfl
            go_wp2_with fail
            generalize (wr.alloc (.cells #[.int .i16 qx, .int .i16 qy] 32)) = WM at hcells hsb2 ⊢
            refine wp_region_soft_tail 7 (Stays.refl _) (oneS 92 #[.agg #[.int .i64 a, .int .i64 b, .slice A xs.length c], .agg #[.int .i16 px, .int .i16 py], .agg #[.int .i16 qx, .int .i16 qy]] (fun v => v = .bool true)) [] (by kernel_rfl) (by kernel_rfl) (fun _ h => by cases h) ?_
            simp only [List.take_succ_cons, List.take_zero, List.drop_succ_cons, List.drop_zero]
            repeat ((with_reducible apply soft_detG); (case hwa => rfl); (case hA => rfl); (case h => (intro w1 hw1; have hc := hcells w1 hw1; go_simp; exact rfl)); go_simp)
            refine soft_callO (by rfl) rfl ?h (fun w2 h2 => (kL1.out w2 (hst.out.trans (hsb2.out.trans h2))).mono fun e w' ⟨h1, h2⟩ => ⟨_, h1, rfl, h2⟩) ?_
            case h => (intro w2 hw2; have hc := hcells w2 hw2; go_simp; try exact ⟨rfl, rfl⟩)
            rintro v rfl
            go_simp
            repeat ((with_reducible apply soft_detG); (case hwa => rfl); (case hA => rfl); (case h => (intro w1 hw1; have hc := hcells w1 hw1; go_simp; exact rfl)); go_simp)
            refine soft_nil ?_
            rintro w2 ⟨hw2, _⟩
            replace hw2 := Lib.hid (show Stays (w.alloc (.cells #[.int .i64 a, .int .i64 b, .slice A xs.length c] 28)) w2 from hsb2.out.trans hw2)
            clear hcells
            go_wp2
            go_round
            case rel => exact ⟨_, _, _, _, ⟨k + 1, by omega, by go_num, nx1⟩, rfl, rfl, rfl, rfl⟩
            case measure => simp [intOf]; omega
        · have fin := Lib.hid (routeB_end hh.out (k := k) (by omega) hgd.out)
          have hlt2 : ¬ (k : Int) < ((rs.length - 1 : Nat) : Int) := by omega
          go_wp2
          go_ret
          exact ⟨ret_b (by rw [fin.out]), hst.out.trans hb.out⟩
end Go.Proofs.Yteidjmliepmlmaa
