/- The point that lies ahead on a way, both sides. No condition. -/
import Derived.Test.YtejljfejajckoaaAha
namespace Go.Proofs.Ytejljfejajckoaa
open Go Go.ChangeShapes Go.WideShapes Go.RowKit
set_option linter.unusedVariables false
set_option linter.unusedSimpArgs false

theorem ge_of (q : Nat) : (FloatKind.f32.format.order q 0 == some Ordering.gt || FloatKind.f32.format.order q 0 == some Ordering.eq) = (gtZ (can .f32 q) || isZ (can .f32 q)) := by rw [order_can]; rfl
def amtB (o : Option Nat) : Bool := finB o && (gtZ o || isZ o)
noncomputable def folB (ax ay o : Option Nat) (xs : List (List NV)) : Bool := (wayB xs && (finB ax && finB ay)) && amtB o
def zeroR : List NV := [.f (can .f32 0), .f (can .f32 0)]
noncomputable def ahC (ax ay o : Option Nat) (xs : List (List NV)) : Int := if folB ax ay o xs then 0 else 2
noncomputable def ahX (ax ay o : Option Nat) (xs : List (List NV)) : List NV := if folB ax ay o xs then aheadX ax ay o xs else zeroR
def AhDone (w : World) (code : Int) (r : List NV) (e : Ending) (w' : World) : Prop := ∃ x y, e = .returned (.tuple #[.agg #[.float .f32 x, .float .f32 y], .int .i64 code]) ∧ FIs .f32 x (gx r) ∧ FIs .f32 y (gy r) ∧ Stays w w'
theorem zero_fis : FIs .f32 0 (gx zeroR) ∧ FIs .f32 0 (gy zeroR) := ⟨FIs.self (by decide), FIs.self (by decide)⟩

set_option maxRecDepth 100000 in
set_option maxHeartbeats 2000000 in
theorem c_l07Follows (A : Option Addr) (c : Nat) (xs : List (List NV)) (ax ay o : Nat) (w : World) (h : Ls KPt 2 w w.heap.size A xs) (hn : xs.length ≤ 1048576) :
    Calls Try.prog 72 #[.slice A xs.length c, .agg #[.float .f32 ax, .float .f32 ay], .float .f32 o] w fun e w' => e = .returned (.bool (folB (can .f32 ax) (can .f32 ay) (can .f32 o) xs)) ∧ Stays w w' := by
  have u0 := heap_alloc_new w (.cells #[.float .f32 ax, .float .f32 ay] 26)
  have hst : Stays w (w.alloc (.cells #[.float .f32 ax, .float .f32 ay] 26)) := by (repeat (first | exact Stays.refl _ | (with_reducible refine Stays.drewN ?_ _) | (with_reducible refine Stays.alloc ?_ _) | (with_reducible refine Stays.drew ?_) | (refine Stays.trans ?_ ‹Stays _ _›)))
  have HC := Lib.hid fun W (h : Stays (w.alloc (.cells #[.float .f32 ax, .float .f32 ay] 26)) W) => (show W.cell? ⟨w.heap.size, 0, none⟩ = some (.float .f32 ax) ∧ W.cell? ⟨w.heap.size, 1, none⟩ = some (.float .f32 ay) from ⟨row_of h u0 0, row_of h u0 1⟩)
  have kW := c_l07Way A c xs (w.alloc (.cells #[.float .f32 ax, .float .f32 ay] 26)) ((h.below hst).more hst.size) hn
  have k0 := fun W => c_l01Finite ax W
  have k1 := fun W => c_l01Finite ay W
  have k2 := fun W => c_l01Finite o W
  have hge := ge_of o
  unfold folB amtB
  replace hst := Lib.hid hst
  generalize wayB xs = q0 at kW ⊢
  generalize finB (can .f32 ax) = q1 at k0 ⊢
  generalize finB (can .f32 ay) = q2 at k1 ⊢
  generalize finB (can .f32 o) = q3 at k2 ⊢
  replace kW := Lib.hid kW
  replace k0 := Lib.hid k0
  replace k1 := Lib.hid k1
  replace k2 := Lib.hid k2
  clear u0 h
  cases q0 with
  | false =>
    go_enter Try.func72, Try.ntmps72
    go_wp2_with fail
    refine kW.out.mono ?_
    rintro e w1 ⟨rfl, hb⟩
    replace hb := Lib.hid (show Stays (w.alloc (.cells #[.float .f32 ax, .float .f32 ay] 26)) w1 from hb)
    go_wp2
    go_ret
    exact ⟨by simp [hge], hst.out.trans hb.out⟩
  | true =>
    cases q1 with
    | false =>
      go_enter Try.func72, Try.ntmps72
      go_wp2_with fail
      refine kW.out.mono ?_
      rintro e w1 ⟨rfl, hb⟩
      replace hb := Lib.hid (show Stays (w.alloc (.cells #[.float .f32 ax, .float .f32 ay] 26)) w1 from hb)
      obtain ⟨d0, d1⟩ := HC.out _ hb.out
      go_wp2_with fail
      refine (k0.out _).mono ?_
      rintro e w2 ⟨rfl, hb2⟩
      replace hb2 := Lib.hid (hb.out.trans hb2)
      clear d0 d1
      obtain ⟨d0, d1⟩ := HC.out _ hb2.out
      go_wp2
      go_ret
      exact ⟨by simp [hge], hst.out.trans hb2.out⟩
    | true =>
      cases q2 with
      | false =>
        go_enter Try.func72, Try.ntmps72
        go_wp2_with fail
        refine kW.out.mono ?_
        rintro e w1 ⟨rfl, hb⟩
        replace hb := Lib.hid (show Stays (w.alloc (.cells #[.float .f32 ax, .float .f32 ay] 26)) w1 from hb)
        obtain ⟨d0, d1⟩ := HC.out _ hb.out
        go_wp2_with fail
        refine (k0.out _).mono ?_
        rintro e w2 ⟨rfl, hb2⟩
        replace hb2 := Lib.hid (hb.out.trans hb2)
        clear d0 d1
        obtain ⟨d0, d1⟩ := HC.out _ hb2.out
        go_wp2_with fail
        refine (k1.out _).mono ?_
        rintro e w3 ⟨rfl, hb3⟩
        replace hb3 := Lib.hid (hb2.out.trans hb3)
        go_wp2
        go_ret
        exact ⟨by simp [hge], hst.out.trans hb3.out⟩
      | true =>
        cases q3 with
        | false =>
          go_enter Try.func72, Try.ntmps72
          go_wp2_with fail
          refine kW.out.mono ?_
          rintro e w1 ⟨rfl, hb⟩
          replace hb := Lib.hid (show Stays (w.alloc (.cells #[.float .f32 ax, .float .f32 ay] 26)) w1 from hb)
          obtain ⟨d0, d1⟩ := HC.out _ hb.out
          go_wp2_with fail
          refine (k0.out _).mono ?_
          rintro e w2 ⟨rfl, hb2⟩
          replace hb2 := Lib.hid (hb.out.trans hb2)
          clear d0 d1
          obtain ⟨d0, d1⟩ := HC.out _ hb2.out
          go_wp2_with fail
          refine (k1.out _).mono ?_
          rintro e w3 ⟨rfl, hb3⟩
          replace hb3 := Lib.hid (hb2.out.trans hb3)
          go_wp2_with fail
          refine (k2.out _).mono ?_
          rintro e w4 ⟨rfl, hb4⟩
          replace hb4 := Lib.hid (hb3.out.trans hb4)
          go_wp2
          go_ret
          exact ⟨by simp [hge], hst.out.trans hb4.out⟩
        | true =>
          go_enter Try.func72, Try.ntmps72
          go_wp2_with fail
          refine kW.out.mono ?_
          rintro e w1 ⟨rfl, hb⟩
          replace hb := Lib.hid (show Stays (w.alloc (.cells #[.float .f32 ax, .float .f32 ay] 26)) w1 from hb)
          obtain ⟨d0, d1⟩ := HC.out _ hb.out
          go_wp2_with fail
          refine (k0.out _).mono ?_
          rintro e w2 ⟨rfl, hb2⟩
          replace hb2 := Lib.hid (hb.out.trans hb2)
          clear d0 d1
          obtain ⟨d0, d1⟩ := HC.out _ hb2.out
          go_wp2_with fail
          refine (k1.out _).mono ?_
          rintro e w3 ⟨rfl, hb3⟩
          replace hb3 := Lib.hid (hb2.out.trans hb3)
          go_wp2_with fail
          refine (k2.out _).mono ?_
          rintro e w4 ⟨rfl, hb4⟩
          replace hb4 := Lib.hid (hb3.out.trans hb4)
          go_wp2
          go_ret
          exact ⟨by simp [hge], hst.out.trans hb4.out⟩

set_option maxRecDepth 100000 in
set_option maxHeartbeats 2000000 in
theorem c_specAhead (A : Option Addr) (c : Nat) (xs : List (List NV)) (ax ay o : Nat) (w : World) (h : Ls KPt 2 w w.heap.size A xs) (hn : xs.length ≤ 1048576) (hax : ax < 2 ^ 32) (hay : ay < 2 ^ 32) (ho : o < 2 ^ 32) :
    Calls Try.prog 21 #[.slice A xs.length c, .agg #[.float .f32 ax, .float .f32 ay], .float .f32 o] w (AhDone w (ahC (can .f32 ax) (can .f32 ay) (can .f32 o) xs) (ahX (can .f32 ax) (can .f32 ay) (can .f32 o) xs)) := by
  have hst : Stays w ((w.alloc (.cells #[.float .f32 ax, .float .f32 ay] 26)).alloc (.cells #[.float .f32 0, .float .f32 0] 26)) := by (repeat (first | exact Stays.refl _ | (with_reducible refine Stays.drewN ?_ _) | (with_reducible refine Stays.alloc ?_ _) | (with_reducible refine Stays.drew ?_) | (refine Stays.trans ?_ ‹Stays _ _›)))
  have u0 : ((w.alloc (.cells #[.float .f32 ax, .float .f32 ay] 26)).alloc (.cells #[.float .f32 0, .float .f32 0] 26)).heap[w.heap.size]? = some (.cells #[.float .f32 ax, .float .f32 ay] 26 (0, 0)) := by (repeat (first | (refine heap_top _ _ _ ?_; simp; done) | (with_reducible refine heap_drawn _ _ _ ?_) | (with_reducible refine heap_under _ _ _ ?_ ?_; (simp <;> omega))))
  have u1 : ((w.alloc (.cells #[.float .f32 ax, .float .f32 ay] 26)).alloc (.cells #[.float .f32 0, .float .f32 0] 26)).heap[w.heap.size + 1]? = some (.cells #[.float .f32 0, .float .f32 0] 26 (0, 0)) := by (repeat (first | (refine heap_top _ _ _ ?_; simp; done) | (with_reducible refine heap_drawn _ _ _ ?_) | (with_reducible refine heap_under _ _ _ ?_ ?_; (simp <;> omega))))
  have HW : Hid (∀ W, Stays ((w.alloc (.cells #[.float .f32 ax, .float .f32 ay] 26)).alloc (.cells #[.float .f32 0, .float .f32 0] 26)) W → (W.cell? ⟨w.heap.size, 0, none⟩ = some (.float .f32 ax) ∧ W.cell? ⟨w.heap.size, 1, none⟩ = some (.float .f32 ay)) ∧ Stays w W ∧ W.heap[w.heap.size + 1]? = some (.cells #[.float .f32 0, .float .f32 0] 26 (0, 0))) := Lib.hid fun W hW => ⟨⟨row_of hW u0 0, row_of hW u0 1⟩, hst.trans hW, (Below.block hW _ (in_heap u1)).trans u1⟩
  have hL := fun W (hW : Stays ((w.alloc (.cells #[.float .f32 ax, .float .f32 ay] 26)).alloc (.cells #[.float .f32 0, .float .f32 0] 26)) W) => (h.below (hst.trans hW)).more (hst.trans hW).size
  have kF := fun W (hW : Stays ((w.alloc (.cells #[.float .f32 ax, .float .f32 ay] 26)).alloc (.cells #[.float .f32 0, .float .f32 0] 26)) W) => c_l07Follows A c xs ax ay o W (hL W hW) hn
  have kA := fun hp W (hW : Stays ((w.alloc (.cells #[.float .f32 ax, .float .f32 ay] 26)).alloc (.cells #[.float .f32 0, .float .f32 0] 26)) W) => c_l07Ahead A c xs ax ay o W (hL W hW) hn hp hax hay ho
  have hpos : folB (can .f32 ax) (can .f32 ay) (can .f32 o) xs = true → 1 ≤ xs.length := fun e => by
    unfold folB at e
    rw [Bool.and_eq_true, Bool.and_eq_true] at e
    exact (wayB_pos e.1.1).1
  unfold ahC ahX
  clear u0 u1 h hst hL
  generalize hrz : aheadX (can .f32 ax) (can .f32 ay) (can .f32 o) xs = res at kA
  clear hrz
  cases hf : folB (can .f32 ax) (can .f32 ay) (can .f32 o) xs with
  | false =>
    rw [hf] at kF
    replace kF := Lib.hid kF
    rw [if_neg (by decide), if_neg (by decide)]
    clear hf hpos kA
    go_enter Try.func21, Try.ntmps21
    obtain ⟨⟨d0, d1⟩, _⟩ := HW.out _ (Stays.refl _)
    go_wp2_with fail
    refine (kF.out _ (Stays.refl _)).mono ?_
    rintro e w1 ⟨rfl, hb⟩
    obtain ⟨_, hst, hres⟩ := HW.out _ hb
    go_wp2_with ((refine wpList_store_row rfl _ _ _ rfl _ _ _ rfl rfl hres ?hi ?ho ?h1 ?hB hst ?_); (case hi => kernel_rfl); (case ho => rfl); (case h1 => first | rfl | simp [Value.oneCell']); (case hB => first | omega | (simp <;> omega)); intro w2 hw2 hq2 _ _)
    apply end_gd rfl rfl rfl Try.underlying26 rfl (t := 26)
    case hg => exact hq2
    case hi => kernel_rfl
    case hR => exact ⟨_, _, rfl, zero_fis.1, zero_fis.2, hw2⟩
  | true =>
    rw [hf] at kF
    replace kF := Lib.hid kF
    replace kA := Lib.hid (kA (hpos hf))
    rw [if_pos rfl, if_pos rfl]
    clear hf hpos
    go_enter Try.func21, Try.ntmps21
    obtain ⟨⟨d0, d1⟩, _⟩ := HW.out _ (Stays.refl _)
    go_wp2_with fail
    refine (kF.out _ (Stays.refl _)).mono ?_
    rintro e w1 ⟨rfl, hb⟩
    replace hb := Lib.hid hb
    clear d0 d1
    obtain ⟨⟨d0, d1⟩, _⟩ := HW.out _ hb.out
    go_wp2_with fail
    refine (kA.out _ hb.out).mono ?_
    rintro e w2 ⟨x, y, rfl, hx, hy, hb2⟩
    obtain ⟨_, hst, hres⟩ := HW.out _ (hb.out.trans hb2)
    replace hx := Lib.hid hx
    replace hy := Lib.hid hy
    clear hb2
    go_wp2_with ((refine wpList_store_row rfl _ _ _ rfl _ _ _ rfl rfl hres ?hi ?ho ?h1 ?hB hst ?_); (case hi => kernel_rfl); (case ho => rfl); (case h1 => first | rfl | simp [Value.oneCell']); (case hB => first | omega | (simp <;> omega)); intro w2 hw2 hq2 _ _)
    apply end_gd rfl rfl rfl Try.underlying26 rfl (t := 26)
    case hg => exact hq2
    case hi => kernel_rfl
    case hR => exact ⟨_, _, rfl, hx.out, hy.out, hw2⟩

/-! ### The program's side -/

set_option maxRecDepth 100000 in
theorem c_between (a b q : Nat) (w : World) :
    Calls Try.prog 79 #[.float .f32 a, .float .f32 b, .float .f32 q] w fun e w' => ∃ v, e = .returned v ∧ (∃ x, v = .float .f32 x ∧ FIs .f32 x (btw (can .f32 a) (can .f32 b) (can .f32 q))) ∧ Stays w w' := by
  go_enter Try.func79, Try.ntmps79
  go_wp2_with (first
    | ((with_reducible refine wpList_fop rfl _ _ _ _ _ rfl rfl _ _ _ rfl rfl ?_); intro r n hr; have hs := Lib.hid hr; clear hr))
  go_ret
  rename_i r1 n1 h1 r2 n2 h2
  refine ⟨_, rfl, ⟨_, rfl, ?_⟩, ?_⟩
  · exact hs.out.of_eq (by unfold btw; rw [h2.out.out, h1.out.out])
  · (repeat (first | exact Stays.refl _ | (with_reducible refine Stays.drewN ?_ _) | (with_reducible refine Stays.alloc ?_ _) | (with_reducible refine Stays.drew ?_) | (refine Stays.trans ?_ ‹Stays _ _›)))

set_option maxRecDepth 100000 in
theorem c_isAmount (a : Nat) (w : World) :
    Calls Try.prog 75 #[.float .f32 a] w fun e w' => e = .returned (.bool (amtB (can .f32 a))) ∧ Stays w w' := by
  have k0 := fun W => c_isFinite a W
  have hge := ge_of a
  unfold amtB
  generalize finB (can .f32 a) = q at k0 ⊢
  replace k0 := Lib.hid k0
  cases q
  all_goals
    go_enter Try.func75, Try.ntmps75
    go_wp2_with fail
    refine (k0.out _).mono ?_
    rintro e w1 ⟨rfl, hb⟩
    go_wp2
    go_ret
    exact ⟨by simp [hge], hb⟩

set_option maxRecDepth 100000 in
set_option maxHeartbeats 2000000 in
theorem c_nearestPoint (A : Option Addr) (c : Nat) (xs : List (List NV)) (ax ay : Nat) (w : World) (h : Ls KPt 2 w w.heap.size A xs) (hn : xs.length ≤ 1048576) (hpos : 1 ≤ xs.length) (hax : ax < 2 ^ 32) (hay : ay < 2 ^ 32) :
    Calls Try.prog 76 #[.slice A xs.length c, .agg #[.float .f32 ax, .float .f32 ay]] w fun e w' => e = .returned (.int .i64 (nearK (can .f32 ax) (can .f32 ay) xs xs.length : Nat)) ∧ Stays w w' := by
  obtain ⟨ad, rfl, hbl0, _⟩ := h 0 xs[0] (List.getElem?_eq_getElem (by omega))
  have hst : Stays w (w.alloc (.cells #[.float .f32 ax, .float .f32 ay] 26)) := by (repeat (first | exact Stays.refl _ | (with_reducible refine Stays.drewN ?_ _) | (with_reducible refine Stays.alloc ?_ _) | (with_reducible refine Stays.drew ?_) | (refine Stays.trans ?_ ‹Stays _ _›)))
  have u0 : (w.alloc (.cells #[.float .f32 ax, .float .f32 ay] 26)).heap[w.heap.size]? = some (.cells #[.float .f32 ax, .float .f32 ay] 26 (0, 0)) := by (repeat (first | (refine heap_top _ _ _ ?_; simp; done) | (with_reducible refine heap_drawn _ _ _ ?_) | (with_reducible refine heap_under _ _ _ ?_ ?_; (simp <;> omega))))
  have HW : Hid (∀ W, Stays (w.alloc (.cells #[.float .f32 ax, .float .f32 ay] 26)) W → (W.cell? ⟨w.heap.size, 0, none⟩ = some (.float .f32 ax) ∧ W.cell? ⟨w.heap.size, 1, none⟩ = some (.float .f32 ay)) ∧ Stays w W) := Lib.hid fun W hW => ⟨⟨row_of hW u0 0, row_of hW u0 1⟩, hst.trans hW⟩
  have H : Hid (∀ W, Stays (w.alloc (.cells #[.float .f32 ax, .float .f32 ay] 26)) W → ∀ k r, xs[k]? = some r → ∃ x y, PtAt W (ad.add (k * 2)) r x y) := Lib.hid fun W hW k r hk => pt_at (Nat.le_trans hst.size hW.size) (h.below (hst.trans hW)) hk
  have kS := Lib.hid fun a b c d ha hb hc hd W => c_sqI a b c d ha hb hc hd W
  have hlim := nearK_lt (can .f32 ax) (can .f32 ay) xs xs.length
  replace hlim := Lib.hid hlim
  have hn0 : Hid (nearK (can .f32 ax) (can .f32 ay) xs 0 = 0) := Lib.hid rfl
  clear u0 h hst hbl0
  have hlt0 : (0 : Int) < (xs.length : Int) := by omega
  have hlt0N : 0 < xs.length := by omega
  go_enter Try.func76, Try.ntmps76
  go_wp2_with fail
  generalize (w.alloc (.cells #[.float .f32 ax, .float .f32 ay] 26)) = W0 at HW H ⊢
  have hg0 := List.getElem?_eq_getElem (show 0 < xs.length by omega)
  obtain ⟨px, py, hp⟩ := H.out W0 (Stays.refl _) 0 _ hg0
  have hrow : Hid (∀ x, FIs .f32 x (sq4 (can .f32 px) (can .f32 py) (can .f32 ax) (can .f32 ay)) → ∃ q, xs[0]? = some q ∧ FIs .f32 x (sq4 (can .f32 ax) (can .f32 ay) (gx q) (gy q))) := Lib.hid fun x hx => ⟨_, hg0, by rw [sq4_swap] at hx; rw [← hp.fx.out, ← hp.fy.out]; exact hx⟩
  have e0 : ad.add (0 * 2) = ad := rfl
  rw [e0] at hp
  have hcells : ∀ W, Stays W0 W → (W.cell? ⟨w.heap.size, 0, none⟩ = some (.float .f32 ax) ∧ W.cell? ⟨w.heap.size, 1, none⟩ = some (.float .f32 ay)) ∧ (W.cell? ad = some (.float .f32 px) ∧ W.cell? ⟨ad.block, ad.off + 1, none⟩ = some (.float .f32 py)) := fun W hW => ⟨(HW.out W hW).1, ⟨hp.h0 W hW, hp.h1 W hW⟩⟩
  have kP := kS.out px py ax ay hp.fx.lt hp.fy.lt hax hay
  replace kP := Lib.hid kP
  clear hp hg0 e0
  refine wp_region_soft_tail 5 (Stays.refl _) (sqC 78) [] (by kernel_rfl) (by kernel_rfl) (fun _ h => by cases h) ?_
  simp only [List.take_succ_cons, List.take_zero, List.drop_succ_cons, List.drop_zero]
  repeat ((with_reducible apply soft_detG); (case hwa => rfl); (case hA => rfl); (case h => (intro w1 hw1; have hc := hcells w1 hw1; go_simp; exact rfl)); go_simp)
  refine soft_callW (by rfl) rfl ?h (fun w2 _ => kP.out w2) (fun v hv => sqC_iff.2 hv) (fun v hv => sqC_iff.1 hv) ?_
  case h => (intro w1 hw1; have hc := hcells w1 hw1; go_simp; try exact ⟨rfl, rfl⟩)
  rintro v ⟨y, rfl, hy⟩
  go_simp
  repeat ((with_reducible apply soft_detG); (case hwa => rfl); (case hA => rfl); (case h => (intro w1 hw1; have hc := hcells w1 hw1; go_simp; exact rfl)); go_simp)
  refine soft_nil ?_
  rintro w2 ⟨hw2, _⟩
  have hy' := Lib.hid (hrow.out y hy)
  replace hw2 := Lib.hid hw2
  clear hcells hy hrow kP
  go_wp2
  go_loopw [5, 6, 17] (fun nv lv iv wr => ∃ (k n x : Nat), k ≤ xs.length ∧ iv = .int .i64 k ∧ nv = .int .i64 n ∧ lv = .float .f32 x ∧ Hid (nearK (can .f32 ax) (can .f32 ay) xs k = n) ∧ Hid (∃ q, xs[n]? = some q ∧ FIs .f32 x (sq4 (can .f32 ax) (can .f32 ay) (gx q) (gy q))) ∧ Hid (Stays W0 wr)) (fun _ _ iv _ => xs.length - (intOf iv).toNat)
  case atStart => exact ⟨0, 0, y, Nat.zero_le _, rfl, rfl, rfl, hn0, hy', hw2⟩
  case round =>
    obtain ⟨k, n, x, hk, rfl, rfl, rfl, hnr, hx, hb⟩ := hrel
    by_cases hlt : k < xs.length
    · have hlt' : (k : Int) < (xs.length : Int) := by omega
      have hk9 : IntKind.i64.wrap ((k : Int) + 1) = (k : Int) + 1 := IntWalk.i64_in _ (by omega)
      have hgk := List.getElem?_eq_getElem hlt
      obtain ⟨px, py, hp⟩ := H.out wr hb.out k xs[k] hgk
      have hrow : Hid (∀ x, FIs .f32 x (sq4 (can .f32 px) (can .f32 py) (can .f32 ax) (can .f32 ay)) → FIs .f32 x (sq4 (can .f32 ax) (can .f32 ay) (gx xs[k]) (gy xs[k]))) := Lib.hid fun x hx => by rw [sq4_swap] at hx; rw [← hp.fx.out, ← hp.fy.out]; exact hx
      have nx : Hid (∀ y, FIs .f32 y (sq4 (can .f32 ax) (can .f32 ay) (gx xs[k]) (gy xs[k])) → nearK (can .f32 ax) (can .f32 ay) xs (k + 1) = if (FloatKind.f32.format.order y x == some Ordering.lt) then k else n) := Lib.hid fun y hy => by
        obtain ⟨q, hq, hxq⟩ := hx.out
        rw [nearK_next hgk hnr.out hq, lt_of, hy.out, hxq.out]
      have hk2 : Hid (∀ y, FIs .f32 y (sq4 (can .f32 ax) (can .f32 ay) (gx xs[k]) (gy xs[k])) → ∃ q, xs[k]? = some q ∧ FIs .f32 y (sq4 (can .f32 ax) (can .f32 ay) (gx q) (gy q))) := Lib.hid fun y hy => ⟨_, hgk, hy⟩
      have p0 := hp.h0 wr (Stays.refl _)
      have p1 := hp.h1 wr (Stays.refl _)
      have hsA : Stays wr (wr.alloc (.cells #[.float .f32 px, .float .f32 py] 26)) := by (repeat (first | exact Stays.refl _ | (with_reducible refine Stays.drewN ?_ _) | (with_reducible refine Stays.alloc ?_ _) | (with_reducible refine Stays.drew ?_) | (refine Stays.trans ?_ ‹Stays _ _›)))
      have ha := heap_alloc_new wr (.cells #[.float .f32 px, .float .f32 py] 26)
      have a0 : (wr.alloc (.cells #[.float .f32 px, .float .f32 py] 26)).cell? ⟨wr.heap.size, 0, none⟩ = some (.float .f32 px) := row_of (Stays.refl _) ha 0
      have a1 : (wr.alloc (.cells #[.float .f32 px, .float .f32 py] 26)).cell? ⟨wr.heap.size, 1, none⟩ = some (.float .f32 py) := row_of (Stays.refl _) ha 1
      obtain ⟨⟨b0, b1⟩, _⟩ := HW.out (wr.alloc (.cells #[.float .f32 px, .float .f32 py] 26)) (hb.out.trans hsA)
      have kP := kS.out px py ax ay hp.fx.lt hp.fy.lt hax hay (wr.alloc (.cells #[.float .f32 px, .float .f32 py] 26))
      replace kP := Lib.hid kP
      replace hsA := Lib.hid (hb.out.trans hsA)
      generalize xs[k] = p at hrow nx hk2
      clear hp hnr hgk ha
      go_wp2_with fail
      refine kP.out.mono ?_
      rintro e w2 ⟨_, rfl, ⟨y, rfl, hy⟩, hw2⟩
      have hy' := hrow.out y hy
      have nx' := nx.out y hy'
      have hy2 := Lib.hid (hk2.out y hy')
      replace hw2 := Lib.hid (hsA.out.trans hw2)
      clear hy hy' hrow nx hk2 p0 p1 a0 a1 b0 b1 kP hsA
      cases hvl : (FloatKind.f32.format.order y x == some Ordering.lt) with
      | false =>
        rw [hvl, if_neg (by decide)] at nx'
        have nx := Lib.hid nx'
        clear nx'
        go_wp2
        go_roundw
        case rel => exact ⟨k + 1, n, x, by omega, by go_num, rfl, rfl, nx, hx, hw2⟩
        case measure => simp [intOf]; omega
      | true =>
        rw [hvl, if_pos rfl] at nx'
        have nx := Lib.hid nx'
        clear nx'
        go_wp2
        go_roundw
        case rel => exact ⟨k + 1, k, y, by omega, by go_num, rfl, rfl, nx, hy2, hw2⟩
        case measure => simp [intOf]; omega
    · have ek : k = xs.length := by omega
      have hr := Lib.hid (show nearK (can .f32 ax) (can .f32 ay) xs xs.length = n from by rw [← ek]; exact hnr.out)
      clear hnr ek
      go_wp2
      go_ret
      exact ⟨by rw [hr.out]; rfl, (HW.out wr hb.out).2⟩

theorem slice_from {ad : Addr} {n c m L : Nat} (h1 : n = m + 1 + L) (hc : n ≤ c) : ∃ A' C', (∀ w, (Instr.slice 43 (.slice (some ad) n c) (some (.int .i64 ((m : Int) + 1))) none none).run Try.prog w = .ok (.slice A' L C') w) ∧ (0 < L → A' = some (ad.add ((m + 1) * 2))) := by
  have hsz : ∀ w : World, (sizeOf (Try.prog.elem 43)).run Try.prog w = .ok 2 w := fun w => by kernel_rfl
  have hel : Try.prog.elem 43 = 26 := by kernel_rfl
  have e1 : ((m : Int) + 1).toNat = m + 1 := by omega
  have e2 : n - (m + 1) = L := by omega
  refine ⟨if m + 1 = c then some ad else some (ad.add ((m + 1) * 2)), c - (m + 1), fun w => ?_, fun h => if_neg (by omega)⟩
  rw [run_slice_l w 43 (some ad) n c (by rw [hel]; exact Try.underlying43) .i64 ((m : Int) + 1) (by omega) (by omega), hsz]
  by_cases h : m + 1 = c
  · subst h
    simp [Result.andThen, sliced, e1, e2]
  · have h' : ¬ c = m + 1 := fun e => h e.symm
    simp [Result.andThen, sliced, h, h', e1, e2]

theorem add_two (ad : Addr) (m j : Nat) : (ad.add ((m + 1) * 2)).add (j * 2) = ad.add ((m + 1 + j) * 2) := by
  have e1 : ad.add ((m + 1) * 2) = ⟨ad.block, ad.off + (m + 1) * 2, none⟩ := by
    unfold Addr.add
    rw [if_neg (by omega)]
  have e2 : ad.add ((m + 1 + j) * 2) = ⟨ad.block, ad.off + (m + 1 + j) * 2, none⟩ := by
    unfold Addr.add
    rw [if_neg (by omega)]
  rw [e1, e2]
  unfold Addr.add
  split
  · congr 1; omega
  · congr 1
    show ad.off + (m + 1) * 2 + j * 2 = _
    omega

set_option maxRecDepth 100000 in
set_option maxHeartbeats 2000000 in
theorem c_implAhead (A : Option Addr) (c : Nat) (xs : List (List NV)) (ax ay o0 : Nat) (w : World) (h : Ls KPt 2 w w.heap.size A xs) (hn : xs.length ≤ 1048576) (hc : xs.length ≤ c) (hax : ax < 2 ^ 32) (hay : ay < 2 ^ 32) (ho : o0 < 2 ^ 32) :
    Calls Try.prog 23 #[.slice A xs.length c, .agg #[.float .f32 ax, .float .f32 ay], .float .f32 o0] w (AhDone w (ahC (can .f32 ax) (can .f32 ay) (can .f32 o0) xs) (ahX (can .f32 ax) (can .f32 ay) (can .f32 o0) xs)) := by
  have hst : Stays w ((w.alloc (.cells #[.float .f32 ax, .float .f32 ay] 26)).alloc (.cells #[.float .f32 0, .float .f32 0] 26)) := by (repeat (first | exact Stays.refl _ | (with_reducible refine Stays.drewN ?_ _) | (with_reducible refine Stays.alloc ?_ _) | (with_reducible refine Stays.drew ?_) | (refine Stays.trans ?_ ‹Stays _ _›)))
  have u0 : ((w.alloc (.cells #[.float .f32 ax, .float .f32 ay] 26)).alloc (.cells #[.float .f32 0, .float .f32 0] 26)).heap[w.heap.size]? = some (.cells #[.float .f32 ax, .float .f32 ay] 26 (0, 0)) := by (repeat (first | (refine heap_top _ _ _ ?_; simp; done) | (with_reducible refine heap_drawn _ _ _ ?_) | (with_reducible refine heap_under _ _ _ ?_ ?_; (simp <;> omega))))
  have u1 : ((w.alloc (.cells #[.float .f32 ax, .float .f32 ay] 26)).alloc (.cells #[.float .f32 0, .float .f32 0] 26)).heap[w.heap.size + 1]? = some (.cells #[.float .f32 0, .float .f32 0] 26 (0, 0)) := by (repeat (first | (refine heap_top _ _ _ ?_; simp; done) | (with_reducible refine heap_drawn _ _ _ ?_) | (with_reducible refine heap_under _ _ _ ?_ ?_; (simp <;> omega))))
  have HW : Hid (∀ W, Stays ((w.alloc (.cells #[.float .f32 ax, .float .f32 ay] 26)).alloc (.cells #[.float .f32 0, .float .f32 0] 26)) W → (W.cell? ⟨w.heap.size, 0, none⟩ = some (.float .f32 ax) ∧ W.cell? ⟨w.heap.size, 1, none⟩ = some (.float .f32 ay)) ∧ Stays w W ∧ W.heap[w.heap.size + 1]? = some (.cells #[.float .f32 0, .float .f32 0] 26 (0, 0))) := Lib.hid fun W hW => ⟨⟨row_of hW u0 0, row_of hW u0 1⟩, hst.trans hW, (Below.block hW _ (in_heap u1)).trans u1⟩
  have hL := fun W (hW : Stays ((w.alloc (.cells #[.float .f32 ax, .float .f32 ay] 26)).alloc (.cells #[.float .f32 0, .float .f32 0] 26)) W) => (h.below (hst.trans hW)).more (hst.trans hW).size
  have kW := fun W (hW : Stays ((w.alloc (.cells #[.float .f32 ax, .float .f32 ay] 26)).alloc (.cells #[.float .f32 0, .float .f32 0] 26)) W) => c_isWay A c xs W (hL W hW) hn
  have kN := fun hp => Lib.hid fun W (hW : Stays ((w.alloc (.cells #[.float .f32 ax, .float .f32 ay] 26)).alloc (.cells #[.float .f32 0, .float .f32 0] 26)) W) => c_nearestPoint A c xs ax ay W (hL W hW) hn hp hax hay
  have kF : Hid (∀ W, Stays ((w.alloc (.cells #[.float .f32 ax, .float .f32 ay] 26)).alloc (.cells #[.float .f32 0, .float .f32 0] 26)) W → Calls Try.prog 62 #[.slice (some ⟨w.heap.size, 0, none⟩) 2 2] W fun e w' => e = .returned (.bool (finB (can .f32 ax) && finB (can .f32 ay))) ∧ Stays W w') := Lib.hid fun W hW => c_areFinite2 w.heap.size ax ay W fun w1 h1 => ⟨row_of (hW.trans h1) u0 0, row_of (hW.trans h1) u0 1⟩
  have kM := fun W => c_isAmount o0 W
  have H : Hid (∀ W, Stays ((w.alloc (.cells #[.float .f32 ax, .float .f32 ay] 26)).alloc (.cells #[.float .f32 0, .float .f32 0] 26)) W → ∀ ad, A = some ad → ∀ k r, xs[k]? = some r → ∃ x y, PtAt W (ad.add (k * 2)) r x y) := Lib.hid fun W hW ad e k r hk => pt_at (Nat.le_trans hst.size hW.size) (by rw [← e]; exact h.below (hst.trans hW)) hk
  have hA : 1 ≤ xs.length → ∃ ad, A = some ad := fun hp => by
    obtain ⟨ad, e, _, _⟩ := h 0 xs[0] (List.getElem?_eq_getElem (by omega))
    exact ⟨ad, e⟩
  have hpos : wayB xs = true → 1 ≤ xs.length := fun e => (wayB_pos e).1
  generalize hrz : aheadX (can .f32 ax) (can .f32 ay) (can .f32 o0) xs = res
  unfold ahC ahX folB
  rw [hrz]
  have hlim := nearK_lt (can .f32 ax) (can .f32 ay) xs xs.length
  clear u0 u1 h hst hL
  cases hw0 : wayB xs with
  | false =>
    rw [hw0] at kW
    replace kW := Lib.hid kW
    simp only [Bool.false_and]
    rw [if_neg (by decide), if_neg (by decide)]
    clear kN H hA hpos hw0 hrz hlim
    go_enter Try.func23, Try.ntmps23
    go_wp2_with fail
    generalize ((w.alloc (.cells #[.float .f32 ax, .float .f32 ay] 26)).alloc (.cells #[.float .f32 0, .float .f32 0] 26)) = W0 at HW kW ⊢
    refine (kW.out W0 (Stays.refl _)).mono ?_
    rintro e w1 ⟨rfl, hb⟩
    replace hb := Lib.hid (show Stays W0 w1 from hb)
    obtain ⟨_, hst, hres⟩ := HW.out _ hb.out
    go_wp2_with ((refine wpList_store_row rfl _ _ _ rfl _ _ _ rfl rfl hres ?hi ?ho ?h1 ?hB hst ?_); (case hi => kernel_rfl); (case ho => rfl); (case h1 => first | rfl | simp [Value.oneCell']); (case hB => first | omega | (simp <;> omega)); intro w2 hw2 hq2 _ _)
    apply end_gd rfl rfl rfl Try.underlying26 rfl (t := 26)
    case hg => exact hq2
    case hi => kernel_rfl
    case hR => exact ⟨_, _, rfl, zero_fis.1, zero_fis.2, hw2⟩
  | true =>
    rw [hw0] at kW
    replace kW := Lib.hid kW
    replace hpos := hpos hw0
    replace kN := kN hpos
    obtain ⟨ad, rfl⟩ := hA hpos
    simp only [Bool.true_and]
    generalize (finB (can .f32 ax) && finB (can .f32 ay)) = q1 at kF ⊢
    replace hlim := hlim xs.length (Nat.le_refl _) hpos
    unfold aheadX at hrz
    generalize hm : nearK (can .f32 ax) (can .f32 ay) xs xs.length = m at hlim kN hrz
    replace hrz := Lib.hid hrz
    clear hm hw0 hA
    cases q1 with
    | false =>
      simp only [Bool.false_and]
      rw [if_neg (by decide), if_neg (by decide)]
      clear kN H hrz hlim
      go_enter Try.func23, Try.ntmps23
      go_wp2_with fail
      generalize ((w.alloc (.cells #[.float .f32 ax, .float .f32 ay] 26)).alloc (.cells #[.float .f32 0, .float .f32 0] 26)) = W0 at HW kF kW ⊢
      refine (kW.out W0 (Stays.refl _)).mono ?_
      rintro e w1 ⟨rfl, hb⟩
      replace hb := Lib.hid (show Stays W0 w1 from hb)
      obtain ⟨⟨d0, d1⟩, _⟩ := HW.out _ hb.out
      go_wp2_with fail
      refine (kF.out w1 hb.out).mono ?_
      rintro e w2 ⟨rfl, hb2⟩
      replace hb2 := Lib.hid (hb.out.trans hb2)
      clear d0 d1
      obtain ⟨_, hst, hres⟩ := HW.out _ hb2.out
      go_wp2_with ((refine wpList_store_row rfl _ _ _ rfl _ _ _ rfl rfl hres ?hi ?ho ?h1 ?hB hst ?_); (case hi => kernel_rfl); (case ho => rfl); (case h1 => first | rfl | simp [Value.oneCell']); (case hB => first | omega | (simp <;> omega)); intro w2 hw2 hq2 _ _)
      apply end_gd rfl rfl rfl Try.underlying26 rfl (t := 26)
      case hg => exact hq2
      case hi => kernel_rfl
      case hR => exact ⟨_, _, rfl, zero_fis.1, zero_fis.2, hw2⟩
    | true =>
      simp only [Bool.true_and]
      cases hqa : amtB (can .f32 o0) with
      | false =>
        rw [hqa] at kM
        replace kM := Lib.hid kM
        rw [if_neg (by decide), if_neg (by decide)]
        clear kN H hrz hlim hqa
        go_enter Try.func23, Try.ntmps23
        go_wp2_with fail
        generalize ((w.alloc (.cells #[.float .f32 ax, .float .f32 ay] 26)).alloc (.cells #[.float .f32 0, .float .f32 0] 26)) = W0 at HW kF kW ⊢
        refine (kW.out W0 (Stays.refl _)).mono ?_
        rintro e w1 ⟨rfl, hb⟩
        replace hb := Lib.hid (show Stays W0 w1 from hb)
        obtain ⟨⟨d0, d1⟩, _⟩ := HW.out _ hb.out
        go_wp2_with fail
        refine (kF.out w1 hb.out).mono ?_
        rintro e w2 ⟨rfl, hb2⟩
        replace hb2 := Lib.hid (hb.out.trans hb2)
        clear d0 d1
        go_wp2_with fail
        refine (kM.out _).mono ?_
        rintro e w3 ⟨rfl, hb3⟩
        replace hb3 := Lib.hid (hb2.out.trans hb3)
        obtain ⟨_, hst, hres⟩ := HW.out _ hb3.out
        go_wp2_with ((refine wpList_store_row rfl _ _ _ rfl _ _ _ rfl rfl hres ?hi ?ho ?h1 ?hB hst ?_); (case hi => kernel_rfl); (case ho => rfl); (case h1 => first | rfl | simp [Value.oneCell']); (case hB => first | omega | (simp <;> omega)); intro w2 hw2 hq2 _ _)
        apply end_gd rfl rfl rfl Try.underlying26 rfl (t := 26)
        case hg => exact hq2
        case hi => kernel_rfl
        case hR => exact ⟨_, _, rfl, zero_fis.1, zero_fis.2, hw2⟩
      | true =>
        rw [hqa] at kM
        replace kM := Lib.hid kM
        rw [if_pos rfl, if_pos rfl]
        obtain ⟨L, hL⟩ : ∃ L, xs.length = m + 1 + L := ⟨xs.length - (m + 1), by omega⟩
        obtain ⟨A', C', hsl, hA'⟩ := slice_from (ad := ad) hL hc
        replace hA' := Lib.hid hA'
        have hm' : (m : Int) < (xs.length : Int) := by omega
        have hm9 : IntKind.i64.wrap ((m : Int) + 1) = (m : Int) + 1 := IntWalk.i64_in _ (by omega)
        have hfo := Lib.hid (FIs.self (k := .f32) ho)
        have kS := Lib.hid fun a b c d ha hb hc hd W => c_sqI a b c d ha hb hc hd W
        have hLb : L ≤ 1048576 := by omega
        replace hL := Lib.hid hL
        clear hqa
        go_enter Try.func23, Try.ntmps23
        go_wp2_with fail
        generalize ((w.alloc (.cells #[.float .f32 ax, .float .f32 ay] 26)).alloc (.cells #[.float .f32 0, .float .f32 0] 26)) = W0 at HW H kF kW kN ⊢
        refine (kW.out W0 (Stays.refl _)).mono ?_
        rintro e w1 ⟨rfl, hb⟩
        replace hb := Lib.hid (show Stays W0 w1 from hb)
        obtain ⟨⟨d0, d1⟩, _⟩ := HW.out _ hb.out
        go_wp2_with fail
        refine (kF.out w1 hb.out).mono ?_
        rintro e w2 ⟨rfl, hb2⟩
        replace hb2 := Lib.hid (hb.out.trans hb2)
        clear d0 d1
        go_wp2_with fail
        refine (kM.out _).mono ?_
        rintro e w3 ⟨rfl, hb3⟩
        replace hb3 := Lib.hid (hb2.out.trans hb3)
        obtain ⟨⟨d0, d1⟩, _⟩ := HW.out _ hb3.out
        go_wp2_with fail
        refine (kN.out w3 hb3.out).mono ?_
        rintro e w4 ⟨rfl, hb4⟩
        replace hb4 := Lib.hid (hb3.out.trans hb4)
        clear d0 d1 kW kF kM kN
        obtain ⟨px, py, hp⟩ := H.out w4 hb4.out ad rfl m xs[m] (List.getElem?_eq_getElem hlim)
        have p0 := hp.h0 w4 (Stays.refl _)
        have p1 := hp.h1 w4 (Stays.refl _)
        have hgm : Hid (xs[m]? = some xs[m]) := Lib.hid (List.getElem?_eq_getElem hlim)
        have hfx := Lib.hid hp.fx
        have hfy := Lib.hid hp.fy
        clear hp
        generalize xs[m] = p at hgm hfx hfy
        have hg := Lib.hid (heap_alloc_new w4 (.cells #[.float .f32 px, .float .f32 py] 26))
        have hs4 : Hid (Stays w4 (w4.alloc (.cells #[.float .f32 px, .float .f32 py] 26))) := Lib.hid (by (repeat (first | exact Stays.refl _ | (with_reducible refine Stays.drewN ?_ _) | (with_reducible refine Stays.alloc ?_ _) | (with_reducible refine Stays.drew ?_) | (refine Stays.trans ?_ ‹Stays _ _›))))
        go_wp2_with fail
        generalize (w4.alloc (.cells #[.float .f32 px, .float .f32 py] 26)) = W5 at hg hs4 ⊢
        have hgn := Lib.hid (show w4.heap.size ≤ w4.heap.size from Nat.le_refl _)
        generalize hge : w4.heap.size = g at hg hgn ⊢
        replace hgn := Lib.hid (show w4.heap.size ≤ g by omega)
        clear hge
        go_loopw [2, 40] (fun ov iv wr => ∃ (j x hx hy : Nat) (o : Option Nat), j ≤ L ∧ iv = .int .i64 j ∧ ov = .float .f32 x ∧ Hid (FIs .f32 x o) ∧ Hid ((FIs .f32 hx (gx (xs.getD (m + j) [])) ∧ FIs .f32 hy (gy (xs.getD (m + j) []))) ∧ aheadL o (xs.drop (m + j)) = res) ∧ Hid (wr.heap[g]? = some (.cells #[.float .f32 hx, .float .f32 hy] 26 (0, 0))) ∧ Hid (Stays w4 wr)) (fun _ iv _ => L - (intOf iv).toNat)
        case atStart => exact ⟨0, o0, px, py, _, Nat.zero_le _, rfl, rfl, hfo, Lib.hid ⟨⟨by rw [List.getD_eq_getElem?_getD, Nat.add_zero, hgm.out]; exact hfx.out, by rw [List.getD_eq_getElem?_getD, Nat.add_zero, hgm.out]; exact hfy.out⟩, hrz.out⟩, hg, hs4⟩
        case round =>
          obtain ⟨j, x, hx', hy', o, hj, rfl, rfl, hx, hh, hgc, hb5⟩ := hrel
          by_cases hlt : j < L
          · have hlt' : (j : Int) < (L : Int) := by omega
            have hAe := hA'.out (by omega)
            subst hAe
            have hkl : m + 1 + j < xs.length := by have := hL.out; omega
            have hkj : m + j < xs.length := by omega
            have e1 : m + j + 1 = m + 1 + j := by omega
            have hgq : xs[m + 1 + j]? = some xs[m + 1 + j] := List.getElem?_eq_getElem hkl
            have hgj : xs[m + j]? = some xs[m + j] := List.getElem?_eq_getElem hkj
            obtain ⟨qx, qy, hq⟩ := H.out wr (hb4.out.trans hb5.out) ad rfl (m + 1 + j) xs[m + 1 + j] hgq
            rw [← add_two] at hq
            have nx := ahead_next (o := o) hgj (by rw [e1]; exact hgq)
            obtain ⟨⟨fx, fy⟩, hrs⟩ := hh.out
            rw [hrs, e1] at nx
            rw [List.getD_eq_getElem?_getD, hgj] at fx fy
            have hd : dst xs[m + j] xs[m + 1 + j] = froot (sq4 (can .f32 hx') (can .f32 hy') (can .f32 qx) (can .f32 qy)) := by
              unfold dst
              rw [hq.fx.out, hq.fy.out, fx.out, fy.out]
              rfl
            have bx : gx xs[m + j] = can .f32 hx' := fx.out.symm
            have by' : gy xs[m + j] = can .f32 hy' := fy.out.symm
            rw [hd, bx, by', ← hq.fx.out, ← hq.fy.out, ← hx.out.out] at nx
            have hnew : FIs .f32 qx (gx (xs.getD (m + (j + 1)) [])) ∧ FIs .f32 qy (gy (xs.getD (m + (j + 1)) [])) := by
              rw [List.getD_eq_getElem?_getD, show m + (j + 1) = m + 1 + j by omega, hgq]
              exact ⟨hq.fx, hq.fy⟩
            replace hnew := Lib.hid hnew
            have q0 := hq.h0 wr (Stays.refl _)
            have q1 := hq.h1 wr (Stays.refl _)
            have kP := kS.out hx' hy' qx qy fx.lt fy.lt hq.fx.lt hq.fy.lt (wr.alloc (.cells #[.float .f32 qx, .float .f32 qy] 26))
            have hsA : Stays wr (wr.alloc (.cells #[.float .f32 qx, .float .f32 qy] 26)) := by (repeat (first | exact Stays.refl _ | (with_reducible refine Stays.drewN ?_ _) | (with_reducible refine Stays.alloc ?_ _) | (with_reducible refine Stays.drew ?_) | (refine Stays.trans ?_ ‹Stays _ _›)))
            have ha := heap_alloc_new wr (.cells #[.float .f32 qx, .float .f32 qy] 26)
            have hcl := Lib.hid fun W (hW : Stays (wr.alloc (.cells #[.float .f32 qx, .float .f32 qy] 26)) W) => (show (W.cell? ⟨g, 0, none⟩ = some (.float .f32 hx') ∧ W.cell? ⟨g, 1, none⟩ = some (.float .f32 hy')) ∧ (W.cell? ⟨wr.heap.size, 0, none⟩ = some (.float .f32 qx) ∧ W.cell? ⟨wr.heap.size, 1, none⟩ = some (.float .f32 qy)) ∧ W.heap[g]? = some (.cells #[.float .f32 hx', .float .f32 hy'] 26 (0, 0)) from by
              have e := (Below.block (hsA.trans hW) _ (in_heap hgc.out)).trans hgc.out
              exact ⟨⟨cell_of_row _ _ _ _ _ _ e, cell_of_row _ _ _ _ _ _ e⟩, ⟨row_of hW ha 0, row_of hW ha 1⟩, e⟩)
            obtain ⟨⟨g0, g1⟩, ⟨a0, a1⟩, _⟩ := hcl.out (wr.alloc (.cells #[.float .f32 qx, .float .f32 qy] 26)) (Stays.refl _)
            have hox := Lib.hid (sub_zero32 hx.out.lt)
            replace kP := Lib.hid kP
            replace hsA := Lib.hid (hb5.out.trans hsA)
            replace nx := Lib.hid nx
            rw [show m + 1 + j = m + (j + 1) by omega] at nx
            clear fx fy hrs hh bx by' hd hgq hgj hq ha hkl hkj e1 hx
            generalize ad.add ((m + 1) * 2) = ad2 at q0 q1 ⊢
            go_wp2_with fail
            refine kP.out.mono ?_
            rintro e w6 ⟨_, rfl, ⟨y, rfl, hy⟩, hb6⟩
            go_wp2_with fail
            refine (c_rootOfO y _ (FIs.self hy.lt) _).mono ?_
            rintro e w5 ⟨_, rfl, ⟨z, rfl, hz⟩, hb7⟩
            have nx' := nx.out
            rw [← hy.out, ← hz.out] at nx'
            have hpz : PosW (can .f32 z) := by rw [hz.out, hy.out]; exact sq4_pos _ _ _ _
            replace hcl := Lib.hid fun W (hW : Stays w5 W) => hcl.out W ((hb6.trans hb7).trans hW)
            have hw5 := Lib.hid (hsA.out.trans (hb6.trans hb7))
            clear hy hz hb6 hb7 nx q0 q1 g0 g1 a0 a1 kP hsA hgc
            rcases pos_split hpz with ⟨h1, h2⟩ | ⟨h1, h2, h3⟩ | ⟨h1, h2, h3⟩
            · rw [h2, if_neg (by decide), ← le_of] at nx'
              rw [← gz_of] at h1
              clear h2 hpz
              cases hvl : (FloatKind.f32.format.order x z == some Ordering.lt || FloatKind.f32.format.order x z == some Ordering.eq) with
              | false =>
                rw [hvl, if_neg (by decide)] at nx'
                have heq := Lib.hid nx'.symm
                clear nx'
                have c5 := fun n => (hcl.out (w5.drewN n) ((Stays.refl w5).drewN n)).2.1
                have hresn := fun n => (hcl.out (w5.drewN n) ((Stays.refl w5).drewN n)).2.2
                have hstn := fun n => hw5.out.drewN n
                have hB9 := hgn.out
                go_wp2_with (first | ((with_reducible refine wpList_fop rfl _ _ _ _ _ rfl rfl _ _ _ rfl rfl ?_); intro r n hr) | ((refine wpList_store_row rfl _ _ _ rfl _ _ _ rfl rfl (hresn _) ?hi ?ho ?h1 ?hB (hstn _) ?_); (case hi => kernel_rfl); (case ho => rfl); (case h1 => first | rfl | simp [Value.oneCell']); (case hB => first | omega | (simp <;> omega)); intro w9 hw9 hq9 _ _))
                have hr2 := Lib.hid hr
                replace hq9 := Lib.hid hq9
                replace hw9 := Lib.hid hw9
                clear hr c5 hresn hstn
                go_roundw
                case rel => exact ⟨j + 1, _, qx, qy, _, by omega, by go_num, rfl, hr2, Lib.hid ⟨hnew.out, heq.out⟩, hq9, hw9⟩
                case measure => simp [intOf]; omega
              | true =>
                rw [hvl, if_pos rfl] at nx'
                have nx := Lib.hid nx'
                clear nx'
                go_wp2_with ((with_reducible refine wpList_fop rfl _ _ _ _ _ rfl rfl _ _ _ rfl rfl ?_); intro r n hr)
                have hq' := Lib.hid hr
                clear hr
                have hcells := fun W (hW : Stays (w5.drewN n) W) => And.intro (hcl.out W (((Stays.refl w5).drewN n).trans hW)).1 (hcl.out W (((Stays.refl w5).drewN n).trans hW)).2.1
                have hwd := Lib.hid (hb4.out.trans (hw5.out.drewN n))
                refine wp_region_soft_tail 13 (Stays.refl _) (btC 79) [] (by kernel_rfl) (by kernel_rfl) (fun _ h => by cases h) ?_
                simp only [List.take_succ_cons, List.take_zero, List.drop_succ_cons, List.drop_zero]
                repeat ((with_reducible apply soft_detG); (case hwa => rfl); (case hA => rfl); (case h => (intro w1 hw1; have hc := hcells w1 hw1; go_simp; exact rfl)); go_simp)
                refine soft_callW (by rfl) rfl ?h (fun w2 _ => c_between hx' qx r w2) (fun v hv => btC_iff.2 hv) (fun v hv => btC_iff.1 hv) ?_
                case h => (intro w1 hw1; have hc := hcells w1 hw1; go_simp; try exact ⟨rfl, rfl⟩)
                rintro v ⟨y1, rfl, hy1⟩
                go_simp
                repeat ((with_reducible apply soft_detG); (case hwa => rfl); (case hA => rfl); (case h => (intro w1 hw1; have hc := hcells w1 hw1; go_simp; exact rfl)); go_simp)
                refine soft_callW (by rfl) rfl ?h (fun w2 _ => c_between hy' qy r w2) (fun v hv => btC_iff.2 hv) (fun v hv => btC_iff.1 hv) ?_
                case h => (intro w1 hw1; have hc := hcells w1 hw1; go_simp; try exact ⟨rfl, rfl⟩)
                rintro v ⟨y2, rfl, hy2⟩
                go_simp
                repeat ((with_reducible apply soft_detG); (case hwa => rfl); (case hA => rfl); (case h => (intro w1 hw1; have hc := hcells w1 hw1; go_simp; exact rfl)); go_simp)
                refine soft_nil ?_
                rintro w6 ⟨hw6, _⟩
                have hX := Lib.hid (show FIs .f32 y1 (gx res) from hy1.of_eq (by rw [nx.out]; show _ = btw _ _ _; rw [hq'.out.out]))
                have hY := Lib.hid (show FIs .f32 y2 (gy res) from hy2.of_eq (by rw [nx.out]; show _ = btw _ _ _; rw [hq'.out.out]))
                obtain ⟨_, hst, hres⟩ := HW.out w6 (hwd.out.trans hw6)
                clear hy1 hy2 hw6 hcells hq' nx
                go_wp2_with ((refine wpList_store_row rfl _ _ _ rfl _ _ _ rfl rfl hres ?hi ?ho ?h1 ?hB hst ?_); (case hi => kernel_rfl); (case ho => rfl); (case h1 => first | rfl | simp [Value.oneCell']); (case hB => first | omega | (simp <;> omega)); intro w2 hw2 hq2 _ _)
                apply end_gd rfl rfl rfl Try.underlying26 rfl (t := 26)
                case hg => exact hq2
                case hi => kernel_rfl
                case hR => exact ⟨_, _, rfl, hX.out, hY.out, hw2⟩
            · rw [h2, if_pos rfl] at nx'
              have heq := Lib.hid (show aheadL (fop .sub .f32 (can .f32 x) (can .f32 z)) (xs.drop (m + (j + 1))) = res from by rw [h3, hox.out]; exact nx'.symm)
              rw [← gz_of] at h1
              clear nx' h2 h3 hpz
              have c5 := fun n => (hcl.out (w5.drewN n) ((Stays.refl w5).drewN n)).2.1
              have hresn := fun n => (hcl.out (w5.drewN n) ((Stays.refl w5).drewN n)).2.2
              have hstn := fun n => hw5.out.drewN n
              have hB9 := hgn.out
              go_wp2_with (first | ((with_reducible refine wpList_fop rfl _ _ _ _ _ rfl rfl _ _ _ rfl rfl ?_); intro r n hr) | ((refine wpList_store_row rfl _ _ _ rfl _ _ _ rfl rfl (hresn _) ?hi ?ho ?h1 ?hB (hstn _) ?_); (case hi => kernel_rfl); (case ho => rfl); (case h1 => first | rfl | simp [Value.oneCell']); (case hB => first | omega | (simp <;> omega)); intro w9 hw9 hq9 _ _))
              have hr2 := Lib.hid hr
              replace hq9 := Lib.hid hq9
              replace hw9 := Lib.hid hw9
              clear hr c5 hresn hstn
              go_roundw
              case rel => exact ⟨j + 1, _, qx, qy, _, by omega, by go_num, rfl, hr2, Lib.hid ⟨hnew.out, heq.out⟩, hq9, hw9⟩
              case measure => simp [intOf]; omega
            · rw [h2, if_neg (by decide), h3, if_neg (by decide)] at nx'
              have heq := Lib.hid nx'.symm
              rw [← gz_of] at h1
              clear nx' h2 h3 hpz
              have c5 := fun n => (hcl.out (w5.drewN n) ((Stays.refl w5).drewN n)).2.1
              have hresn := fun n => (hcl.out (w5.drewN n) ((Stays.refl w5).drewN n)).2.2
              have hstn := fun n => hw5.out.drewN n
              have hB9 := hgn.out
              go_wp2_with (first | ((with_reducible refine wpList_fop rfl _ _ _ _ _ rfl rfl _ _ _ rfl rfl ?_); intro r n hr) | ((refine wpList_store_row rfl _ _ _ rfl _ _ _ rfl rfl (hresn _) ?hi ?ho ?h1 ?hB (hstn _) ?_); (case hi => kernel_rfl); (case ho => rfl); (case h1 => first | rfl | simp [Value.oneCell']); (case hB => first | omega | (simp <;> omega)); intro w9 hw9 hq9 _ _))
              have hr2 := Lib.hid hr
              replace hq9 := Lib.hid hq9
              replace hw9 := Lib.hid hw9
              clear hr c5 hresn hstn
              go_roundw
              case rel => exact ⟨j + 1, _, qx, qy, _, by omega, by go_num, rfl, hr2, Lib.hid ⟨hnew.out, heq.out⟩, hq9, hw9⟩
              case measure => simp [intOf]; omega
          · have ej : j = L := by omega
            subst ej
            obtain ⟨⟨fx, fy⟩, hrs⟩ := hh.out
            have hlast : aheadL o (xs.drop (m + j)) = xs.getD (m + j) [] := by
              have hkj : m + j < xs.length := by have := hL.out; omega
              rw [ahead_last (List.getElem?_eq_getElem hkj) (by have := hL.out; omega), List.getD_eq_getElem?_getD, List.getElem?_eq_getElem hkj]
              rfl
            rw [hrs] at hlast
            rw [← hlast] at fx fy
            have g0 := cell_of_row _ _ 0 _ _ _ hgc.out
            have g1 := cell_of_row _ _ 1 _ _ _ hgc.out
            obtain ⟨_, hst, hres⟩ := HW.out wr (hb4.out.trans hb5.out)
            replace fx := Lib.hid fx
            replace fy := Lib.hid fy
            clear hh hrs hlast hlt hgc hx
            go_wp2_with ((refine wpList_store_row rfl _ _ _ rfl _ _ _ rfl rfl hres ?hi ?ho ?h1 ?hB hst ?_); (case hi => kernel_rfl); (case ho => rfl); (case h1 => first | rfl | simp [Value.oneCell']); (case hB => first | omega | (simp <;> omega)); intro w2 hw2 hq2 _ _)
            apply end_gd rfl rfl rfl Try.underlying26 rfl (t := 26)
            case hg => exact hq2
            case hi => kernel_rfl
            case hR => exact ⟨_, _, rfl, fx.out, fy.out, hw2⟩

end Go.Proofs.Ytejljfejajckoaa
