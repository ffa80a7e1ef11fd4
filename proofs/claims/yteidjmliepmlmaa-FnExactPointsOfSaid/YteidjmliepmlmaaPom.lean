/- The points of a route, as the document tells them. The points of a route, as the program tells them. The law on the points of a route. No condition. -/
import Derived.Test.YteidjmliepmlmaaRg
import Derived.Test.YteidjmliepmlmaaB3
import Derived.Test.YteidjmliepmlmaaKFloat32A2
import Derived.Test.YteidjmliepmlmaaGFloat32A2
import Derived.Laws.MakeOwn
import Derived.Deep.RegionHeld
namespace Go.Proofs.Yteidjmliepmlmaa
open Go Go.ChangeShapes Go.WideShapes Go.RowKit
set_option linter.unusedVariables false
set_option linter.unusedSimpArgs false

noncomputable def posO (lo sd : Option Nat) (a : Int) : Option Nat := fop .add .f32 lo (fop .mul .f32 sd (fop .add .f32 (can .f32 (floatOfInt .f32 a)) (can .f32 1056964608)))
noncomputable def poRow (ox oy os : Option Nat) (r : List NV) : List NV := [.f (posO ox os (sx r)), .f (posO oy os (sy r))]
noncomputable def poL (ox oy os : Option Nat) (xs : List (List NV)) : List (List NV) := xs.map (poRow ox oy os)
noncomputable def poB (ox oy os : Option Nat) (n : Nat) : Bool := ((finB ox && finB oy) && finB os) && decide (n ≤ 600)
noncomputable def poC (ox oy os : Option Nat) (n : Nat) : Int := if poB ox oy os n then 0 else 2
noncomputable def poX (ox oy os : Option Nat) (xs : List (List NV)) : List (List NV) := if poB ox oy os xs.length then poL ox oy os xs else []

theorem po_take {ox oy os : Option Nat} {xs : List (List NV)} {k : Nat} {m : List NV} (h : xs[k]? = some m) : poL ox oy os (xs.take (k + 1)) = poL ox oy os (xs.take k) ++ [poRow ox oy os m] := by
  unfold poL
  rw [List.take_add_one, h, List.map_append]
  rfl
theorem poL_len (ox oy os : Option Nat) (xs : List (List NV)) (k : Nat) (h : k ≤ xs.length) : (poL ox oy os (xs.take k)).length = k := by
  unfold poL
  rw [List.length_map, List.length_take]
  omega

/-- A list of points, and a code. -/
def PDone (w : World) (code : Int) (xs : List (List NV)) (e : Ending) (w' : World) : Prop := ∃ g A c, e = .returned (.tuple #[.slice A xs.length c, .int .i64 code]) ∧ Stays w w' ∧ w.heap.size ≤ g ∧ LiesL KFloat32A2 2 w' g (.slice A xs.length c) xs

theorem GrowL.pdone {B : Nat} {w w' : World} {v : Value} {xs : List (List NV)} (h : GrowL KFloat32A2 2 55 B w' v xs) (hB : w.heap.size ≤ B) (hs : Stays w w') (code : Int) : PDone w code xs (.returned (.tuple #[v, .int .i64 code])) w' := by
  obtain ⟨A, c, rfl⟩ := h.form
  obtain ⟨g, hg, hL⟩ := h.lies (K := KFloat32A2) rfl
  exact ⟨g, A, c, rfl, hs, Nat.le_trans hB hg, hL⟩

set_option maxRecDepth 100000 in
set_option maxHeartbeats 1000000 in
theorem c_l07Low (lx ly sd : Nat) (w : World) :
    Calls Try.prog 73 #[.agg #[.float .f32 lx, .float .f32 ly], .float .f32 sd] w fun e w' => e = .returned (.bool ((finB (can .f32 lx) && finB (can .f32 ly)) && finB (can .f32 sd))) ∧ Stays w w' := by
  have k0 := fun W => c_l01Finite lx W
  have k1 := fun W => c_l01Finite ly W
  have k2 := Lib.hid fun W => c_l01Finite sd W
  have u0 := heap_alloc_new w (.cells #[.float .f32 lx, .float .f32 ly] 55)
  have hst : Stays w (w.alloc (.cells #[.float .f32 lx, .float .f32 ly] 55)) := by (repeat (first | exact Stays.refl _ | (with_reducible refine Stays.drewN ?_ _) | (with_reducible refine Stays.alloc ?_ _) | (with_reducible refine Stays.drew ?_) | (refine Stays.trans ?_ ‹Stays _ _›)))
  have HC := Lib.hid fun W (h : Stays (w.alloc (.cells #[.float .f32 lx, .float .f32 ly] 55)) W) => (show W.cell? ⟨w.heap.size, 0, none⟩ = some (.float .f32 lx) ∧ W.cell? ⟨w.heap.size, 1, none⟩ = some (.float .f32 ly) from ⟨row_of h u0 0, row_of h u0 1⟩)
  replace hst := Lib.hid hst
  generalize finB (can .f32 sd) = p2 at k2 ⊢
  clear u0
  cases h0 : finB (can .f32 lx) with
  | false =>
    rw [h0] at k0
    replace k0 := Lib.hid k0
    clear h0 k1
    go_enter Try.func73, Try.ntmps73
    obtain ⟨q0, q1⟩ := HC.out _ (Stays.refl _)
    go_wp2_with fail
    refine (k0.out _).mono ?_
    rintro e w1 ⟨rfl, hb⟩
    go_wp2
    go_ret
    exact ⟨by simp, hst.out.trans hb⟩
  | true =>
    rw [h0] at k0
    replace k0 := Lib.hid k0
    cases h1 : finB (can .f32 ly) with
    | false =>
      rw [h1] at k1
      replace k1 := Lib.hid k1
      clear h0 h1
      go_enter Try.func73, Try.ntmps73
      obtain ⟨q0, q1⟩ := HC.out _ (Stays.refl _)
      go_wp2_with fail
      refine (k0.out _).mono ?_
      rintro e w1 ⟨rfl, hb⟩
      replace hb := Lib.hid (show Stays (w.alloc (.cells #[.float .f32 lx, .float .f32 ly] 55)) w1 from hb)
      clear q0 q1
      obtain ⟨q0, q1⟩ := HC.out _ hb.out
      go_wp2_with fail
      refine (k1.out _).mono ?_
      rintro e w2 ⟨rfl, hb2⟩
      replace hb2 := Lib.hid (hst.out.trans (hb.out.trans hb2))
      go_wp2
      go_ret
      exact ⟨by simp, hb2.out⟩
    | true =>
      rw [h1] at k1
      replace k1 := Lib.hid k1
      clear h0 h1
      go_enter Try.func73, Try.ntmps73
      obtain ⟨q0, q1⟩ := HC.out _ (Stays.refl _)
      go_wp2_with fail
      refine (k0.out _).mono ?_
      rintro e w1 ⟨rfl, hb⟩
      replace hb := Lib.hid (show Stays (w.alloc (.cells #[.float .f32 lx, .float .f32 ly] 55)) w1 from hb)
      clear q0 q1
      obtain ⟨q0, q1⟩ := HC.out _ hb.out
      go_wp2_with fail
      refine (k1.out _).mono ?_
      rintro e w2 ⟨rfl, hb2⟩
      replace hb2 := Lib.hid (hst.out.trans (hb.out.trans hb2))
      go_wp2_with fail
      refine (k2.out _).mono ?_
      rintro e w3 ⟨rfl, hb3⟩
      replace hb3 := Lib.hid (hb2.out.trans hb3)
      go_wp2
      go_ret
      exact ⟨by simp, hb3.out⟩

set_option maxRecDepth 100000 in
set_option maxHeartbeats 4000000 in
theorem c_specPO (A : Option Addr) (c : Nat) (xs : List (List NV)) (lx ly sd : Nat) (w : World) (h : Ls KSpot 2 w w.heap.size A xs) (hn : xs.length ≤ 1048576) :
    Calls Try.prog 34 #[.slice A xs.length c, .agg #[.float .f32 lx, .float .f32 ly], .float .f32 sd] w (PDone w (poC (can .f32 lx) (can .f32 ly) (can .f32 sd) xs.length) (poX (can .f32 lx) (can .f32 ly) (can .f32 sd) xs)) := by
  obtain ⟨i0, hi0, hz0, hz1, hz2⟩ := info_parts infoFloat32A2
  have kL := fun W => c_l07Low lx ly sd W
  have u0 := heap_alloc_new w (.cells #[.float .f32 lx, .float .f32 ly] 55)
  have hst : Stays w (w.alloc (.cells #[.float .f32 lx, .float .f32 ly] 55)) := by (repeat (first | exact Stays.refl _ | (with_reducible refine Stays.drewN ?_ _) | (with_reducible refine Stays.alloc ?_ _) | (with_reducible refine Stays.drew ?_) | (refine Stays.trans ?_ ‹Stays _ _›)))
  have HC := Lib.hid fun W (h : Stays (w.alloc (.cells #[.float .f32 lx, .float .f32 ly] 55)) W) => (show W.cell? ⟨w.heap.size, 0, none⟩ = some (.float .f32 lx) ∧ W.cell? ⟨w.heap.size, 1, none⟩ = some (.float .f32 ly) from ⟨row_of h u0 0, row_of h u0 1⟩)
  have hE : Hid ((w.alloc (.cells #[.float .f32 lx, .float .f32 ly] 55)).heap.size = w.heap.size + 1) := Lib.hid (by simp)
  have HX := Lib.hid fun W (hW : Stays (w.alloc (.cells #[.float .f32 lx, .float .f32 ly] 55)) W) => h.below (hst.trans hW)
  replace hst := Lib.hid hst
  have hE0 : (w.alloc (.cells #[.float .f32 lx, .float .f32 ly] 55)).heap.size = w.heap.size + 1 := hE.out
  unfold poC poX poB
  clear u0 h
  cases hf : ((finB (can .f32 lx) && finB (can .f32 ly)) && finB (can .f32 sd)) with
  | false =>
    rw [hf] at kL
    replace kL := Lib.hid kL
    simp only [Bool.false_and, Bool.false_eq_true, if_false]
    clear hf HX
    go_enter Try.func34, Try.ntmps34
    obtain ⟨q0, q1⟩ := HC.out _ (Stays.refl _)
    go_wp2_with fail
    refine (kL.out _).mono ?_
    rintro e w1 ⟨rfl, hb⟩
    replace hb := Lib.hid (hst.out.trans hb)
    go_wp2
    go_ret2
    exact GrowL.pdone (GrowL.made KFloat32A2 2 55 (B := w1.heap.size) (H := w1.heap.size) w1 rfl (Nat.le_refl _) #[] 0 (Nat.zero_le _) rfl) hb.out.size (hb.out.trans (by (repeat (first | exact Stays.refl _ | (with_reducible refine Stays.drewN ?_ _) | (with_reducible refine Stays.alloc ?_ _) | (with_reducible refine Stays.drew ?_) | (refine Stays.trans ?_ ‹Stays _ _›))))) 2
  | true =>
    rw [hf] at kL
    replace kL := Lib.hid kL
    clear hf
    by_cases hlen : xs.length ≤ 600
    · rw [if_pos (by simp [hlen]), if_pos (by simp [hlen])]
      have hl1 : ¬ ((600 : Int) < (xs.length : Int)) := by omega
      go_enter Try.func34, Try.ntmps34
      obtain ⟨q0, q1⟩ := HC.out _ (Stays.refl _)
      go_wp2_with fail
      refine (kL.out _).mono ?_
      rintro e w1 ⟨rfl, hb⟩
      replace hb := Lib.hid (show Stays (w.alloc (.cells #[.float .f32 lx, .float .f32 ly] 55)) w1 from hb)
      have hsz1 : Hid (w.heap.size + 1 ≤ w1.heap.size) := Lib.hid (by have := hb.out.size; omega)
      have hgA := Lib.hid (GrowL.made KFloat32A2 2 55 (B := w.heap.size + 1) (H := w1.heap.size) w1 rfl hsz1.out #[] 0 (Nat.zero_le _) rfl)
      have hsA := Lib.hid (hb.out.trans (show Stays w1 (w1.alloc (.cells #[] 55)) from by (repeat (first | exact Stays.refl _ | (with_reducible refine Stays.drewN ?_ _) | (with_reducible refine Stays.alloc ?_ _) | (with_reducible refine Stays.drew ?_) | (refine Stays.trans ?_ ‹Stays _ _›)))))
      clear q0 q1
      go_wp2
      go_loopw [8, 9] (fun v i wr => ∃ (k : Nat) (ao : Option Addr) (cv : Nat), k ≤ xs.length ∧ i = .int .i64 (k : Nat) ∧ v = .slice ao k cv ∧ Hid (GrowL KFloat32A2 2 55 (w.heap.size + 1) wr v (poL (can .f32 lx) (can .f32 ly) (can .f32 sd) (xs.take k))) ∧ Hid (Stays (w.alloc (.cells #[.float .f32 lx, .float .f32 ly] 55)) wr)) (fun _ i _ => xs.length - (intOf i).toNat)
      case atStart => exact ⟨0, _, _, Nat.zero_le _, rfl, rfl, hgA, hsA⟩
      case round =>
        obtain ⟨k, ao, cv, hk, rfl, rfl, hg, hb0⟩ := hrel
        by_cases hlt : k < xs.length
        · have hlt' : (k : Int) < (xs.length : Int) := by omega
          obtain ⟨ad, rfl, hbl, hrow⟩ := (HX.out wr hb0.out) k xs[k] (List.getElem?_eq_getElem hlt)
          have hnx := po_take (ox := can .f32 lx) (oy := can .f32 ly) (os := can .f32 sd) (List.getElem?_eq_getElem hlt)
          have hpl := poL_len (can .f32 lx) (can .f32 ly) (can .f32 sd) xs k hk
          generalize xs[k] = m at hrow hnx
          replace hrow : RowAt KSpot wr (ad.add (k * 2)) m := hrow
          obtain ⟨c0, c1, hK, g0, g1⟩ := row2 rfl hrow
          obtain ⟨rfl, rfl⟩ := sp_cells hK
          have hbk : (ad.add (k * 2)).block < wr.heap.size := by rw [block_add]; have := hb0.out.size; omega
          have hrows := Lib.hid fun W (hW : Stays wr W) => (show W.cell? (ad.add (k * 2)) = some (.int .i16 (sx m)) ∧ W.cell? ⟨(ad.add (k * 2)).block, (ad.add (k * 2)).off + 1, none⟩ = some (.int .i16 (sy m)) from ⟨(hW.cell (p := ad.add (k * 2)) hbk).trans g0, (hW.cell (p := ⟨(ad.add (k * 2)).block, (ad.add (k * 2)).off + 1, none⟩) hbk).trans g1⟩)
          have hcells : ∀ W, Stays wr W → (W.cell? ⟨w.heap.size, 0, none⟩ = some (.float .f32 lx) ∧ W.cell? ⟨w.heap.size, 1, none⟩ = some (.float .f32 ly)) ∧ W.cell? (ad.add (k * 2)) = some (.int .i16 (sx m)) ∧ W.cell? ⟨(ad.add (k * 2)).block, (ad.add (k * 2)).off + 1, none⟩ = some (.int .i16 (sy m)) := fun W hW => ⟨HC.out W (hb0.out.trans hW), hrows.out W hW⟩
          clear hrow hK g0 g1 hbk
          replace hnx := Lib.hid hnx
          go_wp2_with fail
          refine wp_region_soft_tail 12 (Stays.refl _) (fun _ _ _ => False) [] (by kernel_rfl) (by kernel_rfl) (fun _ h => by cases h) ?_
          simp only [List.take_succ_cons, List.take_zero, List.drop_succ_cons, List.drop_zero]
          repeat ((with_reducible apply soft_detG); (case hwa => rfl); (case hA => rfl); (case h => (intro w1 hw1; have hc := hcells w1 hw1; go_simp; exact rfl)); go_simp)
          ((with_reducible refine soft_fop rfl ?hA _ _ _ _ _ rfl rfl _ _ _ rfl rfl ?_); (case hA => rfl); intro r1 hr1; go_simp)
          ((with_reducible refine soft_fop rfl ?hA _ _ _ _ _ rfl rfl _ _ _ rfl rfl ?_); (case hA => rfl); intro r2 hr2; go_simp)
          ((with_reducible refine soft_fop rfl ?hA _ _ _ _ _ rfl rfl _ _ _ rfl rfl ?_); (case hA => rfl); intro r3 hr3; go_simp)
          refine soft_nil ?_
          rintro w2 ⟨hw2, _⟩
          have hpx := Lib.hid (show FIs .f32 r3 (posO (can .f32 lx) (can .f32 sd) (sx m)) from hr3.of_eq (by unfold posO; rw [hr2.out, hr1.out]))
          have hb2 := Lib.hid (hb0.out.trans hw2)
          have hg2 := Lib.hid (hg.out.stays hw2)
          replace hw2 := Lib.hid hw2
          have hrows2 := Lib.hid fun W (hW : Stays w2 W) => hrows.out W (hw2.out.trans hW)
          clear hr1 hr2 hr3 hcells hb0 hg hrows
          have hcells : ∀ W, Stays w2 W → (W.cell? ⟨w.heap.size, 0, none⟩ = some (.float .f32 lx) ∧ W.cell? ⟨w.heap.size, 1, none⟩ = some (.float .f32 ly)) ∧ W.cell? (ad.add (k * 2)) = some (.int .i16 (sx m)) ∧ W.cell? ⟨(ad.add (k * 2)).block, (ad.add (k * 2)).off + 1, none⟩ = some (.int .i16 (sy m)) := fun W hW => ⟨HC.out W (hb2.out.trans hW), hrows2.out W hW⟩
          go_wp2_with fail
          refine wp_region_soft_tail 12 (Stays.refl _) (fun _ _ _ => False) [] (by kernel_rfl) (by kernel_rfl) (fun _ h => by cases h) ?_
          simp only [List.take_succ_cons, List.take_zero, List.drop_succ_cons, List.drop_zero]
          repeat ((with_reducible apply soft_detG); (case hwa => rfl); (case hA => rfl); (case h => (intro w1 hw1; have hc := hcells w1 hw1; go_simp; exact rfl)); go_simp)
          ((with_reducible refine soft_fop rfl ?hA _ _ _ _ _ rfl rfl _ _ _ rfl rfl ?_); (case hA => rfl); intro r4 hr4; go_simp)
          ((with_reducible refine soft_fop rfl ?hA _ _ _ _ _ rfl rfl _ _ _ rfl rfl ?_); (case hA => rfl); intro r5 hr5; go_simp)
          ((with_reducible refine soft_fop rfl ?hA _ _ _ _ _ rfl rfl _ _ _ rfl rfl ?_); (case hA => rfl); intro r6 hr6; go_simp)
          refine soft_nil ?_
          rintro w3 ⟨hw3, _⟩
          have hpy := Lib.hid (show FIs .f32 r6 (posO (can .f32 ly) (can .f32 sd) (sy m)) from hr6.of_eq (by unfold posO; rw [hr5.out, hr4.out]))
          have hb3 := Lib.hid (hb2.out.trans hw3)
          have hg3 := hg2.out.stays hw3
          obtain ⟨css, hown, hin⟩ := hg3.own
          rw [hpl] at hown
          replace hown := Lib.hid hown
          replace hin := Lib.hid hin
          have hsz3 : w.heap.size + 1 ≤ w3.heap.size := by have := hb3.out.size; omega
          have hb4 := Lib.hid (show Below (w.heap.size + 1) (w.alloc (.cells #[.float .f32 lx, .float .f32 ly] 55)) w3 from by have h := hb3.out; unfold Stays at h; rw [hE.out] at h; exact h)
          clear hr4 hr5 hr6 hcells hb2 hg2 hg3 hw3 hrows2 hb3
          have et : IntKind.i64.wrap ((k : Int) + 1) = (k : Int) + 1 := IntWalk.i64_in _ (by omega)
          have hkm : k < 600 := by omega
          go_wp2_with (at_builtin; go_loud (refine wpList_append_own _ rfl _ _ 56 rfl (w.heap.size + 1) 55 i0 (.agg #[.float .f32 0, .float .f32 0]) 2 8 Try.underlying56 hi0 hz0 hz1 hz2 rfl (by decide) _ _ _ rfl (hown.out.alloc _) ⟨w3.heap.size, 0, none⟩ 1 1 [.float .f32 r3, .float .f32 r6] rfl rfl (World.news_of_block (heap_alloc_new w3 _)) (by simp [Value.oneCell']) (by unfold maxLen; omega) (by omega) (by simp; omega) ?_); intro v' w4 hown1 hgrow _)
          have hg4 := GrowL.more (xs := poL (can .f32 lx) (can .f32 ly) (can .f32 sd) (xs.take k)) (c := [.float .f32 r3, .float .f32 r6]) (m := poRow (can .f32 lx) (can .f32 ly) (can .f32 sd) m) (by rw [hpl]; exact hown1) hin.out ⟨⟨r3, rfl, hpx.out⟩, ⟨r6, rfl, hpy.out⟩, trivial⟩
          have hb5 := Lib.hid ((hb4.out.alloc hsz3 _).grown hgrow (Nat.le_trans hsz3 (by simp)) (fun q hq => (hown.out.lt q hq).1))
          obtain ⟨ao', cv', hv⟩ := hg4.form
          rw [List.length_append, hpl, List.length_cons, List.length_nil, Nat.zero_add] at hv
          subst hv
          replace hg4 := Lib.hid hg4
          clear hown1 hgrow
          go_round
          case rel => exact ⟨k + 1, _, _, by omega, by go_num, rfl, by rw [hnx.out]; exact hg4, Lib.hid (by unfold Stays; rw [hE.out]; exact hb5.out)⟩
          case measure => simp [intOf]; omega
        · obtain rfl : k = xs.length := by omega
          rw [List.take_length] at hg
          have hpl := poL_len (can .f32 lx) (can .f32 ly) (can .f32 sd) xs xs.length (Nat.le_refl _)
          rw [List.take_length] at hpl
          have hs := Lib.hid (hst.out.trans hb0.out)
          replace hpl := Lib.hid hpl
          go_wp2
          go_ret2
          exact GrowL.pdone hg.out (by omega) hs.out 0
    · rw [if_neg (by simp [hlen]), if_neg (by simp [hlen])]
      have hl1 : (600 : Int) < (xs.length : Int) := by omega
      clear HX
      go_enter Try.func34, Try.ntmps34
      obtain ⟨q0, q1⟩ := HC.out _ (Stays.refl _)
      go_wp2_with fail
      refine (kL.out _).mono ?_
      rintro e w1 ⟨rfl, hb⟩
      replace hb := Lib.hid (hst.out.trans hb)
      go_wp2
      go_ret2
      exact GrowL.pdone (GrowL.made KFloat32A2 2 55 (B := w1.heap.size) (H := w1.heap.size) w1 rfl (Nat.le_refl _) #[] 0 (Nat.zero_le _) rfl) hb.out.size (hb.out.trans (by (repeat (first | exact Stays.refl _ | (with_reducible refine Stays.drewN ?_ _) | (with_reducible refine Stays.alloc ?_ _) | (with_reducible refine Stays.drew ?_) | (refine Stays.trans ?_ ‹Stays _ _›))))) 2
end Go.Proofs.Yteidjmliepmlmaa

namespace Go.Proofs.Yteidjmliepmlmaa
open Go Go.ChangeShapes Go.WideShapes Go.RowKit
set_option linter.unusedVariables false
set_option linter.unusedSimpArgs false

set_option maxRecDepth 100000 in
set_option maxHeartbeats 1000000 in
theorem c_areFinite2 (g x y : Nat) (w : World) (h : ∀ w1, Stays w w1 → w1.cell? ⟨g, 0, none⟩ = some (.float .f32 x) ∧ w1.cell? ⟨g, 1, none⟩ = some (.float .f32 y)) :
    Calls Try.prog 74 #[.slice (some ⟨g, 0, none⟩) 2 2] w fun e w' => e = .returned (.bool (finB (can .f32 x) && finB (can .f32 y))) ∧ Stays w w' := by
  have H := Lib.hid h
  have k0 := Lib.hid fun W => c_isFinite x W
  have k1 := Lib.hid fun W => c_isFinite y W
  clear h
  obtain ⟨q0, q1⟩ := H.out w (Stays.refl w)
  cases hx0 : finB (can .f32 x) with
  | false =>
    rw [hx0] at k0
    clear hx0
    go_enter Try.func74, Try.ntmps74
    go_wp2
    refine wp_loop_rounds 1 ?_
    rw [rounds_succ]
    go_wp2_with (go_at_call 75; refine (k0.out _).mono ?_; rintro e w1 ⟨rfl, hw1⟩)
    go_ret
    exact ⟨rfl, hw1⟩
  | true =>
    rw [hx0] at k0
    clear hx0
    generalize finB (can .f32 y) = b at k1 ⊢
    cases b
    all_goals
      go_enter Try.func74, Try.ntmps74
      go_wp2
      refine wp_loop_rounds 3 ?_
      rw [rounds_succ]
      go_wp2_with fail
      refine (k0.out _).mono ?_
      rintro e w1 ⟨rfl, hw1⟩
      clear q0 q1
      obtain ⟨q0, q1⟩ := H.out w1 hw1
      replace hw1 := Lib.hid hw1
      go_wp2
      rw [rounds_succ]
      go_wp2_with fail
      refine (k1.out _).mono ?_
      rintro e w2 ⟨rfl, hw2⟩
      replace hw2 := Lib.hid (hw1.out.trans hw2)
      go_wp2
      try rw [rounds_succ]
      try go_wp2
      go_ret
      exact ⟨rfl, hw2.out⟩


/-- Numbers that are stored one by one into a block of one's own. -/
structure FillP (w wr : World) (g n : Nat) (φ : Nat → Option Nat) (d : Nat) : Prop where
  st : Stays w wr
  ge : w.heap.size ≤ g
  lt : g < wr.heap.size
  there : wr.there g 0 (n * 2)
  cells : ∀ j, j < d → ∃ r, wr.cell? ⟨g, j, none⟩ = some (.float .f32 r) ∧ FIs .f32 r (φ j)

theorem FillP.next {w wr : World} {g n d : Nat} {φ : Nat → Option Nat} (h : FillP w wr g n φ d) (hd : d < n * 2) {r : Nat} (hr : FIs .f32 r (φ d)) : FillP w (wr.setCell ⟨g, d, none⟩ (.float .f32 r)) g n φ (d + 1) := by
  refine ⟨Below.setCell (show Below w.heap.size w wr from h.st) h.ge _, h.ge, by simp [World.setCell]; exact h.lt, World.there_setCells h.there g d [_], fun j hj => ?_⟩
  by_cases e : j = d
  · subst e
    have := World.rangeAt_setCells_same wr g j [.float .f32 r] (there_part h.there _ _ (by show j + 1 ≤ _; omega))
    exact ⟨r, this 0 _ rfl, hr⟩
  · obtain ⟨r', hc, hf⟩ := h.cells j (by omega)
    have hq : wr.rangeAt g j [.float .f32 r'] := fun m u hu => by
      cases m with
      | zero => cases hu; exact hc
      | succ m => simp at hu
    exact ⟨r', World.rangeAt_setCells_apart hq g d [_] (Or.inr (Or.inl (by show j + 1 ≤ d; omega))) 0 _ rfl, hf⟩

theorem FillP.on {w wr w' : World} {g n d : Nat} {φ : Nat → Option Nat} (h : FillP w wr g n φ d) (hb : Stays wr w') : FillP w w' g n φ d :=
  ⟨h.st.trans hb, h.ge, Nat.lt_of_lt_of_le h.lt hb.size, there_below h.there hb h.lt, fun j hj => by
    obtain ⟨r, hc, hf⟩ := h.cells j hj
    exact ⟨r, (hb.cell (p := ⟨g, j, none⟩) h.lt).trans hc, hf⟩⟩

theorem FillP.free {w wr : World} {g n d : Nat} {φ : Nat → Option Nat} (h : FillP w wr g n φ d) {j : Nat} (hj : j < n * 2) : ∃ u, wr.cell? ⟨g, j, none⟩ = some u ∧ wr.frozen? ⟨g, j, none⟩ = false := by
  have ht := (there_part h.there j 1 (by omega)) 0 (by omega)
  obtain ⟨u, hu⟩ := Option.isSome_iff_exists.1 ht.1
  exact ⟨u, hu, ht.2⟩

noncomputable def poF (ox oy os : Option Nat) (xs : List (List NV)) (j : Nat) : Option Nat :=
  match xs[j / 2]? with
  | some m => if j % 2 = 0 then posO ox os (sx m) else posO oy os (sy m)
  | none => none

theorem poF_0 {ox oy os : Option Nat} {xs : List (List NV)} {k : Nat} {m : List NV} (h : xs[k]? = some m) : poF ox oy os xs (k * 2) = posO ox os (sx m) := by
  unfold poF
  rw [show k * 2 / 2 = k by omega, h]
  show (if k * 2 % 2 = 0 then _ else _) = _
  rw [if_pos (by omega)]
theorem poF_1 {ox oy os : Option Nat} {xs : List (List NV)} {k : Nat} {m : List NV} (h : xs[k]? = some m) : poF ox oy os xs (k * 2 + 1) = posO oy os (sy m) := by
  unfold poF
  rw [show (k * 2 + 1) / 2 = k by omega, h]
  show (if (k * 2 + 1) % 2 = 0 then _ else _) = _
  rw [if_neg (by omega)]

theorem FillP.lies {w wr : World} {g : Nat} {ox oy os : Option Nat} {xs : List (List NV)} (h : FillP w wr g xs.length (poF ox oy os xs) (xs.length * 2)) : LiesL KFloat32A2 2 wr g (.slice (some ⟨g, 0, none⟩) (poL ox oy os xs).length xs.length) (poL ox oy os xs) := by
  have hl : (poL ox oy os xs).length = xs.length := List.length_map ..
  refine ⟨some ⟨g, 0, none⟩, xs.length, rfl, fun _ => ⟨rfl, h.lt, by rw [hl]; exact h.there, fun i r hr => ?_⟩⟩
  unfold poL at hr
  rw [List.getElem?_map, Option.map_eq_some_iff] at hr
  obtain ⟨m, hm, rfl⟩ := hr
  have hi := (List.getElem?_eq_some_iff.1 hm).1
  obtain ⟨r1, c1, f1⟩ := h.cells (i * 2) (by omega)
  obtain ⟨r2, c2, f2⟩ := h.cells (i * 2 + 1) (by omega)
  rw [poF_0 hm] at f1
  rw [poF_1 hm] at f2
  refine ⟨[.float .f32 r1, .float .f32 r2], ⟨⟨r1, rfl, f1⟩, ⟨r2, rfl, f2⟩, trivial⟩, fun j u hu => ?_⟩
  match j, hu with
  | 0, hu => cases hu; exact c1
  | 1, hu => cases hu; exact c2

set_option maxRecDepth 100000 in
set_option maxHeartbeats 4000000 in
theorem c_implPO (A : Option Addr) (c : Nat) (xs : List (List NV)) (lx ly sd : Nat) (w : World) (h : Ls KSpot 2 w w.heap.size A xs) (hn : xs.length ≤ 1048576) :
    Calls Try.prog 36 #[.slice A xs.length c, .agg #[.float .f32 lx, .float .f32 ly], .float .f32 sd] w (PDone w (poC (can .f32 lx) (can .f32 ly) (can .f32 sd) xs.length) (poX (can .f32 lx) (can .f32 ly) (can .f32 sd) xs)) := by
  obtain ⟨i0, hi0, hz0, hz1, hz2⟩ := info_parts infoFloat32A2
  have hmk : ∀ u : World, (Instr.makeSlice 56 (.int .i64 (xs.length : Nat)) (.int .i64 (xs.length : Nat))).run Try.prog u = .ok (.slice (some ⟨u.heap.size, 0, none⟩) xs.length xs.length) (u.alloc (.cells (madeCells (Value.agg #[.float .f32 0, .float .f32 0]).cells (xs.length * 2)) 55)) := fun u => by
    have := run_make (P := Try.prog) u 56 55 i0 _ Try.underlying56 hi0 hz0 .i64 .i64 (xs.length : Nat) (xs.length : Nat) (by omega) (Int.le_refl _) (by rw [hz2]; omega) (by omega)
    simpa [hz1] using this
  have u0 := heap_alloc_new w (.cells #[.float .f32 lx, .float .f32 ly] 55)
  have hst : Stays w (w.alloc (.cells #[.float .f32 lx, .float .f32 ly] 55)) := by (repeat (first | exact Stays.refl _ | (with_reducible refine Stays.drewN ?_ _) | (with_reducible refine Stays.alloc ?_ _) | (with_reducible refine Stays.drew ?_) | (refine Stays.trans ?_ ‹Stays _ _›)))
  have HC := Lib.hid fun W (h : Stays (w.alloc (.cells #[.float .f32 lx, .float .f32 ly] 55)) W) => (show W.cell? ⟨w.heap.size, 0, none⟩ = some (.float .f32 lx) ∧ W.cell? ⟨w.heap.size, 1, none⟩ = some (.float .f32 ly) from ⟨row_of h u0 0, row_of h u0 1⟩)
  have kA := c_areFinite2 w.heap.size lx ly (w.alloc (.cells #[.float .f32 lx, .float .f32 ly] 55)) fun W h => HC.out W h
  have kS := fun W => c_isFinite sd W
  have HX := Lib.hid fun W (hW : Stays (w.alloc (.cells #[.float .f32 lx, .float .f32 ly] 55)) W) => h.below (hst.trans hW)
  have hnil : PDone w 2 [] (.returned (.tuple #[.slice none 0 0, .int .i64 2])) w → ∀ W, Stays w W → PDone w 2 [] (.returned (.tuple #[.slice none 0 0, .int .i64 2])) W := fun _ W hW => ⟨w.heap.size, none, 0, rfl, hW, Nat.le_refl _, none, 0, rfl, fun h => absurd rfl h⟩
  replace hnil := Lib.hid (hnil ⟨w.heap.size, none, 0, rfl, Stays.refl _, Nat.le_refl _, none, 0, rfl, fun h => absurd rfl h⟩)
  replace hst := Lib.hid hst
  unfold poC poX poB
  clear u0 h
  cases hf : (finB (can .f32 lx) && finB (can .f32 ly)) with
  | false =>
    rw [hf] at kA
    replace kA := Lib.hid kA
    simp only [Bool.false_and, Bool.false_eq_true, if_false]
    clear hf HX kS
    go_enter Try.func36, Try.ntmps36
    go_wp2_with fail
    refine kA.out.mono ?_
    rintro e w1 ⟨rfl, hb⟩
    replace hb := Lib.hid (hst.out.trans hb)
    go_wp2
    go_ret2
    exact hnil.out _ hb.out
  | true =>
    rw [hf] at kA
    replace kA := Lib.hid kA
    clear hf
    cases hf2 : finB (can .f32 sd) with
    | false =>
      rw [hf2] at kS
      replace kS := Lib.hid kS
      simp only [Bool.and_false, Bool.false_and, Bool.false_eq_true, if_false]
      clear hf2 HX
      go_enter Try.func36, Try.ntmps36
      go_wp2_with fail
      refine kA.out.mono ?_
      rintro e w1 ⟨rfl, hb⟩
      replace hb := Lib.hid (hst.out.trans hb)
      go_wp2_with fail
      refine (kS.out _).mono ?_
      rintro e w2 ⟨rfl, hb2⟩
      replace hb2 := Lib.hid (hb.out.trans hb2)
      go_wp2
      go_ret2
      exact hnil.out _ hb2.out
    | true =>
      rw [hf2] at kS
      replace kS := Lib.hid kS
      clear hf2
      by_cases hlen : xs.length ≤ 600
      · rw [if_pos (by simp [hlen]), if_pos (by simp [hlen])]
        have hl1 : ¬ ((600 : Int) < (xs.length : Int)) := by omega
        go_enter Try.func36, Try.ntmps36
        go_wp2_with fail
        refine kA.out.mono ?_
        rintro e w1 ⟨rfl, hb⟩
        replace hb := Lib.hid (show Stays (w.alloc (.cells #[.float .f32 lx, .float .f32 ly] 55)) w1 from hb)
        go_wp2_with fail
        refine (kS.out _).mono ?_
        rintro e w2 ⟨rfl, hb2⟩
        replace hb2 := Lib.hid (show Stays (w.alloc (.cells #[.float .f32 lx, .float .f32 ly] 55)) w2 from hb.out.trans hb2)
        clear hb kS kA
        go_wp2
        have hfi := Lib.hid (show FillP (w.alloc (.cells #[.float .f32 lx, .float .f32 ly] 55)) (w2.alloc (.cells (madeCells #[.float .f32 0, .float .f32 0] (xs.length * 2)) 55)) w2.heap.size xs.length (poF (can .f32 lx) (can .f32 ly) (can .f32 sd) xs) (0 * 2) from ⟨hb2.out.trans (by (repeat (first | exact Stays.refl _ | (with_reducible refine Stays.drewN ?_ _) | (with_reducible refine Stays.alloc ?_ _) | (with_reducible refine Stays.drew ?_) | (refine Stays.trans ?_ ‹Stays _ _›)))), hb2.out.size, in_heap (heap_alloc_new w2 _), made_there w2 #[.float .f32 0, .float .f32 0] (xs.length * 2) 55, fun j hj => by omega⟩)
        generalize (w2.alloc (.cells (madeCells #[.float .f32 0, .float .f32 0] (xs.length * 2)) 55)) = W2 at hfi ⊢
        generalize w2.heap.size = g at hfi ⊢
        go_loopw [31] (fun i wr => ∃ k : Nat, k ≤ xs.length ∧ i = .int .i64 (k : Nat) ∧ Hid (FillP (w.alloc (.cells #[.float .f32 lx, .float .f32 ly] 55)) wr g xs.length (poF (can .f32 lx) (can .f32 ly) (can .f32 sd) xs) (k * 2))) (fun i _ => xs.length - (intOf i).toNat)
        case atStart => exact ⟨0, Nat.zero_le _, rfl, hfi⟩
        case round =>
          obtain ⟨k, hk, rfl, hP⟩ := hrel
          by_cases hlt : k < xs.length
          · have hlt' : (k : Int) < (xs.length : Int) := by omega
            obtain ⟨ad, rfl, hbl, hrow⟩ := (HX.out wr hP.out.st) k xs[k] (List.getElem?_eq_getElem hlt)
            have hp0 := Lib.hid (poF_0 (ox := can .f32 lx) (oy := can .f32 ly) (os := can .f32 sd) (List.getElem?_eq_getElem hlt))
            have hp1 := Lib.hid (poF_1 (ox := can .f32 lx) (oy := can .f32 ly) (os := can .f32 sd) (List.getElem?_eq_getElem hlt))
            generalize xs[k] = m at hrow hp0 hp1
            replace hrow : RowAt KSpot wr (ad.add (k * 2)) m := hrow
            obtain ⟨c0, c1, hK, g0, g1⟩ := row2 rfl hrow
            obtain ⟨rfl, rfl⟩ := sp_cells hK
            generalize sx m = x at g0 g1 hp0
            generalize sy m = y at g0 g1 hp1
            clear hrow hK
            go_wp2
            have hP3 := Lib.hid (hP.out.on (show Stays wr (wr.alloc (.cells #[.int .i16 x, .int .i16 y] 32)) from by (repeat (first | exact Stays.refl _ | (with_reducible refine Stays.drewN ?_ _) | (with_reducible refine Stays.alloc ?_ _) | (with_reducible refine Stays.drew ?_) | (refine Stays.trans ?_ ‹Stays _ _›)))))
            generalize (wr.alloc (.cells #[.int .i16 x, .int .i16 y] 32)) = W3 at hP3 ⊢
            clear g0 g1 hP hbl
            have hcells : ∀ W, Stays W3 W → W.cell? ⟨w.heap.size, 0, none⟩ = some (.float .f32 lx) ∧ W.cell? ⟨w.heap.size, 1, none⟩ = some (.float .f32 ly) := fun W hW => HC.out W (hP3.out.st.trans hW)
            have et : IntKind.i64.wrap ((k : Int) + 1) = (k : Int) + 1 := IntWalk.i64_in _ (by omega)
            have ei0 : ∀ W, (Instr.index 32 (.agg #[.int .i16 x, .int .i16 y]) (.int .i64 0)).run Try.prog W = .ok (.int .i16 x) W := fun _ => by kernel_rfl
            have ei1 : ∀ W, (Instr.index 32 (.agg #[.int .i16 x, .int .i16 y]) (.int .i64 1)).run Try.prog W = .ok (.int .i16 y) W := fun _ => by kernel_rfl
            refine wp_loop_rounds 3 ?_
            rw [rounds_succ]
            go_wp2_with fail
            refine wp_region_soft_tail 14 (Stays.refl _) (fun _ _ _ => False) [] (by kernel_rfl) (by kernel_rfl) (fun _ h => by cases h) ?_
            simp only [List.take_succ_cons, List.take_zero, List.drop_succ_cons, List.drop_zero]
            repeat ((with_reducible apply soft_detG); (case hwa => rfl); (case hA => rfl); (case h => (intro w1 hw1; have hc := hcells w1 hw1; go_simp; exact rfl)); go_simp)
            ((with_reducible refine soft_fop rfl ?hA _ _ _ _ _ rfl rfl _ _ _ rfl rfl ?_); (case hA => rfl); intro r1 hr1; go_simp)
            ((with_reducible refine soft_fop rfl ?hA _ _ _ _ _ rfl rfl _ _ _ rfl rfl ?_); (case hA => rfl); intro r2 hr2; go_simp)
            ((with_reducible refine soft_fop rfl ?hA _ _ _ _ _ rfl rfl _ _ _ rfl rfl ?_); (case hA => rfl); intro r3 hr3; go_simp)
            repeat ((with_reducible apply soft_detG); (case hwa => rfl); (case hA => rfl); (case h => (intro w1 hw1; have hc := hcells w1 hw1; go_simp; exact rfl)); go_simp)
            refine soft_nil ?_
            rintro w4 ⟨hw4, _⟩
            have hP4 := hP3.out.on hw4
            obtain ⟨u, hu, hf⟩ := hP4.free (j := k * 2) (by omega)
            have hP5 := Lib.hid (hP4.next (by omega) (r := r3) (hr3.of_eq (by rw [hp0.out]; unfold posO; rw [hr2.out, hr1.out])))
            clear hr1 hr2 hr3 hP4 hw4 hP3 hcells
            go_wp2
            rw [rounds_succ]
            have hcells : ∀ W, Stays (w4.setCell ⟨g, k * 2, none⟩ (.float .f32 r3)) W → W.cell? ⟨w.heap.size, 0, none⟩ = some (.float .f32 lx) ∧ W.cell? ⟨w.heap.size, 1, none⟩ = some (.float .f32 ly) := fun W hW => HC.out W (hP5.out.st.trans hW)
            clear hu hf
            generalize w4.setCell ⟨g, k * 2, none⟩ (.float .f32 r3) = W5 at hP5 hcells ⊢
            go_wp2_with fail
            refine wp_region_soft_tail 14 (Stays.refl _) (fun _ _ _ => False) [] (by kernel_rfl) (by kernel_rfl) (fun _ h => by cases h) ?_
            simp only [List.take_succ_cons, List.take_zero, List.drop_succ_cons, List.drop_zero]
            repeat ((with_reducible apply soft_detG); (case hwa => rfl); (case hA => rfl); (case h => (intro w1 hw1; have hc := hcells w1 hw1; go_simp; exact rfl)); go_simp)
            ((with_reducible refine soft_fop rfl ?hA _ _ _ _ _ rfl rfl _ _ _ rfl rfl ?_); (case hA => rfl); intro r4 hr4; go_simp)
            ((with_reducible refine soft_fop rfl ?hA _ _ _ _ _ rfl rfl _ _ _ rfl rfl ?_); (case hA => rfl); intro r5 hr5; go_simp)
            ((with_reducible refine soft_fop rfl ?hA _ _ _ _ _ rfl rfl _ _ _ rfl rfl ?_); (case hA => rfl); intro r6 hr6; go_simp)
            repeat ((with_reducible apply soft_detG); (case hwa => rfl); (case hA => rfl); (case h => (intro w1 hw1; have hc := hcells w1 hw1; go_simp; exact rfl)); go_simp)
            refine soft_nil ?_
            rintro w6 ⟨hw6, _⟩
            have hP6 := hP5.out.on hw6
            obtain ⟨u, hu, hf⟩ := hP6.free (j := k * 2 + 1) (by omega)
            have hP7 := Lib.hid (hP6.next (by omega) (r := r6) (hr6.of_eq (by rw [hp1.out]; unfold posO; rw [hr5.out, hr4.out])))
            clear hr4 hr5 hr6 hP6 hw6 hP5 hcells
            go_wp2
            rw [rounds_succ]
            go_wp2
            go_round
            case rel => exact ⟨k + 1, by omega, by go_num, by rw [show (k + 1) * 2 = k * 2 + 1 + 1 by omega]; exact hP7⟩
            case measure => simp [intOf]; omega
          · obtain rfl : k = xs.length := by omega
            have hL := Lib.hid hP.out.lies
            have hs := Lib.hid (hst.out.trans hP.out.st)
            have hge := Lib.hid hP.out.ge
            have hpl : (poL (can .f32 lx) (can .f32 ly) (can .f32 sd) xs).length = xs.length := List.length_map ..
            replace hpl := Lib.hid hpl
            clear hP
            go_wp2
            go_ret2
            refine ⟨g, some ⟨g, 0, none⟩, xs.length, ?_, hs.out, Nat.le_trans hst.out.size hge.out, hL.out⟩
            show Ending.returned (.tuple #[.slice (some ⟨g, 0, none⟩) xs.length xs.length, .int .i64 0]) = _
            rw [hpl.out]
      · rw [if_neg (by simp [hlen]), if_neg (by simp [hlen])]
        have hl1 : (600 : Int) < (xs.length : Int) := by omega
        clear HX
        go_enter Try.func36, Try.ntmps36
        go_wp2_with fail
        refine kA.out.mono ?_
        rintro e w1 ⟨rfl, hb⟩
        replace hb := Lib.hid (hst.out.trans hb)
        go_wp2_with fail
        refine (kS.out _).mono ?_
        rintro e w2 ⟨rfl, hb2⟩
        replace hb2 := Lib.hid (hb.out.trans hb2)
        go_wp2
        go_ret2
        exact hnil.out _ hb2.out
end Go.Proofs.Yteidjmliepmlmaa

namespace Go.Proofs.Yteidjmliepmlmaa
open Go Go.ChangeShapes Go.WideShapes Go.RowKit
set_option linter.unusedVariables false
set_option linter.unusedSimpArgs false

theorem rows_belowF {w w' : World} {g n : Nat} {k0 : Int} (h : ∀ j, j < n → w.rangeAt g (j * 2) (mrowFloat32A2 (k0 + 2 * (j : Nat)))) (hb : Stays w w') : ∀ j, j < n → w'.rangeAt g (j * 2) (mrowFloat32A2 (k0 + 2 * (j : Nat))) := fun j hj => by
  have hlt : g < w.heap.size := World.block_lt_of_cell? _ _ (h j hj 0 _ rfl)
  exact range_below (h j hj) hb hlt

theorem pair_cells {cs : List Value} {r : List NV} (h : KMs KFloat32A2 cs r) : ∃ x y n0 n1, cs = [.float .f32 x, .float .f32 y] ∧ r = [n0, n1] ∧ can .f32 x = NV.gf n0 ∧ can .f32 y = NV.gf n1 := by
  have hr := KMs_rlen h
  have hl := KMs_len h
  match cs, r, hl, hr, h with
  | [_, _], [n0, n1], _, _, ⟨⟨x, hx, hfx⟩, ⟨y, hy, hfy⟩, _⟩ =>
    subst hx hy
    exact ⟨x, y, n0, n1, rfl, rfl, hfx.out, hfy.out⟩

theorem poX_len (ox oy os : Option Nat) (xs : List (List NV)) : (poX ox oy os xs).length ≤ xs.length := by
  unfold poX
  split
  · exact Nat.le_of_eq (List.length_map ..)
  · exact Nat.zero_le _

theorem c_toSpotsL (A : Option Addr) (c : Nat) (xs : List (List NV)) (w : World) (h : Ls KSpot 2 w w.heap.size A xs) (hn : xs.length ≤ 1048576) :
    Calls Try.prog 23 #[.slice A xs.length c] w fun e w' => e = .returned (.slice (some ⟨w.heap.size, 0, none⟩) xs.length xs.length) ∧ Stays w w' ∧ LiesL KSpot 2 w' w.heap.size (.slice (some ⟨w.heap.size, 0, none⟩) xs.length xs.length) xs := by
  refine (c_toSpotS A c xs w h hn).mono ?_
  rintro e w' ⟨rfl, hp⟩
  exact ⟨rfl, hp.below, hp.lies⟩

theorem c_specPOV (A : Option Addr) (c : Nat) (xs : List (List NV)) (cs : Array Value) (n0 n1 : NV) (sd : Nat) (w : World) (h : Ls KSpot 2 w w.heap.size A xs) (hn : xs.length ≤ 1048576) (hk : KMs KFloat32A2 cs.toList [n0, n1]) :
    Calls Try.prog 34 #[.slice A xs.length c, .agg cs, .float .f32 sd] w (PDone w (poC n0.gf n1.gf (can .f32 sd) xs.length) (poX n0.gf n1.gf (can .f32 sd) xs)) := by
  obtain ⟨l⟩ := cs
  obtain ⟨x, y, m0, m1, e, er, hx, hy⟩ := pair_cells hk
  simp only at e
  subst e
  cases er
  rw [← hx, ← hy]
  exact c_specPO A c xs x y sd w h hn

theorem c_implPOV (A : Option Addr) (c : Nat) (xs : List (List NV)) (cs : Array Value) (n0 n1 : NV) (sd : Nat) (w : World) (h : Ls KSpot 2 w w.heap.size A xs) (hn : xs.length ≤ 1048576) (hk : KMs KFloat32A2 cs.toList [n0, n1]) :
    Calls Try.prog 36 #[.slice A xs.length c, .agg cs, .float .f32 sd] w (PDone w (poC n0.gf n1.gf (can .f32 sd) xs.length) (poX n0.gf n1.gf (can .f32 sd) xs)) := by
  obtain ⟨l⟩ := cs
  obtain ⟨x, y, m0, m1, e, er, hx, hy⟩ := pair_cells hk
  simp only at e
  subst e
  cases er
  rw [← hx, ← hy]
  exact c_implPO A c xs x y sd w h hn

theorem there_same {w w' : World} {g n : Nat} (h : w.there g 0 n) (hs : Same w w' g) : w'.there g 0 n := fun j hj => by
  obtain ⟨h1, h2⟩ := h j hj
  exact ⟨by rw [hs.cell _ rfl]; exact h1, (hs.frozen _ rfl).trans h2⟩

set_option maxRecDepth 100000 in
set_option maxHeartbeats 4000000 in
theorem c_lawPO (A : Option Addr) (c : Nat) (xs : List (List NV)) (cs : Array Value) (ns : List NV) (sd : Nat) (w : World) (h : Ls KSpot 2 w w.heap.size A xs) (hn : xs.length ≤ 9223372036854775807) (hk : KMs KFloat32A2 cs.toList ns) :
    Calls Try.prog 9 #[.slice A xs.length c, .agg cs, .float .f32 sd] w fun e w' => e = .returned (.bool true) ∧ Below w.heap.size w w' := by
  obtain ⟨l⟩ := cs
  obtain ⟨lx, ly, n0, n1, e, er, hox, hoy⟩ := pair_cells hk
  simp only at e
  subst e
  subst er
  have u0 := heap_alloc_new w (.cells #[.float .f32 lx, .float .f32 ly] 55)
  have hst : Stays w (w.alloc (.cells #[.float .f32 lx, .float .f32 ly] 55)) := by (repeat (first | exact Stays.refl _ | (with_reducible refine Stays.drewN ?_ _) | (with_reducible refine Stays.alloc ?_ _) | (with_reducible refine Stays.drew ?_) | (refine Stays.trans ?_ ‹Stays _ _›)))
  have HC := Lib.hid fun W (h : Stays (w.alloc (.cells #[.float .f32 lx, .float .f32 ly] 55)) W) => (show W.cell? ⟨w.heap.size, 0, none⟩ = some (.float .f32 lx) ∧ W.cell? ⟨w.heap.size, 1, none⟩ = some (.float .f32 ly) from ⟨row_of h u0 0, row_of h u0 1⟩)
  have HX := Lib.hid fun W (hW : Stays (w.alloc (.cells #[.float .f32 lx, .float .f32 ly] 55)) W) => (h.below (hst.trans hW)).more (hst.trans hW).size
  have hV := show ShM (.agg KFloat32A2) (.agg #[.float .f32 lx, .float .f32 ly]) [n0, n1] from ⟨_, rfl, hk⟩
  have kT := Lib.hid fun W => c_toFloat32A2 _ _ W hV
  have hsz := fun W => c_szSpotS A c xs.length 1048576 W hn (by omega) (by omega)
  have hlt0 := Lib.hid (show w.heap.size ≤ (w.alloc (.cells #[.float .f32 lx, .float .f32 ly] 55)).heap.size from hst.size)
  replace hst := Lib.hid hst
  clear u0 hV hk hox hoy h
  by_cases hl : (1048576 : Int) - xs.length < 0
  · simp only [if_pos hl] at hsz
    replace hsz := Lib.hid hsz
    clear HC HX kT hl
    go_enter Try.func9, Try.ntmps9
    go_wp2_with fail
    refine (hsz.out _).mono ?_
    rintro e w1 ⟨rfl, rfl⟩
    go_wp2
    go_ret
    exact ⟨rfl, hst.out⟩
  · simp only [if_neg hl] at hsz
    have hn' : xs.length ≤ 1048576 := by omega
    have hL : ¬ ((1048576 : Int) - xs.length < 0) := hl
    generalize (1048576 : Int) - xs.length = L at hL hsz
    replace hsz := Lib.hid hsz
    have kS := fun A c cs W h hk => c_specPOV A c xs cs n0 n1 sd W h hn' hk
    have kI := fun A c cs W h hk => c_implPOV A c xs cs n0 n1 sd W h hn' hk
    have kG := Lib.hid fun W (hW : Stays (w.alloc (.cells #[.float .f32 lx, .float .f32 ly] 55)) W) => c_toSpotsL A c xs W (HX.out W hW) hn'
    have hX := poX_len n0.gf n1.gf (can .f32 sd) xs
    generalize poX n0.gf n1.gf (can .f32 sd) xs = XS at kS kI hX
    generalize poC n0.gf n1.gf (can .f32 sd) xs.length = code at kS kI
    replace kS := Lib.hid kS
    replace kI := Lib.hid kI
    have hX' : XS.length ≤ 1048576 := Nat.le_trans hX hn'
    replace hX := Lib.hid hX
    clear hl hn HX
    go_enter Try.func9, Try.ntmps9
    go_wp2_with fail
    refine (hsz.out _).mono ?_
    rintro e w1 ⟨rfl, rfl⟩
    have ha := Lib.hid (Stays.refl (w.alloc (.cells #[.float .f32 lx, .float .f32 ly] 55)))
    clear hsz
    have ha' : Hid (∀ W, Stays (w.alloc (.cells #[.float .f32 lx, .float .f32 ly] 55)) W → Stays w W) := Lib.hid fun W hW => hst.out.trans hW
    go_wp2_with fail
    generalize (w.alloc (.cells #[.float .f32 lx, .float .f32 ly] 55)) = W0 at HC kG ha ha' hlt0 hst ⊢
    have G : Hid (∀ w', Stays W0 w' → (w'.cell? ⟨w.heap.size, 0, none⟩ = some (.float .f32 lx) ∧ w'.cell? ⟨w.heap.size, 1, none⟩ = some (.float .f32 ly)) ∧ Hid (Stays W0 w')) := Lib.hid fun w' h => ⟨HC.out w' h, Lib.hid h⟩
    have h5 := Lib.hid (show Stays W0 W0.drew from (Stays.refl W0).drew)
    go_region_held (fun w' => (w'.cell? ⟨w.heap.size, 0, none⟩ = some (.float .f32 lx) ∧ w'.cell? ⟨w.heap.size, 1, none⟩ = some (.float .f32 ly)) ∧ Hid (Stays W0 w')) (first | exact G.out _ h5.out | exact G.out _ h6.out | exact G.out _ h7.out | exact G.out _ h8.out)
      (first
        | (go_at_call 23; refine (kG.out _ h5.out).mono ?_; rintro e wa ⟨rfl, hb, hLa⟩; have h6 := Lib.hid (h5.out.trans hb); replace hLa := Lib.hid hLa; clear hb)
        | (go_at_call 35; refine (kT.out _).mono ?_; rintro e wb ⟨ca, rfl, hca, hb⟩; have h7 := Lib.hid (h6.out.trans hb); replace hLa := Lib.hid (LiesR.below hLa.out hb); replace hca := Lib.hid hca; clear hb)
        | (go_at_call 34; refine (kS.out _ _ ca wb hLa.out.rows hca.out).mono ?_; rintro e wc ⟨g0, A0, c0, rfl, hb, hge0, hL0⟩; have h8 := Lib.hid (h7.out.trans hb); replace hL0 := Lib.hid hL0; clear hb hge0))
    replace ha := Lib.hid (ha.out.trans h8.out)
    have o1 : Hid (W0.heap.size ≤ wc.heap.size) := Lib.hid ha.out.size
    have o2 : Hid (0 < XS.length → g0 < wc.heap.size) := Lib.hid (LiesL_lt hL0.out)
    clear G h5 h6 h7 h8 hLa hca
    go_wp2_with fail
    refine (kG.out _ ha.out).mono ?_
    rintro e w5 ⟨rfl, hb, hLx⟩
    have o3 : Hid (0 < xs.length → wc.heap.size < w5.heap.size) := Lib.hid (LiesL_lt hLx)
    have o4 : Hid (wc.heap.size ≤ w5.heap.size) := Lib.hid hb.size
    replace ha := Lib.hid (ha.out.trans hb)
    replace hL0 := Lib.hid (LiesR.below hL0.out hb)
    replace hLx := Lib.hid hLx
    clear hb
    obtain ⟨q0, q1⟩ := HC.out _ ha.out
    go_wp2_with fail
    refine (kT.out _).mono ?_
    rintro e w6 ⟨cb, rfl, hcb, hb⟩
    replace hb : Stays w5 w6 := hb
    have o5 : Hid (w5.heap.size ≤ w6.heap.size) := Lib.hid hb.size
    replace ha := Lib.hid (ha.out.trans hb)
    replace hL0 := Lib.hid (LiesR.below hL0.out hb)
    replace hLx := Lib.hid (LiesR.below hLx.out hb)
    replace hcb := Lib.hid hcb
    clear hb q0 q1
    go_wp2_with fail
    refine (kI.out _ _ cb w6 hLx.out.rows hcb.out).mono ?_
    rintro e w7 ⟨g1, A1, c1, rfl, hb, hge1, hL1⟩
    replace hb : Stays w6 w7 := hb
    have o6 : Hid (w6.heap.size ≤ g1) := Lib.hid hge1
    replace ha := Lib.hid (ha.out.trans hb)
    replace hL0 := Lib.hid (LiesR.below hL0.out hb)
    replace hLx := Lib.hid (LiesR.below hLx.out hb)
    replace hL1 := Lib.hid hL1
    clear hb hge1 hcb
    go_wp2_with fail
    refine (c_eqFloat32A2S _ _ _ _ XS w7 hL1.out.rows hL0.out.rows hX').mono ?_
    rintro e w8 ⟨rfl, hb⟩
    replace hb : Stays w7 w8 := hb
    replace ha := Lib.hid (ha.out.trans hb)
    replace hL0 := Lib.hid (LiesR.below hL0.out hb)
    replace hLx := Lib.hid (LiesR.below hLx.out hb)
    replace hL1 := Lib.hid (LiesR.below hL1.out hb)
    clear hb
    go_wp2_with fail
    refine (kG.out _ ha.out).mono ?_
    rintro e w9 ⟨rfl, hb, hLy⟩
    replace ha := Lib.hid (ha.out.trans hb)
    replace hL0 := Lib.hid (LiesR.below hL0.out hb)
    replace hLx := Lib.hid (LiesR.below hLx.out hb)
    replace hL1 := Lib.hid (LiesR.below hL1.out hb)
    replace hLy := Lib.hid hLy
    clear hb
    go_wp2_with fail
    refine (c_eqSpotS _ _ _ _ xs w9 hLx.out.rows hLy.out.rows hn').mono ?_
    rintro e w10 ⟨rfl, hb⟩
    replace hb : Stays w9 w10 := hb
    replace ha := Lib.hid (ha.out.trans hb)
    replace hL0 := Lib.hid (LiesR.below hL0.out hb)
    replace hLx := Lib.hid (LiesR.below hLx.out hb)
    replace hL1 := Lib.hid (LiesR.below hL1.out hb)
    clear hb hLy
    go_wp2_with fail
    refine (c_markSpotS _ wc.heap.size xs.length xs.length 1 w10 (LiesL_at hLx.out) (LiesL_there hLx.out) hn' (by omega)).mono ?_
    rintro e w11 ⟨rfl, hm⟩
    replace ha := Lib.hid (show Stays W0 _ from Below.trans (show Below W0.heap.size W0 _ from ha.out) (hm.below W0.heap.size o1.out))
    replace hL0 := Lib.hid (LiesL_same hL0.out fun hx => hm.same g0 (by have := o2.out (List.length_pos_iff.2 hx); omega))
    replace hL1 := Lib.hid (LiesL_same hL1.out fun hx => hm.same g1 (by have := List.length_pos_iff.2 hx; have := hX.out; have := o3.out (by omega); have := o5.out; have := o6.out; omega))
    clear hm hLx
    have hk0 : ¬ ((1 : Int) + 2 * (xs.length : Nat) < 0) := by omega
    generalize (1 : Int) + 2 * (xs.length : Nat) = kx at hk0 ⊢
    go_wp2_with fail
    refine (c_eqFloat32A2S _ _ _ _ XS w11 hL1.out.rows hL0.out.rows hX').mono ?_
    rintro e w12 ⟨rfl, hb⟩
    replace hb : Stays w11 w12 := hb
    replace ha := Lib.hid (ha.out.trans hb)
    replace hL0 := Lib.hid (LiesR.below hL0.out hb)
    replace hL1 := Lib.hid (LiesR.below hL1.out hb)
    clear hb
    go_wp2_with fail
    refine (c_markFloat32A2S A1 g1 c1 XS.length 1 w12 (LiesL_at hL1.out) (LiesL_there hL1.out) hX' (by omega)).mono ?_
    rintro e w13 ⟨rfl, hm⟩
    have hA1 := Lib.hid (LiesL_at hL1.out)
    replace ha := Lib.hid (show Stays W0 _ from Below.trans (show Below W0.heap.size W0 _ from ha.out) (hm.below W0.heap.size (by have := o1.out; have := o4.out; have := o5.out; have := o6.out; omega)))
    replace hL0 := Lib.hid (LiesL_same hL0.out fun hx => hm.same g0 (by have := o2.out (List.length_pos_iff.2 hx); have := o4.out; have := o5.out; have := o6.out; omega))
    have hM := Lib.hid hm.rows
    clear hm hL1
    have hk : ¬ ((1 : Int) + 2 * (XS.length : Nat) < 0) := by omega
    go_wp2_with fail
    refine (c_heldFloat32A2S A1 g1 c1 XS.length 1 w13 hA1.out hM.out hX' (by omega)).mono ?_
    rintro e w14 ⟨rfl, rfl⟩
    generalize hkk : (1 : Int) + 2 * (XS.length : Nat) = kk at hk ⊢
    replace hkk := Lib.hid hkk
    have G : Hid (∀ w', Stays w13 w' → (w'.cell? ⟨w.heap.size, 0, none⟩ = some (.float .f32 lx) ∧ w'.cell? ⟨w.heap.size, 1, none⟩ = some (.float .f32 ly)) ∧ Hid (Stays w13 w')) := Lib.hid fun w' h => ⟨HC.out w' (ha.out.trans h), Lib.hid h⟩
    have h5 := Lib.hid (show Stays w13 w13.drew from (Stays.refl w13).drew)
    go_wp2_with fail
    go_region_held (fun w' => (w'.cell? ⟨w.heap.size, 0, none⟩ = some (.float .f32 lx) ∧ w'.cell? ⟨w.heap.size, 1, none⟩ = some (.float .f32 ly)) ∧ Hid (Stays w13 w')) (first | exact G.out _ h5.out | exact G.out _ h6.out | exact G.out _ h7.out | exact G.out _ h8.out)
      (first
        | (go_at_call 23; refine (kG.out _ (ha.out.trans h5.out)).mono ?_; rintro e wa ⟨rfl, hb, hLa⟩; have h6 := Lib.hid (h5.out.trans hb); replace hLa := Lib.hid hLa; clear hb)
        | (go_at_call 35; refine (kT.out _).mono ?_; rintro e wb ⟨ca, rfl, hca, hb⟩; have h7 := Lib.hid (h6.out.trans hb); replace hLa := Lib.hid (LiesR.below hLa.out hb); replace hca := Lib.hid hca; clear hb)
        | (go_at_call 36; refine (kI.out _ _ ca wb hLa.out.rows hca.out).mono ?_; rintro e wd ⟨g2, A2, c2, rfl, hb, hge2, hL2⟩; have h8 := Lib.hid (h7.out.trans hb); replace hL2 := Lib.hid hL2; clear hb hge2))
    have hb := h8.out
    replace ha := Lib.hid (ha.out.trans hb)
    replace hL0 := Lib.hid (LiesR.below hL0.out hb)
    replace hM := Lib.hid (rows_belowF hM.out hb)
    clear hb G h5 h6 h7 h8 hLa hca
    go_wp2_with fail
    refine (c_eqFloat32A2S _ _ _ _ XS wd hL2.out.rows hL0.out.rows hX').mono ?_
    rintro e w15 ⟨rfl, hb⟩
    replace hb : Stays wd w15 := hb
    replace ha := Lib.hid (ha.out.trans hb)
    replace hM := Lib.hid (rows_belowF hM.out hb)
    clear hb hL0 hL2
    go_wp2_with fail
    refine (c_heldFloat32A2S A1 g1 c1 XS.length 1 w15 hA1.out hM.out hX' (by omega)).mono ?_
    rintro e w16 ⟨rfl, rfl⟩
    rw [hkk.out]
    go_wp2
    go_ret
    exact ⟨rfl, ha'.out _ ha.out⟩

theorem c_lawPointsOf {q r : Prop} (A : Option Addr) (c : Nat) (xs : List (List NV)) (cs : Array Value) (ns : List NV) (sd : Nat) (w : World) (h : Ls KSpot 2 w w.heap.size A xs) (hn : xs.length ≤ 9223372036854775807) (hk : KMs KFloat32A2 cs.toList ns) (_ : q) (_ : r) :
    Calls Try.prog 9 #[.slice A xs.length c, .agg cs, .float .f32 sd] w fun e w' => e = .returned (.bool true) ∧ Below w.heap.size w w' := c_lawPO A c xs cs ns sd w h hn hk
end Go.Proofs.Yteidjmliepmlmaa
