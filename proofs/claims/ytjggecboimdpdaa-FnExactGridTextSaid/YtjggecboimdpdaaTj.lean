/- The law on the text of a grid. No condition. -/
import Derived.Test.YtjggecboimdpdaaTi
namespace Go.Proofs.Ytjggecboimdpdaa
open Go Go.ChangeShapes Go.WideShapes Go.RowKit
set_option linter.unusedVariables false
set_option linter.unusedSimpArgs false

theorem gdRows {w : World} {B : Nat} {a b : Int} {A : Option Addr} {c : Nat} {xs : List Int} (h : GdV w B (.agg #[.int .i64 a, .int .i64 b, .slice A xs.length c]) a b xs) : Bs w B A xs := by
  obtain ⟨A', c', e, h1⟩ := h.val
  cases e
  exact h1

set_option maxRecDepth 100000 in
set_option maxHeartbeats 1000000 in
theorem c_specGridText (v : Value) (a b : Int) (xs : List Int) (w : World) (h : GdV w w.heap.size v a b xs) (hx : ∀ x ∈ xs, 0 ≤ x ∧ x ≤ 255) (hn : xs.length ≤ 1048576) :
    Calls Try.prog 25 #[v] w fun e w' => e = .returned (.string (if gridB a b xs.length then ⟨(gtx a.toNat xs xs.length).toArray⟩ else ⟨#[]⟩)) ∧ Below w.heap.size w w' := by
  obtain ⟨A, c, rfl, h1⟩ := h.val
  have hbox := heap_alloc_new w (.cells #[.int .i64 a, .int .i64 b, .slice A xs.length c] 56)
  have hst : Stays w (w.alloc (.cells #[.int .i64 a, .int .i64 b, .slice A xs.length c] 56)) := by (repeat (first | exact Stays.refl _ | (with_reducible refine Stays.drewN ?_ _) | (with_reducible refine Stays.alloc ?_ _) | (with_reducible refine Stays.drew ?_) | (refine Stays.trans ?_ ‹Stays _ _›)))
  have hk := Lib.hid (c_l07Ok w.heap.size a b A c xs.length _ hbox hn)
  have h2 : Bs (w.alloc (.cells #[.int .i64 a, .int .i64 b, .slice A xs.length c] 56)) (w.alloc (.cells #[.int .i64 a, .int .i64 b, .slice A xs.length c] 56)).heap.size A xs := (h1.below hst).more hst.size
  generalize hW0 : w.alloc (.cells #[.int .i64 a, .int .i64 b, .slice A xs.length c] 56) = W0 at hbox hst hk h2
  replace hst := Lib.hid hst
  replace hW0 := Lib.hid hW0
  clear h h1
  cases hg : gridB a b xs.length with
  | false =>
    rw [hg] at hk
    clear hg
    go_enter Try.func25, Try.ntmps25
    go_wp2_with fail
    rw [hW0.out]
    refine hk.out.mono ?_
    rintro e w1 ⟨rfl, hb⟩
    replace hb := Lib.hid (hst.out.trans hb)
    go_wp2
    go_ret
    exact ⟨rfl, hb.out⟩
  | true =>
    rw [hg] at hk
    obtain ⟨ha, hb0, hab⟩ := gridB_iff.1 hg
    clear hg
    obtain ⟨W, rfl⟩ : ∃ W : Nat, a = W := ⟨a.toNat, by omega⟩
    have hW : (W : Int).toNat = W := by omega
    rw [hW]
    simp only [if_true]
    have hle : xs.length ≤ 600 := by
      have : (W : Int) * b ≤ 24 * 24 := Int.mul_le_mul (by omega) (by omega) (by omega) (by omega)
      omega
    have kT := Lib.hid fun W1 (hb : Stays W0 W1) => c_l07Text w.heap.size W b A c xs W1 ((Below.block hb _ (Array.getElem?_eq_some_iff.1 hbox).1).trans hbox) ((h2.below hb).more hb.size) hx (by omega) hle
    clear hab hW hle hbox h2 hx
    go_enter Try.func25, Try.ntmps25
    go_wp2_with fail
    rw [hW0.out]
    refine hk.out.mono ?_
    rintro e w1 ⟨rfl, hb⟩
    have kT1 := Lib.hid (kT.out w1 hb)
    replace hb := Lib.hid (hst.out.trans hb)
    clear kT
    go_wp2_with fail
    refine kT1.out.mono ?_
    rintro e w2 ⟨rfl, hb2⟩
    replace hb := Lib.hid (hb.out.trans (show Stays w1 w2 from hb2))
    clear hb2 kT1
    go_wp2
    go_ret
    exact ⟨rfl, hb.out⟩

set_option maxRecDepth 100000 in
set_option maxHeartbeats 1000000 in
theorem c_lawGridText (v : Value) (a b : Int) (xs : List Int) (w : World) (h : GdV w w.heap.size v a b xs) (hn : xs.length ≤ 9223372036854775807) (hx : ∀ x ∈ xs, 0 ≤ x ∧ x ≤ 255) :
    Calls Try.prog 8 #[v] w fun e w' => e = .returned (.bool true) ∧ Below w.heap.size w w' := by
  obtain ⟨A, c, rfl, HB⟩ := boxGd 53 h
  clear h
  replace HB := Lib.hid HB
  have hsz := fun W => c_szGrid A c xs.length a b 1048576 W hn (by omega) (by omega)
  by_cases hl : (1048576 : Int) - xs.length < 0
  · simp only [if_pos hl] at hsz
    replace hsz := Lib.hid hsz
    go_enter Try.func8, Try.ntmps8
    go_wp2_with fail
    refine (hsz.out _).mono ?_
    rintro e w1 ⟨rfl, hb⟩
    go_wp2
    go_ret
    exact ⟨rfl, (HB.out _ hb).1.2⟩
  · simp only [if_neg hl] at hsz
    have hn' : xs.length ≤ 1048576 := by omega
    have hX : ¬ ((1048576 : Int) - xs.length < 0) := hl
    generalize (1048576 : Int) - xs.length = X at hX hsz
    replace hsz := Lib.hid hsz
    clear hl hn
    have kS := Lib.hid fun v w h => c_specGridText v a b xs w h hx hn'
    have kI := Lib.hid fun A c w h hc => c_implGridText a b A c xs w h hx hn' hc
    generalize (if gridB a b xs.length then (⟨(gtx a.toNat xs xs.length).toArray⟩ : ByteArray) else ⟨#[]⟩) = bg at kS kI
    go_enter Try.func8, Try.ntmps8
    go_wp2_with fail
    refine (hsz.out _).mono ?_
    rintro e w1 ⟨rfl, hb⟩
    have hb1 := Lib.hid (show Stays _ w1 from hb)
    clear hb
    generalize (w.alloc (.cells #[.int .i64 a, .int .i64 b, .slice A xs.length c] 53)) = W0 at HB hb1
    obtain ⟨⟨⟨q0, q1, q2⟩, _⟩, hg⟩ := HB.out _ hb1.out
    replace hg := Lib.hid hg
    go_wp2_with fail
    refine (c_toGd _ a b xs w1 hg.out hn').mono ?_
    rintro e w2 ⟨v1, rfl, hb, hv1⟩
    have hb2 := Lib.hid (hb1.out.trans hb)
    clear hb
    replace hv1 := Lib.hid hv1
    go_wp2_with fail
    refine (kS.out v1 w2 hv1.out).mono ?_
    rintro e w3 ⟨rfl, hb⟩
    have hb3 := Lib.hid (hb2.out.trans hb)
    clear hb hv1 q0 q1 q2 hg
    obtain ⟨⟨⟨q0, q1, q2⟩, _⟩, hg⟩ := HB.out _ hb3.out
    replace hg := Lib.hid hg
    go_wp2_with fail
    refine (c_toGrid _ a b xs w3 hg.out hn').mono ?_
    rintro e w4 ⟨gx, rfl, hge, hb, hlx⟩
    have hb4 := Lib.hid (hb3.out.trans hb)
    clear hb q0 q1 q2 hg hge
    have hv2 : GdV w4 w4.heap.size (.agg #[.int .i64 a, .int .i64 b, .slice (some ⟨gx, 0, none⟩) xs.length xs.length]) a b xs := ⟨_, _, rfl, hlx.rows⟩
    obtain ⟨D, d, eD, HX⟩ := boxGd 56 hv2
    cases eD
    clear hv2 hlx
    replace HX := Lib.hid HX
    go_wp2_with fail
    have hb4x := Lib.hid (hb4.out.trans (show Stays w4 (w4.alloc (.cells #[.int .i64 a, .int .i64 b, .slice (some ⟨gx, 0, none⟩) xs.length xs.length] 56)) from by (repeat (first | exact Stays.refl _ | (with_reducible refine Stays.drewN ?_ _) | (with_reducible refine Stays.alloc ?_ _) | (with_reducible refine Stays.drew ?_) | (refine Stays.trans ?_ ‹Stays _ _›)))))
    have hxx := Lib.hid (Stays.refl (w4.alloc (.cells #[.int .i64 a, .int .i64 b, .slice (some ⟨gx, 0, none⟩) xs.length xs.length] 56)))
    generalize (w4.alloc (.cells #[.int .i64 a, .int .i64 b, .slice (some ⟨gx, 0, none⟩) xs.length xs.length] 56)) = WX at HX hb4x hxx ⊢
    refine (kI.out _ _ WX (gdRows (HX.out _ hxx.out).2) (Nat.le_refl _)).mono ?_
    rintro e w5 ⟨rfl, hb⟩
    have hb5 := Lib.hid (hb4x.out.trans hb)
    replace hxx := Lib.hid (hxx.out.trans hb)
    clear hb
    obtain ⟨⟨⟨q0, q1, q2⟩, _⟩, hg⟩ := HB.out _ hb5.out
    replace hg := Lib.hid hg
    obtain ⟨⟨⟨x0, x1, x2⟩, _⟩, hvx⟩ := HX.out _ hxx.out
    clear hvx
    have G : Hid (∀ w', Stays w5 w' → (w'.cell? ⟨w.heap.size, 0, none⟩ = some (.int .i64 a) ∧ w'.cell? ⟨w.heap.size, 1, none⟩ = some (.int .i64 b) ∧ w'.cell? ⟨w.heap.size, 2, none⟩ = some (.slice A xs.length c) ∧ w'.cell? ⟨w4.heap.size, 0, none⟩ = some (.int .i64 a) ∧ w'.cell? ⟨w4.heap.size, 1, none⟩ = some (.int .i64 b) ∧ w'.cell? ⟨w4.heap.size, 2, none⟩ = some (.slice (some ⟨gx, 0, none⟩) xs.length xs.length) ∧ Hid (Stays w5 w'))) := Lib.hid fun w' h => ⟨(HB.out _ (hb5.out.trans h)).1.1.1, (HB.out _ (hb5.out.trans h)).1.1.2.1, (HB.out _ (hb5.out.trans h)).1.1.2.2, (HX.out _ (hxx.out.trans h)).1.1.1, (HX.out _ (hxx.out.trans h)).1.1.2.1, (HX.out _ (hxx.out.trans h)).1.1.2.2, Lib.hid h⟩
    have h5 := Lib.hid (show Stays w5 w5.drew from (Stays.refl w5).drew)
    all_goals
      go_wp2_with fail
      go_region_held (fun w' => (w'.cell? ⟨w.heap.size, 0, none⟩ = some (.int .i64 a) ∧ w'.cell? ⟨w.heap.size, 1, none⟩ = some (.int .i64 b) ∧ w'.cell? ⟨w.heap.size, 2, none⟩ = some (.slice A xs.length c) ∧ w'.cell? ⟨w4.heap.size, 0, none⟩ = some (.int .i64 a) ∧ w'.cell? ⟨w4.heap.size, 1, none⟩ = some (.int .i64 b) ∧ w'.cell? ⟨w4.heap.size, 2, none⟩ = some (.slice (some ⟨gx, 0, none⟩) xs.length xs.length) ∧ Hid (Stays w5 w'))) (first | exact G.out _ h5.out | exact G.out _ h6.out | exact G.out _ h7.out)
        (first
          | (go_at_call 26; refine (c_toGd _ a b xs _ (HB.out _ (hb5.out.trans h5.out)).2 hn').mono ?_; rintro e w6 ⟨v3, rfl, hb, hv3⟩; have h6 := Lib.hid (h5.out.trans hb); clear hb; replace hv3 := Lib.hid hv3)
          | (go_at_call 28; refine (c_eqGrid _ v3 a b xs w6 (HX.out _ (hxx.out.trans h6.out)).2 hv3.out hn').mono ?_; rintro e w7 ⟨rfl, hb⟩; have h7 := Lib.hid (h6.out.trans hb); clear hb))
      go_wp2
      go_ret
      exact ⟨rfl, (HB.out _ (hb5.out.trans h7.out)).1.2⟩
end Go.Proofs.Ytjggecboimdpdaa
