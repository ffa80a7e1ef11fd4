/- The law on valid fleets. No condition. -/
import Derived.Test.YtcopccniijkceaaFve
namespace Go.Proofs.Ytcopccniijkceaa
open Go Go.RowKit
set_option linter.unusedVariables false
set_option linter.unusedSimpArgs false

theorem c_specValidFleet (v : Value) (o og : Option Nat) (xss : List (List (List NV))) (w : World) (h : FlV w w.heap.size v o og xss) (hn : xss.length ≤ 1048576) :
    Calls Try.prog 10 #[v] w fun e w' => e = .returned (.bool (fleetB o og xss)) ∧ Stays w w' := by
  obtain ⟨s, g, A, c, rfl, hf, hgf, hL⟩ := h
  have hst : Stays w (w.alloc (.cells #[.float .f32 s, .float .f32 g, .slice A xss.length c] 30)) := by (repeat (first | exact Stays.refl _ | (with_reducible refine Stays.drewN ?_ _) | (with_reducible refine Stays.alloc ?_ _) | (with_reducible refine Stays.drew ?_) | (refine Stays.trans ?_ ‹Stays _ _›)))
  have hk := c_l09Ok w.heap.size s g o og hf hgf A c xss (w.alloc (.cells #[.float .f32 s, .float .f32 g, .slice A xss.length c] 30)) (heap_alloc_new w _) ((hL.below (show Below w.heap.size w _ from hst)).more hst.size) hn
  generalize fleetB o og xss = b at hk ⊢
  replace hk := Lib.hid hk
  replace hst := Lib.hid hst
  clear hL hf hgf
  go_enter Try.func10, Try.ntmps10
  go_wp2_with (go_at_call 51; refine hk.out.mono ?_; rintro e w1 ⟨rfl, hw1⟩)
  go_ret
  exact ⟨rfl, hst.out.trans hw1⟩

set_option maxRecDepth 100000 in
set_option maxHeartbeats 4000000 in
theorem c_lawValidFleet (v : Value) (o og : Option Nat) (xss : List (List (List NV))) (w : World) (h : FlV w w.heap.size v o og xss) (hn : xss.length ≤ 9223372036854775807) :
    Calls Try.prog 3 #[v] w fun e w' => e = .returned (.bool true) ∧ Below w.heap.size w w' := by
  obtain ⟨s, g, A, c, rfl, _, _, HB⟩ := boxFl 25 h
  clear h
  have hsz := Lib.hid (c_szFleet s g A c xss (w.alloc (.cells #[.float .f32 s, .float .f32 g, .slice A xss.length c] 25)) (HB _ (Stays.refl _)).2.2 hn)
  replace HB := Lib.hid HB
  go_enter Try.func3, Try.ntmps3
  go_wp2_with fail
  refine hsz.out.mono ?_
  rintro e w1 ⟨hor, hb⟩
  have hb1 := Lib.hid (show Stays (w.alloc (.cells #[.float .f32 s, .float .f32 g, .slice A xss.length c] 25)) w1 from hb)
  clear hb hsz
  rcases hor with rfl | ⟨L, hL0, rfl, hn', hm⟩
  · go_wp2
    go_ret
    exact ⟨rfl, (HB.out _ hb1.out).1.2⟩
  · have hL1 : ¬ L < 0 := by omega
    replace hm := Lib.hid hm
    clear hn
    generalize (w.alloc (.cells #[.float .f32 s, .float .f32 g, .slice A xss.length c] 25)) = W0 at HB hb1 ⊢
    obtain ⟨⟨⟨q0, q1, q2⟩, _⟩, hg, _⟩ := HB.out _ hb1.out
    replace hg := Lib.hid hg
    go_wp2_with fail
    refine (c_toFleet _ o og xss w1 hg.out hn' hm.out).mono ?_
    rintro e w2 ⟨v1, rfl, hb, hv1⟩
    have hb2 := Lib.hid (hb1.out.trans hb)
    clear hb
    replace hv1 := Lib.hid hv1
    go_wp2_with fail
    refine (c_specValidFleet v1 o og xss w2 hv1.out hn').mono ?_
    rintro e w3 ⟨rfl, hb⟩
    have hb3 := Lib.hid (hb2.out.trans hb)
    clear hb hv1 q0 q1 q2 hg
    obtain ⟨⟨⟨q0, q1, q2⟩, _⟩, hg, _⟩ := HB.out _ hb3.out
    replace hg := Lib.hid hg
    go_wp2_with fail
    refine (c_toFleet _ o og xss w3 hg.out hn' hm.out).mono ?_
    rintro e w4 ⟨v2, rfl, hb, hv2⟩
    have hb4 := Lib.hid (hb3.out.trans hb)
    clear hb q0 q1 q2 hg
    obtain ⟨s2, g2, D, d, rfl, _, _, HX⟩ := boxFl 30 hv2
    clear hv2
    replace HX := Lib.hid HX
    go_wp2_with fail
    have hb4x := Lib.hid (hb4.out.trans (show Stays w4 (w4.alloc (.cells #[.float .f32 s2, .float .f32 g2, .slice D xss.length d] 30)) from by (repeat (first | exact Stays.refl _ | (with_reducible refine Stays.drewN ?_ _) | (with_reducible refine Stays.alloc ?_ _) | (with_reducible refine Stays.drew ?_) | (refine Stays.trans ?_ ‹Stays _ _›)))))
    have hxx := Lib.hid (Stays.refl (w4.alloc (.cells #[.float .f32 s2, .float .f32 g2, .slice D xss.length d] 30)))
    generalize (w4.alloc (.cells #[.float .f32 s2, .float .f32 g2, .slice D xss.length d] 30)) = WX at HX hb4x hxx ⊢
    refine (c_implValidFleet _ o og xss WX (HX.out _ hxx.out).2.1 hn').mono ?_
    rintro e w5 ⟨rfl, hb⟩
    have hb5 := Lib.hid (hb4x.out.trans hb)
    replace hxx := Lib.hid (hxx.out.trans hb)
    clear hb
    obtain ⟨⟨⟨q0, q1, q2⟩, _⟩, hg, _⟩ := HB.out _ hb5.out
    replace hg := Lib.hid hg
    obtain ⟨⟨⟨x0, x1, x2⟩, _⟩, _⟩ := HX.out _ hxx.out
    generalize fleetB o og xss = bg
    have G : Hid (∀ w', Stays w5 w' → ((w'.cell? ⟨w.heap.size, 0, none⟩ = some (.float .f32 s) ∧ w'.cell? ⟨w.heap.size, 1, none⟩ = some (.float .f32 g) ∧ w'.cell? ⟨w.heap.size, 2, none⟩ = some (.slice A xss.length c)) ∧ (w'.cell? ⟨w4.heap.size, 0, none⟩ = some (.float .f32 s2) ∧ w'.cell? ⟨w4.heap.size, 1, none⟩ = some (.float .f32 g2) ∧ w'.cell? ⟨w4.heap.size, 2, none⟩ = some (.slice D xss.length d)) ∧ Hid (Stays w5 w'))) := Lib.hid fun w' h => ⟨(HB.out _ (hb5.out.trans h)).1.1, (HX.out _ (hxx.out.trans h)).1.1, Lib.hid h⟩
    have h5 := Lib.hid (show Stays w5 w5.drew from (Stays.refl w5).drew)
    cases bg
    all_goals
      go_wp2_with fail
      go_region_held (fun w' => ((w'.cell? ⟨w.heap.size, 0, none⟩ = some (.float .f32 s) ∧ w'.cell? ⟨w.heap.size, 1, none⟩ = some (.float .f32 g) ∧ w'.cell? ⟨w.heap.size, 2, none⟩ = some (.slice A xss.length c)) ∧ (w'.cell? ⟨w4.heap.size, 0, none⟩ = some (.float .f32 s2) ∧ w'.cell? ⟨w4.heap.size, 1, none⟩ = some (.float .f32 g2) ∧ w'.cell? ⟨w4.heap.size, 2, none⟩ = some (.slice D xss.length d)) ∧ Hid (Stays w5 w'))) (first | exact G.out _ h5.out | exact G.out _ h6.out | exact G.out _ h7.out)
        (first
          | (go_at_call 11; refine (c_toFleet _ o og xss _ (HB.out _ (hb5.out.trans h5.out)).2.1 hn' hm.out).mono ?_; rintro e w6 ⟨v3, rfl, hb, hv3⟩; have h6 := Lib.hid (h5.out.trans hb); clear hb; replace hv3 := Lib.hid hv3)
          | (go_at_call 13; refine (c_eqFleet _ v3 o og xss w6 (HX.out _ (hxx.out.trans h6.out)).2.1 hv3.out hn' hm.out).mono ?_; rintro e w7 ⟨rfl, hb⟩; have h7 := Lib.hid (h6.out.trans hb); clear hb))
      go_wp2
      go_ret
      exact ⟨rfl, (HB.out _ (hb5.out.trans h7.out)).1.2⟩
end Go.Proofs.Ytcopccniijkceaa
