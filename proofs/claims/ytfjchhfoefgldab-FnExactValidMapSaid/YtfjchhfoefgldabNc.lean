/- Maps: the law on valid ones. No condition. -/
import Derived.Test.YtfjchhfoefgldabNb
import Derived.Deep.RegionHeld
namespace Go.Proofs.Ytfjchhfoefgldab
open Go Go.RowKit
set_option linter.unusedVariables false
set_option linter.unusedSimpArgs false

theorem c_specValidMap (v : Value) (o : Option Nat) (xs : List Mk) (w : World) (h : MpV w w.heap.size v o xs) (hn : xs.length ≤ 1048576) :
    Calls Try.prog 16 #[v] w fun e w' => e = .returned (.bool (mapOK o xs)) ∧ Below w.heap.size w w' := by
  obtain ⟨s, A, c, rfl, hf, h1⟩ := h.val
  have hk : Calls Try.prog 58 #[.pointer (some ⟨w.heap.size, 0, none⟩)] (w.alloc (.cells #[.float .f32 s, .slice A xs.length c] 30)) fun e w' => e = .returned (.bool (mapOK o xs)) ∧ Below (w.alloc (.cells #[.float .f32 s, .slice A xs.length c] 30)).heap.size (w.alloc (.cells #[.float .f32 s, .slice A xs.length c] 30)) w' := by
    have hb : Stays w (w.alloc (.cells #[.float .f32 s, .slice A xs.length c] 30)) := by (repeat (first | exact Stays.refl _ | (with_reducible refine Stays.drewN ?_ _) | (with_reducible refine Stays.alloc ?_ _) | (with_reducible refine Stays.drew ?_) | (refine Stays.trans ?_ ‹Stays _ _›)))
    exact c_l05Ok w.heap.size s o hf A c xs _ (heap_alloc_new w _) ((h1.below hb).more hb.size) hn
  generalize mapOK o xs = b at hk ⊢
  replace hk := Lib.hid hk
  clear h h1 hf
  go_enter Try.func16, Try.ntmps16
  go_wp2_with (go_at_call 58; refine hk.out.mono ?_; rintro e w1 ⟨rfl, hw1⟩)
  go_ret
  exact ⟨rfl, (show Stays w _ from by (repeat (first | exact Stays.refl _ | (with_reducible refine Stays.drewN ?_ _) | (with_reducible refine Stays.alloc ?_ _) | (with_reducible refine Stays.drew ?_) | (refine Stays.trans ?_ ‹Stays _ _›)))).trans hw1⟩

set_option maxRecDepth 100000 in
set_option maxHeartbeats 1000000 in
theorem c_lawValidMap (v : Value) (o : Option Nat) (xs : List Mk) (w : World) (h : MpV w w.heap.size v o xs) (hn : xs.length ≤ 9223372036854775807) :
    Calls Try.prog 3 #[v] w fun e w' => e = .returned (.bool true) ∧ Below w.heap.size w w' := by
  obtain ⟨s, A, c, rfl, _, HB⟩ := boxMp 25 h
  clear h
  replace HB := Lib.hid HB
  have hsz := fun W => c_szLandMap (.float .f32 s) A c xs.length 1048576 W hn (by omega) (by omega)
  by_cases hl : (1048576 : Int) - xs.length < 0
  · simp only [if_pos hl] at hsz
    replace hsz := Lib.hid hsz
    go_enter Try.func3, Try.ntmps3
    go_wp2_with fail
    refine (hsz.out _).mono ?_
    rintro e w1 ⟨rfl, hb⟩
    go_wp2
    go_ret
    exact ⟨rfl, (HB.out _ hb).1.2⟩
  · simp only [if_neg hl] at hsz
    have hn' : xs.length ≤ 1048576 := by omega
    have hX : ¬ ((1048576 : Int) - xs.length < 0) := hl
    generalize (1048576 : Int) - xs.length = X at hX hsz
    replace hsz := Lib.hid hsz
    clear hl hn
    go_enter Try.func3, Try.ntmps3
    go_wp2_with fail
    refine (hsz.out _).mono ?_
    rintro e w1 ⟨rfl, hb⟩
    have hb1 := Lib.hid (show Stays _ w1 from hb)
    clear hb
    generalize (w.alloc (.cells #[.float .f32 s, .slice A xs.length c] 25)) = W0 at HB hb1
    obtain ⟨⟨⟨q0, q1⟩, _⟩, hg⟩ := HB.out _ hb1.out
    replace hg := Lib.hid hg
    go_wp2_with fail
    refine (c_toMp _ o xs w1 hg.out hn').mono ?_
    rintro e w2 ⟨v1, rfl, hb, hv1⟩
    have hb2 := Lib.hid (hb1.out.trans hb)
    clear hb
    replace hv1 := Lib.hid hv1
    go_wp2_with fail
    refine (c_specValidMap v1 o xs w2 hv1.out hn').mono ?_
    rintro e w3 ⟨rfl, hb⟩
    have hb3 := Lib.hid (hb2.out.trans hb)
    clear hb hv1 q0 q1 hg
    obtain ⟨⟨⟨q0, q1⟩, _⟩, hg⟩ := HB.out _ hb3.out
    replace hg := Lib.hid hg
    go_wp2_with fail
    refine (c_toMp _ o xs w3 hg.out hn').mono ?_
    rintro e w4 ⟨v2, rfl, hb, hv2⟩
    have hb4 := Lib.hid (hb3.out.trans hb)
    clear hb q0 q1 hg
    obtain ⟨s2, D, d, rfl, _, HX⟩ := boxMp 30 hv2
    clear hv2
    replace HX := Lib.hid HX
    go_wp2_with fail
    have hb4x := Lib.hid (hb4.out.trans (show Stays w4 (w4.alloc (.cells #[.float .f32 s2, .slice D xs.length d] 30)) from by (repeat (first | exact Stays.refl _ | (with_reducible refine Stays.drewN ?_ _) | (with_reducible refine Stays.alloc ?_ _) | (with_reducible refine Stays.drew ?_) | (refine Stays.trans ?_ ‹Stays _ _›)))))
    have hxx := Lib.hid (Stays.refl (w4.alloc (.cells #[.float .f32 s2, .slice D xs.length d] 30)))
    generalize (w4.alloc (.cells #[.float .f32 s2, .slice D xs.length d] 30)) = WX at HX hb4x hxx ⊢
    refine (c_implValidMap _ o xs WX (HX.out _ hxx.out).2 hn').mono ?_
    rintro e w5 ⟨rfl, hb⟩
    have hb5 := Lib.hid (hb4x.out.trans hb)
    replace hxx := Lib.hid (hxx.out.trans hb)
    clear hb
    obtain ⟨⟨⟨q0, q1⟩, _⟩, hg⟩ := HB.out _ hb5.out
    replace hg := Lib.hid hg
    obtain ⟨⟨⟨x0, x1⟩, _⟩, hvx⟩ := HX.out _ hxx.out
    clear hvx
    generalize mapOK o xs = bg
    have G : Hid (∀ w', Stays w5 w' → (w'.cell? ⟨w.heap.size, 0, none⟩ = some (.float .f32 s) ∧ w'.cell? ⟨w.heap.size, 1, none⟩ = some (.slice A xs.length c) ∧ w'.cell? ⟨w4.heap.size, 0, none⟩ = some (.float .f32 s2) ∧ w'.cell? ⟨w4.heap.size, 1, none⟩ = some (.slice D xs.length d) ∧ Hid (Stays w5 w'))) := Lib.hid fun w' h => ⟨(HB.out _ (hb5.out.trans h)).1.1.1, (HB.out _ (hb5.out.trans h)).1.1.2, (HX.out _ (hxx.out.trans h)).1.1.1, (HX.out _ (hxx.out.trans h)).1.1.2, Lib.hid h⟩
    have h5 := Lib.hid (show Stays w5 w5.drew from (Stays.refl w5).drew)
    cases bg
    all_goals
      go_wp2_with fail
      go_region_held (fun w' => (w'.cell? ⟨w.heap.size, 0, none⟩ = some (.float .f32 s) ∧ w'.cell? ⟨w.heap.size, 1, none⟩ = some (.slice A xs.length c) ∧ w'.cell? ⟨w4.heap.size, 0, none⟩ = some (.float .f32 s2) ∧ w'.cell? ⟨w4.heap.size, 1, none⟩ = some (.slice D xs.length d) ∧ Hid (Stays w5 w'))) (first | exact G.out _ h5.out | exact G.out _ h6.out | exact G.out _ h7.out)
        (first
          | (go_at_call 17; refine (c_toMp _ o xs _ (HB.out _ (hb5.out.trans h5.out)).2 hn').mono ?_; rintro e w6 ⟨v3, rfl, hb, hv3⟩; have h6 := Lib.hid (h5.out.trans hb); clear hb; replace hv3 := Lib.hid hv3)
          | (go_at_call 19; refine (c_eqLandMap _ v3 o xs w6 (HX.out _ (hxx.out.trans h6.out)).2 hv3.out hn').mono ?_; rintro e w7 ⟨rfl, hb⟩; have h7 := Lib.hid (h6.out.trans hb); clear hb))
      go_wp2
      go_ret
      exact ⟨rfl, (HB.out _ (hb5.out.trans h7.out)).1.2⟩
end Go.Proofs.Ytfjchhfoefgldab
