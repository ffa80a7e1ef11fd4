/- The law on the centre of a map. No condition. -/
import Derived.Test.YtejljfejajckoaaCed
import Derived.Test.YtejljfejajckoaaGz
import Derived.Deep.RegionHeld
namespace Go.Proofs.Ytejljfejajckoaa
open Go Go.ChangeShapes Go.WideShapes Go.RowKit
set_option linter.unusedVariables false
set_option linter.unusedSimpArgs false

abbrev KCeV : List Kd := [.f .f32, .f .f32, .f .f32]

noncomputable def wkECeV : DT (SV × St) := callDT tb ftab otb 60 40 0 44 [inSh 0 (.agg KCeV), inSh 0 (.agg KCeV)] ⟨.nil, [], []⟩
noncomputable def nsECeV : List Df := wkECeV.gather []
theorem wfECeV : wfT (withIds nsECeV) [] = true := by kernel_rfl
theorem chECeV : wkECeV.chk nsECeV [] (endIs (.one (.lit (.bool true)))) = true := by kernel_rfl

theorem c_eqCeV (v v' : Value) (r : List NV) (w : World) (h : ShM (.agg KCeV) v r) (h' : ShM (.agg KCeV) v' r) : Calls Try.prog 44 #[v, v'] w fun e w' => e = .returned (.bool true) ∧ Below w.heap.size w w' := by
  have hl : r.length = 3 := by obtain ⟨cs, _, hk⟩ := h; exact KMs_rlen hk
  have hl' : r.length ≤ 1000 := by omega
  refine (walk_args (args := [inSh 0 (.agg KCeV), inSh 0 (.agg KCeV)]) (vs := #[v, v']) (ins := r) (r := .one (.lit (.bool true))) tb_ok mixed ftab_ok (otb_ok baseΦ_ok) wfECeV chECeV (by kernel_rfl) ⟨inSh_ok h fun j hj => ins_at hl' j hj, inSh_ok h' fun j hj => ins_at hl' j hj, trivial⟩).mono ?_
  rintro e w' ⟨v2, γ, rfl, hm, hs⟩
  exact ⟨congrArg _ hm, hs⟩

set_option maxRecDepth 100000 in
set_option maxHeartbeats 4000000 in
theorem c_lawCentreOf (v : Value) (o : Option Nat) (xs : List Mk) (w : World) (h : MpV w w.heap.size v o xs) (hn : xs.length ≤ 9223372036854775807) :
    Calls Try.prog 8 #[v] w fun e w' => e = .returned (.bool true) ∧ Below w.heap.size w w' := by
  obtain ⟨s, A, c, rfl, _, HB⟩ := boxMp 25 h
  clear h
  replace HB := Lib.hid HB
  have hsz := fun W => c_szLandMap (.float .f32 s) A c xs.length 1048576 W hn (by omega) (by omega)
  by_cases hl : (1048576 : Int) - xs.length < 0
  · simp only [if_pos hl] at hsz
    replace hsz := Lib.hid hsz
    go_enter Try.func8, Try.ntmps8
    go_wp2_with fail
    refine (hsz.out _).mono ?_
    rintro e w1 ⟨rfl, hb⟩
    go_wp2
    go_ret
    exact ⟨rfl, (HB.out _ hb).1.2⟩
  · simp only [if_neg hl] at hsz
    have hn' : xs.length ≤ 1048576 := by omega
    have hX : ¬ ((1048576 : Int) - xs.length < 0) := hl
    generalize (1048576 : Int) - xs.length = X at hX hsz
    replace hsz := Lib.hid hsz
    have kS := fun v W h => c_specCentre v o xs W h hn'
    have kI := fun v W h hc => c_implCentre v o xs W h hn' hc
    generalize ceC o xs = code at kS kI
    generalize ceV pX o xs = oa at kS kI
    generalize ceV pY o xs = ob at kS kI
    generalize ceV pZ o xs = oc at kS kI
    replace kS := Lib.hid kS
    replace kI := Lib.hid kI
    have hvv : (code != code) = false := by simp
    clear hl hn
    go_enter Try.func8, Try.ntmps8
    go_wp2_with fail
    refine (hsz.out _).mono ?_
    rintro e w1 ⟨rfl, hb⟩
    have hb1 := Lib.hid (show Stays _ w1 from hb)
    clear hb
    generalize (w.alloc (.cells #[.float .f32 s, .slice A xs.length c] 25)) = W0 at HB hb1
    obtain ⟨⟨⟨q0, q1⟩, _⟩, hg⟩ := HB.out _ hb1.out
    replace hg := Lib.hid hg
    go_wp2_with fail
    refine (c_toMp _ o xs w1 hg.out hn').mono ?_
    rintro e w2 ⟨v1, rfl, hb, hv1⟩
    replace hb1 := Lib.hid (hb1.out.trans hb)
    clear hb
    replace hv1 := Lib.hid hv1
    clear q0 q1 hg
    go_wp2_with fail
    refine (kS.out v1 w2 hv1.out).mono ?_
    rintro e w3 ⟨ax, ay, az, rfl, fa, fb, fc, hb⟩
    have hsA : Stays w3 (w3.alloc (.cells #[.float .f32 ax, .float .f32 ay, .float .f32 az] 66)) := by (repeat (first | exact Stays.refl _ | (with_reducible refine Stays.drewN ?_ _) | (with_reducible refine Stays.alloc ?_ _) | (with_reducible refine Stays.drew ?_) | (refine Stays.trans ?_ ‹Stays _ _›)))
    replace hb1 := Lib.hid (hb1.out.trans (hb.trans hsA))
    have hrow0 := Lib.hid (heap_alloc_new w3 (.cells #[.float .f32 ax, .float .f32 ay, .float .f32 az] 66))
    have hfa := Lib.hid (And.intro fa (And.intro fb fc))
    clear hb hv1 hsA fa fb fc
    obtain ⟨⟨⟨q0, q1⟩, _⟩, hg⟩ := HB.out _ hb1.out
    replace hg := Lib.hid hg
    go_wp2_with fail
    generalize (w3.alloc (.cells #[.float .f32 ax, .float .f32 ay, .float .f32 az] 66)) = W4 at hb1 hrow0 q0 q1 hg ⊢
    generalize w3.heap.size = pa at hrow0 ⊢
    refine (c_toLandMap _ o xs W4 hg.out hn').mono ?_
    rintro e w5 ⟨s2, g, rfl, hf2, _, hb, hl2⟩
    obtain ⟨s3, D, d, e, _, HX⟩ := boxMp 35 (show MpV w5 w5.heap.size (.agg #[.float .f32 s2, .slice (some ⟨g, 0, none⟩) xs.length xs.length]) o xs from ⟨s2, _, _, rfl, hf2, hl2.rows⟩)
    cases e
    replace HX := Lib.hid HX
    have hs5 : Stays w5 (w5.alloc (.cells #[.float .f32 s2, .slice (some ⟨g, 0, none⟩) xs.length xs.length] 35)) := by (repeat (first | exact Stays.refl _ | (with_reducible refine Stays.drewN ?_ _) | (with_reducible refine Stays.alloc ?_ _) | (with_reducible refine Stays.drew ?_) | (refine Stays.trans ?_ ‹Stays _ _›)))
    have hs45 := (show Stays W4 w5 from hb).trans hs5
    replace hb1 := Lib.hid (hb1.out.trans hs45)
    replace hrow0 := Lib.hid ((Below.block hs45 _ (in_heap hrow0.out)).trans hrow0.out)
    have hxx := Lib.hid (Stays.refl (w5.alloc (.cells #[.float .f32 s2, .slice (some ⟨g, 0, none⟩) xs.length xs.length] 35)))
    clear hb hl2 hf2 hs5 hs45 hg q0 q1
    obtain ⟨⟨⟨x0, x1⟩, _⟩, hvx⟩ := HX.out _ hxx.out
    replace hvx := Lib.hid hvx
    go_wp2_with fail
    generalize (w5.alloc (.cells #[.float .f32 s2, .slice (some ⟨g, 0, none⟩) xs.length xs.length] 35)) = WX at hb1 hrow0 HX hxx hvx x0 x1 ⊢
    generalize w5.heap.size = px at HX x0 x1 ⊢
    refine (kI.out _ WX hvx.out (fun s A c e => by cases e; exact Nat.le_refl _)).mono ?_
    rintro e w6 ⟨jx, jy, jz, rfl, fa, fb, fc, hb⟩
    have hsB : Stays w6 (w6.alloc (.cells #[.float .f32 jx, .float .f32 jy, .float .f32 jz] 66)) := by (repeat (first | exact Stays.refl _ | (with_reducible refine Stays.drewN ?_ _) | (with_reducible refine Stays.alloc ?_ _) | (with_reducible refine Stays.drew ?_) | (refine Stays.trans ?_ ‹Stays _ _›)))
    have hs6 := hb.trans hsB
    replace hb1 := Lib.hid (hb1.out.trans hs6)
    replace hxx := Lib.hid (hxx.out.trans hs6)
    replace hrow0 := Lib.hid ((Below.block hs6 _ (in_heap hrow0.out)).trans hrow0.out)
    have hrow1 := Lib.hid (heap_alloc_new w6 (.cells #[.float .f32 jx, .float .f32 jy, .float .f32 jz] 66))
    have hfb := Lib.hid (And.intro fa (And.intro fb fc))
    clear hb hsB hs6 fa fb fc x0 x1 hvx
    have c0 := cell_of_row _ _ 0 _ _ _ hrow0.out
    have c1 := cell_of_row _ _ 1 _ _ _ hrow0.out
    have c2 := cell_of_row _ _ 2 _ _ _ hrow0.out
    have d0 := cell_of_row _ _ 0 _ _ _ hrow1.out
    have d1 := cell_of_row _ _ 1 _ _ _ hrow1.out
    have d2 := cell_of_row _ _ 2 _ _ _ hrow1.out
    go_wp2_with fail
    refine (c_eqCeV (.agg #[.float .f32 jx, .float .f32 jy, .float .f32 jz]) (.agg #[.float .f32 ax, .float .f32 ay, .float .f32 az]) [.f oa, .f ob, .f oc] _ ⟨_, rfl, ⟨_, rfl, hfb.out.1⟩, ⟨_, rfl, hfb.out.2.1⟩, ⟨_, rfl, hfb.out.2.2⟩, trivial⟩ ⟨_, rfl, ⟨_, rfl, hfa.out.1⟩, ⟨_, rfl, hfa.out.2.1⟩, ⟨_, rfl, hfa.out.2.2⟩, trivial⟩).mono ?_
    rintro e w7 ⟨rfl, hb⟩
    replace hb1 := Lib.hid (hb1.out.trans hb)
    replace hxx := Lib.hid (hxx.out.trans hb)
    clear hb c0 c1 c2 d0 d1 d2 hrow0 hrow1
    go_upto_region 10 with fail
    have G : Hid (∀ w', Stays w7 w' → (w'.cell? ⟨w.heap.size, 0, none⟩ = some (.float .f32 s) ∧ w'.cell? ⟨w.heap.size, 1, none⟩ = some (.slice A xs.length c) ∧ w'.cell? ⟨px, 0, none⟩ = some (.float .f32 s2) ∧ w'.cell? ⟨px, 1, none⟩ = some (.slice (some ⟨g, 0, none⟩) xs.length xs.length))) := Lib.hid fun w' h => ⟨(HB.out _ (hb1.out.trans h)).1.1.1, (HB.out _ (hb1.out.trans h)).1.1.2, (HX.out _ (hxx.out.trans h)).1.1.1, (HX.out _ (hxx.out.trans h)).1.1.2⟩
    have h5 := Lib.hid (show Stays w7 w7.drew from (Stays.refl w7).drew)
    go_region_held (fun w' => (w'.cell? ⟨w.heap.size, 0, none⟩ = some (.float .f32 s) ∧ w'.cell? ⟨w.heap.size, 1, none⟩ = some (.slice A xs.length c) ∧ w'.cell? ⟨px, 0, none⟩ = some (.float .f32 s2) ∧ w'.cell? ⟨px, 1, none⟩ = some (.slice (some ⟨g, 0, none⟩) xs.length xs.length))) (first | exact G.out _ h5.out | exact G.out _ h6.out | exact G.out _ h7.out)
      (first
        | (go_at_call 12; refine (c_toMp _ o xs _ (HB.out _ (hb1.out.trans h5.out)).2 hn').mono ?_; rintro e w8 ⟨v3, rfl, hb, hv3⟩; have h6 := Lib.hid (h5.out.trans hb); clear hb; replace hv3 := Lib.hid hv3)
        | (go_at_call 16; refine (c_eqLandMap _ v3 o xs w8 (HX.out _ (hxx.out.trans h6.out)).2 hv3.out hn').mono ?_; rintro e w9 ⟨rfl, hb⟩; have h7 := Lib.hid (h6.out.trans hb); clear hb))
    go_wp2
    go_ret
    exact ⟨rfl, (HB.out _ (hb1.out.trans h7.out)).1.2⟩
end Go.Proofs.Ytejljfejajckoaa
