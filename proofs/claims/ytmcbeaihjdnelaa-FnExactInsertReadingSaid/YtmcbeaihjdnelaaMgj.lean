/- The law on a feed with a reading more. No condition. -/
import Derived.Test.YtmcbeaihjdnelaaMgh
import Derived.Test.YtmcbeaihjdnelaaLf
import Derived.Deep.RegionHeld
import Derived.Deep.CutRange
namespace Go.Proofs.Ytmcbeaihjdnelaa
open Go Go.RowKit
set_option linter.unusedVariables false
set_option linter.unusedSimpArgs false

set_option maxRecDepth 100000 in
set_option maxHeartbeats 4000000 in
theorem c_lawInsertReading (A : Option Addr) (c : Nat) (xs : List Rd) (r : Rd) (w : World) (h : Feed w w.heap.size A xs) (hn : xs.length ≤ 9223372036854775807) :
    Calls Try.prog 8 #[.slice A xs.length c, .agg #[.int .i64 r.t, .int .i16 r.a, .int .i16 r.b, .int .i16 r.c]] w fun e w' => e = .returned (.bool true) ∧ Below w.heap.size w w' := by
  have hst : Stays w (w.alloc (.cells #[.int .i64 r.t, .int .i16 r.a, .int .i16 r.b, .int .i16 r.c] 78)) := by (repeat (first | exact Stays.refl _ | (with_reducible refine Stays.drewN ?_ _) | (with_reducible refine Stays.alloc ?_ _) | (with_reducible refine Stays.drew ?_) | (refine Stays.trans ?_ ‹Stays _ _›)))
  have u0 : (w.alloc (.cells #[.int .i64 r.t, .int .i16 r.a, .int .i16 r.b, .int .i16 r.c] 78)).heap[w.heap.size]? = some (.cells #[.int .i64 r.t, .int .i16 r.a, .int .i16 r.b, .int .i16 r.c] 78 (0, 0)) := by (repeat (first | (refine heap_top _ _ _ ?_; simp; done) | (with_reducible refine heap_drawn _ _ _ ?_) | (with_reducible refine heap_under _ _ _ ?_ ?_; (simp <;> omega))))
  have H := Lib.hid ((h.below (show Below w.heap.size w (w.alloc (.cells #[.int .i64 r.t, .int .i16 r.a, .int .i16 r.b, .int .i16 r.c] 78)) from hst)).more hst.size)
  have HB := Lib.hid fun W (hW : Stays (w.alloc (.cells #[.int .i64 r.t, .int .i16 r.a, .int .i16 r.b, .int .i16 r.c] 78)) W) => And.intro (And.intro (And.intro (row_of hW u0 0) (row_of hW u0 1)) (And.intro (row_of hW u0 2) (row_of hW u0 3))) (show Below w.heap.size w W from hst.trans hW)
  clear h hst u0
  have hsz := c_szReadingS A c xs.length 1048576 (w.alloc (.cells #[.int .i64 r.t, .int .i16 r.a, .int .i16 r.b, .int .i16 r.c] 78)) hn (by omega) (by omega)
  by_cases hl : xs.length ≤ 1048576
  · have hl1 : ¬ ((1048576 : Int) - (xs.length : Nat) < 0) := by omega
    rw [if_neg hl1] at hsz
    generalize (1048576 : Int) - (xs.length : Nat) = Y at hl1 hsz
    replace hsz := Lib.hid hsz
    have kS := Lib.hid fun g w h => c_specInsert g xs.length xs r w h hl (Nat.le_refl _)
    have kI := Lib.hid fun g c w h => c_implInsert g c xs r w h hl
    have kA := Lib.hid fun W => c_toReadingV r W
    have hX := inX_len xs r
    generalize inX xs r = mX at kS kI hX
    generalize inC xs r = code at kS kI
    go_enter Try.func8, Try.ntmps8
    go_wp2_with fail
    refine hsz.out.mono ?_
    rintro e w' ⟨rfl, rfl⟩
    generalize (w.alloc (.cells #[.int .i64 r.t, .int .i16 r.a, .int .i16 r.b, .int .i16 r.c] 78)) = W0 at H HB ⊢
    have kG := Lib.hid fun W (hW : Stays W0 W) => c_toReadingS A c xs W ((H.out.below hW).more hW.size) hl
    clear hsz
    have G1 : Hid (∀ w', Stays W0 w' → ((w'.cell? ⟨w.heap.size, 0, none⟩ = some (.int .i64 r.t) ∧ w'.cell? ⟨w.heap.size, 1, none⟩ = some (.int .i16 r.a)) ∧ (w'.cell? ⟨w.heap.size, 2, none⟩ = some (.int .i16 r.b) ∧ w'.cell? ⟨w.heap.size, 3, none⟩ = some (.int .i16 r.c)))) := Lib.hid fun w' h => (HB.out _ h).1
    go_upto_region 5 with fail
    go_cut [6, 7] from 21 to 28 (fun s t wx => ∃ v, s = v ∧ t = .int .i64 code ∧ Grows W0 wx v mX)
    case first =>
      have k1 := Lib.hid (show Stays W0 W0.drew from (Stays.refl W0).drew)
      go_region_held (fun w' => ((w'.cell? ⟨w.heap.size, 0, none⟩ = some (.int .i64 r.t) ∧ w'.cell? ⟨w.heap.size, 1, none⟩ = some (.int .i16 r.a)) ∧ (w'.cell? ⟨w.heap.size, 2, none⟩ = some (.int .i16 r.b) ∧ w'.cell? ⟨w.heap.size, 3, none⟩ = some (.int .i16 r.c)))) (first | (with_reducible exact G1.out _ k1.out) | (with_reducible exact G1.out _ k2.out) | (with_reducible exact G1.out _ k3.out) | (with_reducible exact G1.out _ k4.out))
        (first
          | (go_at_call 36; (with_reducible refine (kS.out _ _ q2.out.feedAt).mono ?_); rintro e wd hd; obtain ⟨vd, rfl, hg⟩ := hd.grows; have k4 := Lib.hid (k3.out.trans hg.below); have q4 := Lib.hid (own_lower hg.own k3.out.size); clear hd hg)
          | (go_at_call 37; (with_reducible refine (kA.out _).mono ?_); rintro e wc ⟨rfl, hb⟩; have k3 := Lib.hid (k2.out.trans hb); have q2 := Lib.hid (q1.out.below hb); clear hb)
          | (go_at_call 14; (with_reducible refine (kG.out _ k1.out).mono ?_); rintro e wb ⟨rfl, hc⟩; have k2 := Lib.hid (k1.out.trans hc.below); have q1 := Lib.hid (show Lies wb W0.heap.size (.slice (some ⟨W0.heap.size, 0, none⟩) xs.length xs.length) xs from hc.lies); clear hc))
      all_goals (go_wp2_with fail; go_meet; exact ⟨vd, rfl, rfl, q4.out, k4.out⟩)
    case rest =>
    obtain ⟨v0, rfl, rfl, hgr⟩ := hcut
    rename World => w1
    obtain ⟨g0, hgeg0, hlL0⟩ := hgr.lies
    have hB1 := Lib.hid (show Below W0.heap.size W0 w1 from hgr.below)
    have L0 := Lib.hid hlL0
    have hlt0 : Hid (mX ≠ [] → g0 < w1.heap.size) := Lib.hid hlL0.lt
    obtain ⟨A0, c0, rfl, _⟩ := hlL0
    clear hgr hgeg0
    go_wp2_with fail
    refine (c_toReadingS A c xs w1 ((H.out.below hB1.out).more hB1.out.size) hl).mono ?_
    rintro e w2 ⟨rfl, h2⟩
    have h2 := Lib.hid h2
    have L0 := Lib.hid (L0.out.below h2.out.below)
    have hB2 : Hid (Below W0.heap.size W0 w2) := Lib.hid (hB1.out.trans (h2.out.below.mono hB1.out.size))
    have Lx := Lib.hid h2.out.lies
    have hlt2 := Lib.hid h2.out.lt
    obtain ⟨⟨b0, b1⟩, b2, b3⟩ := (HB.out _ hB2.out).1
    clear h2
    go_wp2_with fail
    refine (kA.out _).mono ?_
    rintro e w3 ⟨rfl, h3⟩
    have L0 := Lib.hid (L0.out.below h3)
    have Lx := Lib.hid (Lx.out.below h3)
    have hB3 : Hid (Below W0.heap.size W0 w3) := Lib.hid (hB2.out.trans (h3.mono hB2.out.size))
    have h3s := (show Stays w2 w3 from h3).size
    clear h3
    clear b0 b1 b2 b3
    have hw23 : Hid (w2.heap.size ≤ w3.heap.size) := Lib.hid h3s
    go_wp2_with fail
    refine (kI.out _ _ w3 Lx.out.feedAt).mono ?_
    rintro e w4 hd
    obtain ⟨v1, rfl, h4⟩ := hd.grows
    obtain ⟨g1, hgeg1, hlL1⟩ := h4.lies
    clear hd
    have L0 := Lib.hid (L0.out.below h4.below)
    have Lx := Lib.hid (Lx.out.below h4.below)
    have hB4 : Hid (Below W0.heap.size W0 w4) := Lib.hid (hB3.out.trans (h4.below.mono hB3.out.size))
    have L1 := Lib.hid hlL1
    clear h3s
    have hge1 := hgeg1
    have hne1 : Hid (w1.heap.size < g1) := Lib.hid (by have := hlt2.out; have := hw23.out; omega)
    obtain ⟨A1, c1, rfl, _⟩ := hlL1
    clear h4
    clear hgeg1
    go_wp2_with fail
    refine (c_eqReadingS _ _ _ _ mX w4 L1.out.feedAt L0.out.feedAt hX).mono ?_
    rintro e w5 ⟨rfl, h5⟩
    have L0 := Lib.hid (L0.out.below h5)
    have Lx := Lib.hid (Lx.out.below h5)
    have L1 := Lib.hid (L1.out.below h5)
    have hB5 : Hid (Below W0.heap.size W0 w5) := Lib.hid (hB4.out.trans (h5.mono hB4.out.size))
    clear h5
    go_wp2_with fail
    refine (c_toReadingS A c xs w5 ((H.out.below hB5.out).more hB5.out.size) hl).mono ?_
    rintro e w6 ⟨rfl, h6⟩
    have h6 := Lib.hid h6
    have L0 := Lib.hid (L0.out.below h6.out.below)
    have Lx := Lib.hid (Lx.out.below h6.out.below)
    have L1 := Lib.hid (L1.out.below h6.out.below)
    have hB6 : Hid (Below W0.heap.size W0 w6) := Lib.hid (hB5.out.trans (h6.out.below.mono hB5.out.size))
    go_wp2_with fail
    refine (c_eqReadingS _ _ _ _ xs w6 Lx.out.feedAt h6.out.feed hl).mono ?_
    rintro e w7 ⟨rfl, h7⟩
    have L0 := Lib.hid (L0.out.below h7)
    have Lx := Lib.hid (Lx.out.below h7)
    have L1 := Lib.hid (L1.out.below h7)
    have hB7 : Hid (Below W0.heap.size W0 w7) := Lib.hid (hB6.out.trans (h7.mono hB6.out.size))
    clear h7
    clear h6
    go_wp2_with fail
    refine (c_mark _ w1.heap.size _ xs.length 1 w7 Lx.out.at_ Lx.out.there hl (by omega)).mono ?_
    rintro e w8 ⟨rfl, hm⟩
    replace hm := Lib.hid hm
    have hB8 : Hid (Below W0.heap.size W0 w8) := Lib.hid (hB7.out.trans (hm.out.below _ hB1.out.size))
    have L0 := Lib.hid (L0.out.marked hm.out fun hx => by have := hlt0.out hx; have := hne1.out; omega)
    have L1 := Lib.hid (L1.out.marked hm.out fun hx => by have := hne1.out; omega)
    clear Lx
    clear hm
    have hk1 : ¬ ((1 : Int) + 4 * (xs.length : Nat) < 0) := by omega
    generalize (1 : Int) + 4 * (xs.length : Nat) = kk at hk1 ⊢
    go_wp2_with fail
    refine (c_eqReadingS _ _ _ _ mX w8 L1.out.feedAt L0.out.feedAt hX).mono ?_
    rintro e w9 ⟨rfl, h9⟩
    have L0 := Lib.hid (L0.out.below h9)
    have L1 := Lib.hid (L1.out.below h9)
    have hB9 : Hid (Below W0.heap.size W0 w9) := Lib.hid (hB8.out.trans (h9.mono hB8.out.size))
    clear h9
    have hge : W0.heap.size ≤ g1 := by have := hne1.out; have := hB1.out.size; omega
    have hA1 := Lib.hid L1.out.at_
    go_wp2_with fail
    refine (c_mark A1 g1 c1 mX.length 1 w9 L1.out.at_ L1.out.there hX (by omega)).mono ?_
    rintro e w10 ⟨rfl, hm⟩
    replace hm := Lib.hid hm
    have hB10 : Hid (Below W0.heap.size W0 w10) := Lib.hid (hB9.out.trans (hm.out.below _ hge))
    have L0 := Lib.hid (L0.out.marked hm.out fun hx => by have := hlt0.out hx; have := hne1.out; omega)
    clear L1
    clear hge
    have hk2 : ¬ ((1 : Int) + 4 * (mX.length : Nat) < 0) := by omega
    go_wp2_with fail
    refine (c_held A1 g1 c1 mX.length 1 w10 hA1.out (hm.out.on (Below.refl _ _)) hX (by omega)).mono ?_
    rintro e w' ⟨rfl, rfl⟩
    generalize hkk2 : (1 : Int) + 4 * (mX.length : Nat) = kk2 at hk2 ⊢
    have hkk2 := Lib.hid hkk2
    have G2 : Hid (∀ w', Stays w10 w' → ((w'.cell? ⟨w.heap.size, 0, none⟩ = some (.int .i64 r.t) ∧ w'.cell? ⟨w.heap.size, 1, none⟩ = some (.int .i16 r.a)) ∧ (w'.cell? ⟨w.heap.size, 2, none⟩ = some (.int .i16 r.b) ∧ w'.cell? ⟨w.heap.size, 3, none⟩ = some (.int .i16 r.c)))) := Lib.hid fun w' h => (HB.out _ ((show Stays W0 w10 from hB10.out).trans h)).1
    have hSW := Lib.hid (show Stays W0 w10 from hB10.out)
    go_upto_region 24 with fail
    go_cut [14, 15] from 79 to 86 (fun s t wx => ∃ v, s = v ∧ t = .int .i64 code ∧ Grows w10 wx v mX)
    case first =>
      have k1 := Lib.hid (show Stays w10 w10.drew from (Stays.refl w10).drew)
      go_region_held (fun w' => ((w'.cell? ⟨w.heap.size, 0, none⟩ = some (.int .i64 r.t) ∧ w'.cell? ⟨w.heap.size, 1, none⟩ = some (.int .i16 r.a)) ∧ (w'.cell? ⟨w.heap.size, 2, none⟩ = some (.int .i16 r.b) ∧ w'.cell? ⟨w.heap.size, 3, none⟩ = some (.int .i16 r.c)))) (first | (with_reducible exact G2.out _ k1.out) | (with_reducible exact G2.out _ k2.out) | (with_reducible exact G2.out _ k3.out) | (with_reducible exact G2.out _ k4.out))
        (first
          | (go_at_call 38; (with_reducible refine (kI.out _ _ _ q2.out.feedAt).mono ?_); rintro e wd hd; obtain ⟨vd, rfl, hg⟩ := hd.grows; have k4 := Lib.hid (k3.out.trans hg.below); have q4 := Lib.hid (own_lower hg.own k3.out.size); clear hd hg)
          | (go_at_call 37; (with_reducible refine (kA.out _).mono ?_); rintro e wc ⟨rfl, hb⟩; have k3 := Lib.hid (k2.out.trans hb); have q2 := Lib.hid (q1.out.below hb); clear hb)
          | (go_at_call 14; (with_reducible refine (kG.out _ (hSW.out.trans k1.out)).mono ?_); rintro e wb ⟨rfl, hc⟩; have k2 := Lib.hid (k1.out.trans hc.below); have q1 := Lib.hid (show Lies wb w10.heap.size (.slice (some ⟨w10.heap.size, 0, none⟩) xs.length xs.length) xs from hc.lies); clear hc))
      all_goals (go_wp2_with fail; go_meet; exact ⟨vd, rfl, rfl, q4.out, k4.out⟩)
    case rest =>
    obtain ⟨v2, rfl, rfl, hgr⟩ := hcut
    rename World => w11
    obtain ⟨g2, _, hlL2⟩ := hgr.lies
    have hB11 := Lib.hid ((show Stays W0 w10 from hB10.out).trans hgr.below)
    have hS11 := Lib.hid (show Stays w10 w11 from hgr.below)
    have L0 := Lib.hid (L0.out.below hgr.below)
    have L2 := Lib.hid hlL2
    obtain ⟨A2, c2, rfl, _⟩ := hlL2
    clear hgr
    go_wp2_with fail
    refine (c_eqReadingS _ _ _ _ mX w11 L2.out.feedAt L0.out.feedAt hX).mono ?_
    rintro e w12 ⟨rfl, h12⟩
    have hB12 := Lib.hid (hB11.out.trans h12)
    have hS12 := Lib.hid (hS11.out.trans h12)
    clear h12
    go_wp2_with fail
    refine (c_held A1 g1 c1 mX.length 1 w12 hA1.out (hm.out.on hS12.out) hX (by omega)).mono ?_
    rintro e w' ⟨rfl, rfl⟩
    rw [hkk2.out]
    go_wp2
    go_ret
    exact ⟨rfl, (HB.out _ hB12.out).2⟩
  · have hl1 : (1048576 : Int) - (xs.length : Nat) < 0 := by omega
    rw [if_pos hl1] at hsz
    replace hsz := Lib.hid hsz
    go_enter Try.func8, Try.ntmps8
    go_wp2_with fail
    refine hsz.out.mono ?_
    rintro e w' ⟨rfl, rfl⟩
    go_wp2
    go_ret
    exact ⟨rfl, (HB.out _ (Stays.refl _)).2⟩
end Go.Proofs.Ytmcbeaihjdnelaa
