/- The law on feeds that are merged. No condition. -/
import Derived.Test.YtmcbeaihjdnelaaMgh
import Derived.Test.YtmcbeaihjdnelaaLf
namespace Go.Proofs.Ytmcbeaihjdnelaa
open Go Go.RowKit
set_option linter.unusedVariables false
set_option linter.unusedSimpArgs false

set_option maxRecDepth 100000 in
set_option maxHeartbeats 4000000 in
theorem c_lawMergeFeeds (A : Option Addr) (c : Nat) (xs : List Rd) (A' : Option Addr) (c' : Nat) (ys : List Rd) (w : World) (h : Feed w w.heap.size A xs) (hn : xs.length ≤ 9223372036854775807) (h2 : Feed w w.heap.size A' ys) (hn2 : ys.length ≤ 9223372036854775807) :
    Calls Try.prog 9 #[.slice A xs.length c, .slice A' ys.length c'] w fun e w' => e = .returned (.bool true) ∧ Below w.heap.size w w' := by
  have H := Lib.hid h
  have H2 := Lib.hid h2
  clear h h2
  go_enter Try.func9, Try.ntmps9
  go_wp2_with fail
  refine (c_szReadingS A c xs.length _ w hn (by omega) (by omega)).mono ?_
  rintro e w' ⟨rfl, rfl⟩
  by_cases hl : xs.length ≤ 1048576
  · have hl1 : ¬ ((1048576 : Int) - (xs.length : Nat) < 0) := by omega
    rw [if_neg hl1]
    have hY : (1048576 : Int) - (xs.length : Nat) ≤ 1048576 := by omega
    obtain ⟨Y, hYe⟩ : ∃ Y : Int, Y = (1048576 : Int) - (xs.length : Nat) := ⟨_, rfl⟩
    rw [← hYe] at hl1 hY ⊢
    replace hYe := Lib.hid hYe
    go_wp2_with fail
    refine (c_szReadingS A' c' ys.length _ w hn2 (by omega) (by omega)).mono ?_
    rintro e w' ⟨rfl, rfl⟩
    by_cases hl3 : Y - (ys.length : Nat) < 0
    · rw [if_pos hl3]
      go_wp2
      go_ret
      exact ⟨rfl, Below.refl _ _⟩
    · rw [if_neg hl3]
      have hl2 : ys.length ≤ 1048576 := by omega
      have hl4 : ¬ (Y - (ys.length : Nat) < 0) := hl3
      generalize Y - (ys.length : Nat) = Y2 at hl4 ⊢
      have kS := Lib.hid fun g c g2 c2 w h h2 => c_specMerge g c g2 c2 xs ys w h h2 hl hl2
      have kI := Lib.hid fun g c g2 w h h2 => c_implMerge g c g2 ys.length xs ys w h h2 hl hl2 (Nat.le_refl _)
      have hX := mgX_len xs ys
      generalize mgX xs ys = mX at kS kI hX
      generalize mgC xs ys = code at kS kI
      clear hl3 hl1 hY
      go_wp2_with fail
      refine (c_toReadingS A c xs w H.out hl).mono ?_
      rintro e w1 ⟨rfl, h1⟩
      have h1 := Lib.hid h1
      have hB1 : Hid (Below w.heap.size w w1) := Lib.hid h1.out.below
      have Lf := Lib.hid h1.out.lies
      go_wp2_with fail
      refine (c_toReadingS A' c' ys w1 ((H2.out.below hB1.out).more hB1.out.size) hl2).mono ?_
      rintro e w2 ⟨rfl, h2⟩
      have h2 := Lib.hid h2
      have Lf := Lib.hid (Lf.out.below h2.out.below)
      have hB2 : Hid (Below w.heap.size w w2) := Lib.hid (hB1.out.trans (h2.out.below.mono hB1.out.size))
      go_wp2_with fail
      refine (kS.out _ _ _ _ w2 Lf.out.feedAt h2.out.feed).mono ?_
      rintro e w3 hd
      obtain ⟨v0, rfl, h3⟩ := hd.grows
      obtain ⟨g0, hgeg0, hlL0⟩ := h3.lies
      clear hd
      have Lf := Lib.hid (Lf.out.below h3.below)
      have hB3 : Hid (Below w.heap.size w w3) := Lib.hid (hB2.out.trans (h3.below.mono hB2.out.size))
      have L0 := Lib.hid hlL0
      have hlt0 : Hid (mX ≠ [] → g0 < w3.heap.size) := Lib.hid hlL0.lt
      obtain ⟨A0, c0, rfl, _⟩ := hlL0
      clear h3
      clear h1 h2 hgeg0 Lf
      go_wp2_with fail
      refine (c_toReadingS A c xs w3 ((H.out.below hB3.out).more hB3.out.size) hl).mono ?_
      rintro e w4 ⟨rfl, h4⟩
      have h4 := Lib.hid h4
      have L0 := Lib.hid (L0.out.below h4.out.below)
      have hB4 : Hid (Below w.heap.size w w4) := Lib.hid (hB3.out.trans (h4.out.below.mono hB3.out.size))
      have Lx := Lib.hid h4.out.lies
      have hlt4 := Lib.hid h4.out.lt
      go_wp2_with fail
      refine (c_toReadingS A' c' ys w4 ((H2.out.below hB4.out).more hB4.out.size) hl2).mono ?_
      rintro e w5 ⟨rfl, h5⟩
      have h5 := Lib.hid h5
      have L0 := Lib.hid (L0.out.below h5.out.below)
      have Lx := Lib.hid (Lx.out.below h5.out.below)
      have hB5 : Hid (Below w.heap.size w w5) := Lib.hid (hB4.out.trans (h5.out.below.mono hB4.out.size))
      have Ly := Lib.hid h5.out.lies
      have hlt5 := Lib.hid h5.out.lt
      go_wp2_with fail
      refine (kI.out _ _ _ w5 Lx.out.feedAt h5.out.feed).mono ?_
      rintro e w6 hd
      obtain ⟨v1, rfl, h6⟩ := hd.grows
      obtain ⟨g1, hgeg1, hlL1⟩ := h6.lies
      clear hd
      have L0 := Lib.hid (L0.out.below h6.below)
      have Lx := Lib.hid (Lx.out.below h6.below)
      have Ly := Lib.hid (Ly.out.below h6.below)
      have hB6 : Hid (Below w.heap.size w w6) := Lib.hid (hB5.out.trans (h6.below.mono hB5.out.size))
      have L1 := Lib.hid hlL1
      have hne1 : Hid (w4.heap.size < g1) := Lib.hid (Nat.lt_of_lt_of_le hlt5.out hgeg1)
      obtain ⟨A1, c1, rfl, _⟩ := hlL1
      clear h6
      clear h4 h5 hgeg1
      go_wp2_with fail
      refine (c_eqReadingS _ _ _ _ mX w6 L1.out.feedAt L0.out.feedAt hX).mono ?_
      rintro e w7 ⟨rfl, h7⟩
      have L0 := Lib.hid (L0.out.below h7)
      have Lx := Lib.hid (Lx.out.below h7)
      have Ly := Lib.hid (Ly.out.below h7)
      have L1 := Lib.hid (L1.out.below h7)
      have hB7 : Hid (Below w.heap.size w w7) := Lib.hid (hB6.out.trans (h7.mono hB6.out.size))
      clear h7
      go_wp2_with fail
      refine (c_toReadingS A c xs w7 ((H.out.below hB7.out).more hB7.out.size) hl).mono ?_
      rintro e w8 ⟨rfl, h8⟩
      have h8 := Lib.hid h8
      have L0 := Lib.hid (L0.out.below h8.out.below)
      have Lx := Lib.hid (Lx.out.below h8.out.below)
      have Ly := Lib.hid (Ly.out.below h8.out.below)
      have L1 := Lib.hid (L1.out.below h8.out.below)
      have hB8 : Hid (Below w.heap.size w w8) := Lib.hid (hB7.out.trans (h8.out.below.mono hB7.out.size))
      go_wp2_with fail
      refine (c_eqReadingS _ _ _ _ xs w8 Lx.out.feedAt h8.out.feed hl).mono ?_
      rintro e w9 ⟨rfl, h9⟩
      have L0 := Lib.hid (L0.out.below h9)
      have Lx := Lib.hid (Lx.out.below h9)
      have Ly := Lib.hid (Ly.out.below h9)
      have L1 := Lib.hid (L1.out.below h9)
      have hB9 : Hid (Below w.heap.size w w9) := Lib.hid (hB8.out.trans (h9.mono hB8.out.size))
      clear h9
      clear h8
      go_wp2_with fail
      refine (c_toReadingS A' c' ys w9 ((H2.out.below hB9.out).more hB9.out.size) hl2).mono ?_
      rintro e w10 ⟨rfl, h10⟩
      have h10 := Lib.hid h10
      have L0 := Lib.hid (L0.out.below h10.out.below)
      have Lx := Lib.hid (Lx.out.below h10.out.below)
      have Ly := Lib.hid (Ly.out.below h10.out.below)
      have L1 := Lib.hid (L1.out.below h10.out.below)
      have hB10 : Hid (Below w.heap.size w w10) := Lib.hid (hB9.out.trans (h10.out.below.mono hB9.out.size))
      go_wp2_with fail
      refine (c_eqReadingS _ _ _ _ ys w10 Ly.out.feedAt h10.out.feed hl2).mono ?_
      rintro e w11 ⟨rfl, h11⟩
      have L0 := Lib.hid (L0.out.below h11)
      have Lx := Lib.hid (Lx.out.below h11)
      have Ly := Lib.hid (Ly.out.below h11)
      have L1 := Lib.hid (L1.out.below h11)
      have hB11 : Hid (Below w.heap.size w w11) := Lib.hid (hB10.out.trans (h11.mono hB10.out.size))
      clear h11
      clear h10
      go_wp2_with fail
      refine (c_markM _ w3.heap.size _ xs.length 1 w11 Lx.out.at_ Lx.out.there hl (by omega)).mono ?_
      rintro e w12 ⟨rfl, hm⟩
      replace hm := Lib.hid hm
      have hB12 : Hid (Below w.heap.size w w12) := Lib.hid (hB11.out.trans (hm.out.below _ hB3.out.size))
      have L0 := Lib.hid (L0.out.marked hm.out fun hx => by have := hlt0.out hx; have := hlt4.out; have := hne1.out; omega)
      have L1 := Lib.hid (L1.out.marked hm.out fun hx => by have := hlt4.out; have := hne1.out; omega)
      have Ly := Lib.hid (Ly.out.marked hm.out fun hx => by have := hlt4.out; omega)
      clear Lx
      clear hm
      go_wp2_with fail
      refine (c_markM _ w4.heap.size _ ys.length (1 + 4 * (xs.length : Nat)) w12 Ly.out.at_ Ly.out.there hl2 (by omega)).mono ?_
      rintro e w13 ⟨rfl, hm⟩
      replace hm := Lib.hid hm
      have hB13 : Hid (Below w.heap.size w w13) := Lib.hid (hB12.out.trans (hm.out.below _ hB4.out.size))
      have L0 := Lib.hid (L0.out.marked hm.out fun hx => by have := hlt0.out hx; have := hlt4.out; have := hne1.out; omega)
      have L1 := Lib.hid (L1.out.marked hm.out fun hx => by have := hne1.out; omega)
      clear Ly
      clear hm
      have hk1 : ¬ ((1 : Int) + 4 * (xs.length : Nat) + 4 * (ys.length : Nat) < 0) := by omega
      generalize (1 : Int) + 4 * (xs.length : Nat) + 4 * (ys.length : Nat) = kk at hk1 ⊢
      go_wp2_with fail
      refine (c_eqReadingS _ _ _ _ mX w13 L1.out.feedAt L0.out.feedAt hX).mono ?_
      rintro e w14 ⟨rfl, h14⟩
      have L0 := Lib.hid (L0.out.below h14)
      have L1 := Lib.hid (L1.out.below h14)
      have hB14 : Hid (Below w.heap.size w w14) := Lib.hid (hB13.out.trans (h14.mono hB13.out.size))
      clear h14
      have hge : w.heap.size ≤ g1 := by have := hne1.out; have := hB3.out.size; have := hB4.out.size; omega
      have hA1 := Lib.hid L1.out.at_
      go_wp2_with fail
      refine (c_mark A1 g1 c1 mX.length 1 w14 L1.out.at_ L1.out.there hX (by omega)).mono ?_
      rintro e w15 ⟨rfl, hm⟩
      replace hm := Lib.hid hm
      have hB15 : Hid (Below w.heap.size w w15) := Lib.hid (hB14.out.trans (hm.out.below _ hge))
      have L0 := Lib.hid (L0.out.marked hm.out fun hx => by have := hlt0.out hx; have := hlt4.out; have := hne1.out; omega)
      clear L1
      clear hge
      have hk2 : ¬ ((1 : Int) + 4 * (mX.length : Nat) < 0) := by omega
      go_wp2_with fail
      refine (c_held A1 g1 c1 mX.length 1 w15 hA1.out (hm.out.on (Below.refl _ _)) hX (by omega)).mono ?_
      rintro e w' ⟨rfl, rfl⟩
      generalize hkk2 : (1 : Int) + 4 * (mX.length : Nat) = kk2 at hk2 ⊢
      have hkk2 := Lib.hid hkk2
      have hS15 := Lib.hid (Below.refl w15.heap.size w15)
      go_wp2_with fail
      refine (c_toReadingS A c xs w15 ((H.out.below hB15.out).more hB15.out.size) hl).mono ?_
      rintro e w16 ⟨rfl, h16⟩
      have h16 := Lib.hid h16
      have L0 := Lib.hid (L0.out.below h16.out.below)
      have hB16 : Hid (Below w.heap.size w w16) := Lib.hid (hB15.out.trans (h16.out.below.mono hB15.out.size))
      have hS16 := Lib.hid (hS15.out.trans (h16.out.below.mono hS15.out.size))
      have Lf := Lib.hid h16.out.lies
      go_wp2_with fail
      refine (c_toReadingS A' c' ys w16 ((H2.out.below hB16.out).more hB16.out.size) hl2).mono ?_
      rintro e w17 ⟨rfl, h17⟩
      have h17 := Lib.hid h17
      have L0 := Lib.hid (L0.out.below h17.out.below)
      have Lf := Lib.hid (Lf.out.below h17.out.below)
      have hB17 : Hid (Below w.heap.size w w17) := Lib.hid (hB16.out.trans (h17.out.below.mono hB16.out.size))
      have hS17 := Lib.hid (hS16.out.trans (h17.out.below.mono hS16.out.size))
      go_wp2_with fail
      refine (kI.out _ _ _ w17 Lf.out.feedAt h17.out.feed).mono ?_
      rintro e w18 hd
      obtain ⟨v2, rfl, h18⟩ := hd.grows
      obtain ⟨g2, hgeg2, hlL2⟩ := h18.lies
      clear hd
      have L0 := Lib.hid (L0.out.below h18.below)
      have Lf := Lib.hid (Lf.out.below h18.below)
      have hB18 : Hid (Below w.heap.size w w18) := Lib.hid (hB17.out.trans (h18.below.mono hB17.out.size))
      have L2 := Lib.hid hlL2
      have hS18 := Lib.hid (hS17.out.trans (h18.below.mono hS17.out.size))
      obtain ⟨A2, c2, rfl, _⟩ := hlL2
      clear h18
      clear hgeg2
      go_wp2_with fail
      refine (c_eqReadingS _ _ _ _ mX w18 L2.out.feedAt L0.out.feedAt hX).mono ?_
      rintro e w19 ⟨rfl, h19⟩
      have hB19 : Hid (Below w.heap.size w w19) := Lib.hid (hB18.out.trans (h19.mono hB18.out.size))
      have hS19 := Lib.hid (hS18.out.trans (h19.mono hS18.out.size))
      clear h19
      go_wp2_with fail
      refine (c_held A1 g1 c1 mX.length 1 w19 hA1.out (hm.out.on hS19.out) hX (by omega)).mono ?_
      rintro e w' ⟨rfl, rfl⟩
      rw [hkk2.out]
      go_wp2
      go_ret
      exact ⟨rfl, hB19.out⟩
  · have hl1 : (1048576 : Int) - (xs.length : Nat) < 0 := by omega
    rw [if_pos hl1]
    go_wp2
    go_ret
    exact ⟨rfl, Below.refl _ _⟩
end Go.Proofs.Ytmcbeaihjdnelaa
