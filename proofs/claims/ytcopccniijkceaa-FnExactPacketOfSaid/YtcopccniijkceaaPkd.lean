/- The law on packets. No condition. -/
import Derived.Test.YtcopccniijkceaaPkf
namespace Go.Proofs.Ytcopccniijkceaa
open Go Go.RowKit
set_option linter.unusedVariables false
set_option linter.unusedSimpArgs false

set_option maxRecDepth 100000 in
set_option maxHeartbeats 4000000 in
theorem c_lawPacketOf (A : Option Addr) (c : Nat) (rs : List Rd) (w : World) (h : Feed w w.heap.size A rs) (hn : rs.length ≤ 9223372036854775807) :
    Calls Try.prog 4 #[.slice A rs.length c] w fun e w' => e = .returned (.bool true) ∧ Below w.heap.size w w' := by
  have H := Lib.hid h
  clear h
  go_enter Try.func4, Try.ntmps4
  go_wp2_with fail
  refine (c_szReadingS A c rs.length _ w hn (by omega) (by omega)).mono ?_
  rintro e w' ⟨rfl, rfl⟩
  by_cases hl : rs.length ≤ 1048576
  · have hl1 : ¬ ((1048576 : Int) - (rs.length : Nat) < 0) := by omega
    rw [if_neg hl1]
    have hS := Lib.hid fun g c w h => c_specPacket g c rs w h hl
    have hI := Lib.hid fun g c w h => c_implPacket g c rs w h hl
    have hX := pkX_len rs
    generalize pkX rs = XS at hS hI hX
    generalize pkC rs = code at hS hI
    go_wp2_with fail
    refine (c_toReadingS A c rs w H.out hl).mono ?_
    rintro e w1 ⟨rfl, h1⟩
    have h1 := Lib.hid h1
    go_wp2_with fail
    refine (hS.out _ _ w1 h1.out.feed).mono ?_
    rintro e w2 ⟨v0, rfl, h2⟩
    obtain ⟨g0, hge0, hl0⟩ := h2.lies
    have hB2 : Hid (Below w.heap.size w w2) := Lib.hid (h1.out.below.trans (h2.below.mono h1.out.below.size))
    have hlt0 : Hid (XS ≠ [] → g0 < w2.heap.size) := Lib.hid hl0.lt
    have hL0 := Lib.hid hl0
    obtain ⟨A0, c0, rfl, _⟩ := hl0
    clear h2 hge0
    go_wp2_with fail
    refine (c_toReadingS A c rs w2 ((H.out.below hB2.out).more hB2.out.size) hl).mono ?_
    rintro e w3 ⟨rfl, h3⟩
    have h3 := Lib.hid h3
    have hB3 : Hid (Below w.heap.size w w3) := Lib.hid (hB2.out.trans (h3.out.below.mono hB2.out.size))
    have hL0 := Lib.hid (hL0.out.below h3.out.below)
    have hLx := Lib.hid h3.out.lies
    go_wp2_with fail
    refine (hI.out _ _ w3 h3.out.feed).mono ?_
    rintro e w4 ⟨v1, rfl, h4⟩
    obtain ⟨g1, hge1, hl1'⟩ := h4.lies
    have hne1 : Hid (w2.heap.size < g1) := Lib.hid (Nat.lt_of_lt_of_le h3.out.lt hge1)
    have hB4 : Hid (Below w.heap.size w w4) := Lib.hid (hB3.out.trans (h4.below.mono hB3.out.size))
    have hL0 := Lib.hid (hL0.out.below h4.below)
    have hLx := Lib.hid (hLx.out.below h4.below)
    have hL1 := Lib.hid hl1'
    obtain ⟨A1, c1, rfl, _⟩ := hl1'
    clear h4 hge1
    go_wp2_with fail
    refine (c_eqByteS _ _ _ _ XS w4 hL1.out.rows hL0.out.rows hX).mono ?_
    rintro e w5 ⟨rfl, h5⟩
    have hB5 : Hid (Below w.heap.size w w5) := Lib.hid (hB4.out.trans (h5.mono hB4.out.size))
    have hL0 := Lib.hid (hL0.out.below h5)
    have hLx := Lib.hid (hLx.out.below h5)
    have hL1 := Lib.hid (hL1.out.below h5)
    clear h5
    go_wp2_with fail
    refine (c_toReadingS A c rs w5 ((H.out.below hB5.out).more hB5.out.size) hl).mono ?_
    rintro e w6 ⟨rfl, h6⟩
    have h6 := Lib.hid h6
    have hB6 : Hid (Below w.heap.size w w6) := Lib.hid (hB5.out.trans (h6.out.below.mono hB5.out.size))
    have hL0 := Lib.hid (hL0.out.below h6.out.below)
    have hLx := Lib.hid (hLx.out.below h6.out.below)
    have hL1 := Lib.hid (hL1.out.below h6.out.below)
    go_wp2_with fail
    refine (c_eqReadingS _ _ _ _ rs w6 hLx.out.feedAt h6.out.feed hl).mono ?_
    rintro e w7 ⟨rfl, h7⟩
    have hB7 : Hid (Below w.heap.size w w7) := Lib.hid (hB6.out.trans (h7.mono hB6.out.size))
    have hL0 := Lib.hid (hL0.out.below h7)
    have hLx := Lib.hid (hLx.out.below h7)
    have hL1 := Lib.hid (hL1.out.below h7)
    clear h7 h6
    go_wp2_with fail
    refine (c_mark _ w2.heap.size _ rs.length 1 w7 hLx.out.at_ hLx.out.there hl (by omega)).mono ?_
    rintro e w8 ⟨rfl, h8⟩
    have hB8 : Hid (Below w.heap.size w w8) := Lib.hid (hB7.out.trans (h8.below _ hB2.out.size))
    have hL0 := Lib.hid (LiesB.markedR hL0.out h8 fun hx => by have := hlt0.out hx; omega)
    have hL1 := Lib.hid (LiesB.markedR hL1.out h8 fun hx => by have := hne1.out; omega)
    clear h8 hLx
    have hk1 : ¬ ((1 : Int) + 4 * (rs.length : Nat) < 0) := by omega
    generalize (1 : Int) + 4 * (rs.length : Nat) = kk at hk1 ⊢
    go_wp2_with fail
    refine (c_eqByteS _ _ _ _ XS w8 hL1.out.rows hL0.out.rows hX).mono ?_
    rintro e w9 ⟨rfl, h9⟩
    have hB9 : Hid (Below w.heap.size w w9) := Lib.hid (hB8.out.trans (h9.mono hB8.out.size))
    have hL0 := Lib.hid (hL0.out.below h9)
    have hL1 := Lib.hid (hL1.out.below h9)
    clear h9
    go_wp2_with fail
    refine (c_markB A1 g1 c1 XS.length 1 w9 (LiesB.at_ hL1.out) (LiesB.there hL1.out) hX (by omega)).mono ?_
    rintro e w10 ⟨rfl, h10⟩
    have h10 := Lib.hid h10
    have hge : w.heap.size ≤ g1 := by have := hne1.out; have := hB2.out.size; omega
    have hB10 : Hid (Below w.heap.size w w10) := Lib.hid (hB9.out.trans (h10.out.below _ hge))
    have hL0 := Lib.hid (LiesB.markedB hL0.out h10.out fun hx => by have := hlt0.out hx; have := hne1.out; omega)
    have hA1 := Lib.hid (LiesB.at_ hL1.out)
    clear hge
    have hk2 : ¬ ((1 : Int) + (XS.length : Nat) < 0) := by omega
    go_wp2_with fail
    refine (c_heldB A1 g1 c1 XS.length 1 w10 hA1.out (h10.out.on (Below.refl _ _)) hX (by omega)).mono ?_
    rintro e w' ⟨rfl, rfl⟩
    generalize hkk2 : (1 : Int) + (XS.length : Nat) = kk2 at hk2 ⊢
    have hkk2 := Lib.hid hkk2
    go_wp2_with fail
    refine (c_toReadingS A c rs w10 ((H.out.below hB10.out).more hB10.out.size) hl).mono ?_
    rintro e w11 ⟨rfl, h11⟩
    have h11 := Lib.hid h11
    have hB11 : Hid (Below w.heap.size w w11) := Lib.hid (hB10.out.trans (h11.out.below.mono hB10.out.size))
    have hL0 := Lib.hid (hL0.out.below h11.out.below)
    go_wp2_with fail
    refine (hI.out _ _ w11 h11.out.feed).mono ?_
    rintro e w12 ⟨v2, rfl, h12⟩
    obtain ⟨g2, hge2, hl2⟩ := h12.lies
    have hB12 : Hid (Below w.heap.size w w12) := Lib.hid (hB11.out.trans (h12.below.mono hB11.out.size))
    have hL0 := Lib.hid (hL0.out.below h12.below)
    have hB1012 : Hid (Below w10.heap.size w10 w12) := Lib.hid (h11.out.below.trans (h12.below.mono h11.out.below.size))
    have hL2 := Lib.hid hl2
    obtain ⟨A2, c2, rfl, _⟩ := hl2
    clear h12 hge2
    go_wp2_with fail
    refine (c_eqByteS _ _ _ _ XS w12 hL2.out.rows hL0.out.rows hX).mono ?_
    rintro e w13 ⟨rfl, h13⟩
    have hB13 : Hid (Below w.heap.size w w13) := Lib.hid (hB12.out.trans (h13.mono hB12.out.size))
    have hB1013 : Hid (Below w10.heap.size w10 w13) := Lib.hid (hB1012.out.trans (h13.mono hB1012.out.size))
    clear h13
    go_wp2_with fail
    refine (c_heldB A1 g1 c1 XS.length 1 w13 hA1.out (h10.out.on hB1013.out) hX (by omega)).mono ?_
    rintro e w' ⟨rfl, rfl⟩
    rw [hkk2.out]
    go_wp2
    go_ret
    exact ⟨rfl, hB13.out⟩
  · have hl1 : (1048576 : Int) - (rs.length : Nat) < 0 := by omega
    rw [if_pos hl1]
    go_wp2
    go_ret
    exact ⟨rfl, Below.refl _ _⟩
end Go.Proofs.Ytcopccniijkceaa
