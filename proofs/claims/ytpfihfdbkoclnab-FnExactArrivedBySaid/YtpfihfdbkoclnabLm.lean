/- The law on readings that have arrived. No condition. -/
import Derived.Test.YtpfihfdbkoclnabLi
import Derived.Test.YtpfihfdbkoclnabLk
namespace Go.Proofs.Ytpfihfdbkoclnab
open Go Go.RowKit
set_option linter.unusedVariables false

/-- A sensor in a block, cell by cell. -/
structure Boxed (w : World) (p : Nat) (r0 r1 r2 r3 r4 r5 : Nat) (ev d : Int) : Prop where
  c0 : w.cell? ⟨p, 0, none⟩ = some (.float .f32 r0)
  c1 : w.cell? ⟨p, 1, none⟩ = some (.float .f32 r1)
  c2 : w.cell? ⟨p, 2, none⟩ = some (.float .f32 r2)
  c3 : w.cell? ⟨p, 3, none⟩ = some (.float .f32 r3)
  c4 : w.cell? ⟨p, 4, none⟩ = some (.float .f32 r4)
  c5 : w.cell? ⟨p, 5, none⟩ = some (.float .f32 r5)
  c6 : w.cell? ⟨p, 6, none⟩ = some (.int .i64 ev)
  c7 : w.cell? ⟨p, 7, none⟩ = some (.int .i64 d)

theorem Boxed.on {w w' : World} {p B r0 r1 r2 r3 r4 r5 : Nat} {ev d : Int} (h : Boxed w p r0 r1 r2 r3 r4 r5 ev d) (hb : Below B w w') (hp : p < B) : Boxed w' p r0 r1 r2 r3 r4 r5 ev d := by
  have k : ∀ o, w'.cell? ⟨p, o, none⟩ = w.cell? ⟨p, o, none⟩ := fun o => hb.cell (p := ⟨p, o, none⟩) hp
  exact ⟨(k 0).trans h.c0, (k 1).trans h.c1, (k 2).trans h.c2, (k 3).trans h.c3, (k 4).trans h.c4, (k 5).trans h.c5, (k 6).trans h.c6, (k 7).trans h.c7⟩

set_option maxRecDepth 100000 in
set_option maxHeartbeats 1000000 in
theorem c_lawArrived (vs : Value) (ins : List NV) (hs : Sen vs ins) (A : Option Addr) (c : Nat) (time : Int) (rs : List Rd) (w : World) (h : Feed w w.heap.size A rs) (hn : rs.length ≤ 9223372036854775807) :
    Calls Try.prog 5 #[vs, .slice A rs.length c, .int .i64 time] w fun e w' => e = .returned (.bool true) ∧ Below w.heap.size w w' := by
  obtain ⟨r0, r1, r2, r3, r4, r5, ev, d, rfl, hdd⟩ := hs.cells
  clear hdd
  obtain ⟨wa, hwa⟩ : ∃ wa, wa = w.alloc (.cells (senCells r0 r1 r2 r3 r4 r5 ev d) 44) := ⟨_, rfl⟩
  have hal : Below w.heap.size w wa := by rw [hwa]; exact (Below.refl _ _).alloc (Nat.le_refl _) _
  have hbox : wa.heap[w.heap.size]? = some (.cells (senCells r0 r1 r2 r3 r4 r5 ev d) 44 (0, 0)) := by rw [hwa]; exact heap_alloc_new w _
  have hlt : w.heap.size < wa.heap.size := (Array.getElem?_eq_some_iff.1 hbox).1
  have hbx : Boxed wa w.heap.size r0 r1 r2 r3 r4 r5 ev d := by
    have k : ∀ o, wa.cell? ⟨w.heap.size, o, none⟩ = (senCells r0 r1 r2 r3 r4 r5 ev d)[o]? := fun o => cell_of_row _ _ o _ _ _ hbox
    exact ⟨k 0, k 1, k 2, k 3, k 4, k 5, k 6, k 7⟩
  have H := Lib.hid ((h.below hal).more hal.size)
  have hs := Lib.hid hs
  have hal := Lib.hid hal
  have hlt := Lib.hid hlt
  have hbx := Lib.hid hbx
  clear h hbox
  go_enter Try.func5, Try.ntmps5
  go_wp2_with fail
  rw [show w.alloc (.cells #[.float .f32 r0, .float .f32 r1, .float .f32 r2, .float .f32 r3, .float .f32 r4, .float .f32 r5, .int .i64 ev, .int .i64 d] 44) = wa from hwa.symm]
  clear hwa
  refine (c_szReadingS A c rs.length _ _ hn (by omega) (by omega)).mono ?_
  rintro e w' ⟨rfl, rfl⟩
  by_cases hl : rs.length ≤ 1048576
  · have hl1 : ¬ ((1048576 : Int) - (rs.length : Nat) < 0) := by omega
    rw [if_neg hl1]
    have hS := Lib.hid fun v hv A c w h => c_specArrived v ins hv A c time rs w h hl
    have hI := Lib.hid fun v hv A c w h => c_implArrived v ins hv A c time rs w h hl
    have hX : (if codeOf (sensB ins) (feedOK (rs.map (·.t)) && decide (rs.length ≤ 256)) (okTime time) = 0 then arrTo (ins.getD 7 (.i 0)).gi time rs rs.length else []).length ≤ 1048576 := by
      split
      · exact Nat.le_trans (arrTo_len _ _ _ _) hl
      · simp
    generalize (if codeOf (sensB ins) (feedOK (rs.map (·.t)) && decide (rs.length ≤ 256)) (okTime time) = 0 then arrTo (ins.getD 7 (.i 0)).gi time rs rs.length else []) = XS at hS hI hX
    generalize codeOf (sensB ins) (feedOK (rs.map (·.t)) && decide (rs.length ≤ 256)) (okTime time) = code at hS hI
    obtain ⟨b0, b1, b2, b3, b4, b5, b6, b7⟩ := hbx.out
    go_wp2_with fail
    refine (c_toSensor _ _ wa hs.out).mono ?_
    clear b0 b1 b2 b3 b4 b5 b6 b7
    rintro e w0 ⟨s0, rfl, hs0, hw0⟩
    have hs0 := Lib.hid hs0
    have hB0 := Lib.hid hw0
    clear hw0
    go_wp2_with fail
    refine (c_toReadingS A c rs w0 ((H.out.below hB0.out).more hB0.out.size) hl).mono ?_
    rintro e w1 ⟨rfl, h1⟩
    have h1 := Lib.hid h1
    have hB1 : Hid (Below wa.heap.size wa w1) := Lib.hid (hB0.out.trans (h1.out.below.mono hB0.out.size))
    go_wp2_with fail
    refine (hS.out _ hs0.out _ _ w1 h1.out.feed).mono ?_
    rintro e w2 ⟨v0, rfl, h2⟩
    obtain ⟨g0, hge0, hl0⟩ := h2.lies
    have hB2 : Hid (Below wa.heap.size wa w2) := Lib.hid (hB1.out.trans (h2.below.mono hB1.out.size))
    have hlt0 : Hid (XS ≠ [] → g0 < w2.heap.size) := Lib.hid hl0.lt
    have hL0 := Lib.hid hl0
    obtain ⟨A0, c0, rfl, _⟩ := hl0
    clear h2 hge0
    go_wp2_with fail
    refine (c_toReadingS A c rs w2 ((H.out.below hB2.out).more hB2.out.size) hl).mono ?_
    rintro e w3 ⟨rfl, h3⟩
    have h3 := Lib.hid h3
    have hB3 : Hid (Below wa.heap.size wa w3) := Lib.hid (hB2.out.trans (h3.out.below.mono hB2.out.size))
    have hL0 := Lib.hid (hL0.out.below h3.out.below)
    have hLx := Lib.hid h3.out.lies
    obtain ⟨b0, b1, b2, b3, b4, b5, b6, b7⟩ := hbx.out.on hB3.out hlt.out
    go_wp2_with fail
    refine (c_toSensor _ _ w3 hs.out).mono ?_
    clear b0 b1 b2 b3 b4 b5 b6 b7
    rintro e w3' ⟨s1, rfl, hs1, hw3⟩
    have hs1 := Lib.hid hs1
    have hw3 := Lib.hid hw3
    have hB3' : Hid (Below wa.heap.size wa w3') := Lib.hid (hB3.out.trans (hw3.out.mono hB3.out.size))
    have hL0 := Lib.hid (hL0.out.below hw3.out)
    have hLx := Lib.hid (hLx.out.below hw3.out)
    go_wp2_with fail
    refine (hI.out _ hs1.out _ _ w3' ((h3.out.feed.below hw3.out).more hw3.out.size)).mono ?_
    rintro e w4 ⟨v1, rfl, h4⟩
    obtain ⟨g1, hge1, hl1'⟩ := h4.lies
    have hne1 : Hid (w2.heap.size < g1) := Lib.hid (Nat.lt_of_lt_of_le h3.out.lt (Nat.le_trans hw3.out.size hge1))
    have hB4 : Hid (Below wa.heap.size wa w4) := Lib.hid (hB3'.out.trans (h4.below.mono hB3'.out.size))
    have hL0 := Lib.hid (hL0.out.below h4.below)
    have hLx := Lib.hid (hLx.out.below h4.below)
    have hL1 := Lib.hid hl1'
    obtain ⟨A1, c1, rfl, _⟩ := hl1'
    clear h4 hge1
    go_wp2_with fail
    refine (c_eqReadingS _ _ _ _ XS w4 hL1.out.feedAt hL0.out.feedAt hX).mono ?_
    rintro e w5 ⟨rfl, h5⟩
    have hB5 : Hid (Below wa.heap.size wa w5) := Lib.hid (hB4.out.trans (h5.mono hB4.out.size))
    have hL0 := Lib.hid (hL0.out.below h5)
    have hLx := Lib.hid (hLx.out.below h5)
    have hL1 := Lib.hid (hL1.out.below h5)
    clear h5
    go_wp2_with fail
    refine (c_toReadingS A c rs w5 ((H.out.below hB5.out).more hB5.out.size) hl).mono ?_
    rintro e w6 ⟨rfl, h6⟩
    have h6 := Lib.hid h6
    have hB6 : Hid (Below wa.heap.size wa w6) := Lib.hid (hB5.out.trans (h6.out.below.mono hB5.out.size))
    have hL0 := Lib.hid (hL0.out.below h6.out.below)
    have hLx := Lib.hid (hLx.out.below h6.out.below)
    have hL1 := Lib.hid (hL1.out.below h6.out.below)
    go_wp2_with fail
    refine (c_eqReadingS _ _ _ _ rs w6 hLx.out.feedAt h6.out.feed hl).mono ?_
    rintro e w7 ⟨rfl, h7⟩
    have hB7 : Hid (Below wa.heap.size wa w7) := Lib.hid (hB6.out.trans (h7.mono hB6.out.size))
    have hL0 := Lib.hid (hL0.out.below h7)
    have hLx := Lib.hid (hLx.out.below h7)
    have hL1 := Lib.hid (hL1.out.below h7)
    clear h7 h6
    go_wp2_with fail
    refine (c_mark _ w2.heap.size _ rs.length 1 w7 hLx.out.at_ hLx.out.there hl (by omega)).mono ?_
    rintro e w8 ⟨rfl, h8⟩
    have hB8 : Hid (Below wa.heap.size wa w8) := Lib.hid (hB7.out.trans (h8.below _ hB2.out.size))
    have hL0 := Lib.hid (hL0.out.marked h8 fun hx => by have := hlt0.out hx; omega)
    have hL1 := Lib.hid (hL1.out.marked h8 fun hx => by have := hne1.out; omega)
    clear h8 hLx
    have hk1 : ¬ ((1 : Int) + 4 * (rs.length : Nat) < 0) := by omega
    generalize (1 : Int) + 4 * (rs.length : Nat) = kk at hk1 ⊢
    go_wp2_with fail
    refine (c_eqReadingS _ _ _ _ XS w8 hL1.out.feedAt hL0.out.feedAt hX).mono ?_
    rintro e w9 ⟨rfl, h9⟩
    have hB9 : Hid (Below wa.heap.size wa w9) := Lib.hid (hB8.out.trans (h9.mono hB8.out.size))
    have hL0 := Lib.hid (hL0.out.below h9)
    have hL1 := Lib.hid (hL1.out.below h9)
    clear h9
    go_wp2_with fail
    refine (c_mark A1 g1 c1 XS.length 1 w9 hL1.out.at_ hL1.out.there hX (by omega)).mono ?_
    rintro e w10 ⟨rfl, h10⟩
    have h10 := Lib.hid h10
    have hge : wa.heap.size ≤ g1 := by have := hne1.out; have := hB2.out.size; omega
    have hB10 : Hid (Below wa.heap.size wa w10) := Lib.hid (hB9.out.trans (h10.out.below _ hge))
    have hL0 := Lib.hid (hL0.out.marked h10.out fun hx => by have := hlt0.out hx; have := hne1.out; omega)
    have hA1 := Lib.hid hL1.out.at_
    clear hge
    have hk2 : ¬ ((1 : Int) + 4 * (XS.length : Nat) < 0) := by omega
    go_wp2_with fail
    refine (c_held A1 g1 c1 XS.length 1 w10 hA1.out (h10.out.on (Below.refl _ _)) hX (by omega)).mono ?_
    rintro e w' ⟨rfl, rfl⟩
    generalize hkk2 : (1 : Int) + 4 * (XS.length : Nat) = kk2 at hk2 ⊢
    have hkk2 := Lib.hid hkk2
    obtain ⟨b0, b1, b2, b3, b4, b5, b6, b7⟩ := hbx.out.on hB10.out hlt.out
    go_wp2_with fail
    refine (c_toSensor _ _ w10 hs.out).mono ?_
    clear b0 b1 b2 b3 b4 b5 b6 b7
    rintro e w10' ⟨s2, rfl, hs2, hw10⟩
    have hs2 := Lib.hid hs2
    have hw10 := Lib.hid hw10
    have hB10' : Hid (Below wa.heap.size wa w10') := Lib.hid (hB10.out.trans (hw10.out.mono hB10.out.size))
    have hL0 := Lib.hid (hL0.out.below hw10.out)
    go_wp2_with fail
    refine (c_toReadingS A c rs w10' ((H.out.below hB10'.out).more hB10'.out.size) hl).mono ?_
    rintro e w11 ⟨rfl, h11⟩
    have h11 := Lib.hid h11
    have hB11 : Hid (Below wa.heap.size wa w11) := Lib.hid (hB10'.out.trans (h11.out.below.mono hB10'.out.size))
    have hL0 := Lib.hid (hL0.out.below h11.out.below)
    go_wp2_with fail
    refine (hI.out _ hs2.out _ _ w11 h11.out.feed).mono ?_
    rintro e w12 ⟨v2, rfl, h12⟩
    obtain ⟨g2, hge2, hl2⟩ := h12.lies
    have hB12 : Hid (Below wa.heap.size wa w12) := Lib.hid (hB11.out.trans (h12.below.mono hB11.out.size))
    have hL0 := Lib.hid (hL0.out.below h12.below)
    have hB1012 : Hid (Below w10.heap.size w10 w12) := Lib.hid (hw10.out.trans ((h11.out.below.trans (h12.below.mono h11.out.below.size)).mono hw10.out.size))
    have hL2 := Lib.hid hl2
    obtain ⟨A2, c2, rfl, _⟩ := hl2
    clear h12 hge2
    go_wp2_with fail
    refine (c_eqReadingS _ _ _ _ XS w12 hL2.out.feedAt hL0.out.feedAt hX).mono ?_
    rintro e w13 ⟨rfl, h13⟩
    have hB13 : Hid (Below wa.heap.size wa w13) := Lib.hid (hB12.out.trans (h13.mono hB12.out.size))
    have hB1013 : Hid (Below w10.heap.size w10 w13) := Lib.hid (hB1012.out.trans (h13.mono hB1012.out.size))
    clear h13
    go_wp2_with fail
    refine (c_held A1 g1 c1 XS.length 1 w13 hA1.out (h10.out.on hB1013.out) hX (by omega)).mono ?_
    rintro e w' ⟨rfl, rfl⟩
    rw [hkk2.out]
    go_wp2
    go_ret
    exact ⟨rfl, hal.out.trans (hB13.out.mono hal.out.size)⟩
  · have hl1 : (1048576 : Int) - (rs.length : Nat) < 0 := by omega
    rw [if_pos hl1]
    go_wp2
    go_ret
    exact ⟨rfl, hal.out⟩
end Go.Proofs.Ytpfihfdbkoclnab
