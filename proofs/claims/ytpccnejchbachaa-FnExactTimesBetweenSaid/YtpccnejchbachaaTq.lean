/- The law on times between two times. No condition. -/
import Derived.Test.YtpccnejchbachaaTp
namespace Go.Proofs.Ytpccnejchbachaa
open Go Go.ChangeShapes Go.WideShapes Go.RowKit
set_option linter.unusedVariables false
set_option linter.unusedSimpArgs false

/-- A sensor in a block, cell by cell. -/
structure Boxed (w : World) (p : Nat) (r0 r1 r2 r3 r4 r5 : Nat) (ev d : Int) : Prop where
  c0 : w.cell? ⟨p, 0, none⟩ = some (.float .f32 r0)
  c1 : w.cell? ⟨p, 1, none⟩ = some (.float .f32 r1)
  c2 : w.cell? ⟨p, 2, none⟩ = some (.float .f32 r2)
  c3 : w.cell? ⟨p, 3, none⟩ = some (.float .f32 r3)
  c4 : w.cell? ⟨p, 4, none⟩ = some (.float .f32 r4)
  c5 : w.cell? ⟨p, 5, none⟩ = some (.float .f32 r5)
  c6 : w.cell? ⟨p, 6, none⟩ = some (.int .i64 ev)
  c7 : w.cell? ⟨p, 7, none⟩ = some (.int .i64 d)

theorem Boxed.on {w w' : World} {p B r0 r1 r2 r3 r4 r5 : Nat} {ev d : Int} (h : Boxed w p r0 r1 r2 r3 r4 r5 ev d) (hb : Below B w w') (hp : p < B) : Boxed w' p r0 r1 r2 r3 r4 r5 ev d := by
  have k : ∀ o, w'.cell? ⟨p, o, none⟩ = w.cell? ⟨p, o, none⟩ := fun o => hb.cell (p := ⟨p, o, none⟩) hp
  exact ⟨(k 0).trans h.c0, (k 1).trans h.c1, (k 2).trans h.c2, (k 3).trans h.c3, (k 4).trans h.c4, (k 5).trans h.c5, (k 6).trans h.c6, (k 7).trans h.c7⟩

theorem tbX_len (ins : List NV) (a b : Int) : (tbX ins a b).length ≤ 1048576 := by
  unfold tbX
  split
  · rename_i h
    rw [ticks_len]
    simp only [Bool.and_eq_true, decide_eq_true_eq] at h
    omega
  · simp

set_option maxRecDepth 100000 in
set_option maxHeartbeats 1000000 in
theorem c_lawTB (vs : Value) (ins : List NV) (hs : Sen vs ins) (a b : Int) (w : World) :
    Calls Try.prog 3 #[vs, .int .i64 a, .int .i64 b] w fun e w' => e = .returned (.bool true) ∧ Below w.heap.size w w' := by
  obtain ⟨r0, r1, r2, r3, r4, r5, ev, d, rfl, hdd⟩ := hs.cells
  clear hdd
  obtain ⟨wa, hwa⟩ : ∃ wa, wa = w.alloc (.cells #[.float .f32 r0, .float .f32 r1, .float .f32 r2, .float .f32 r3, .float .f32 r4, .float .f32 r5, .int .i64 ev, .int .i64 d] 25) := ⟨_, rfl⟩
  have hal : Below w.heap.size w wa := by rw [hwa]; exact (Below.refl _ _).alloc (Nat.le_refl _) _
  have hbox : wa.heap[w.heap.size]? = some (.cells #[.float .f32 r0, .float .f32 r1, .float .f32 r2, .float .f32 r3, .float .f32 r4, .float .f32 r5, .int .i64 ev, .int .i64 d] 25 (0, 0)) := by rw [hwa]; exact heap_alloc_new w _
  have hlt : w.heap.size < wa.heap.size := (Array.getElem?_eq_some_iff.1 hbox).1
  have hbx : Boxed wa w.heap.size r0 r1 r2 r3 r4 r5 ev d := by
    have k : ∀ o, wa.cell? ⟨w.heap.size, o, none⟩ = (#[.float .f32 r0, .float .f32 r1, .float .f32 r2, .float .f32 r3, .float .f32 r4, .float .f32 r5, .int .i64 ev, .int .i64 d] : Array Value)[o]? := fun o => cell_of_row _ _ o _ _ _ hbox
    exact ⟨k 0, k 1, k 2, k 3, k 4, k 5, k 6, k 7⟩
  have hX := Lib.hid (tbX_len ins a b)
  have hS := Lib.hid fun v hv W => c_specTB v ins hv a b W
  have hI := Lib.hid fun v hv W => c_implTB v ins hv a b W
  generalize tbX ins a b = XS at hS hI hX
  generalize tbC ins a b = code at hS hI
  replace hX := hX.out
  replace hs := Lib.hid hs
  replace hal := Lib.hid hal
  replace hlt := Lib.hid hlt
  replace hbx := Lib.hid hbx
  clear hbox
  go_enter Try.func3, Try.ntmps3
  go_wp2_with fail
  rw [show w.alloc (.cells #[.float .f32 r0, .float .f32 r1, .float .f32 r2, .float .f32 r3, .float .f32 r4, .float .f32 r5, .int .i64 ev, .int .i64 d] 25) = wa from hwa.symm]
  clear hwa
  refine (c_toSensor _ _ wa hs.out).mono ?_
  rintro e w0 ⟨s0, rfl, hs0, hw0⟩
  replace hs0 := Lib.hid hs0
  have hB0 := Lib.hid hw0
  clear hw0
  go_wp2_with fail
  refine (hS.out _ hs0.out w0).mono ?_
  rintro e w2 ⟨v0, rfl, h2, hst2⟩
  obtain ⟨g0, hge0, hl0⟩ := h2.lies
  have hB2 : Hid (Below wa.heap.size wa w2) := Lib.hid (hB0.out.trans ((show Below w0.heap.size w0 w2 from hst2).mono hB0.out.size))
  have hlt0 : Hid (XS ≠ [] → g0 < w2.heap.size) := Lib.hid hl0.lt
  have hL0 := Lib.hid hl0
  obtain ⟨A0, c0, rfl, _⟩ := hl0
  clear h2 hge0 hst2
  obtain ⟨b0, b1, b2, b3, b4, b5, b6, b7⟩ := hbx.out.on hB2.out hlt.out
  go_wp2_with fail
  refine (c_toSensor _ _ w2 hs.out).mono ?_
  clear b0 b1 b2 b3 b4 b5 b6 b7
  rintro e w3 ⟨s1, rfl, hs1, hw3⟩
  replace hs1 := Lib.hid hs1
  replace hw3 := Lib.hid hw3
  have hB3 : Hid (Below wa.heap.size wa w3) := Lib.hid (hB2.out.trans (hw3.out.mono hB2.out.size))
  replace hL0 := Lib.hid (hL0.out.below hw3.out)
  go_wp2_with fail
  refine (hI.out _ hs1.out w3).mono ?_
  rintro e w4 ⟨v1, rfl, h4, hst4⟩
  obtain ⟨g1, hge1, hl1'⟩ := h4.lies
  have hne1 : Hid (w2.heap.size ≤ g1) := Lib.hid (Nat.le_trans hw3.out.size hge1)
  have hb4 := Lib.hid (show Below w3.heap.size w3 w4 from hst4)
  have hB4 : Hid (Below wa.heap.size wa w4) := Lib.hid (hB3.out.trans (hb4.out.mono hB3.out.size))
  replace hL0 := Lib.hid (hL0.out.below hb4.out)
  have hL1 := Lib.hid hl1'
  obtain ⟨A1, c1, rfl, _⟩ := hl1'
  clear h4 hge1 hst4
  go_wp2_with fail
  refine (c_eqInt64S _ _ _ _ XS w4 hL1.out.rows hL0.out.rows hX).mono ?_
  rintro e w5 ⟨rfl, h5⟩
  have hB5 : Hid (Below wa.heap.size wa w5) := Lib.hid (hB4.out.trans (h5.mono hB4.out.size))
  replace hL0 := Lib.hid (hL0.out.below h5)
  replace hL1 := Lib.hid (hL1.out.below h5)
  clear h5
  go_wp2_with fail
  refine (c_markI A1 g1 c1 XS.length 1 w5 (LiesI.at_ hL1.out) (LiesI.there hL1.out) hX (by omega)).mono ?_
  rintro e w6 ⟨rfl, h6⟩
  replace h6 := Lib.hid h6
  have hge : wa.heap.size ≤ g1 := by have := hne1.out; have := hB2.out.size; omega
  have hB6 : Hid (Below wa.heap.size wa w6) := Lib.hid (hB5.out.trans (h6.out.below _ hge))
  replace hL0 := Lib.hid (LiesI.marked hL0.out h6.out fun hx => by have := hlt0.out hx; have := hne1.out; omega)
  have hA1 := Lib.hid (LiesI.at_ hL1.out)
  clear hge
  have hk2 : ¬ ((1 : Int) + (XS.length : Nat) < 0) := by omega
  go_wp2_with fail
  refine (c_heldI A1 g1 c1 XS.length 1 w6 hA1.out (h6.out.on (Below.refl _ _)) hX (by omega)).mono ?_
  rintro e w' ⟨rfl, rfl⟩
  generalize hkk2 : (1 : Int) + (XS.length : Nat) = kk2 at hk2 ⊢
  replace hkk2 := Lib.hid hkk2
  obtain ⟨b0, b1, b2, b3, b4, b5, b6, b7⟩ := hbx.out.on hB6.out hlt.out
  go_wp2_with fail
  refine (c_toSensor _ _ w6 hs.out).mono ?_
  clear b0 b1 b2 b3 b4 b5 b6 b7
  rintro e w7 ⟨s2, rfl, hs2, hw7⟩
  replace hs2 := Lib.hid hs2
  replace hw7 := Lib.hid hw7
  have hB7 : Hid (Below wa.heap.size wa w7) := Lib.hid (hB6.out.trans (hw7.out.mono hB6.out.size))
  replace hL0 := Lib.hid (hL0.out.below hw7.out)
  go_wp2_with fail
  refine (hI.out _ hs2.out w7).mono ?_
  rintro e w8 ⟨v2, rfl, h8, hst8⟩
  obtain ⟨g2, hge2, hl2⟩ := h8.lies
  have hb8 := Lib.hid (show Below w7.heap.size w7 w8 from hst8)
  have hB8 : Hid (Below wa.heap.size wa w8) := Lib.hid (hB7.out.trans (hb8.out.mono hB7.out.size))
  replace hL0 := Lib.hid (hL0.out.below hb8.out)
  have hB68 : Hid (Below w6.heap.size w6 w8) := Lib.hid (hw7.out.trans (hb8.out.mono hw7.out.size))
  have hL2 := Lib.hid hl2
  obtain ⟨A2, c2, rfl, _⟩ := hl2
  clear h8 hge2 hst8
  go_wp2_with fail
  refine (c_eqInt64S _ _ _ _ XS w8 hL2.out.rows hL0.out.rows hX).mono ?_
  rintro e w9 ⟨rfl, h9⟩
  have hB9 : Hid (Below wa.heap.size wa w9) := Lib.hid (hB8.out.trans (h9.mono hB8.out.size))
  have hB69 : Hid (Below w6.heap.size w6 w9) := Lib.hid (hB68.out.trans (h9.mono hB68.out.size))
  clear h9
  go_wp2_with fail
  refine (c_heldI A1 g1 c1 XS.length 1 w9 hA1.out (h6.out.on hB69.out) hX (by omega)).mono ?_
  rintro e w' ⟨rfl, rfl⟩
  rw [hkk2.out]
  go_wp2
  go_ret
  exact ⟨rfl, hal.out.trans (hB9.out.mono hal.out.size)⟩

theorem c_lawTimesBetween {p q r : Prop} (cs : Array Value) (ins : List NV) (a b : Int) (w : World) (hk : KMs senK cs.toList ins) (_ : p) (_ : q) (_ : r) :
    Calls Try.prog 3 #[.agg cs, .int .i64 a, .int .i64 b] w fun e w' => e = .returned (.bool true) ∧ Below w.heap.size w w' := c_lawTB _ ins ⟨cs, rfl, hk⟩ a b w
end Go.Proofs.Ytpccnejchbachaa
