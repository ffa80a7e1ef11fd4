/- Lists of marks, and maps, that are copied and compared. No condition. -/
import Derived.Test.YtkpcecigoffopaaMb
namespace Go.Proofs.Ytkpcecigoffopaa
open Go Go.RowKit
set_option linter.unusedVariables false

abbrev Mks (w : World) (B : Nat) (A : Option Addr) (xs : List Mk) : Prop := Rows mkK 9 Mk.ins w B A xs

theorem mk_at {w : World} {p : Addr} {m : Mk} (h : RowAt mkK w p m.ins) : ∃ c0 c1 c2 c3 c4 c5 c6 c7 c8, KMs mkK [c0, c1, c2, c3, c4, c5, c6, c7, c8] m.ins ∧ w.cell? p = some c0 ∧ w.cell? ⟨p.block, p.off + 1, none⟩ = some c1 ∧ w.cell? ⟨p.block, p.off + 2, none⟩ = some c2 ∧ w.cell? ⟨p.block, p.off + 3, none⟩ = some c3 ∧
    w.cell? ⟨p.block, p.off + 4, none⟩ = some c4 ∧ w.cell? ⟨p.block, p.off + 5, none⟩ = some c5 ∧ w.cell? ⟨p.block, p.off + 6, none⟩ = some c6 ∧ w.cell? ⟨p.block, p.off + 7, none⟩ = some c7 ∧ w.cell? ⟨p.block, p.off + 8, none⟩ = some c8 := by
  obtain ⟨cs, hk, hc⟩ := h
  match cs, hk, hc with
  | [c0, c1, c2, c3, c4, c5, c6, c7, c8], hk, hc => exact ⟨_, _, _, _, _, _, _, _, _, hk, hc 0 _ rfl, hc 1 _ rfl, hc 2 _ rfl, hc 3 _ rfl, hc 4 _ rfl, hc 5 _ rfl, hc 6 _ rfl, hc 7 _ rfl, hc 8 _ rfl⟩

theorem c_szMarkS (A : Option Addr) (c n : Nat) (left : Int) (w : World) (hn : n ≤ 9223372036854775807) (h0 : 0 ≤ left) (h1 : left ≤ 1048576) :
    Calls Try.prog 56 #[.slice A n c, .int .i64 left] w fun e w' => e = .returned (.int .i64 (if left - n < 0 then -1 else left - n)) ∧ w = w' := by
  go_enter Try.func56, Try.ntmps56
  have e : IntKind.i64.wrap (left - (n : Int)) = left - n := IntWalk.i64_in _ (by omega)
  by_cases h : left - (n : Int) < 0
  · go_wp2
    go_ret
    exact ⟨rfl, rfl⟩
  · go_wp2
    go_ret
    exact ⟨rfl, rfl⟩

theorem c_szLandMap (sd : Value) (A : Option Addr) (c n : Nat) (left : Int) (w : World) (hn : n ≤ 9223372036854775807) (h0 : 0 ≤ left) (h1 : left ≤ 1048576) :
    Calls Try.prog 15 #[.agg #[sd, .slice A n c], .int .i64 left] w fun e w' => e = .returned (.int .i64 (if left - n < 0 then -1 else left - n)) ∧ Below w.heap.size w w' := by
  have key := fun W => c_szMarkS A c n left W hn h0 h1
  have hX : (if left - (n : Int) < 0 then -1 else left - (n : Int)) = -1 ∨ 0 ≤ (if left - (n : Int) < 0 then -1 else left - (n : Int)) := by split <;> omega
  generalize (if left - (n : Int) < 0 then -1 else left - (n : Int)) = X at key hX ⊢
  have key := Lib.hid key
  rcases hX with rfl | hX
  all_goals
    go_enter Try.func15, Try.ntmps15
    go_wp2_with (go_at_call 56; refine (key.out _).mono ?_; rintro e w' ⟨rfl, rfl⟩)
    go_ret
    exact ⟨rfl, by first | exact Below.refl _ _ | exact (Below.refl _ _).alloc (Nat.le_refl _) _⟩

set_option maxRecDepth 100000 in
set_option maxHeartbeats 400000 in
theorem c_eqMarkS (A A' : Option Addr) (c c' : Nat) (xs : List Mk) (w : World) (h : Mks w w.heap.size A xs) (h' : Mks w w.heap.size A' xs) (hn : xs.length ≤ 1048576) :
    Calls Try.prog 32 #[.slice A xs.length c, .slice A' xs.length c'] w fun e w' => e = .returned (.bool true) ∧ Below w.heap.size w w' := by
  have H := Lib.hid h
  have H' := Lib.hid h'
  clear h h'
  go_enter Try.func32, Try.ntmps32
  go_wp2
  go_loopw [5] (fun i wr => ∃ k : Nat, k ≤ xs.length ∧ i = .int .i64 k ∧ Hid (Below w.heap.size w wr)) (fun i _ => xs.length - (intOf i).toNat)
  case atStart => exact ⟨0, Nat.zero_le _, rfl, Lib.hid (Below.refl _ _)⟩
  case round =>
    obtain ⟨k, hk, rfl, hb⟩ := hrel
    by_cases hlt : k < xs.length
    · obtain ⟨ad, rfl, hbl, hrow⟩ := (H.out.below hb.out) k xs[k] (List.getElem?_eq_getElem hlt)
      obtain ⟨ad', rfl, hbl', hrow'⟩ := (H'.out.below hb.out) k xs[k] (List.getElem?_eq_getElem hlt)
      generalize xs[k] = m at hrow hrow'
      obtain ⟨c0, c1, c2, c3, c4, c5, c6, c7, c8, hK, g0, g1, g2, g3, g4, g5, g6, g7, g8⟩ := mk_at hrow
      obtain ⟨d0, d1, d2, d3, d4, d5, d6, d7, d8, hK', k0, k1, k2, k3, k4, k5, k6, k7, k8⟩ := mk_at hrow'
      have hV := Lib.hid (show IsMk (.agg #[c0, c1, c2, c3, c4, c5, c6, c7, c8]) m from ⟨_, rfl, hK⟩)
      have hV' := Lib.hid (show IsMk (.agg #[d0, d1, d2, d3, d4, d5, d6, d7, d8]) m from ⟨_, rfl, hK'⟩)
      clear hK hK' hrow hrow'
      have hlt' : (k : Int) < (xs.length : Int) := by omega
      go_wp2_with fail
      go_still_tail 8, (by kernel_rfl)
      change wpList _ _ _ _ _ wr.drew
      have hb2 := Lib.hid (hb.out.drew)
      generalize wr.drew = w2 at hb2 ⊢
      go_wp2_with (go_at_call 25; refine (c_eqMark _ _ m _ hV.out hV'.out).mono ?_; rintro e w3 ⟨rfl, hb3⟩; have hb4 := Lib.hid (hb2.out.trans (hb3.mono hb2.out.size)); clear hb3)
      go_round
      case rel => exact ⟨k + 1, by omega, by go_num, hb4⟩
      case measure => simp [intOf]; omega
    · go_wp2
      go_ret
      exact ⟨rfl, hb.out⟩

theorem infoMk : (Try.prog.info? 40).map (fun i => (i.zero, i.size, i.bytes)) = some (some (.agg #[.int .i32 0, .int .i32 0, .int .i32 0, .float .f32 0, .float .f32 0, .float .f32 0, .float .f32 0, .int .i64 0, .int .i64 0]), 9, 48) := by kernel_rfl

set_option maxRecDepth 100000 in
set_option maxHeartbeats 400000 in
theorem c_toMarkS (A : Option Addr) (c : Nat) (xs : List Mk) (w : World) (h : Mks w w.heap.size A xs) (hn : xs.length ≤ 1048576) :
    Calls Try.prog 58 #[.slice A xs.length c] w fun e w' => e = .returned (.slice (some ⟨w.heap.size, 0, none⟩) xs.length xs.length) ∧ Put mkK 9 Mk.ins w w' xs xs.length := by
  have H := Lib.hid h
  clear h
  obtain ⟨i0, hi0, hz0, hz1, hz2⟩ := info_parts infoMk
  have hmk : ∀ u : World, (Instr.makeSlice 28 (.int .i64 (xs.length : Nat)) (.int .i64 (xs.length : Nat))).run Try.prog u = .ok (.slice (some ⟨u.heap.size, 0, none⟩) xs.length xs.length) (u.alloc (.cells (madeCells (Value.agg #[.int .i32 0, .int .i32 0, .int .i32 0, .float .f32 0, .float .f32 0, .float .f32 0, .float .f32 0, .int .i64 0, .int .i64 0]).cells (xs.length * 9)) 40)) := fun u => by
    have := run_make (P := Try.prog) u 28 40 i0 _ Try.underlying28 hi0 hz0 .i64 .i64 (xs.length : Nat) (xs.length : Nat) (by omega) (Int.le_refl _) (by rw [hz2]; omega) (by omega)
    simpa [hz1] using this
  go_enter Try.func58, Try.ntmps58
  go_wp2
  have hmt := Lib.hid (made_there w (Value.agg #[.int .i32 0, .int .i32 0, .int .i32 0, .float .f32 0, .float .f32 0, .float .f32 0, .float .f32 0, .int .i64 0, .int .i64 0]).cells (xs.length * 9) 40)
  go_loopw [4] (fun i wr => ∃ k : Nat, k ≤ xs.length ∧ i = .int .i64 k ∧ Hid (Put mkK 9 Mk.ins w wr xs k)) (fun i _ => xs.length - (intOf i).toNat)
  case atStart => exact ⟨0, Nat.zero_le _, rfl, Lib.hid ⟨(Below.refl _ _).alloc (Nat.le_refl _) _, hmt.out, (Array.getElem?_eq_some_iff.1 (heap_alloc_new w _)).1, fun i r hi _ => by omega⟩⟩
  case round =>
    obtain ⟨k, hk, rfl, hb⟩ := hrel
    by_cases hlt : k < xs.length
    · obtain ⟨ad, rfl, hbl, hrow⟩ := (H.out.below hb.out.below) k xs[k] (List.getElem?_eq_getElem hlt)
      have hrk : Hid (xs[k]? = some xs[k]) := Lib.hid (List.getElem?_eq_getElem hlt)
      generalize xs[k] = m at hrow hrk
      obtain ⟨c0, c1, c2, c3, c4, c5, c6, c7, c8, hK, g0, g1, g2, g3, g4, g5, g6, g7, g8⟩ := mk_at hrow
      have hV := Lib.hid (show IsMk (.agg #[c0, c1, c2, c3, c4, c5, c6, c7, c8]) m from ⟨_, rfl, hK⟩)
      clear hK hrow
      have hlt' : (k : Int) < (xs.length : Int) := by omega
      go_wp2_with (go_at_call 47; refine (c_toMark _ m _ hV.out).mono ?_; rintro e w3 ⟨cs, rfl, hcs, hb3⟩; obtain ⟨hst, hcp⟩ := hb.out.next (cs := cs) rfl hb3 hrk.out hcs (by decide); have hcp := Lib.hid hcp; have hsz : cs.size = 9 := KMs_len hcs; clear hb3 hcs)
      go_round
      case rel => exact ⟨k + 1, by omega, by go_num, hcp⟩
      case measure => simp [intOf]; omega
    · have e : k = xs.length := by omega
      subst e
      go_wp2
      go_ret
      exact ⟨rfl, hb.out⟩
end Go.Proofs.Ytkpcecigoffopaa
