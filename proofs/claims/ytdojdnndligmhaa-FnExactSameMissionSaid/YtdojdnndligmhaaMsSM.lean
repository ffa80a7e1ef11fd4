/- Missions: whether two are the same, on both sides. No condition. -/
import Derived.Test.YtdojdnndligmhaaMsG
import Derived.Test.YtdojdnndligmhaaMsS
namespace Go.Proofs.Ytdojdnndligmhaa
open Go Go.RowKit
set_option linter.unusedVariables false
set_option linter.unusedSimpArgs false

noncomputable def legS (r s : List NV) : Bool := ((r.getD 0 (.i 0)).gi == (s.getD 0 (.i 0)).gi) && (samV ((r.drop 1).take 3) ((s.drop 1).take 3) && (((r.getD 4 (.i 0)).gi == (s.getD 4 (.i 0)).gi) && ((r.getD 5 (.i 0)).gi == (s.getD 5 (.i 0)).gi)))

theorem leg_flat {cs : List Value} {r : List NV} (h : KMs KLeg cs r) : ∃ a ra rb rc b d, cs = [.int .i64 a, .float .f32 ra, .float .f32 rb, .float .f32 rc, .int .i64 b, .int .i64 d] := by
  obtain ⟨t, fx, b, x, y, z, e, _⟩ := leg_cells h
  exact ⟨t, x, y, z, fx, b, e⟩

set_option maxRecDepth 100000 in
set_option maxHeartbeats 1000000 in
theorem c_legSame (u1 u2 : Value) (r s : List NV) (hr : ShM (.agg KLeg) u1 r) (hs : ShM (.agg KLeg) u2 s) (w : World) : Calls Try.prog 49 #[u1, u2] w fun e w' => e = .returned (.bool (legS r s)) ∧ Stays w w' := by
  obtain ⟨⟨l⟩, rfl, h⟩ := hr
  obtain ⟨⟨l'⟩, rfl, h'⟩ := hs
  obtain ⟨t, fx, b, x, y, z, ecs, ht, hfx, hb5, hsh⟩ := leg_cells h
  obtain ⟨t', fx', b', x', y', z', ecs', ht', hfx', hb5', hsh'⟩ := leg_cells h'
  have ecs : l = _ := ecs
  have ecs' : l' = _ := ecs'
  subst ecs ecs'
  have kV0 := fun W => c_SameVecG _ _ _ _ hsh hsh' W
  unfold legS
  rw [ht, hfx, hb5, ht', hfx', hb5']
  clear h h' ht hfx hb5 ht' hfx' hb5' hsh hsh'
  generalize samV ((r.drop 1).take 3) ((s.drop 1).take 3) = bv at kV0 ⊢
  have kV := Lib.hid kV0
  clear kV0
  have HB : Hid (∀ w1, Stays ((w.alloc (.cells #[.int .i64 t, .float .f32 x, .float .f32 y, .float .f32 z, .int .i64 fx, .int .i64 b] 79)).alloc (.cells #[.int .i64 t', .float .f32 x', .float .f32 y', .float .f32 z', .int .i64 fx', .int .i64 b'] 79)) w1 → ((∀ i, w1.cell? ⟨w.heap.size, i, none⟩ = (#[.int .i64 t, .float .f32 x, .float .f32 y, .float .f32 z, .int .i64 fx, .int .i64 b] : Array Value)[i]?) ∧ (∀ i, w1.cell? ⟨w.heap.size + 1, i, none⟩ = (#[.int .i64 t', .float .f32 x', .float .f32 y', .float .f32 z', .int .i64 fx', .int .i64 b'] : Array Value)[i]?)) ∧ Stays w w1) := Lib.hid fun w1 h => ⟨⟨row_of h (by (repeat (first | (refine heap_top _ _ _ ?_; simp; done) | (with_reducible refine heap_drawn _ _ _ ?_) | (with_reducible refine heap_under _ _ _ ?_ ?_; (simp <;> omega))))), row_of h (by (repeat (first | (refine heap_top _ _ _ ?_; simp; done) | (with_reducible refine heap_drawn _ _ _ ?_) | (with_reducible refine heap_under _ _ _ ?_ ?_; (simp <;> omega)))))⟩, Stays.trans (by (repeat (first | exact Stays.refl _ | (with_reducible refine Stays.drewN ?_ _) | (with_reducible refine Stays.alloc ?_ _) | (with_reducible refine Stays.drew ?_) | (refine Stays.trans ?_ ‹Stays _ _›)))) h⟩
  by_cases e0 : t = t'
  · subst e0
    cases bv with
    | false =>
      go_enter Try.func49, Try.ntmps49
      go_wp2_with (go_at_call 72; refine (kV.out _).mono ?_; rintro e w1 ⟨rfl, hw1⟩; obtain ⟨hc, hc'⟩ := (HB.out _ hw1).1)
      go_ret
      exact ⟨ret_b (by simp), (HB.out _ hw1).2⟩
    | true =>
      by_cases e1 : fx = fx'
      · subst e1
        by_cases e2 : b = b'
        · subst e2
          go_enter Try.func49, Try.ntmps49
          go_wp2_with (go_at_call 72; refine (kV.out _).mono ?_; rintro e w1 ⟨rfl, hw1⟩; obtain ⟨hc, hc'⟩ := (HB.out _ hw1).1)
          go_ret
          exact ⟨ret_b (by simp), (HB.out _ hw1).2⟩
        · have f2 : (b == b') = false := by simp [e2]
          go_enter Try.func49, Try.ntmps49
          go_wp2_with (go_at_call 72; refine (kV.out _).mono ?_; rintro e w1 ⟨rfl, hw1⟩; obtain ⟨hc, hc'⟩ := (HB.out _ hw1).1)
          go_ret
          exact ⟨ret_b (by simp [e2]), (HB.out _ hw1).2⟩
      · have f1 : (fx == fx') = false := by simp [e1]
        go_enter Try.func49, Try.ntmps49
        go_wp2_with (go_at_call 72; refine (kV.out _).mono ?_; rintro e w1 ⟨rfl, hw1⟩; obtain ⟨hc, hc'⟩ := (HB.out _ hw1).1)
        go_ret
        exact ⟨ret_b (by simp [e1]), (HB.out _ hw1).2⟩
  · have f0 : (t == t') = false := by simp [e0]
    clear kV
    go_enter Try.func49, Try.ntmps49
    go_wp2
    go_ret
    exact ⟨ret_b (by simp [e0]), (HB.out _ (Stays.refl _)).2⟩

set_option maxRecDepth 100000 in
set_option maxHeartbeats 800000 in
theorem c_eqfLeg (A A' : Option Addr) (c c' : Nat) (xs ys : List (List NV)) (w : World) (h : Ls KLeg 6 w w.heap.size A xs) (h' : Ls KLeg 6 w w.heap.size A' ys) (hn : xs.length ≤ 1048576) (hm : ys.length ≤ 1048576) :
    Calls Try.prog 48 #[.slice A xs.length c, .slice A' ys.length c', .func (.func 49) #[] #[]] w fun e w' => e = .returned (.bool (pairB legS xs ys)) ∧ Stays w w' := by
  have H := Lib.hid h
  have H' := Lib.hid h'
  clear h h'
  by_cases hl : xs.length = ys.length
  · rw [← hl]
    replace hl := Lib.hid hl
    go_enter Try.func48, Try.ntmps48
    go_wp2
    go_loopw [17] (fun i wr => ∃ k : Nat, k ≤ xs.length ∧ i = .int .i64 k ∧ Hid (Stays w wr) ∧ Hid (∀ j r s, j < k → xs[j]? = some r → ys[j]? = some s → legS r s = true)) (fun i _ => xs.length - (intOf i).toNat)
    case atStart => exact ⟨0, Nat.zero_le _, rfl, Lib.hid (Stays.refl _), Lib.hid fun j r s hj => by omega⟩
    case round =>
      obtain ⟨k, hk, rfl, hb, ha⟩ := hrel
      by_cases hlt : k < xs.length
      · obtain ⟨ad, rfl, hbl, hrow⟩ := (H.out.below hb.out) k xs[k] (List.getElem?_eq_getElem hlt)
        obtain ⟨ad', rfl, hbl', hrow'⟩ := (H'.out.below hb.out) k (ys[k]'(by have := hl.out; omega)) (List.getElem?_eq_getElem (by have := hl.out; omega))
        have hrk := List.getElem?_eq_getElem hlt
        have hsk : ys[k]? = some (ys[k]'(by have := hl.out; omega)) := List.getElem?_eq_getElem (by have := hl.out; omega)
        generalize xs[k] = r at hrow hrk
        generalize ys[k]'(by have := hl.out; omega) = s at hrow' hsk
        obtain ⟨c0, c1, c2, c3, c4, c5, hK, g0, g1, g2, g3, g4, g5⟩ := row6 rfl hrow
        obtain ⟨d0, d1, d2, d3, d4, d5, hK', k0, k1, k2, k3, k4, k5⟩ := row6 rfl hrow'
        have hf := fun W => c_legSame (.agg #[c0, c1, c2, c3, c4, c5]) (.agg #[d0, d1, d2, d3, d4, d5]) r s ⟨_, rfl, hK⟩ ⟨_, rfl, hK'⟩ W
        obtain ⟨ra0, ra1, ra2, ra3, ra4, ra5, e⟩ := leg_flat hK
        cases e
        obtain ⟨sa0, sa1, sa2, sa3, sa4, sa5, e⟩ := leg_flat hK'
        cases e
        have nx : Hid (legS r s = true → Hid (∀ j r s, j < k + 1 → xs[j]? = some r → ys[j]? = some s → legS r s = true)) := Lib.hid fun h => Lib.hid (pair_next ha.out hrk hsk h)
        have bd : Hid (legS r s = false → pairB legS xs ys = false) := Lib.hid fun h => pair_bad hrk hsk h
        generalize legS r s = bf at hf nx bd
        replace hf := Lib.hid hf
        have hd := World.block_lt_of_cell? _ _ k0
        have hd' : (ad'.add (k * 6)).block < wr.heap.size := hd
        have x0 : ∀ o, (wr.alloc o).cell? (ad'.add (k * 6)) = some (.int .i64 sa0) := fun o => (World.cell?_alloc_lt wr o _ hd').trans k0
        have x1 : ∀ o, (wr.alloc o).cell? ⟨(ad'.add (k * 6)).block, (ad'.add (k * 6)).off + 1, none⟩ = some (.float .f32 sa1) := fun o => (World.cell?_alloc_lt wr o ⟨(ad'.add (k * 6)).block, (ad'.add (k * 6)).off + 1, none⟩ hd').trans k1
        have x2 : ∀ o, (wr.alloc o).cell? ⟨(ad'.add (k * 6)).block, (ad'.add (k * 6)).off + 2, none⟩ = some (.float .f32 sa2) := fun o => (World.cell?_alloc_lt wr o ⟨(ad'.add (k * 6)).block, (ad'.add (k * 6)).off + 2, none⟩ hd').trans k2
        have x3 : ∀ o, (wr.alloc o).cell? ⟨(ad'.add (k * 6)).block, (ad'.add (k * 6)).off + 3, none⟩ = some (.float .f32 sa3) := fun o => (World.cell?_alloc_lt wr o ⟨(ad'.add (k * 6)).block, (ad'.add (k * 6)).off + 3, none⟩ hd').trans k3
        have x4 : ∀ o, (wr.alloc o).cell? ⟨(ad'.add (k * 6)).block, (ad'.add (k * 6)).off + 4, none⟩ = some (.int .i64 sa4) := fun o => (World.cell?_alloc_lt wr o ⟨(ad'.add (k * 6)).block, (ad'.add (k * 6)).off + 4, none⟩ hd').trans k4
        have x5 : ∀ o, (wr.alloc o).cell? ⟨(ad'.add (k * 6)).block, (ad'.add (k * 6)).off + 5, none⟩ = some (.int .i64 sa5) := fun o => (World.cell?_alloc_lt wr o ⟨(ad'.add (k * 6)).block, (ad'.add (k * 6)).off + 5, none⟩ hd').trans k5
        clear hK hrow hrk hK' hrow' hsk hd hd'
        have hlt' : (k : Int) < (xs.length : Int) := by omega
        cases bf with
        | true =>
          go_wp2_with (go_at_call 49; refine (hf.out _).mono ?_; rintro e w1 ⟨rfl, hw1⟩; have hb2 := Lib.hid (Stays.trans hb.out (Stays.trans (show Stays wr _ from by (repeat (first | exact Stays.refl _ | (with_reducible refine Stays.drewN ?_ _) | (with_reducible refine Stays.alloc ?_ _) | (with_reducible refine Stays.drew ?_) | (refine Stays.trans ?_ ‹Stays _ _›)))) hw1)); clear hw1)
          go_round
          case rel => exact ⟨k + 1, by omega, by go_num, hb2, nx.out (by simp)⟩
          case measure => simp [intOf]; omega
        | false =>
          go_wp2_with (go_at_call 49; refine (hf.out _).mono ?_; rintro e w1 ⟨rfl, hw1⟩; have hb2 := Lib.hid (Stays.trans hb.out (Stays.trans (show Stays wr _ from by (repeat (first | exact Stays.refl _ | (with_reducible refine Stays.drewN ?_ _) | (with_reducible refine Stays.alloc ?_ _) | (with_reducible refine Stays.drew ?_) | (refine Stays.trans ?_ ‹Stays _ _›)))) hw1)); clear hw1)
          go_ret
          exact ⟨ret_b (bd.out (by simp)).symm, hb2.out⟩
      · have fin := Lib.hid (pair_end hl.out ha.out (by omega))
        go_wp2
        go_ret
        exact ⟨ret_b fin.out.symm, hb.out⟩
  · have hl1 : ¬ ((xs.length : Nat) : Int) = (ys.length : Nat) := by omega
    have hl2 : (((xs.length : Nat) : Int) != (ys.length : Nat)) = true := by simpa using hl1
    have fin := Lib.hid (pair_len (S := legS) hl)
    go_enter Try.func48, Try.ntmps48
    go_wp2
    go_ret
    exact ⟨ret_b fin.out.symm, Stays.refl _⟩

noncomputable def missionS (hd : List NV) (bs ls : List (List NV)) (hd' : List NV) (bs' ls' : List (List NV)) : Bool := frameS hd hd' bs bs' && pairB legS ls ls'

abbrev MC (r : Int) (x y z : Nat) (A : Option Addr) (n c : Nat) (A' : Option Addr) (n' c' : Nat) : Array Value := #[.int .i64 r, .float .f32 x, .float .f32 y, .float .f32 z, .slice A n c, .slice A' n' c']

def smS (b1 b2 : Bool) (f : FuncId) (args : Array Value) (v : Value) : Prop := (f = 40 → ∀ a0 a1 a2 a3 a4 a5, args = #[.agg #[a0, a1, a2, a3, a4, a5]] → v = .agg #[a0, a1, a2, a3, a4]) ∧ (f = 47 → v = .bool b1) ∧ (f = 48 → v = .bool b2)

set_option maxRecDepth 100000 in
set_option maxHeartbeats 2000000 in
theorem c_implSameMission (v v' : Value) (hd : List NV) (bs ls : List (List NV)) (hd' : List NV) (bs' ls' : List (List NV)) (w : World) (h : MissionV w w.heap.size v hd bs ls) (h' : MissionV w w.heap.size v' hd' bs' ls') (hn : bs.length ≤ 1048576) (hm : ls.length ≤ 1048576) (hn' : bs'.length ≤ 1048576) (hm' : ls'.length ≤ 1048576) :
    Calls Try.prog 19 #[v, v'] w fun e w' => e = .returned (.bool (missionS hd bs ls hd' bs' ls')) ∧ Stays w w' := by
  obtain ⟨r, x, y, z, A, c, A', c', rfl, hh, h1, h2⟩ := h.val
  obtain ⟨q, x', y', z', D, d, D', d', rfl, hh', h3, h4⟩ := h'.val
  have kM := Lib.hid fun W => c_frameM r x y z A A' bs.length c ls.length c' W
  have kM' := Lib.hid fun W => c_frameM q x' y' z' D D' bs'.length d ls'.length d' W
  have kL0 : ∀ W, Stays w W → _ := fun W hb => c_isLike r q x y z x' y' z' A D c d hd hd' bs bs' W hh hh' ((h1.below hb).more hb.size) ((h3.below hb).more hb.size) hn hn'
  have kE0 : ∀ W, Stays w W → _ := fun W hb => c_eqfLeg A' D' c' d' ls ls' W ((h2.below hb).more hb.size) ((h4.below hb).more hb.size) hm hm'
  unfold missionS
  generalize frameS hd hd' bs bs' = b1 at kL0 ⊢
  generalize pairB legS ls ls' = b2 at kE0 ⊢
  clear h h' h1 h2 h3 h4 hh hh'
  have HB : Hid (∀ w1, Stays ((w.alloc (.cells #[.int .i64 r, .float .f32 x, .float .f32 y, .float .f32 z, .slice A bs.length c, .slice A' ls.length c'] 39)).alloc (.cells #[.int .i64 q, .float .f32 x', .float .f32 y', .float .f32 z', .slice D bs'.length d, .slice D' ls'.length d'] 39)) w1 → ((∀ i, w1.cell? ⟨w.heap.size, i, none⟩ = (#[.int .i64 r, .float .f32 x, .float .f32 y, .float .f32 z, .slice A bs.length c, .slice A' ls.length c'] : Array Value)[i]?) ∧ (∀ i, w1.cell? ⟨w.heap.size + 1, i, none⟩ = (#[.int .i64 q, .float .f32 x', .float .f32 y', .float .f32 z', .slice D bs'.length d, .slice D' ls'.length d'] : Array Value)[i]?)) ∧ Stays w w1) := Lib.hid fun w1 h => ⟨⟨row_of h (by (repeat (first | (refine heap_top _ _ _ ?_; simp; done) | (with_reducible refine heap_drawn _ _ _ ?_) | (with_reducible refine heap_under _ _ _ ?_ ?_; (simp <;> omega))))), row_of h (by (repeat (first | (refine heap_top _ _ _ ?_; simp; done) | (with_reducible refine heap_drawn _ _ _ ?_) | (with_reducible refine heap_under _ _ _ ?_ ?_; (simp <;> omega)))))⟩, Stays.trans (by (repeat (first | exact Stays.refl _ | (with_reducible refine Stays.drewN ?_ _) | (with_reducible refine Stays.alloc ?_ _) | (with_reducible refine Stays.drew ?_) | (refine Stays.trans ?_ ‹Stays _ _›)))) h⟩
  have kL := Lib.hid fun W hb => kL0 W (HB.out W hb).2
  have kE := Lib.hid fun W hb => kE0 W (HB.out W hb).2
  clear kL0 kE0
  have hcells : ∀ w1, Stays ((w.alloc (.cells #[.int .i64 r, .float .f32 x, .float .f32 y, .float .f32 z, .slice A bs.length c, .slice A' ls.length c'] 39)).alloc (.cells #[.int .i64 q, .float .f32 x', .float .f32 y', .float .f32 z', .slice D bs'.length d, .slice D' ls'.length d'] 39)) w1 → _ := fun w1 h => (HB.out w1 h).1
  cases b1 with
  | false =>
    go_enter Try.func19, Try.ntmps19
    go_wp2
    refine wp_region_soft_tail 12 (Stays.refl _) (smS false b2) [] (by kernel_rfl) (by kernel_rfl) (fun _ h => by cases h) ?_
    simp only [List.take_succ_cons, List.take_zero, List.drop_succ_cons, List.drop_zero]
    repeat (first | ((with_reducible apply soft_detG); (case hwa => rfl); (case hA => rfl); (case h => (intro w1 hw1; have hc := hcells w1 hw1; go_simp; exact rfl)); go_simp) | ((with_reducible apply soft_skipG); (case hwa => rfl); (case hA => rfl); go_simp) | ((with_reducible apply soft_callS (v := _)); (case hwa => rfl); (case hA => rfl); (case h => (intro w1 hw1; have hc := hcells w1 hw1; go_simp; exact ⟨rfl, rfl⟩)); (case hc => (intro w1 hw1; with_reducible exact kM.out w1)); (case hS => exact ⟨fun _ a0 a1 a2 a3 a4 a5 e => (by simp at e; obtain ⟨rfl, rfl, rfl, rfl, rfl, rfl⟩ := e; rfl), fun e => absurd e (by decide), fun e => absurd e (by decide)⟩); (case hu => exact fun u hu => hu.1 rfl _ _ _ _ _ _ rfl); go_simp) | ((with_reducible apply soft_callS (v := _)); (case hwa => rfl); (case hA => rfl); (case h => (intro w1 hw1; have hc := hcells w1 hw1; go_simp; exact ⟨rfl, rfl⟩)); (case hc => (intro w1 hw1; with_reducible exact kM'.out w1)); (case hS => exact ⟨fun _ a0 a1 a2 a3 a4 a5 e => (by simp at e; obtain ⟨rfl, rfl, rfl, rfl, rfl, rfl⟩ := e; rfl), fun e => absurd e (by decide), fun e => absurd e (by decide)⟩); (case hu => exact fun u hu => hu.1 rfl _ _ _ _ _ _ rfl); go_simp) | ((with_reducible apply soft_callS (v := .bool false)); (case hwa => rfl); (case hA => rfl); (case h => (intro w1 hw1; have hc := hcells w1 hw1; go_simp; exact ⟨rfl, rfl⟩)); (case hc => (intro w1 hw1; with_reducible exact kL.out w1 hw1)); (case hS => exact ⟨fun e => absurd e (by decide), fun _ => rfl, fun e => absurd e (by decide)⟩); (case hu => exact fun u hu => hu.2.1 rfl); go_simp))
    refine soft_nil ?_
    rintro w2 ⟨hw2, _⟩
    go_wp2
    go_ret
    exact ⟨ret_b (by simp), (HB.out _ hw2).2⟩
  | true =>
    go_enter Try.func19, Try.ntmps19
    go_wp2
    refine wp_region_soft_tail 12 (Stays.refl _) (smS true b2) [] (by kernel_rfl) (by kernel_rfl) (fun _ h => by cases h) ?_
    simp only [List.take_succ_cons, List.take_zero, List.drop_succ_cons, List.drop_zero]
    repeat (first | ((with_reducible apply soft_detG); (case hwa => rfl); (case hA => rfl); (case h => (intro w1 hw1; have hc := hcells w1 hw1; go_simp; exact rfl)); go_simp) | ((with_reducible apply soft_skipG); (case hwa => rfl); (case hA => rfl); go_simp) | ((with_reducible apply soft_callS (v := _)); (case hwa => rfl); (case hA => rfl); (case h => (intro w1 hw1; have hc := hcells w1 hw1; go_simp; exact ⟨rfl, rfl⟩)); (case hc => (intro w1 hw1; with_reducible exact kM.out w1)); (case hS => exact ⟨fun _ a0 a1 a2 a3 a4 a5 e => (by simp at e; obtain ⟨rfl, rfl, rfl, rfl, rfl, rfl⟩ := e; rfl), fun e => absurd e (by decide), fun e => absurd e (by decide)⟩); (case hu => exact fun u hu => hu.1 rfl _ _ _ _ _ _ rfl); go_simp) | ((with_reducible apply soft_callS (v := _)); (case hwa => rfl); (case hA => rfl); (case h => (intro w1 hw1; have hc := hcells w1 hw1; go_simp; exact ⟨rfl, rfl⟩)); (case hc => (intro w1 hw1; with_reducible exact kM'.out w1)); (case hS => exact ⟨fun _ a0 a1 a2 a3 a4 a5 e => (by simp at e; obtain ⟨rfl, rfl, rfl, rfl, rfl, rfl⟩ := e; rfl), fun e => absurd e (by decide), fun e => absurd e (by decide)⟩); (case hu => exact fun u hu => hu.1 rfl _ _ _ _ _ _ rfl); go_simp) | ((with_reducible apply soft_callS (v := .bool true)); (case hwa => rfl); (case hA => rfl); (case h => (intro w1 hw1; have hc := hcells w1 hw1; go_simp; exact ⟨rfl, rfl⟩)); (case hc => (intro w1 hw1; with_reducible exact kL.out w1 hw1)); (case hS => exact ⟨fun e => absurd e (by decide), fun _ => rfl, fun e => absurd e (by decide)⟩); (case hu => exact fun u hu => hu.2.1 rfl); go_simp) | ((with_reducible apply soft_callS (v := .bool b2)); (case hwa => rfl); (case hA => rfl); (case h => (intro w1 hw1; have hc := hcells w1 hw1; go_simp; exact ⟨rfl, rfl⟩)); (case hc => (intro w1 hw1; with_reducible exact kE.out w1 hw1)); (case hS => exact ⟨fun e => absurd e (by decide), fun e => absurd e (by decide), fun _ => rfl⟩); (case hu => exact fun u hu => hu.2.2 rfl); go_simp))
    refine soft_nil ?_
    rintro w2 ⟨hw2, _⟩
    go_wp2
    go_ret
    exact ⟨ret_b (by simp), (HB.out _ hw2).2⟩

set_option maxRecDepth 100000 in
set_option maxHeartbeats 4000000 in
theorem c_specSameMission (v v' : Value) (hd : List NV) (bs ls : List (List NV)) (hd' : List NV) (bs' ls' : List (List NV)) (w : World) (h : MissionV w w.heap.size v hd bs ls) (h' : MissionV w w.heap.size v' hd' bs' ls') (hn : bs.length ≤ 1048576) (hm : ls.length ≤ 1048576) :
    Calls Try.prog 18 #[v, v'] w fun e w' => e = .returned (.bool (missionS hd bs ls hd' bs' ls')) ∧ Stays w w' := by
  obtain ⟨r, x, y, z, A, c, A', c', rfl, hh, h1, h2⟩ := h.val
  obtain ⟨q, x', y', z', D, d, D', d', rfl, hh', h3, h4⟩ := h'.val
  have H := Lib.hid h2
  have H' := Lib.hid h4
  have kV0 := fun W => c_l01SameVecG _ _ _ _ hh.shm hh'.shm W
  have kE0 : ∀ W, Stays w W → _ := fun W hb => c_l08SameVecs A D c d bs bs' W ((h1.below hb).more hb.size) ((h3.below hb).more hb.size) hn
  have er : hdR hd = r := hh.r.symm
  have er' : hdR hd' = q := hh'.r.symm
  have ev : missionS hd bs ls hd' bs' ls' = ((r == q) && (samV (hd.drop 1) (hd'.drop 1) && pairB samV bs bs') && pairB legS ls ls') := by unfold missionS frameS; rw [er, er']
  rw [ev]
  clear ev er er' h h' h1 h2 h3 h4 hh hh'
  generalize samV (hd.drop 1) (hd'.drop 1) = bv at kV0 ⊢
  generalize pairB samV bs bs' = bp at kE0 ⊢
  have kV := Lib.hid kV0
  have HB : Hid (∀ w1, Stays ((w.alloc (.cells #[.int .i64 r, .float .f32 x, .float .f32 y, .float .f32 z, .slice A bs.length c, .slice A' ls.length c'] 39)).alloc (.cells #[.int .i64 q, .float .f32 x', .float .f32 y', .float .f32 z', .slice D bs'.length d, .slice D' ls'.length d'] 39)) w1 → ((∀ i, w1.cell? ⟨w.heap.size, i, none⟩ = (#[.int .i64 r, .float .f32 x, .float .f32 y, .float .f32 z, .slice A bs.length c, .slice A' ls.length c'] : Array Value)[i]?) ∧ (∀ i, w1.cell? ⟨w.heap.size + 1, i, none⟩ = (#[.int .i64 q, .float .f32 x', .float .f32 y', .float .f32 z', .slice D bs'.length d, .slice D' ls'.length d'] : Array Value)[i]?)) ∧ Stays w w1) := Lib.hid fun w1 h => ⟨⟨row_of h (by (repeat (first | (refine heap_top _ _ _ ?_; simp; done) | (with_reducible refine heap_drawn _ _ _ ?_) | (with_reducible refine heap_under _ _ _ ?_ ?_; (simp <;> omega))))), row_of h (by (repeat (first | (refine heap_top _ _ _ ?_; simp; done) | (with_reducible refine heap_drawn _ _ _ ?_) | (with_reducible refine heap_under _ _ _ ?_ ?_; (simp <;> omega)))))⟩, Stays.trans (by (repeat (first | exact Stays.refl _ | (with_reducible refine Stays.drewN ?_ _) | (with_reducible refine Stays.alloc ?_ _) | (with_reducible refine Stays.drew ?_) | (refine Stays.trans ?_ ‹Stays _ _›)))) h⟩
  have kE := Lib.hid fun W hb => kE0 W (HB.out W hb).2
  clear kV0 kE0
  by_cases e0 : r = q
  · subst e0
    cases bv with
    | false =>
      clear kE
      go_enter Try.func18, Try.ntmps18
      go_wp2_with (go_at_call 45; refine (kV.out _).mono ?_; rintro e w1 ⟨rfl, hw1⟩)
      go_ret
      exact ⟨ret_b (by simp), (HB.out _ hw1).2⟩
    | true =>
      cases bp with
      | false =>
        go_enter Try.func18, Try.ntmps18
        go_wp2_with (first
          | (go_at_call 45; refine (kV.out _).mono ?_; rintro e w1 ⟨rfl, hw1⟩; obtain ⟨hc, hc'⟩ := (HB.out _ hw1).1; replace hw1 := Lib.hid hw1)
          | (go_at_call 46; refine (kE.out _ hw1.out).mono ?_; rintro e w2 ⟨rfl, hw2⟩))
        go_ret
        exact ⟨ret_b (by simp), (HB.out _ (Stays.trans hw1.out hw2)).2⟩
      | true =>
        by_cases hl : ls.length = ls'.length
        · have hl2 : (((ls.length : Nat) : Int) != (ls'.length : Nat)) = false := by rw [hl]; simp
          have fin := Lib.hid fun k ha hk => pair_end (S := legS) (k := k) hl ha hk
          replace hl := Lib.hid hl
          go_enter Try.func18, Try.ntmps18
          go_wp2_with (first
            | (go_at_call 45; refine (kV.out _).mono ?_; rintro e w1 ⟨rfl, hw1⟩; obtain ⟨hc, hc'⟩ := (HB.out _ hw1).1; replace hw1 := Lib.hid hw1)
            | (go_at_call 46; refine (kE.out _ hw1.out).mono ?_; rintro e w2 ⟨rfl, hw2⟩; replace hw2 := Lib.hid (Stays.trans hw1.out hw2); clear hc hc' hw1; obtain ⟨hc, hc'⟩ := (HB.out _ hw2.out).1))
          clear hc hc' kE kV
          generalize ((w.alloc (.cells #[.int .i64 r, .float .f32 x, .float .f32 y, .float .f32 z, .slice A bs.length c, .slice A' ls.length c'] 39)).alloc (.cells #[.int .i64 r, .float .f32 x', .float .f32 y', .float .f32 z', .slice D bs'.length d, .slice D' ls'.length d'] 39)) = W0 at HB hw2
          go_loopw [5] (fun i wr => ∃ k : Nat, k ≤ ls.length ∧ i = .int .i64 k ∧ Hid (Stays W0 wr) ∧ Hid (∀ j r s, j < k → ls[j]? = some r → ls'[j]? = some s → legS r s = true)) (fun i _ => ls.length - (intOf i).toNat)
          case atStart => exact ⟨0, Nat.zero_le _, rfl, hw2, Lib.hid fun j r s hj => by omega⟩
          case round =>
            clear hw2
            obtain ⟨k, hk, rfl, hb, ha⟩ := hrel
            obtain ⟨⟨hc, hc'⟩, hbw⟩ := HB.out _ hb.out
            by_cases hlt : k < ls.length
            · obtain ⟨ad, rfl, hbl, hrow⟩ := (H.out.below hbw) k ls[k] (List.getElem?_eq_getElem hlt)
              obtain ⟨ad', rfl, hbl', hrow'⟩ := (H'.out.below hbw) k (ls'[k]'(by have := hl.out; omega)) (List.getElem?_eq_getElem (by have := hl.out; omega))
              have hrk := List.getElem?_eq_getElem hlt
              have hsk : ls'[k]? = some (ls'[k]'(by have := hl.out; omega)) := List.getElem?_eq_getElem (by have := hl.out; omega)
              generalize ls[k] = rr at hrow hrk
              generalize ls'[k]'(by have := hl.out; omega) = ss at hrow' hsk
              obtain ⟨c0, c1, c2, c3, c4, c5, hK, g0, g1, g2, g3, g4, g5⟩ := row6 rfl hrow
              obtain ⟨d0, d1, d2, d3, d4, d5, hK', k0, k1, k2, k3, k4, k5⟩ := row6 rfl hrow'
              obtain ⟨t, fx, b, u, v, o, ecs, ht, hfx, hb5, hsh⟩ := leg_cells hK
              obtain ⟨t', fx', b', u', v', o', ecs', ht', hfx', hb5', hsh'⟩ := leg_cells hK'
              cases ecs
              cases ecs'
              have hf := fun W => c_l01SameVecG _ _ _ _ hsh hsh' W
              have nx : Hid (legS rr ss = true → Hid (∀ j r s, j < k + 1 → ls[j]? = some r → ls'[j]? = some s → legS r s = true)) := Lib.hid fun h => Lib.hid (pair_next ha.out hrk hsk h)
              have bd : Hid (legS rr ss = false → pairB legS ls ls' = false) := Lib.hid fun h => pair_bad hrk hsk h
              have ev : legS rr ss = ((t == t') && (samV ((rr.drop 1).take 3) ((ss.drop 1).take 3) && ((fx == fx') && (b == b')))) := by unfold legS; rw [ht, hfx, hb5, ht', hfx', hb5']
              rw [ev] at nx bd
              clear ev ht hfx hb5 hsh ht' hfx' hb5' hsh' hK hK' hrk hsk hrow hrow'
              generalize samV ((rr.drop 1).take 3) ((ss.drop 1).take 3) = bf at hf nx bd
              replace hf := Lib.hid hf
              have hd := World.block_lt_of_cell? _ _ k0
              have hd' : (ad'.add (k * 6)).block < wr.heap.size := hd
              have hp := World.block_lt_of_cell? _ _ (hc' 5)
              have hp' : w.heap.size + 1 < wr.heap.size := hp
              have y5 : ∀ o, (wr.alloc o).cell? ⟨w.heap.size + 1, 5, none⟩ = some (.slice (some ad') ls'.length d') := fun o => (World.cell?_alloc_lt wr o ⟨w.heap.size + 1, 5, none⟩ hp').trans (hc' 5)
              have x0 : ∀ o, (wr.alloc o).cell? (ad'.add (k * 6)) = some (.int .i64 t') := fun o => (World.cell?_alloc_lt wr o _ hd').trans k0
              have x1 : ∀ o, (wr.alloc o).cell? ⟨(ad'.add (k * 6)).block, (ad'.add (k * 6)).off + 1, none⟩ = some (.float .f32 u') := fun o => (World.cell?_alloc_lt wr o ⟨(ad'.add (k * 6)).block, (ad'.add (k * 6)).off + 1, none⟩ hd').trans k1
              have x2 : ∀ o, (wr.alloc o).cell? ⟨(ad'.add (k * 6)).block, (ad'.add (k * 6)).off + 2, none⟩ = some (.float .f32 v') := fun o => (World.cell?_alloc_lt wr o ⟨(ad'.add (k * 6)).block, (ad'.add (k * 6)).off + 2, none⟩ hd').trans k2
              have x3 : ∀ o, (wr.alloc o).cell? ⟨(ad'.add (k * 6)).block, (ad'.add (k * 6)).off + 3, none⟩ = some (.float .f32 o') := fun o => (World.cell?_alloc_lt wr o ⟨(ad'.add (k * 6)).block, (ad'.add (k * 6)).off + 3, none⟩ hd').trans k3
              have x4 : ∀ o, (wr.alloc o).cell? ⟨(ad'.add (k * 6)).block, (ad'.add (k * 6)).off + 4, none⟩ = some (.int .i64 fx') := fun o => (World.cell?_alloc_lt wr o ⟨(ad'.add (k * 6)).block, (ad'.add (k * 6)).off + 4, none⟩ hd').trans k4
              have x5 : ∀ o, (wr.alloc o).cell? ⟨(ad'.add (k * 6)).block, (ad'.add (k * 6)).off + 5, none⟩ = some (.int .i64 b') := fun o => (World.cell?_alloc_lt wr o ⟨(ad'.add (k * 6)).block, (ad'.add (k * 6)).off + 5, none⟩ hd').trans k5
              have HL : Hid (∀ w1, Stays ((wr.alloc (.cells #[.int .i64 t, .float .f32 u, .float .f32 v, .float .f32 o, .int .i64 fx, .int .i64 b] 79)).alloc (.cells #[.int .i64 t', .float .f32 u', .float .f32 v', .float .f32 o', .int .i64 fx', .int .i64 b'] 79)) w1 → ((∀ i, w1.cell? ⟨wr.heap.size, i, none⟩ = (#[.int .i64 t, .float .f32 u, .float .f32 v, .float .f32 o, .int .i64 fx, .int .i64 b] : Array Value)[i]?) ∧ (∀ i, w1.cell? ⟨wr.heap.size + 1, i, none⟩ = (#[.int .i64 t', .float .f32 u', .float .f32 v', .float .f32 o', .int .i64 fx', .int .i64 b'] : Array Value)[i]?)) ∧ Hid (Stays W0 w1)) := Lib.hid fun w1 h => ⟨⟨row_of h (by (repeat (first | (refine heap_top _ _ _ ?_; simp; done) | (with_reducible refine heap_drawn _ _ _ ?_) | (with_reducible refine heap_under _ _ _ ?_ ?_; (simp <;> omega))))), row_of h (by (repeat (first | (refine heap_top _ _ _ ?_; simp; done) | (with_reducible refine heap_drawn _ _ _ ?_) | (with_reducible refine heap_under _ _ _ ?_ ?_; (simp <;> omega)))))⟩, Lib.hid (Stays.trans hb.out (Stays.trans (by (repeat (first | exact Stays.refl _ | (with_reducible refine Stays.drewN ?_ _) | (with_reducible refine Stays.alloc ?_ _) | (with_reducible refine Stays.drew ?_) | (refine Stays.trans ?_ ‹Stays _ _›)))) h))⟩
              clear hp hp' hd hd' k0 k1 k2 k3 k4 k5
              have hlt' : (k : Int) < (ls.length : Int) := by omega
              have hlt2 : (k : Int) < (ls'.length : Int) := by have := hl.out; omega
              by_cases e0 : t = t'
              · subst e0
                cases bf with
                | false =>
                  go_wp2_with (go_at_call 45; refine (hf.out _).mono ?_; rintro e w3 ⟨rfl, hw3⟩; obtain ⟨⟨hz, hz'⟩, hb3⟩ := HL.out _ hw3; clear hw3)
                  go_ret
                  exact ⟨ret_b (by rw [bd.out (by simp)]; simp), (HB.out _ hb3.out).2⟩
                | true =>
                  by_cases e1 : fx = fx'
                  · subst e1
                    by_cases e2 : b = b'
                    · subst e2
                      go_wp2_with (go_at_call 45; refine (hf.out _).mono ?_; rintro e w3 ⟨rfl, hw3⟩; obtain ⟨⟨hz, hz'⟩, hb3⟩ := HL.out _ hw3; clear hw3)
                      go_round
                      case rel => exact ⟨k + 1, by omega, by go_num, hb3, nx.out (by simp)⟩
                      case measure => simp [intOf]; omega
                    · have f2 : (b != b') = true := by simp [e2]
                      go_wp2_with (go_at_call 45; refine (hf.out _).mono ?_; rintro e w3 ⟨rfl, hw3⟩; obtain ⟨⟨hz, hz'⟩, hb3⟩ := HL.out _ hw3; clear hw3)
                      go_ret
                      exact ⟨ret_b (by rw [bd.out (by simp [e2])]; simp), (HB.out _ hb3.out).2⟩
                  · have f1 : (fx != fx') = true := by simp [e1]
                    go_wp2_with (go_at_call 45; refine (hf.out _).mono ?_; rintro e w3 ⟨rfl, hw3⟩; obtain ⟨⟨hz, hz'⟩, hb3⟩ := HL.out _ hw3; clear hw3)
                    go_ret
                    exact ⟨ret_b (by rw [bd.out (by simp [e1])]; simp), (HB.out _ hb3.out).2⟩
              · have f0 : (t != t') = true := by simp [e0]
                have hb3 := Lib.hid (HL.out _ (Stays.refl _)).2
                go_wp2
                go_ret
                exact ⟨ret_b (by rw [bd.out (by simp [e0])]; simp), (HB.out _ hb3.out.out).2⟩
            · have hL := Lib.hid (fin.out k ha.out (by omega))
              go_wp2
              go_ret
              exact ⟨ret_b (by rw [hL.out]; simp), hbw⟩
        · have hl1 : ¬ ((ls.length : Nat) : Int) = (ls'.length : Nat) := by omega
          have hl2 : (((ls.length : Nat) : Int) != (ls'.length : Nat)) = true := by simpa using hl1
          have fin := Lib.hid (pair_len (S := legS) hl)
          go_enter Try.func18, Try.ntmps18
          go_wp2_with (first
            | (go_at_call 45; refine (kV.out _).mono ?_; rintro e w1 ⟨rfl, hw1⟩; obtain ⟨hc, hc'⟩ := (HB.out _ hw1).1; replace hw1 := Lib.hid hw1)
            | (go_at_call 46; refine (kE.out _ hw1.out).mono ?_; rintro e w2 ⟨rfl, hw2⟩; replace hw2 := Lib.hid (Stays.trans hw1.out hw2); clear hc hc' hw1; obtain ⟨hc, hc'⟩ := (HB.out _ hw2.out).1))
          go_ret
          exact ⟨ret_b (by rw [fin.out]; simp), (HB.out _ hw2.out).2⟩
  · have f0 : (r != q) = true := by simp [e0]
    clear kE kV
    go_enter Try.func18, Try.ntmps18
    go_wp2
    go_ret
    exact ⟨ret_b (by simp [e0]), (HB.out _ (Stays.refl _)).2⟩
end Go.Proofs.Ytdojdnndligmhaa
