/- Entries compared, on both sides. No condition. -/
import Derived.Test.YtdojdnndligmhaaMsLog
import Derived.Test.YtdojdnndligmhaaMsS
import Derived.Test.YtdojdnndligmhaaA1
namespace Go.Proofs.Ytdojdnndligmhaa
open Go Go.RowKit
set_option linter.unusedVariables false
set_option linter.unusedSimpArgs false

def sameN (a b : NV) : Bool := a.gf == b.gf
theorem sameN_of {a b : NV} {x y : Nat} (h : FIs .f32 x a.gf) (h' : FIs .f32 y b.gf) : same x y = sameN a b := by unfold same sameN; rw [h.out, h'.out]
def gI (r : List NV) (j : Nat) : Int := (r.getD j (.i 0)).gi
def cntS (r s : List NV) : Bool := decide (gI r 4 = gI s 4) && (decide (gI r 5 = gI s 5) && decide (gI r 6 = gI s 6))
noncomputable def entS (r s : List NV) : Bool := (gI r 0 == gI s 0) && (samV ((r.drop 1).take 3) ((s.drop 1).take 3) && (cntS r s && ((gI r 7 == gI s 7) && sameN (r.getD 8 (.i 0)) (s.getD 8 (.i 0)))))

theorem ent_cells {cs : List Value} {r : List NV} (h : KMs KEntry cs r) : ∃ (k m n o b : Int) (x y z d : Nat), cs = [.int .i64 k, .float .f32 x, .float .f32 y, .float .f32 z, .int .i16 m, .int .i16 n, .int .i16 o, .int .i64 b, .float .f32 d] ∧ (gI r 0 = k ∧ gI r 4 = m ∧ gI r 5 = n ∧ gI r 6 = o ∧ gI r 7 = b) ∧ ShM (.agg KVec) (.agg #[.float .f32 x, .float .f32 y, .float .f32 z]) ((r.drop 1).take 3) ∧ FIs .f32 d (r.getD 8 (.i 0)).gf := by
  have hr := KMs_rlen h
  have hl := KMs_len h
  match cs, r, hl, hr, h with
  | [_, _, _, _, _, _, _, _, _], [n0, n1, n2, n3, n4, n5, n6, n7, n8], _, _, ⟨h0, ⟨x, hx, hfx⟩, ⟨y, hy, hfy⟩, ⟨z, hz, hfz⟩, h4, h5, h6, h7, ⟨d, hd, hfd⟩, _⟩ =>
    subst hx hy hz hd
    have h0 : _ = Value.int .i64 n0.gi := h0
    have h4 : _ = Value.int .i16 n4.gi := h4
    have h5 : _ = Value.int .i16 n5.gi := h5
    have h6 : _ = Value.int .i16 n6.gi := h6
    have h7 : _ = Value.int .i64 n7.gi := h7
    subst h0 h4 h5 h6 h7
    exact ⟨_, _, _, _, _, x, y, z, d, rfl, ⟨rfl, rfl, rfl, rfl, rfl⟩, ⟨_, rfl, ⟨x, rfl, hfx⟩, ⟨y, rfl, hfy⟩, ⟨z, rfl, hfz⟩, trivial⟩, hfd⟩

theorem ent_flat {cs : List Value} {r : List NV} (h : KMs KEntry cs r) : ∃ k x y z m n o b d, cs = [.int .i64 k, .float .f32 x, .float .f32 y, .float .f32 z, .int .i16 m, .int .i16 n, .int .i16 o, .int .i64 b, .float .f32 d] := by
  obtain ⟨k, m, n, o, b, x, y, z, d, e, _⟩ := ent_cells h
  exact ⟨k, x, y, z, m, n, o, b, d, e⟩

theorem cnt_eql (m n o m' n' o' : Int) (w : World) : (binOp BinOp.eql 95 (.agg #[.int .i16 m, .int .i16 n, .int .i16 o]) (.agg #[.int .i16 m', .int .i16 n', .int .i16 o'])).run Try.prog w = .ok (.bool (decide (m = m') && (decide (n = n') && decide (o = o')))) w := by
  obtain ⟨i0, hi0⟩ : ∃ i, Try.prog.info? 93 = some i := Option.isSome_iff_exists.1 (by kernel_rfl)
  have hC : Try.prog.cellsOf 93 = 1 := by kernel_rfl
  rw [run_eql_struct, run_equalIn_array w 9999 _ _ Try.underlying95 hi0, hC]
  have p0 : ∀ (a b c : Int) (w : World), (part 93 #[.int .i16 a, .int .i16 b, .int .i16 c] 0).run Try.prog w = .ok (.int .i16 a) w := fun a b c w => by kernel_rfl
  have p1 : ∀ (a b c : Int) (w : World), (part 93 #[.int .i16 a, .int .i16 b, .int .i16 c] 1).run Try.prog w = .ok (.int .i16 b) w := fun a b c w => by kernel_rfl
  have p2 : ∀ (a b c : Int) (w : World), (part 93 #[.int .i16 a, .int .i16 b, .int .i16 c] 2).run Try.prog w = .ok (.int .i16 c) w := fun a b c w => by kernel_rfl
  have q0' : ∀ (d : Nat) (m n : Int) (w : World), (Op.equalIn (d + 1) 93 (.int .i16 m) (.int .i16 n)).run Try.prog w = .ok (decide (m = n)) w := fun d m n w => by
    unfold Op.equalIn
    simp only [Sem.run_bind, run_underlying Try.underlying93, Result.andThen_ok]
    by_cases h : m = n <;> simp [h, Result.andThen]
  have q0 : ∀ (m n : Int) (w : World), (Op.equalIn 9999 93 (.int .i16 m) (.int .i16 n)).run Try.prog w = .ok (decide (m = n)) w := fun m n w => q0' 9998 m n w
  simp [Op.eqItems, List.range, List.range.loop, p0, p1, p2, q0, Result.andThen]
  by_cases h1 : m = m' <;> by_cases h2 : n = n' <;> by_cases h3 : o = o' <;> simp [h1, h2, h3]

set_option maxRecDepth 100000 in
set_option maxHeartbeats 1000000 in
theorem c_entSame (u1 u2 : Value) (r s : List NV) (hr : ShM (.agg KEntry) u1 r) (hs : ShM (.agg KEntry) u2 s) (w : World) : Calls Try.prog 58 #[u1, u2] w fun e w' => e = .returned (.bool (entS r s)) ∧ Stays w w' := by
  obtain ⟨⟨l⟩, rfl, h⟩ := hr
  obtain ⟨⟨l'⟩, rfl, h'⟩ := hs
  obtain ⟨k, m, n, o, b, x, y, z, d, ecs, ⟨a0, a4, a5, a6, a7⟩, hsh, hfd⟩ := ent_cells h
  obtain ⟨k', m', n', o', b', x', y', z', d', ecs', ⟨a0', a4', a5', a6', a7'⟩, hsh', hfd'⟩ := ent_cells h'
  have ecs : l = _ := ecs
  have ecs' : l' = _ := ecs'
  subst ecs ecs'
  have kV0 := fun W => c_SameVecG _ _ _ _ hsh hsh' W
  have kN0 : ∀ W : World, Calls Try.prog 78 #[.float .f32 d, .float .f32 d'] W fun e w' => e = .returned (.bool (sameN (r.getD 8 (.i 0)) (s.getD 8 (.i 0)))) ∧ Stays W w' := fun W => (c_implSameNumber d d' W).mono fun e w' he => ⟨he.1.trans (by rw [sameN_of hfd hfd']), he.2 ▸ Stays.refl _⟩
  have kC := fun W => cnt_eql m n o m' n' o' W
  unfold entS cntS
  rw [a0, a4, a5, a6, a7, a0', a4', a5', a6', a7']
  clear h h' a0 a4 a5 a6 a7 a0' a4' a5' a6' a7' hsh hsh' hfd hfd'
  generalize samV ((r.drop 1).take 3) ((s.drop 1).take 3) = bv at kV0 ⊢
  generalize sameN (r.getD 8 (.i 0)) (s.getD 8 (.i 0)) = bn at kN0 ⊢
  generalize (decide (m = m') && (decide (n = n') && decide (o = o'))) = bc at kC ⊢
  have kV := Lib.hid kV0
  have kN := Lib.hid kN0
  clear kV0 kN0
  have HB : Hid (∀ w1, Stays ((w.alloc (.cells #[.int .i64 k, .float .f32 x, .float .f32 y, .float .f32 z, .int .i16 m, .int .i16 n, .int .i16 o, .int .i64 b, .float .f32 d] 97)).alloc (.cells #[.int .i64 k', .float .f32 x', .float .f32 y', .float .f32 z', .int .i16 m', .int .i16 n', .int .i16 o', .int .i64 b', .float .f32 d'] 97)) w1 → ((∀ i, w1.cell? ⟨w.heap.size, i, none⟩ = (#[.int .i64 k, .float .f32 x, .float .f32 y, .float .f32 z, .int .i16 m, .int .i16 n, .int .i16 o, .int .i64 b, .float .f32 d] : Array Value)[i]?) ∧ (∀ i, w1.cell? ⟨w.heap.size + 1, i, none⟩ = (#[.int .i64 k', .float .f32 x', .float .f32 y', .float .f32 z', .int .i16 m', .int .i16 n', .int .i16 o', .int .i64 b', .float .f32 d'] : Array Value)[i]?)) ∧ Stays w w1) := Lib.hid fun w1 h => ⟨⟨row_of h (by (repeat (first | (refine heap_top _ _ _ ?_; simp; done) | (with_reducible refine heap_drawn _ _ _ ?_) | (with_reducible refine heap_under _ _ _ ?_ ?_; (simp <;> omega))))), row_of h (by (repeat (first | (refine heap_top _ _ _ ?_; simp; done) | (with_reducible refine heap_drawn _ _ _ ?_) | (with_reducible refine heap_under _ _ _ ?_ ?_; (simp <;> omega)))))⟩, Stays.trans (by (repeat (first | exact Stays.refl _ | (with_reducible refine Stays.drewN ?_ _) | (with_reducible refine Stays.alloc ?_ _) | (with_reducible refine Stays.drew ?_) | (refine Stays.trans ?_ ‹Stays _ _›)))) h⟩
  by_cases e0 : k = k'
  · subst e0
    cases bv with
    | false =>
      go_enter Try.func58, Try.ntmps58
      go_wp2_with (go_at_call 72; refine (kV.out _).mono ?_; rintro e w1 ⟨rfl, hw1⟩; obtain ⟨hc, hc'⟩ := (HB.out _ hw1).1)
      go_ret
      exact ⟨ret_b (by simp), (HB.out _ hw1).2⟩
    | true =>
      cases bc with
      | false =>
        go_enter Try.func58, Try.ntmps58
        go_wp2_with (go_at_call 72; refine (kV.out _).mono ?_; rintro e w1 ⟨rfl, hw1⟩; obtain ⟨hc, hc'⟩ := (HB.out _ hw1).1)
        go_ret
        exact ⟨ret_b (by simp), (HB.out _ hw1).2⟩
      | true =>
        by_cases e1 : b = b'
        · subst e1
          go_enter Try.func58, Try.ntmps58
          go_wp2_with (first
            | (go_at_call 72; refine (kV.out _).mono ?_; rintro e w1 ⟨rfl, hw1⟩; obtain ⟨hc, hc'⟩ := (HB.out _ hw1).1; replace hw1 := Lib.hid hw1)
            | (go_at_call 78; refine (kN.out _).mono ?_; rintro e w2 ⟨rfl, hw2⟩))
          go_ret
          exact ⟨ret_b (by simp), (HB.out _ (Stays.trans hw1.out hw2)).2⟩
        · have f1 : (b == b') = false := by simp [e1]
          go_enter Try.func58, Try.ntmps58
          go_wp2_with (go_at_call 72; refine (kV.out _).mono ?_; rintro e w1 ⟨rfl, hw1⟩; obtain ⟨hc, hc'⟩ := (HB.out _ hw1).1)
          go_ret
          exact ⟨ret_b (by simp [e1]), (HB.out _ hw1).2⟩
  · have f0 : (k == k') = false := by simp [e0]
    clear kV kN
    go_enter Try.func58, Try.ntmps58
    go_wp2
    go_ret
    exact ⟨ret_b (by simp [e0]), (HB.out _ (Stays.refl _)).2⟩

def seS (bv bn : Bool) (f : FuncId) (args : Array Value) (v : Value) : Prop := (f = 45 → v = .bool bv) ∧ (f = 71 → v = .bool bn)

set_option maxRecDepth 100000 in
set_option maxHeartbeats 4000000 in
theorem c_l08SameEntry (p q : Addr) (r s : List NV) (w : World) (h : RowAt KEntry w p r) (hp : p.block < w.heap.size) (h' : RowAt KEntry w q s) (hq : q.block < w.heap.size) :
    Calls Try.prog 56 #[.pointer (some p), .pointer (some q)] w fun e w' => e = .returned (.bool (entS r s)) ∧ Stays w w' := by
  obtain ⟨c0, c1, c2, c3, c4, c5, c6, c7, c8, hK, g0, g1, g2, g3, g4, g5, g6, g7, g8⟩ := row9 rfl h
  obtain ⟨d0, d1, d2, d3, d4, d5, d6, d7, d8, hK', j0, j1, j2, j3, j4, j5, j6, j7, j8⟩ := row9 rfl h'
  obtain ⟨k, m, n, o, b, x, y, z, d, ecs, ⟨a0, a4, a5, a6, a7⟩, hsh, hfd⟩ := ent_cells hK
  obtain ⟨k', m', n', o', b', x', y', z', d', ecs', ⟨a0', a4', a5', a6', a7'⟩, hsh', hfd'⟩ := ent_cells hK'
  cases ecs
  cases ecs'
  have kV0 := fun W => c_l01SameVecG _ _ _ _ hsh hsh' W
  have kN0 : ∀ W : World, Calls Try.prog 71 #[.float .f32 d, .float .f32 d'] W fun e w' => e = .returned (.bool (sameN (r.getD 8 (.i 0)) (s.getD 8 (.i 0)))) ∧ Stays W w' := fun W => (c_l01Same d d' W).mono fun e w' he => ⟨he.1.trans (by rw [sameN_of hfd hfd']), he.2 ▸ Stays.refl _⟩
  have kC := fun W => cnt_eql m n o m' n' o' W
  unfold entS cntS
  rw [a0, a4, a5, a6, a7, a0', a4', a5', a6', a7']
  clear h h' a0 a4 a5 a6 a7 a0' a4' a5' a6' a7' hsh hsh' hfd hfd' hK hK'
  generalize samV ((r.drop 1).take 3) ((s.drop 1).take 3) = bv at kV0 ⊢
  generalize sameN (r.getD 8 (.i 0)) (s.getD 8 (.i 0)) = bn at kN0 ⊢
  generalize (decide (m = m') && (decide (n = n') && decide (o = o'))) = bc at kC ⊢
  have kV := Lib.hid kV0
  have kN := Lib.hid kN0
  clear kV0 kN0
  have hcells : ∀ w', Stays w w' → w'.cell? p = some (.int .i64 k) ∧ w'.cell? ⟨p.block, p.off + 1, none⟩ = some (.float .f32 x) ∧ w'.cell? ⟨p.block, p.off + 1 + 1, none⟩ = some (.float .f32 y) ∧ w'.cell? ⟨p.block, p.off + 1 + 2, none⟩ = some (.float .f32 z) ∧ w'.cell? ⟨p.block, p.off + 4, none⟩ = some (.int .i16 m) ∧ w'.cell? ⟨p.block, p.off + 4 + 1, none⟩ = some (.int .i16 n) ∧ w'.cell? ⟨p.block, p.off + 4 + 2, none⟩ = some (.int .i16 o) ∧ w'.cell? ⟨p.block, p.off + 7, none⟩ = some (.int .i64 b) ∧ w'.cell? ⟨p.block, p.off + 8, none⟩ = some (.float .f32 d) ∧ w'.cell? q = some (.int .i64 k') ∧ w'.cell? ⟨q.block, q.off + 1, none⟩ = some (.float .f32 x') ∧ w'.cell? ⟨q.block, q.off + 1 + 1, none⟩ = some (.float .f32 y') ∧ w'.cell? ⟨q.block, q.off + 1 + 2, none⟩ = some (.float .f32 z') ∧ w'.cell? ⟨q.block, q.off + 4, none⟩ = some (.int .i16 m') ∧ w'.cell? ⟨q.block, q.off + 4 + 1, none⟩ = some (.int .i16 n') ∧ w'.cell? ⟨q.block, q.off + 4 + 2, none⟩ = some (.int .i16 o') ∧ w'.cell? ⟨q.block, q.off + 7, none⟩ = some (.int .i64 b') ∧ w'.cell? ⟨q.block, q.off + 8, none⟩ = some (.float .f32 d') := fun w' hb => ⟨(Below.cell hb hp).trans g0, (Below.cell (p := ⟨p.block, p.off + 1, none⟩) hb hp).trans g1, (Below.cell (p := ⟨p.block, p.off + 2, none⟩) hb hp).trans g2, (Below.cell (p := ⟨p.block, p.off + 3, none⟩) hb hp).trans g3, (Below.cell (p := ⟨p.block, p.off + 4, none⟩) hb hp).trans g4, (Below.cell (p := ⟨p.block, p.off + 5, none⟩) hb hp).trans g5, (Below.cell (p := ⟨p.block, p.off + 6, none⟩) hb hp).trans g6, (Below.cell (p := ⟨p.block, p.off + 7, none⟩) hb hp).trans g7, (Below.cell (p := ⟨p.block, p.off + 8, none⟩) hb hp).trans g8, (Below.cell hb hq).trans j0, (Below.cell (p := ⟨q.block, q.off + 1, none⟩) hb hq).trans j1, (Below.cell (p := ⟨q.block, q.off + 2, none⟩) hb hq).trans j2, (Below.cell (p := ⟨q.block, q.off + 3, none⟩) hb hq).trans j3, (Below.cell (p := ⟨q.block, q.off + 4, none⟩) hb hq).trans j4, (Below.cell (p := ⟨q.block, q.off + 5, none⟩) hb hq).trans j5, (Below.cell (p := ⟨q.block, q.off + 6, none⟩) hb hq).trans j6, (Below.cell (p := ⟨q.block, q.off + 7, none⟩) hb hq).trans j7, (Below.cell (p := ⟨q.block, q.off + 8, none⟩) hb hq).trans j8⟩
  clear g0 g1 g2 g3 g4 g5 g6 g7 g8 j0 j1 j2 j3 j4 j5 j6 j7 j8
  by_cases e0 : k = k'
  · subst e0
    cases bv with
    | false =>
      go_enter Try.func56, Try.ntmps56
      go_wp2
      refine wp_region_soft_tail 53 (Stays.refl _) (seS false bn) [] (by kernel_rfl) (by kernel_rfl) (fun _ h => by cases h) ?_
      simp only [List.take_succ_cons, List.take_zero, List.drop_succ_cons, List.drop_zero]
      repeat (first | ((with_reducible apply soft_detG); (case hwa => rfl); (case hA => rfl); (case h => (intro w1 hw1; have hc := hcells w1 hw1; go_simp; exact rfl)); go_simp) | ((with_reducible apply soft_skipG); (case hwa => rfl); (case hA => rfl); go_simp) | ((with_reducible apply soft_callS (v := .bool false)); (case hwa => rfl); (case hA => rfl); (case h => (intro w1 hw1; have hc := hcells w1 hw1; go_simp; exact ⟨rfl, rfl⟩)); (case hc => (intro w1 hw1; with_reducible exact kV.out w1)); (case hS => exact ⟨fun _ => rfl, fun e => absurd e (by decide)⟩); (case hu => exact fun u hu => hu.1 rfl); go_simp))
      refine soft_nil ?_
      rintro w2 ⟨hw2, _⟩
      go_wp2
      go_ret
      exact ⟨ret_b (by simp), hw2⟩
    | true =>
      cases bc with
      | false =>
        go_enter Try.func56, Try.ntmps56
        go_wp2
        refine wp_region_soft_tail 53 (Stays.refl _) (seS true bn) [] (by kernel_rfl) (by kernel_rfl) (fun _ h => by cases h) ?_
        simp only [List.take_succ_cons, List.take_zero, List.drop_succ_cons, List.drop_zero]
        repeat (first | ((with_reducible apply soft_detG); (case hwa => rfl); (case hA => rfl); (case h => (intro w1 hw1; have hc := hcells w1 hw1; go_simp; exact rfl)); go_simp) | ((with_reducible apply soft_skipG); (case hwa => rfl); (case hA => rfl); go_simp) | ((with_reducible apply soft_callS (v := .bool true)); (case hwa => rfl); (case hA => rfl); (case h => (intro w1 hw1; have hc := hcells w1 hw1; go_simp; exact ⟨rfl, rfl⟩)); (case hc => (intro w1 hw1; with_reducible exact kV.out w1)); (case hS => exact ⟨fun _ => rfl, fun e => absurd e (by decide)⟩); (case hu => exact fun u hu => hu.1 rfl); go_simp))
        refine soft_nil ?_
        rintro w2 ⟨hw2, _⟩
        go_wp2
        go_ret
        exact ⟨ret_b (by simp), hw2⟩
      | true =>
        by_cases e1 : b = b'
        · subst e1
          go_enter Try.func56, Try.ntmps56
          go_wp2
          refine wp_region_soft_tail 53 (Stays.refl _) (seS true bn) [] (by kernel_rfl) (by kernel_rfl) (fun _ h => by cases h) ?_
          simp only [List.take_succ_cons, List.take_zero, List.drop_succ_cons, List.drop_zero]
          repeat (first | ((with_reducible apply soft_detG); (case hwa => rfl); (case hA => rfl); (case h => (intro w1 hw1; have hc := hcells w1 hw1; go_simp; exact rfl)); go_simp) | ((with_reducible apply soft_skipG); (case hwa => rfl); (case hA => rfl); go_simp) | ((with_reducible apply soft_callS (v := .bool true)); (case hwa => rfl); (case hA => rfl); (case h => (intro w1 hw1; have hc := hcells w1 hw1; go_simp; exact ⟨rfl, rfl⟩)); (case hc => (intro w1 hw1; with_reducible exact kV.out w1)); (case hS => exact ⟨fun _ => rfl, fun e => absurd e (by decide)⟩); (case hu => exact fun u hu => hu.1 rfl); go_simp) | ((with_reducible apply soft_callS (v := .bool bn)); (case hwa => rfl); (case hA => rfl); (case h => (intro w1 hw1; have hc := hcells w1 hw1; go_simp; exact ⟨rfl, rfl⟩)); (case hc => (intro w1 hw1; with_reducible exact kN.out w1)); (case hS => exact ⟨fun e => absurd e (by decide), fun _ => rfl⟩); (case hu => exact fun u hu => hu.2 rfl); go_simp))
          refine soft_nil ?_
          rintro w2 ⟨hw2, _⟩
          go_wp2
          go_ret
          exact ⟨ret_b (by simp), hw2⟩
        · have f1 : (b == b') = false := by simp [e1]
          go_enter Try.func56, Try.ntmps56
          go_wp2
          refine wp_region_soft_tail 53 (Stays.refl _) (seS true bn) [] (by kernel_rfl) (by kernel_rfl) (fun _ h => by cases h) ?_
          simp only [List.take_succ_cons, List.take_zero, List.drop_succ_cons, List.drop_zero]
          repeat (first | ((with_reducible apply soft_detG); (case hwa => rfl); (case hA => rfl); (case h => (intro w1 hw1; have hc := hcells w1 hw1; go_simp; exact rfl)); go_simp) | ((with_reducible apply soft_skipG); (case hwa => rfl); (case hA => rfl); go_simp) | ((with_reducible apply soft_callS (v := .bool true)); (case hwa => rfl); (case hA => rfl); (case h => (intro w1 hw1; have hc := hcells w1 hw1; go_simp; exact ⟨rfl, rfl⟩)); (case hc => (intro w1 hw1; with_reducible exact kV.out w1)); (case hS => exact ⟨fun _ => rfl, fun e => absurd e (by decide)⟩); (case hu => exact fun u hu => hu.1 rfl); go_simp) | ((with_reducible apply soft_callS (v := .bool bn)); (case hwa => rfl); (case hA => rfl); (case h => (intro w1 hw1; have hc := hcells w1 hw1; go_simp; exact ⟨rfl, rfl⟩)); (case hc => (intro w1 hw1; with_reducible exact kN.out w1)); (case hS => exact ⟨fun e => absurd e (by decide), fun _ => rfl⟩); (case hu => exact fun u hu => hu.2 rfl); go_simp))
          refine soft_nil ?_
          rintro w2 ⟨hw2, _⟩
          go_wp2
          go_ret
          exact ⟨ret_b (by simp [e1]), hw2⟩
  · have f0 : (k == k') = false := by simp [e0]
    clear kV kN
    go_enter Try.func56, Try.ntmps56
    go_wp2
    refine wp_region_soft_tail 53 (Stays.refl _) (seS bv bn) [] (by kernel_rfl) (by kernel_rfl) (fun _ h => by cases h) ?_
    simp only [List.take_succ_cons, List.take_zero, List.drop_succ_cons, List.drop_zero]
    repeat (first | ((with_reducible apply soft_detG); (case hwa => rfl); (case hA => rfl); (case h => (intro w1 hw1; have hc := hcells w1 hw1; go_simp; exact rfl)); go_simp) | ((with_reducible apply soft_skipG); (case hwa => rfl); (case hA => rfl); go_simp))
    refine soft_nil ?_
    rintro w2 ⟨hw2, _⟩
    go_wp2
    go_ret
    exact ⟨ret_b (by simp [e0]), hw2⟩

set_option maxRecDepth 100000 in
set_option maxHeartbeats 800000 in
theorem c_eqfEntry (A A' : Option Addr) (c c' : Nat) (xs ys : List (List NV)) (w : World) (h : Ls KEntry 9 w w.heap.size A xs) (h' : Ls KEntry 9 w w.heap.size A' ys) (hn : xs.length ≤ 1048576) (hm : ys.length ≤ 1048576) :
    Calls Try.prog 57 #[.slice A xs.length c, .slice A' ys.length c', .func (.func 58) #[] #[]] w fun e w' => e = .returned (.bool (pairB entS xs ys)) ∧ Stays w w' := by
  have H := Lib.hid h
  have H' := Lib.hid h'
  clear h h'
  by_cases hl : xs.length = ys.length
  · rw [← hl]
    replace hl := Lib.hid hl
    go_enter Try.func57, Try.ntmps57
    go_wp2
    go_loopw [17] (fun i wr => ∃ k : Nat, k ≤ xs.length ∧ i = .int .i64 k ∧ Hid (Stays w wr) ∧ Hid (∀ j r s, j < k → xs[j]? = some r → ys[j]? = some s → entS r s = true)) (fun i _ => xs.length - (intOf i).toNat)
    case atStart => exact ⟨0, Nat.zero_le _, rfl, Lib.hid (Stays.refl _), Lib.hid fun j r s hj => by omega⟩
    case round =>
      obtain ⟨k, hk, rfl, hb, ha⟩ := hrel
      by_cases hlt : k < xs.length
      · obtain ⟨ad, rfl, hbl, hrow⟩ := (H.out.below hb.out) k xs[k] (List.getElem?_eq_getElem hlt)
        obtain ⟨ad', rfl, hbl', hrow'⟩ := (H'.out.below hb.out) k (ys[k]'(by have := hl.out; omega)) (List.getElem?_eq_getElem (by have := hl.out; omega))
        have hrk := List.getElem?_eq_getElem hlt
        have hsk : ys[k]? = some (ys[k]'(by have := hl.out; omega)) := List.getElem?_eq_getElem (by have := hl.out; omega)
        generalize xs[k] = r at hrow hrk
        generalize ys[k]'(by have := hl.out; omega) = s at hrow' hsk
        obtain ⟨c0, c1, c2, c3, c4, c5, c6, c7, c8, hK, g0, g1, g2, g3, g4, g5, g6, g7, g8⟩ := row9 rfl hrow
        obtain ⟨d0, d1, d2, d3, d4, d5, d6, d7, d8, hK', k0, k1, k2, k3, k4, k5, k6, k7, k8⟩ := row9 rfl hrow'
        have hf := fun W => c_entSame (.agg #[c0, c1, c2, c3, c4, c5, c6, c7, c8]) (.agg #[d0, d1, d2, d3, d4, d5, d6, d7, d8]) r s ⟨_, rfl, hK⟩ ⟨_, rfl, hK'⟩ W
        obtain ⟨ra0, ra1, ra2, ra3, ra4, ra5, ra6, ra7, ra8, e⟩ := ent_flat hK
        cases e
        obtain ⟨sa0, sa1, sa2, sa3, sa4, sa5, sa6, sa7, sa8, e⟩ := ent_flat hK'
        cases e
        have nx : Hid (entS r s = true → Hid (∀ j r s, j < k + 1 → xs[j]? = some r → ys[j]? = some s → entS r s = true)) := Lib.hid fun h => Lib.hid (pair_next ha.out hrk hsk h)
        have bd : Hid (entS r s = false → pairB entS xs ys = false) := Lib.hid fun h => pair_bad hrk hsk h
        generalize entS r s = bf at hf nx bd
        replace hf := Lib.hid hf
        have hd := World.block_lt_of_cell? _ _ k0
        have hd' : (ad'.add (k * 9)).block < wr.heap.size := hd
        have x0 : ∀ o, (wr.alloc o).cell? (ad'.add (k * 9)) = some (.int .i64 sa0) := fun o => (World.cell?_alloc_lt wr o _ hd').trans k0
        have x1 : ∀ o, (wr.alloc o).cell? ⟨(ad'.add (k * 9)).block, (ad'.add (k * 9)).off + 1, none⟩ = some (.float .f32 sa1) := fun o => (World.cell?_alloc_lt wr o ⟨(ad'.add (k * 9)).block, (ad'.add (k * 9)).off + 1, none⟩ hd').trans k1
        have x2 : ∀ o, (wr.alloc o).cell? ⟨(ad'.add (k * 9)).block, (ad'.add (k * 9)).off + 2, none⟩ = some (.float .f32 sa2) := fun o => (World.cell?_alloc_lt wr o ⟨(ad'.add (k * 9)).block, (ad'.add (k * 9)).off + 2, none⟩ hd').trans k2
        have x3 : ∀ o, (wr.alloc o).cell? ⟨(ad'.add (k * 9)).block, (ad'.add (k * 9)).off + 3, none⟩ = some (.float .f32 sa3) := fun o => (World.cell?_alloc_lt wr o ⟨(ad'.add (k * 9)).block, (ad'.add (k * 9)).off + 3, none⟩ hd').trans k3
        have x4 : ∀ o, (wr.alloc o).cell? ⟨(ad'.add (k * 9)).block, (ad'.add (k * 9)).off + 4, none⟩ = some (.int .i16 sa4) := fun o => (World.cell?_alloc_lt wr o ⟨(ad'.add (k * 9)).block, (ad'.add (k * 9)).off + 4, none⟩ hd').trans k4
        have x5 : ∀ o, (wr.alloc o).cell? ⟨(ad'.add (k * 9)).block, (ad'.add (k * 9)).off + 5, none⟩ = some (.int .i16 sa5) := fun o => (World.cell?_alloc_lt wr o ⟨(ad'.add (k * 9)).block, (ad'.add (k * 9)).off + 5, none⟩ hd').trans k5
        have x6 : ∀ o, (wr.alloc o).cell? ⟨(ad'.add (k * 9)).block, (ad'.add (k * 9)).off + 6, none⟩ = some (.int .i16 sa6) := fun o => (World.cell?_alloc_lt wr o ⟨(ad'.add (k * 9)).block, (ad'.add (k * 9)).off + 6, none⟩ hd').trans k6
        have x7 : ∀ o, (wr.alloc o).cell? ⟨(ad'.add (k * 9)).block, (ad'.add (k * 9)).off + 7, none⟩ = some (.int .i64 sa7) := fun o => (World.cell?_alloc_lt wr o ⟨(ad'.add (k * 9)).block, (ad'.add (k * 9)).off + 7, none⟩ hd').trans k7
        have x8 : ∀ o, (wr.alloc o).cell? ⟨(ad'.add (k * 9)).block, (ad'.add (k * 9)).off + 8, none⟩ = some (.float .f32 sa8) := fun o => (World.cell?_alloc_lt wr o ⟨(ad'.add (k * 9)).block, (ad'.add (k * 9)).off + 8, none⟩ hd').trans k8
        clear hK hrow hrk hK' hrow' hsk hd hd'
        have hlt' : (k : Int) < (xs.length : Int) := by omega
        cases bf with
        | true =>
          go_wp2_with (go_at_call 58; refine (hf.out _).mono ?_; rintro e w1 ⟨rfl, hw1⟩; have hb2 := Lib.hid (Stays.trans hb.out (Stays.trans (show Stays wr _ from by (repeat (first | exact Stays.refl _ | (with_reducible refine Stays.drewN ?_ _) | (with_reducible refine Stays.alloc ?_ _) | (with_reducible refine Stays.drew ?_) | (refine Stays.trans ?_ ‹Stays _ _›)))) hw1)); clear hw1)
          go_round
          case rel => exact ⟨k + 1, by omega, by go_num, hb2, nx.out (by simp)⟩
          case measure => simp [intOf]; omega
        | false =>
          go_wp2_with (go_at_call 58; refine (hf.out _).mono ?_; rintro e w1 ⟨rfl, hw1⟩; have hb2 := Lib.hid (Stays.trans hb.out (Stays.trans (show Stays wr _ from by (repeat (first | exact Stays.refl _ | (with_reducible refine Stays.drewN ?_ _) | (with_reducible refine Stays.alloc ?_ _) | (with_reducible refine Stays.drew ?_) | (refine Stays.trans ?_ ‹Stays _ _›)))) hw1)); clear hw1)
          go_ret
          exact ⟨ret_b (bd.out (by simp)).symm, hb2.out⟩
      · have fin := Lib.hid (pair_end hl.out ha.out (by omega))
        go_wp2
        go_ret
        exact ⟨ret_b fin.out.symm, hb.out⟩
  · have hl1 : ¬ ((xs.length : Nat) : Int) = (ys.length : Nat) := by omega
    have hl2 : (((xs.length : Nat) : Int) != (ys.length : Nat)) = true := by simpa using hl1
    have fin := Lib.hid (pair_len (S := entS) hl)
    go_enter Try.func57, Try.ntmps57
    go_wp2
    go_ret
    exact ⟨ret_b fin.out.symm, Stays.refl _⟩
end Go.Proofs.Ytdojdnndligmhaa
