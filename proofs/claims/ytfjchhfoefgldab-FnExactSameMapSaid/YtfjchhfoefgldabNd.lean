/- Maps: whether marks are the same. No condition. -/
import Derived.Test.YtfjchhfoefgldabNa
import Derived.Test.YtfjchhfoefgldabB4
import Derived.Test.YtfjchhfoefgldabA1
namespace Go.Proofs.Ytfjchhfoefgldab
open Go Go.RowKit
set_option linter.unusedVariables false
set_option linter.unusedSimpArgs false

set_option maxRecDepth 100000 in
theorem eql_place (a b c d e f : Int) (w : World) : (Op.equalIn 10000 53 (.agg #[.int .i32 a, .int .i32 b, .int .i32 c]) (.agg #[.int .i32 d, .int .i32 e, .int .i32 f])).run Try.prog w = .ok ((a == d) && (b == e) && (c == f)) w := by
  obtain ⟨i, hi⟩ : ∃ i, Try.prog.info? 21 = some i := ⟨_, rfl⟩
  have hc : Try.prog.cellsOf 21 = 1 := by kernel_rfl
  rw [run_equalIn_array w 9999 _ _ Try.underlying53 hi, hc]
  have hr : List.range 3 = [0, 1, 2] := rfl
  rw [hr]
  have p0 : ∀ (x y z : Int) (w : World), (part 21 #[.int .i32 x, .int .i32 y, .int .i32 z] (0 * 1)).run Try.prog w = .ok (.int .i32 x) w := fun _ _ _ _ => by kernel_rfl
  have p1 : ∀ (x y z : Int) (w : World), (part 21 #[.int .i32 x, .int .i32 y, .int .i32 z] (1 * 1)).run Try.prog w = .ok (.int .i32 y) w := fun _ _ _ _ => by kernel_rfl
  have p2 : ∀ (x y z : Int) (w : World), (part 21 #[.int .i32 x, .int .i32 y, .int .i32 z] (2 * 1)).run Try.prog w = .ok (.int .i32 z) w := fun _ _ _ _ => by kernel_rfl
  have q : ∀ (x y : Int) (w : World), (Op.equalIn 9999 21 (.int .i32 x) (.int .i32 y)).run Try.prog w = .ok (x == y) w := fun x y w => run_equalIn_int w 9998 _ .i32 .i32 x y Try.underlying21
  simp only [Op.eqItems, Sem.run_bind, p0, q, Result.andThen_ok]
  cases a == d
  · simp
  · simp only [Bool.not_true, Bool.false_eq_true, if_false, Sem.run_bind, p1, q, Result.andThen_ok]
    cases b == e
    · simp
    · simp only [Bool.not_true, Bool.false_eq_true, if_false, Sem.run_bind, p2, q, Result.andThen_ok]
      cases c == f <;> simp

set_option maxRecDepth 100000 in
theorem guard_place (x y : Operand) (a b : Array Value) (w : World) : (eqGuard .eql 53 x y (.agg a) (.agg b)).run Try.prog w = .ok () w :=
  run_eqGuard_agg w .eql _ x y a b (by kernel_rfl)

def cellS (m m' : Mk) : Bool := (m.x == m'.x) && (m.y == m'.y) && (m.z == m'.z)
def atS (m m' : Mk) : Bool := (m.a == m'.a) && (m.b == m'.b) && (m.c == m'.c)
def markS (m m' : Mk) : Bool := cellS m m' && (atS m m' && ((m.d == m'.d) && ((m.s == m'.s) && (m.l == m'.l))))

def smS (fv fn : FuncId) (bv bn : Bool) (f : FuncId) (args : Array Value) (v : Value) : Prop := (f = fv → v = .bool bv) ∧ (f = fn → v = .bool bn)

set_option maxRecDepth 100000 in
set_option maxHeartbeats 1000000 in
theorem c_markSame (u1 u2 : Value) (m m' : Mk) (hr : IsMk u1 m) (hs : IsMk u2 m') (w : World) : Calls Try.prog 67 #[u1, u2] w fun e w' => e = .returned (.bool (markS m m')) ∧ Stays w w' := by
  obtain ⟨ra, rb, rc, rd, rfl, fa, fb, fc, fd⟩ := mk_val hr
  obtain ⟨sa, sb, sc, sd, rfl, ga, gb, gc, gd⟩ := mk_val hs
  have hP : ∀ W : World, Calls Try.prog 106 #[.agg #[.float .f32 ra, .float .f32 rb, .float .f32 rc], .agg #[.float .f32 sa, .float .f32 sb, .float .f32 sc]] W fun e w' => e = .returned (.bool (atS m m')) ∧ Stays W w' := fun W => (c_implSameVec ra rb rc sa sb sc W).mono fun e w' ⟨v, he, hv, hw⟩ => ⟨he.trans (by rw [show v = _ from hv]; unfold sameV same atS; rw [fa.out, fb.out, fc.out, ga.out, gb.out, gc.out]), hw⟩
  have hN : ∀ W : World, Calls Try.prog 65 #[.float .f32 rd, .float .f32 sd] W fun e w' => e = .returned (.bool (m.d == m'.d)) ∧ Stays W w' := fun W => (c_implSameNumber rd sd W).mono fun e w' he => ⟨he.1.trans (by unfold same; rw [fd.out, gd.out]), he.2 ▸ Stays.refl _⟩
  have hE := fun W => eql_place m.x m.y m.z m'.x m'.y m'.z W
  change ∀ W, _ = Result.ok (cellS m m') W at hE
  have hG := guard_place
  unfold markS
  generalize cellS m m' = bc at hE ⊢
  generalize atS m m' = bv at hP ⊢
  generalize (m.d == m'.d) = bn at hN ⊢
  generalize m.s = s1
  generalize m'.s = s2
  generalize m.l = l1
  generalize m'.l = l2
  replace hP := Lib.hid hP
  replace hN := Lib.hid hN
  clear fa fb fc fd ga gb gc gd hr hs
  have u0 : ((w.alloc (.cells #[.int .i32 m.x, .int .i32 m.y, .int .i32 m.z, .float .f32 ra, .float .f32 rb, .float .f32 rc, .float .f32 rd, .int .i64 s1, .int .i64 l1] 55)).alloc (.cells #[.int .i32 m'.x, .int .i32 m'.y, .int .i32 m'.z, .float .f32 sa, .float .f32 sb, .float .f32 sc, .float .f32 sd, .int .i64 s2, .int .i64 l2] 55)).heap[w.heap.size]? = some (.cells #[.int .i32 m.x, .int .i32 m.y, .int .i32 m.z, .float .f32 ra, .float .f32 rb, .float .f32 rc, .float .f32 rd, .int .i64 s1, .int .i64 l1] 55 (0, 0)) := by (repeat (first | (refine heap_top _ _ _ ?_; simp; done) | (with_reducible refine heap_drawn _ _ _ ?_) | (with_reducible refine heap_under _ _ _ ?_ ?_; (simp <;> omega))))
  have u1 : ((w.alloc (.cells #[.int .i32 m.x, .int .i32 m.y, .int .i32 m.z, .float .f32 ra, .float .f32 rb, .float .f32 rc, .float .f32 rd, .int .i64 s1, .int .i64 l1] 55)).alloc (.cells #[.int .i32 m'.x, .int .i32 m'.y, .int .i32 m'.z, .float .f32 sa, .float .f32 sb, .float .f32 sc, .float .f32 sd, .int .i64 s2, .int .i64 l2] 55)).heap[w.heap.size + 1]? = some (.cells #[.int .i32 m'.x, .int .i32 m'.y, .int .i32 m'.z, .float .f32 sa, .float .f32 sb, .float .f32 sc, .float .f32 sd, .int .i64 s2, .int .i64 l2] 55 (0, 0)) := by (repeat (first | (refine heap_top _ _ _ ?_; simp; done) | (with_reducible refine heap_drawn _ _ _ ?_) | (with_reducible refine heap_under _ _ _ ?_ ?_; (simp <;> omega))))
  have hA := Lib.hid fun w1 (h : Stays ((w.alloc (.cells #[.int .i32 m.x, .int .i32 m.y, .int .i32 m.z, .float .f32 ra, .float .f32 rb, .float .f32 rc, .float .f32 rd, .int .i64 s1, .int .i64 l1] 55)).alloc (.cells #[.int .i32 m'.x, .int .i32 m'.y, .int .i32 m'.z, .float .f32 sa, .float .f32 sb, .float .f32 sc, .float .f32 sd, .int .i64 s2, .int .i64 l2] 55)) w1) => row_of h u0
  have hA' := Lib.hid fun w1 (h : Stays ((w.alloc (.cells #[.int .i32 m.x, .int .i32 m.y, .int .i32 m.z, .float .f32 ra, .float .f32 rb, .float .f32 rc, .float .f32 rd, .int .i64 s1, .int .i64 l1] 55)).alloc (.cells #[.int .i32 m'.x, .int .i32 m'.y, .int .i32 m'.z, .float .f32 sa, .float .f32 sb, .float .f32 sc, .float .f32 sd, .int .i64 s2, .int .i64 l2] 55)) w1) => row_of h u1
  clear u0 u1
  have hS : Stays ((w.alloc (.cells #[.int .i32 m.x, .int .i32 m.y, .int .i32 m.z, .float .f32 ra, .float .f32 rb, .float .f32 rc, .float .f32 rd, .int .i64 s1, .int .i64 l1] 55)).alloc (.cells #[.int .i32 m'.x, .int .i32 m'.y, .int .i32 m'.z, .float .f32 sa, .float .f32 sb, .float .f32 sc, .float .f32 sd, .int .i64 s2, .int .i64 l2] 55)) ((w.alloc (.cells #[.int .i32 m.x, .int .i32 m.y, .int .i32 m.z, .float .f32 ra, .float .f32 rb, .float .f32 rc, .float .f32 rd, .int .i64 s1, .int .i64 l1] 55)).alloc (.cells #[.int .i32 m'.x, .int .i32 m'.y, .int .i32 m'.z, .float .f32 sa, .float .f32 sb, .float .f32 sc, .float .f32 sd, .int .i64 s2, .int .i64 l2] 55)) := Stays.refl _
  have hc := hA.out _ hS
  have hc' := hA'.out _ hS
  cases bc with
  | false =>
    go_enter Try.func67, Try.ntmps67
    go_wp2_with (first
      | (go_at_call 106; refine (hP.out _).mono ?_; rintro e w1 ⟨rfl, hw1⟩; replace hS := Stays.trans hS (show Stays _ _ from hw1); clear hw1 hc hc'; have hc := hA.out _ hS; have hc' := hA'.out _ hS)
      | (go_at_call 65; refine (hN.out _).mono ?_; rintro e w1 ⟨rfl, hw1⟩; replace hS := Stays.trans hS (show Stays _ _ from hw1); clear hw1 hc hc'; have hc := hA.out _ hS; have hc' := hA'.out _ hS))
    go_ret
    exact ⟨ret_b (by simp []), Stays.trans (show Stays w _ from by (repeat (first | exact Stays.refl _ | (with_reducible refine Stays.drewN ?_ _) | (with_reducible refine Stays.alloc ?_ _) | (with_reducible refine Stays.drew ?_) | (refine Stays.trans ?_ ‹Stays _ _›)))) hS⟩
  | true =>
    cases bv with
    | false =>
      go_enter Try.func67, Try.ntmps67
      go_wp2_with (first
        | (go_at_call 106; refine (hP.out _).mono ?_; rintro e w1 ⟨rfl, hw1⟩; replace hS := Stays.trans hS (show Stays _ _ from hw1); clear hw1 hc hc'; have hc := hA.out _ hS; have hc' := hA'.out _ hS)
        | (go_at_call 65; refine (hN.out _).mono ?_; rintro e w1 ⟨rfl, hw1⟩; replace hS := Stays.trans hS (show Stays _ _ from hw1); clear hw1 hc hc'; have hc := hA.out _ hS; have hc' := hA'.out _ hS))
      go_ret
      exact ⟨ret_b (by simp []), Stays.trans (show Stays w _ from by (repeat (first | exact Stays.refl _ | (with_reducible refine Stays.drewN ?_ _) | (with_reducible refine Stays.alloc ?_ _) | (with_reducible refine Stays.drew ?_) | (refine Stays.trans ?_ ‹Stays _ _›)))) hS⟩
    | true =>
      cases bn with
      | false =>
        go_enter Try.func67, Try.ntmps67
        go_wp2_with (first
          | (go_at_call 106; refine (hP.out _).mono ?_; rintro e w1 ⟨rfl, hw1⟩; replace hS := Stays.trans hS (show Stays _ _ from hw1); clear hw1 hc hc'; have hc := hA.out _ hS; have hc' := hA'.out _ hS)
          | (go_at_call 65; refine (hN.out _).mono ?_; rintro e w1 ⟨rfl, hw1⟩; replace hS := Stays.trans hS (show Stays _ _ from hw1); clear hw1 hc hc'; have hc := hA.out _ hS; have hc' := hA'.out _ hS))
        go_ret
        exact ⟨ret_b (by simp []), Stays.trans (show Stays w _ from by (repeat (first | exact Stays.refl _ | (with_reducible refine Stays.drewN ?_ _) | (with_reducible refine Stays.alloc ?_ _) | (with_reducible refine Stays.drew ?_) | (refine Stays.trans ?_ ‹Stays _ _›)))) hS⟩
      | true =>
        by_cases e0 : s1 = s2
        · subst e0
          by_cases e1 : l1 = l2
          · subst e1
            go_enter Try.func67, Try.ntmps67
            go_wp2_with (first
              | (go_at_call 106; refine (hP.out _).mono ?_; rintro e w1 ⟨rfl, hw1⟩; replace hS := Stays.trans hS (show Stays _ _ from hw1); clear hw1 hc hc'; have hc := hA.out _ hS; have hc' := hA'.out _ hS)
              | (go_at_call 65; refine (hN.out _).mono ?_; rintro e w1 ⟨rfl, hw1⟩; replace hS := Stays.trans hS (show Stays _ _ from hw1); clear hw1 hc hc'; have hc := hA.out _ hS; have hc' := hA'.out _ hS))
            go_ret
            exact ⟨ret_b (by simp), Stays.trans (show Stays w _ from by (repeat (first | exact Stays.refl _ | (with_reducible refine Stays.drewN ?_ _) | (with_reducible refine Stays.alloc ?_ _) | (with_reducible refine Stays.drew ?_) | (refine Stays.trans ?_ ‹Stays _ _›)))) hS⟩
          · have f1 : (l1 == l2) = false := by simp [e1]
            go_enter Try.func67, Try.ntmps67
            go_wp2_with (first
              | (go_at_call 106; refine (hP.out _).mono ?_; rintro e w1 ⟨rfl, hw1⟩; replace hS := Stays.trans hS (show Stays _ _ from hw1); clear hw1 hc hc'; have hc := hA.out _ hS; have hc' := hA'.out _ hS)
              | (go_at_call 65; refine (hN.out _).mono ?_; rintro e w1 ⟨rfl, hw1⟩; replace hS := Stays.trans hS (show Stays _ _ from hw1); clear hw1 hc hc'; have hc := hA.out _ hS; have hc' := hA'.out _ hS))
            go_ret
            exact ⟨ret_b (by simp [f1]), Stays.trans (show Stays w _ from by (repeat (first | exact Stays.refl _ | (with_reducible refine Stays.drewN ?_ _) | (with_reducible refine Stays.alloc ?_ _) | (with_reducible refine Stays.drew ?_) | (refine Stays.trans ?_ ‹Stays _ _›)))) hS⟩
        · have f0 : (s1 == s2) = false := by simp [e0]
          go_enter Try.func67, Try.ntmps67
          go_wp2_with (first
            | (go_at_call 106; refine (hP.out _).mono ?_; rintro e w1 ⟨rfl, hw1⟩; replace hS := Stays.trans hS (show Stays _ _ from hw1); clear hw1 hc hc'; have hc := hA.out _ hS; have hc' := hA'.out _ hS)
            | (go_at_call 65; refine (hN.out _).mono ?_; rintro e w1 ⟨rfl, hw1⟩; replace hS := Stays.trans hS (show Stays _ _ from hw1); clear hw1 hc hc'; have hc := hA.out _ hS; have hc' := hA'.out _ hS))
          go_ret
          exact ⟨ret_b (by simp [f0]), Stays.trans (show Stays w _ from by (repeat (first | exact Stays.refl _ | (with_reducible refine Stays.drewN ?_ _) | (with_reducible refine Stays.alloc ?_ _) | (with_reducible refine Stays.drew ?_) | (refine Stays.trans ?_ ‹Stays _ _›)))) hS⟩

set_option maxRecDepth 100000 in
set_option maxHeartbeats 2000000 in
theorem c_l05SameMark (q q' : Addr) (m m' : Mk) (w : World) (h : RowAt mkK w q m.ins) (h' : RowAt mkK w q' m'.ins) (hq : q.block < w.heap.size) (hq' : q'.block < w.heap.size) : Calls Try.prog 105 #[.pointer (some q), .pointer (some q')] w fun e w' => e = .returned (.bool (markS m m')) ∧ Stays w w' := by
  obtain ⟨c0, c1, c2, c3, c4, c5, c6, c7, c8, hK, g0, g1, g2, g3, g4, g5, g6, g7, g8⟩ := mk_at h
  obtain ⟨d0, d1, d2, d3, d4, d5, d6, d7, d8, hK', k0, k1, k2, k3, k4, k5, k6, k7, k8⟩ := mk_at h'
  obtain ⟨ra, rb, rc, rd, e, fa, fb, fc, fd⟩ := mk_row hK
  cases e
  obtain ⟨sa, sb, sc, sd, e, ga, gb, gc, gd⟩ := mk_row hK'
  cases e
  have hP : ∀ W : World, Calls Try.prog 120 #[.agg #[.float .f32 ra, .float .f32 rb, .float .f32 rc], .agg #[.float .f32 sa, .float .f32 sb, .float .f32 sc]] W fun e w' => e = .returned (.bool (atS m m')) ∧ Stays W w' := fun W => (c_specl01SameVec ra rb rc sa sb sc W).mono fun e w' ⟨v, he, hv, hw⟩ => ⟨he.trans (by rw [show v = _ from hv]; unfold sameV same atS; rw [fa.out, fb.out, fc.out, ga.out, gb.out, gc.out]), hw⟩
  have hN : ∀ W : World, Calls Try.prog 104 #[.float .f32 rd, .float .f32 sd] W fun e w' => e = .returned (.bool (m.d == m'.d)) ∧ Stays W w' := fun W => (c_l01Same rd sd W).mono fun e w' he => ⟨he.1.trans (by unfold same; rw [fd.out, gd.out]), he.2 ▸ Stays.refl _⟩
  have hE := fun W => eql_place m.x m.y m.z m'.x m'.y m'.z W
  change ∀ W, _ = Result.ok (cellS m m') W at hE
  have hG := guard_place
  unfold markS
  generalize cellS m m' = bc at hE ⊢
  generalize atS m m' = bv at hP ⊢
  generalize (m.d == m'.d) = bn at hN ⊢
  replace hP := Lib.hid hP
  replace hN := Lib.hid hN
  have G : Hid (∀ w', Stays w w' → w'.cell? q = some (.int .i32 m.x) ∧ w'.cell? ⟨q.block, q.off + 1, none⟩ = some (.int .i32 m.y) ∧ w'.cell? ⟨q.block, q.off + 2, none⟩ = some (.int .i32 m.z) ∧ w'.cell? ⟨q.block, q.off + 3, none⟩ = some (.float .f32 ra) ∧ w'.cell? ⟨q.block, q.off + 3 + 1, none⟩ = some (.float .f32 rb) ∧ w'.cell? ⟨q.block, q.off + 3 + 2, none⟩ = some (.float .f32 rc) ∧ w'.cell? ⟨q.block, q.off + 6, none⟩ = some (.float .f32 rd) ∧ w'.cell? ⟨q.block, q.off + 7, none⟩ = some (.int .i64 m.s) ∧ w'.cell? ⟨q.block, q.off + 8, none⟩ = some (.int .i64 m.l) ∧ w'.cell? q' = some (.int .i32 m'.x) ∧ w'.cell? ⟨q'.block, q'.off + 1, none⟩ = some (.int .i32 m'.y) ∧ w'.cell? ⟨q'.block, q'.off + 2, none⟩ = some (.int .i32 m'.z) ∧ w'.cell? ⟨q'.block, q'.off + 3, none⟩ = some (.float .f32 sa) ∧ w'.cell? ⟨q'.block, q'.off + 3 + 1, none⟩ = some (.float .f32 sb) ∧ w'.cell? ⟨q'.block, q'.off + 3 + 2, none⟩ = some (.float .f32 sc) ∧ w'.cell? ⟨q'.block, q'.off + 6, none⟩ = some (.float .f32 sd) ∧ w'.cell? ⟨q'.block, q'.off + 7, none⟩ = some (.int .i64 m'.s) ∧ w'.cell? ⟨q'.block, q'.off + 8, none⟩ = some (.int .i64 m'.l)) := Lib.hid fun w' hs => ⟨(Below.cell hs hq).trans g0, (Below.cell (p := ⟨q.block, q.off + 1, none⟩) hs hq).trans g1, (Below.cell (p := ⟨q.block, q.off + 2, none⟩) hs hq).trans g2, (Below.cell (p := ⟨q.block, q.off + 3, none⟩) hs hq).trans g3, (Below.cell (p := ⟨q.block, q.off + 4, none⟩) hs hq).trans g4, (Below.cell (p := ⟨q.block, q.off + 5, none⟩) hs hq).trans g5, (Below.cell (p := ⟨q.block, q.off + 6, none⟩) hs hq).trans g6, (Below.cell (p := ⟨q.block, q.off + 7, none⟩) hs hq).trans g7, (Below.cell (p := ⟨q.block, q.off + 8, none⟩) hs hq).trans g8, (Below.cell hs hq').trans k0, (Below.cell (p := ⟨q'.block, q'.off + 1, none⟩) hs hq').trans k1, (Below.cell (p := ⟨q'.block, q'.off + 2, none⟩) hs hq').trans k2, (Below.cell (p := ⟨q'.block, q'.off + 3, none⟩) hs hq').trans k3, (Below.cell (p := ⟨q'.block, q'.off + 4, none⟩) hs hq').trans k4, (Below.cell (p := ⟨q'.block, q'.off + 5, none⟩) hs hq').trans k5, (Below.cell (p := ⟨q'.block, q'.off + 6, none⟩) hs hq').trans k6, (Below.cell (p := ⟨q'.block, q'.off + 7, none⟩) hs hq').trans k7, (Below.cell (p := ⟨q'.block, q'.off + 8, none⟩) hs hq').trans k8⟩
  clear fa fb fc fd ga gb gc gd hK hK' h h' g0 g1 g2 g3 g4 g5 g6 g7 g8 k0 k1 k2 k3 k4 k5 k6 k7 k8
  have hcells : ∀ w1, Stays w w1 → _ := fun w1 h => G.out w1 h
  cases bc with
  | false =>
    go_enter Try.func105, Try.ntmps105
    go_wp2
    refine wp_region_soft_tail 53 (Stays.refl _) (smS 120 104 bv bn) [] (by kernel_rfl) (by kernel_rfl) (fun _ h => by cases h) ?_
    simp only [List.take_succ_cons, List.take_zero, List.drop_succ_cons, List.drop_zero]
    repeat (first | ((with_reducible apply soft_detG); (case hwa => rfl); (case hA => rfl); (case h => (intro w1 hw1; have hc := hcells w1 hw1; go_simp; exact rfl)); go_simp) | ((with_reducible apply soft_skipG); (case hwa => rfl); (case hA => rfl); go_simp) | ((with_reducible apply soft_callS (v := .bool bv)); (case hwa => rfl); (case hA => rfl); (case h => (intro w1 hw1; have hc := hcells w1 hw1; go_simp; exact ⟨rfl, rfl⟩)); (case hc => (intro w1 hw1; with_reducible exact hP.out w1)); (case hS => exact ⟨fun _ => rfl, fun e => absurd e (by decide)⟩); (case hu => exact fun u hu => hu.1 rfl); go_simp) | ((with_reducible apply soft_callS (v := .bool bn)); (case hwa => rfl); (case hA => rfl); (case h => (intro w1 hw1; have hc := hcells w1 hw1; go_simp; exact ⟨rfl, rfl⟩)); (case hc => (intro w1 hw1; with_reducible exact hN.out w1)); (case hS => exact ⟨fun e => absurd e (by decide), fun _ => rfl⟩); (case hu => exact fun u hu => hu.2 rfl); go_simp))
    refine soft_nil ?_
    rintro w2 ⟨hw2, _⟩
    clear hcells
    go_wp2
    go_ret
    exact ⟨ret_b (by simp []), hw2⟩
  | true =>
    cases bv with
    | false =>
      go_enter Try.func105, Try.ntmps105
      go_wp2
      refine wp_region_soft_tail 53 (Stays.refl _) (smS 120 104 false bn) [] (by kernel_rfl) (by kernel_rfl) (fun _ h => by cases h) ?_
      simp only [List.take_succ_cons, List.take_zero, List.drop_succ_cons, List.drop_zero]
      repeat (first | ((with_reducible apply soft_detG); (case hwa => rfl); (case hA => rfl); (case h => (intro w1 hw1; have hc := hcells w1 hw1; go_simp; exact rfl)); go_simp) | ((with_reducible apply soft_skipG); (case hwa => rfl); (case hA => rfl); go_simp) | ((with_reducible apply soft_callS (v := .bool false)); (case hwa => rfl); (case hA => rfl); (case h => (intro w1 hw1; have hc := hcells w1 hw1; go_simp; exact ⟨rfl, rfl⟩)); (case hc => (intro w1 hw1; with_reducible exact hP.out w1)); (case hS => exact ⟨fun _ => rfl, fun e => absurd e (by decide)⟩); (case hu => exact fun u hu => hu.1 rfl); go_simp) | ((with_reducible apply soft_callS (v := .bool bn)); (case hwa => rfl); (case hA => rfl); (case h => (intro w1 hw1; have hc := hcells w1 hw1; go_simp; exact ⟨rfl, rfl⟩)); (case hc => (intro w1 hw1; with_reducible exact hN.out w1)); (case hS => exact ⟨fun e => absurd e (by decide), fun _ => rfl⟩); (case hu => exact fun u hu => hu.2 rfl); go_simp))
      refine soft_nil ?_
      rintro w2 ⟨hw2, _⟩
      clear hcells
      go_wp2
      go_ret
      exact ⟨ret_b (by simp []), hw2⟩
    | true =>
      cases bn with
      | false =>
        go_enter Try.func105, Try.ntmps105
        go_wp2
        refine wp_region_soft_tail 53 (Stays.refl _) (smS 120 104 true false) [] (by kernel_rfl) (by kernel_rfl) (fun _ h => by cases h) ?_
        simp only [List.take_succ_cons, List.take_zero, List.drop_succ_cons, List.drop_zero]
        repeat (first | ((with_reducible apply soft_detG); (case hwa => rfl); (case hA => rfl); (case h => (intro w1 hw1; have hc := hcells w1 hw1; go_simp; exact rfl)); go_simp) | ((with_reducible apply soft_skipG); (case hwa => rfl); (case hA => rfl); go_simp) | ((with_reducible apply soft_callS (v := .bool true)); (case hwa => rfl); (case hA => rfl); (case h => (intro w1 hw1; have hc := hcells w1 hw1; go_simp; exact ⟨rfl, rfl⟩)); (case hc => (intro w1 hw1; with_reducible exact hP.out w1)); (case hS => exact ⟨fun _ => rfl, fun e => absurd e (by decide)⟩); (case hu => exact fun u hu => hu.1 rfl); go_simp) | ((with_reducible apply soft_callS (v := .bool false)); (case hwa => rfl); (case hA => rfl); (case h => (intro w1 hw1; have hc := hcells w1 hw1; go_simp; exact ⟨rfl, rfl⟩)); (case hc => (intro w1 hw1; with_reducible exact hN.out w1)); (case hS => exact ⟨fun e => absurd e (by decide), fun _ => rfl⟩); (case hu => exact fun u hu => hu.2 rfl); go_simp))
        refine soft_nil ?_
        rintro w2 ⟨hw2, _⟩
        clear hcells
        go_wp2
        go_ret
        exact ⟨ret_b (by simp []), hw2⟩
      | true =>
        by_cases e0 : m.s = m'.s
        · have f0 : (m.s == m'.s) = true := by simp [e0]
          by_cases e1 : m.l = m'.l
          · have f1 : (m.l == m'.l) = true := by simp [e1]
            go_enter Try.func105, Try.ntmps105
            go_wp2
            refine wp_region_soft_tail 53 (Stays.refl _) (smS 120 104 true true) [] (by kernel_rfl) (by kernel_rfl) (fun _ h => by cases h) ?_
            simp only [List.take_succ_cons, List.take_zero, List.drop_succ_cons, List.drop_zero]
            repeat (first | ((with_reducible apply soft_detG); (case hwa => rfl); (case hA => rfl); (case h => (intro w1 hw1; have hc := hcells w1 hw1; go_simp; exact rfl)); go_simp) | ((with_reducible apply soft_skipG); (case hwa => rfl); (case hA => rfl); go_simp) | ((with_reducible apply soft_callS (v := .bool true)); (case hwa => rfl); (case hA => rfl); (case h => (intro w1 hw1; have hc := hcells w1 hw1; go_simp; exact ⟨rfl, rfl⟩)); (case hc => (intro w1 hw1; with_reducible exact hP.out w1)); (case hS => exact ⟨fun _ => rfl, fun e => absurd e (by decide)⟩); (case hu => exact fun u hu => hu.1 rfl); go_simp) | ((with_reducible apply soft_callS (v := .bool true)); (case hwa => rfl); (case hA => rfl); (case h => (intro w1 hw1; have hc := hcells w1 hw1; go_simp; exact ⟨rfl, rfl⟩)); (case hc => (intro w1 hw1; with_reducible exact hN.out w1)); (case hS => exact ⟨fun e => absurd e (by decide), fun _ => rfl⟩); (case hu => exact fun u hu => hu.2 rfl); go_simp))
            refine soft_nil ?_
            rintro w2 ⟨hw2, _⟩
            clear hcells
            go_wp2
            go_ret
            exact ⟨ret_b (by simp [f0, f1]), hw2⟩
          · have f1 : (m.l == m'.l) = false := by simp [e1]
            go_enter Try.func105, Try.ntmps105
            go_wp2
            refine wp_region_soft_tail 53 (Stays.refl _) (smS 120 104 true true) [] (by kernel_rfl) (by kernel_rfl) (fun _ h => by cases h) ?_
            simp only [List.take_succ_cons, List.take_zero, List.drop_succ_cons, List.drop_zero]
            repeat (first | ((with_reducible apply soft_detG); (case hwa => rfl); (case hA => rfl); (case h => (intro w1 hw1; have hc := hcells w1 hw1; go_simp; exact rfl)); go_simp) | ((with_reducible apply soft_skipG); (case hwa => rfl); (case hA => rfl); go_simp) | ((with_reducible apply soft_callS (v := .bool true)); (case hwa => rfl); (case hA => rfl); (case h => (intro w1 hw1; have hc := hcells w1 hw1; go_simp; exact ⟨rfl, rfl⟩)); (case hc => (intro w1 hw1; with_reducible exact hP.out w1)); (case hS => exact ⟨fun _ => rfl, fun e => absurd e (by decide)⟩); (case hu => exact fun u hu => hu.1 rfl); go_simp) | ((with_reducible apply soft_callS (v := .bool true)); (case hwa => rfl); (case hA => rfl); (case h => (intro w1 hw1; have hc := hcells w1 hw1; go_simp; exact ⟨rfl, rfl⟩)); (case hc => (intro w1 hw1; with_reducible exact hN.out w1)); (case hS => exact ⟨fun e => absurd e (by decide), fun _ => rfl⟩); (case hu => exact fun u hu => hu.2 rfl); go_simp))
            refine soft_nil ?_
            rintro w2 ⟨hw2, _⟩
            clear hcells
            go_wp2
            go_ret
            exact ⟨ret_b (by simp [f0, f1]), hw2⟩
        · have f0 : (m.s == m'.s) = false := by simp [e0]
          go_enter Try.func105, Try.ntmps105
          go_wp2
          refine wp_region_soft_tail 53 (Stays.refl _) (smS 120 104 true true) [] (by kernel_rfl) (by kernel_rfl) (fun _ h => by cases h) ?_
          simp only [List.take_succ_cons, List.take_zero, List.drop_succ_cons, List.drop_zero]
          repeat (first | ((with_reducible apply soft_detG); (case hwa => rfl); (case hA => rfl); (case h => (intro w1 hw1; have hc := hcells w1 hw1; go_simp; exact rfl)); go_simp) | ((with_reducible apply soft_skipG); (case hwa => rfl); (case hA => rfl); go_simp) | ((with_reducible apply soft_callS (v := .bool true)); (case hwa => rfl); (case hA => rfl); (case h => (intro w1 hw1; have hc := hcells w1 hw1; go_simp; exact ⟨rfl, rfl⟩)); (case hc => (intro w1 hw1; with_reducible exact hP.out w1)); (case hS => exact ⟨fun _ => rfl, fun e => absurd e (by decide)⟩); (case hu => exact fun u hu => hu.1 rfl); go_simp) | ((with_reducible apply soft_callS (v := .bool true)); (case hwa => rfl); (case hA => rfl); (case h => (intro w1 hw1; have hc := hcells w1 hw1; go_simp; exact ⟨rfl, rfl⟩)); (case hc => (intro w1 hw1; with_reducible exact hN.out w1)); (case hS => exact ⟨fun e => absurd e (by decide), fun _ => rfl⟩); (case hu => exact fun u hu => hu.2 rfl); go_simp))
          refine soft_nil ?_
          rintro w2 ⟨hw2, _⟩
          clear hcells
          go_wp2
          go_ret
          exact ⟨ret_b (by simp [f0]), hw2⟩
end Go.Proofs.Ytfjchhfoefgldab
