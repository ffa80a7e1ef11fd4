/- Cells told by one symbol; whether a sight may be seen. No condition. -/
import Derived.Test.YtcopccniijkceaaOCell
import Derived.Test.YtcopccniijkceaaGSight
import Derived.Test.YtcopccniijkceaaMkA
import Derived.Test.YtcopccniijkceaaLa
namespace Go.Proofs.Ytcopccniijkceaa
open Go Go.RowKit
set_option linter.unusedVariables false
set_option linter.unusedSimpArgs false

/-- The code of a cell. -/
noncomputable def cellK (o x y z : Option Nat) : Int := ((outsOf oCell.Φ 10 [.f o, .f x, .f y, .f z] 0 4).getD 3 (.i 0)).gi

theorem opq_symC {P : Program} {Φ : Syms} {e : Opq} (h : OpqOK P Φ e) (h0 : e.ext = 0) (h1 : e.same = false) : SymOK P Φ e := by
  unfold OpqOK at h
  rw [if_pos h0, if_neg (by rw [h1]; exact Bool.false_ne_true)] at h
  exact h

theorem c_cellAny {e : Opq} (h : OpqOK Try.prog oCell.Φ e) (h0 : e.ext = 0) (h1 : e.same = false) (h2 : e.sym = 10) (ha : e.args = [.one (.f .f32), .agg [.f .f32, .f .f32, .f .f32]]) (hr : e.res = .tup [.agg [.i .i32, .i .i32, .i .i32], .one (.i .i64)])
    (s x y z : Nat) (o ox oy oz : Option Nat) (w : World) (fs : FIs .f32 s o) (fx : FIs .f32 x ox) (fy : FIs .f32 y oy) (fz : FIs .f32 z oz) :
    Calls Try.prog e.f #[.float .f32 s, .agg #[.float .f32 x, .float .f32 y, .float .f32 z]] w fun en w' => ∃ p0 p1 p2, en = .returned (.tuple #[.agg #[.int .i32 p0, .int .i32 p1, .int .i32 p2], .int .i64 (cellK o ox oy oz)]) ∧ Stays w w' := by
  have := opq_symC h h0 h1 #[.float .f32 s, .agg #[.float .f32 x, .float .f32 y, .float .f32 z]] [.f o, .f ox, .f oy, .f oz] w (by
    rw [ha]
    exact ⟨[.f o], [.f ox, .f oy, .f oz], rfl, ⟨_, rfl, s, rfl, fs⟩, [.f ox, .f oy, .f oz], [], rfl, ⟨_, rfl, ⟨x, rfl, fx⟩, ⟨y, rfl, fy⟩, ⟨z, rfl, fz⟩, trivial⟩, rfl⟩)
  refine this.mono ?_
  rintro en w' ⟨v', rfl, hm, hs⟩
  rw [hr, h2] at hm
  obtain ⟨cs, rfl, hm⟩ := hm
  obtain ⟨l⟩ := cs
  match l, hm with
  | [c0, c1], hm =>
    obtain ⟨n1, n2, e1, ⟨q, rfl, hk⟩, n3, n4, rfl, ⟨x3, rfl, h3⟩, rfl⟩ := hm
    obtain ⟨ql⟩ := q
    match ql, n1, KMs_len hk, KMs_rlen hk, hk with
    | [d0, d1, d2], [m0, m1, m2], _, _, ⟨g0, g1, g2, _⟩ =>
      have g0 : d0 = .int .i32 m0.gi := g0
      have g1 : d1 = .int .i32 m1.gi := g1
      have g2 : d2 = .int .i32 m2.gi := g2
      have h3 : c1 = .int .i64 x3.gi := h3
      subst g0 g1 g2 h3
      have e4 : cellK o ox oy oz = x3.gi := by
        unfold cellK
        show ((outsOf oCell.Φ 10 [.f o, .f ox, .f oy, .f oz] 0 (RSh.cnt (.tup [.agg [.i .i32, .i .i32, .i .i32], .one (.i .i64)]))).getD 3 (.i 0)).gi = _
        rw [e1]
        rfl
      exact ⟨_, _, _, by rw [e4], hs⟩

def leM (o : Option Nat) : Bool := ford .f32 o (some 1232348160) == some .lt || ford .f32 o (some 1232348160) == some .eq
theorem leM_of (r : Nat) : (FloatKind.f32.format.order r 1232348160 == some Ordering.lt || FloatKind.f32.format.order r 1232348160 == some Ordering.eq) = leM (can .f32 r) := by
  have h0 : can .f32 1232348160 = some 1232348160 := by kernel_rfl
  rw [order_can, h0]; rfl

noncomputable def sightB (o : Option Nat) (r : List NV) : Bool := decide (cellK o (r.getD 0 (.i 0)).gf (r.getD 1 (.i 0)).gf (r.getD 2 (.i 0)).gf = 0) && (finB (r.getD 3 (.i 0)).gf && posB (r.getD 3 (.i 0)).gf) && leM (r.getD 3 (.i 0)).gf && okTime (r.getD 4 (.i 0)).gi

theorem sight_cs {cs : List Value} {r : List NV} (h : KMs KSight cs r) : ∃ x y z d t, cs = [.float .f32 x, .float .f32 y, .float .f32 z, .float .f32 d, .int .i64 t] ∧ FIs .f32 x (r.getD 0 (.i 0)).gf ∧ FIs .f32 y (r.getD 1 (.i 0)).gf ∧ FIs .f32 z (r.getD 2 (.i 0)).gf ∧ FIs .f32 d (r.getD 3 (.i 0)).gf ∧ t = (r.getD 4 (.i 0)).gi := by
  match cs, r, KMs_len h, KMs_rlen h, h with
  | [c0, c1, c2, c3, c4], [n0, n1, n2, n3, n4], _, _, ⟨⟨x, e0, f0⟩, ⟨y, e1, f1⟩, ⟨z, e2, f2⟩, ⟨d, e3, f3⟩, e4, _⟩ =>
    have e4 : c4 = .int .i64 n4.gi := e4
    exact ⟨x, y, z, d, n4.gi, by rw [e0, e1, e2, e3, e4], f0, f1, f2, f3, rfl⟩

set_option maxRecDepth 100000 in
set_option maxHeartbeats 2000000 in
theorem c_sightValid (v : Value) (r : List NV) (s : Nat) (o : Option Nat) (w : World) (h : ShM (.agg KSight) v r) (fs : FIs .f32 s o) : Calls Try.prog 55 #[v, .float .f32 s] w fun e w' => e = .returned (.bool (sightB o r)) ∧ Below w.heap.size w w' := by
  obtain ⟨⟨cl⟩, rfl, hk⟩ := h
  obtain ⟨x, y, z, d, t, e, fx, fy, fz, fd, ft⟩ := sight_cs hk
  have e : cl = _ := e
  subst e
  have kC := fun W => c_cellAny oCell.okI rfl rfl rfl rfl rfl s x y z o _ _ _ W fs fx fy fz
  have kP := fun W => c_isPositive d W
  have hM := leM_of d
  rw [fd.out] at kP hM
  rw [show sightB o r = (decide (cellK o (r.getD 0 (.i 0)).gf (r.getD 1 (.i 0)).gf (r.getD 2 (.i 0)).gf = 0) && (finB (r.getD 3 (.i 0)).gf && posB (r.getD 3 (.i 0)).gf) && leM (r.getD 3 (.i 0)).gf && okTime (r.getD 4 (.i 0)).gi) from rfl, ← ft]
  have kT := fun W => c_isTime t W
  generalize (finB (r.getD 3 (.i 0)).gf && posB (r.getD 3 (.i 0)).gf) = bp at kP ⊢
  generalize leM (r.getD 3 (.i 0)).gf = bm at hM ⊢
  generalize okTime t = bt at kT ⊢
  generalize cellK o (r.getD 0 (.i 0)).gf (r.getD 1 (.i 0)).gf (r.getD 2 (.i 0)).gf = cd at kC ⊢
  replace kC := Lib.hid kC
  replace kP := Lib.hid kP
  replace kT := Lib.hid kT
  have hnew := heap_alloc_new w (.cells #[.float .f32 x, .float .f32 y, .float .f32 z, .float .f32 d, .int .i64 t] 109)
  have hst : Stays w (w.alloc (.cells #[.float .f32 x, .float .f32 y, .float .f32 z, .float .f32 d, .int .i64 t] 109)) := by (repeat (first | exact Stays.refl _ | (with_reducible refine Stays.drewN ?_ _) | (with_reducible refine Stays.alloc ?_ _) | (with_reducible refine Stays.drew ?_) | (refine Stays.trans ?_ ‹Stays _ _›)))
  have G := Lib.hid fun w1 (h : Stays (w.alloc (.cells #[.float .f32 x, .float .f32 y, .float .f32 z, .float .f32 d, .int .i64 t] 109)) w1) => And.intro (row_of h hnew 3) (And.intro (row_of h hnew 4) (show Below w.heap.size w w1 from hst.trans h))
  clear hk fx fy fz fd ft fs hnew hst
  by_cases hc : cd = 0
  · subst hc
    cases bp <;> cases bm <;> cases bt
    all_goals
      go_enter Try.func55, Try.ntmps55
      go_wp2_with fail
      refine (kC.out _).mono ?_
      rintro e w1 ⟨p0, p1, p2, rfl, hw1⟩
      have hS := hw1
      have hs2 : Stays w1 (w1.alloc (.cells #[.int .i32 p0, .int .i32 p1, .int .i32 p2] 154)) := by (repeat (first | exact Stays.refl _ | (with_reducible refine Stays.drewN ?_ _) | (with_reducible refine Stays.alloc ?_ _) | (with_reducible refine Stays.drew ?_) | (refine Stays.trans ?_ ‹Stays _ _›)))
      obtain ⟨g3, g4, hb⟩ := G.out _ (hw1.trans hs2)
      replace hb := Lib.hid hb
      replace hS := Lib.hid (hw1.trans hs2)
      clear hw1 hs2
      go_wp2_with (first
        | (go_at_call 53; refine (kP.out _).mono ?_; rintro e w2 ⟨rfl, hw2⟩; replace hS := Lib.hid (Stays.trans hS.out hw2); clear g3 g4; obtain ⟨g3, g4, hb2⟩ := G.out _ hS.out; replace hb := Lib.hid hb2; clear hb2 hw2)
        | (go_at_call 103; refine (kT.out _).mono ?_; rintro e w3 ⟨rfl, rfl⟩))
      go_ret
      exact ⟨by simp, (G.out _ hS.out).2.2⟩
  · have hd : decide (cd = 0) = false := decide_eq_false hc
    rw [hd]
    go_enter Try.func55, Try.ntmps55
    go_wp2_with fail
    refine (kC.out _).mono ?_
    rintro e w1 ⟨p0, p1, p2, rfl, hw1⟩
    have hs2 : Stays w1 (w1.alloc (.cells #[.int .i32 p0, .int .i32 p1, .int .i32 p2] 154)) := by (repeat (first | exact Stays.refl _ | (with_reducible refine Stays.drewN ?_ _) | (with_reducible refine Stays.alloc ?_ _) | (with_reducible refine Stays.drew ?_) | (refine Stays.trans ?_ ‹Stays _ _›)))
    have hb := Lib.hid (G.out _ (hw1.trans hs2)).2.2
    clear hw1 hs2
    go_wp2
    go_ret
    exact ⟨by simp, hb.out⟩
end Go.Proofs.Ytcopccniijkceaa
