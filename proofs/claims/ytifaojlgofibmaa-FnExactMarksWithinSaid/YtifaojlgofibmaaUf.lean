/- Marks within a radius, on both sides. No condition. -/
import Derived.Test.YtifaojlgofibmaaUe
import Derived.Test.YtifaojlgofibmaaB3
namespace Go.Proofs.Ytifaojlgofibmaa
open Go Go.RowKit
set_option linter.unusedVariables false
set_option linter.unusedSimpArgs false

def leF (a b : Option Nat) : Bool := ford .f32 a b == some .lt || ford .f32 a b == some .eq
theorem leF_of (r q : Nat) : (FloatKind.f32.format.order r q == some Ordering.lt || FloatKind.f32.format.order r q == some Ordering.eq) = leF (can .f32 r) (can .f32 q) := by rw [order_can]; rfl
noncomputable def inB (a b c q : Nat) (m : Mk) : Bool := leF (awayF m (can .f32 a) (can .f32 b) (can .f32 c)) (can .f32 q)

/-- A list of marks and a code, the marks in a block of their own. -/
def LDone (w : World) (xs : List Mk) (code : Int) (e : Ending) (w' : World) : Prop :=
  ∃ g A c, e = .returned (.tuple #[.slice A xs.length c, .int .i64 code]) ∧ Below w.heap.size w w' ∧ w.heap.size ≤ g ∧ LiesR mkK 9 Mk.ins w' g (.slice A xs.length c) xs

set_option maxRecDepth 100000 in
set_option maxHeartbeats 800000 in
theorem c_mwt (a b c q : Nat) (p1 p2 : Nat) (v : Value) (m : Mk) (w : World) (h : IsMk v m) (h1 : w.cell? ⟨p1, 0, none⟩ = some (.float .f32 a) ∧ w.cell? ⟨p1, 1, none⟩ = some (.float .f32 b) ∧ w.cell? ⟨p1, 2, none⟩ = some (.float .f32 c)) (h2 : w.cell? ⟨p2, 0, none⟩ = some (.float .f32 q)) :
    Calls Try.prog 65 #[v, .pointer (some ⟨p1, 0, none⟩), .pointer (some ⟨p2, 0, none⟩)] w fun e w' => e = .returned (.bool (inB a b c q m)) ∧ Stays w w' := by
  have kD := Lib.hid fun W => c_distTo v m a b c W h
  obtain ⟨ra, rb, rc, rd, rfl, _⟩ := mk_val h
  have hst : Stays w (w.alloc (.cells #[.int .i32 m.x, .int .i32 m.y, .int .i32 m.z, .float .f32 ra, .float .f32 rb, .float .f32 rc, .float .f32 rd, .int .i64 m.s, .int .i64 m.l] 92)) := by (repeat (first | exact Stays.refl _ | (with_reducible refine Stays.drewN ?_ _) | (with_reducible refine Stays.alloc ?_ _) | (with_reducible refine Stays.drew ?_) | (refine Stays.trans ?_ ‹Stays _ _›)))
  have hnew := heap_alloc_new w (.cells #[.int .i32 m.x, .int .i32 m.y, .int .i32 m.z, .float .f32 ra, .float .f32 rb, .float .f32 rc, .float .f32 rd, .int .i64 m.s, .int .i64 m.l] 92)
  have l1 := World.block_lt_of_cell? _ _ h1.1
  have l2 := World.block_lt_of_cell? _ _ h2
  have hcells := fun w1 (hw1 : Stays (w.alloc (.cells #[.int .i32 m.x, .int .i32 m.y, .int .i32 m.z, .float .f32 ra, .float .f32 rb, .float .f32 rc, .float .f32 rd, .int .i64 m.s, .int .i64 m.l] 92)) w1) => And.intro (And.intro (row_of hw1 hnew 0) (And.intro (row_of hw1 hnew 1) (And.intro (row_of hw1 hnew 2) (And.intro (row_of hw1 hnew 3) (And.intro (row_of hw1 hnew 4) (And.intro (row_of hw1 hnew 5) (And.intro (row_of hw1 hnew 6) (And.intro (row_of hw1 hnew 7) (row_of hw1 hnew 8)))))))))
    (And.intro (And.intro (((hst.trans hw1).cell (p := ⟨p1, 0, none⟩) l1).trans h1.1) (And.intro (((hst.trans hw1).cell (p := ⟨p1, 1, none⟩) l1).trans h1.2.1) (((hst.trans hw1).cell (p := ⟨p1, 2, none⟩) l1).trans h1.2.2))) (((hst.trans hw1).cell (p := ⟨p2, 0, none⟩) l2).trans h2))
  replace hst := Lib.hid hst
  clear h h1 h2 hnew l1 l2
  go_enter Try.func65, Try.ntmps65
  go_wp2_with fail
  refine wp_region_soft_tail 5 (Stays.refl _) (oneS 66 #[.agg #[.int .i32 m.x, .int .i32 m.y, .int .i32 m.z, .float .f32 ra, .float .f32 rb, .float .f32 rc, .float .f32 rd, .int .i64 m.s, .int .i64 m.l], .agg #[.float .f32 a, .float .f32 b, .float .f32 c]] (r_away m a b c)) [] (by kernel_rfl) (by kernel_rfl) (fun _ h => by cases h) ?_
  simp only [List.take_succ_cons, List.take_zero, List.drop_succ_cons, List.drop_zero]
  repeat ((with_reducible apply soft_detG); (case hwa => rfl); (case hA => rfl); (case h => (intro w1 hw1; have hc := hcells w1 hw1; go_simp; exact rfl)); go_simp)
  refine soft_callO (by rfl) rfl ?h (fun w2 _ => kD.out w2) ?_
  case h => intro w1 hw1; have hc := hcells w1 hw1; go_simp
  rintro v ⟨d, rfl, hd⟩
  go_simp
  repeat ((with_reducible apply soft_detG); (case hwa => rfl); (case hA => rfl); (case h => (intro w1 hw1; have hc := hcells w1 hw1; go_simp; exact rfl)); go_simp)
  refine soft_nil ?_
  rintro w2 ⟨hw2, _⟩
  have hx := leF_of d q
  rw [hd.out] at hx
  change _ = inB a b c q m at hx
  replace hst := Lib.hid (hst.out.trans hw2)
  clear hcells hd hw2
  go_wp2
  go_ret
  exact ⟨rfl, hst.out⟩

def radB (q : Nat) : Bool := geB (can .f32 q) (some 0)
theorem rad_of (q : Nat) : (FloatKind.f32.format.order q 0 == some Ordering.gt || FloatKind.f32.format.order q 0 == some Ordering.eq) = radB q := by
  have h0 : can .f32 0 = some 0 := by kernel_rfl
  have := ge_of q 0
  rw [h0] at this
  exact this

noncomputable def mwX (o : Option Nat) (xs : List Mk) (a b c q : Nat) : List Mk := if mapOK o xs && (finV a b c && radB q) then xs.filter (inB a b c q) else []
noncomputable def mwC (o : Option Nat) (xs : List Mk) (a b c q : Nat) : Int := if mapOK o xs then (if finV a b c && radB q then 0 else 2) else 1

set_option maxRecDepth 100000 in
set_option maxHeartbeats 2000000 in
theorem c_implMarksWithin (v : Value) (o : Option Nat) (xs : List Mk) (a b c' q : Nat) (w : World) (h : MpV w w.heap.size v o xs) (hn : xs.length ≤ 1048576) :
    Calls Try.prog 32 #[v, .agg #[.float .f32 a, .float .f32 b, .float .f32 c'], .float .f32 q] w (LDone w (mwX o xs a b c' q) (mwC o xs a b c' q)) := by
  obtain ⟨s, A, c, rfl, hf, h1⟩ := h.val
  have hst0 : Stays w (((w.alloc (.cells #[.float .f32 s, .slice A xs.length c] 55)).alloc (.cells #[.float .f32 a, .float .f32 b, .float .f32 c'] 45)).alloc (.cells #[.float .f32 q] 28)) := by (repeat (first | exact Stays.refl _ | (with_reducible refine Stays.drewN ?_ _) | (with_reducible refine Stays.alloc ?_ _) | (with_reducible refine Stays.drew ?_) | (refine Stays.trans ?_ ‹Stays _ _›)))
  have u0 : (((w.alloc (.cells #[.float .f32 s, .slice A xs.length c] 55)).alloc (.cells #[.float .f32 a, .float .f32 b, .float .f32 c'] 45)).alloc (.cells #[.float .f32 q] 28)).heap[w.heap.size]? = some (.cells #[.float .f32 s, .slice A xs.length c] 55 (0, 0)) := by (repeat (first | (refine heap_top _ _ _ ?_; simp; done) | (with_reducible refine heap_drawn _ _ _ ?_) | (with_reducible refine heap_under _ _ _ ?_ ?_; (simp <;> omega))))
  have u1 : (((w.alloc (.cells #[.float .f32 s, .slice A xs.length c] 55)).alloc (.cells #[.float .f32 a, .float .f32 b, .float .f32 c'] 45)).alloc (.cells #[.float .f32 q] 28)).heap[w.heap.size + 1]? = some (.cells #[.float .f32 a, .float .f32 b, .float .f32 c'] 45 (0, 0)) := by (repeat (first | (refine heap_top _ _ _ ?_; simp; done) | (with_reducible refine heap_drawn _ _ _ ?_) | (with_reducible refine heap_under _ _ _ ?_ ?_; (simp <;> omega))))
  have u2 : (((w.alloc (.cells #[.float .f32 s, .slice A xs.length c] 55)).alloc (.cells #[.float .f32 a, .float .f32 b, .float .f32 c'] 45)).alloc (.cells #[.float .f32 q] 28)).heap[w.heap.size + 1 + 1]? = some (.cells #[.float .f32 q] 28 (0, 0)) := by (repeat (first | (refine heap_top _ _ _ ?_; simp; done) | (with_reducible refine heap_drawn _ _ _ ?_) | (with_reducible refine heap_under _ _ _ ?_ ?_; (simp <;> omega))))
  generalize hW3 : (((w.alloc (.cells #[.float .f32 s, .slice A xs.length c] 55)).alloc (.cells #[.float .f32 a, .float .f32 b, .float .f32 c'] 45)).alloc (.cells #[.float .f32 q] 28)) = W3 at hst0 u0 u1 u2
  have hW := Lib.hid fun w1 (hb : Stays W3 w1) => And.intro (And.intro (And.intro (row_of hb u0 0) (row_of hb u0 1)) (And.intro (And.intro (row_of hb u1 0) (And.intro (row_of hb u1 1) (row_of hb u1 2))) (row_of hb u2 0))) (And.intro (Below.trans (show Below w.heap.size w _ from hst0) (Below.mono hb hst0.size)) (show w.heap.size + 1 + 1 < w1.heap.size from Nat.lt_of_lt_of_le (in_heap u2) hb.size))
  have kV := Lib.hid fun W (hb : Stays W3 W) => c_implValidMap (.agg #[.float .f32 s, .slice A xs.length c]) o xs W (h.on (Below.trans (show Below w.heap.size w _ from hst0) (Below.mono hb hst0.size))) hn
  have kM := Lib.hid fun W (hb : Stays W3 W) => (h1.below (Below.trans (show Below w.heap.size w _ from hst0) (Below.mono hb hst0.size))).more (Nat.le_trans hst0.size hb.size)
  have kF := Lib.hid fun W => c_implIsFiniteVec a b c' W
  have hmf : ∀ (fn : Fn) (first cap : Array Value) (w : World), (Instr.makeFunc fn first cap).run Try.prog w = .ok (.func fn first cap) w := fun _ _ _ _ => rfl
  have hrad := rad_of q
  clear u0 u1 u2 hst0 h h1 hf
  have hS := Stays.refl W3
  obtain ⟨⟨⟨q0, q1⟩, ⟨q2, q3, q4⟩, q5⟩, hst, hsz⟩ := hW.out _ hS
  unfold mwX mwC
  cases hb1 : mapOK o xs with
  | false =>
    simp only [Bool.false_and, Bool.false_eq_true, if_false]
    rw [hb1] at kV
    clear hb1
    go_enter Try.func32, Try.ntmps32
    go_wp2_with fail
    refine (kV.out _ hS).mono ?_
    rintro e w4 ⟨rfl, hw4⟩
    have hb4 := Lib.hid (hW.out _ hw4).2.1
    go_wp2
    go_ret2
    exact ⟨w.heap.size, none, 0, rfl, hb4.out, Nat.le_refl _, mlies_nil _ _⟩
  | true =>
    rw [hb1] at kV
    clear hb1
    simp only [Bool.true_and, if_true]
    cases hb2 : finV a b c' with
    | false =>
      simp only [Bool.false_and, Bool.false_eq_true, if_false]
      go_enter Try.func32, Try.ntmps32
      go_wp2_with fail
      refine (kV.out _ hS).mono ?_
      rintro e w4 ⟨rfl, hw4⟩
      clear q0 q1 q2 q3 q4 q5 hst hsz
      obtain ⟨⟨⟨q0, q1⟩, ⟨q2, q3, q4⟩, q5⟩, hst, hsz⟩ := hW.out _ hw4
      go_wp2_with fail
      refine (kF.out _).mono ?_
      rintro e w5 ⟨v5, rfl, hv5, hw5⟩
      rw [show v5 = _ from hv5, hb2]
      have hb5 := Lib.hid (hW.out _ (Stays.trans hw4 hw5)).2.1
      clear hv5
      go_wp2
      go_ret2
      exact ⟨w.heap.size, none, 0, rfl, hb5.out, Nat.le_refl _, mlies_nil _ _⟩
    | true =>
      simp only [Bool.true_and]
      cases hb3 : radB q with
      | false =>
        rw [hb3] at hrad
        simp only [Bool.false_eq_true, if_false]
        go_enter Try.func32, Try.ntmps32
        go_wp2_with fail
        refine (kV.out _ hS).mono ?_
        rintro e w4 ⟨rfl, hw4⟩
        clear q0 q1 q2 q3 q4 q5 hst hsz
        obtain ⟨⟨⟨q0, q1⟩, ⟨q2, q3, q4⟩, q5⟩, hst, hsz⟩ := hW.out _ hw4
        go_wp2_with fail
        refine (kF.out _).mono ?_
        rintro e w5 ⟨v5, rfl, hv5, hw5⟩
        rw [show v5 = _ from hv5, hb2]
        clear hv5 q0 q1 q2 q3 q4 q5 hst hsz
        obtain ⟨⟨⟨q0, q1⟩, ⟨q2, q3, q4⟩, q5⟩, hst, hsz⟩ := hW.out _ (Stays.trans hw4 hw5)
        replace hst := Lib.hid hst
        go_wp2
        go_ret2
        exact ⟨w.heap.size, none, 0, rfl, hst.out, Nat.le_refl _, mlies_nil _ _⟩
      | true =>
        rw [hb3] at hrad
        simp only [if_true]
        go_enter Try.func32, Try.ntmps32
        go_wp2_with fail
        refine (kV.out _ hS).mono ?_
        rintro e w4 ⟨rfl, hw4⟩
        clear q0 q1 q2 q3 q4 q5 hst hsz
        obtain ⟨⟨⟨q0, q1⟩, ⟨q2, q3, q4⟩, q5⟩, hst, hsz⟩ := hW.out _ hw4
        go_wp2_with fail
        refine (kF.out _).mono ?_
        rintro e w5 ⟨v5, rfl, hv5, hw5⟩
        rw [show v5 = _ from hv5, hb2]
        clear hv5 q0 q1 q2 q3 q4 q5 hst hsz
        have hw45 : Stays W3 w5 := Stays.trans hw4 hw5
        obtain ⟨⟨⟨q0, q1⟩, ⟨q2, q3, q4⟩, q5⟩, hst, hsz⟩ := hW.out _ hw45
        replace hst := Lib.hid hst
        go_wp2_with fail
        refine (c_those 65 #[.pointer (some ⟨w.heap.size + 1, 0, none⟩), .pointer (some ⟨w.heap.size + 1 + 1, 0, none⟩)] (fun _ _ => rfl) (inB a b c' q) A c xs w5 (kM.out _ hw45) hn (fun W v m hW5 hm => c_mwt a b c' q _ _ v m W hm ⟨(hW5.cell (p := ⟨w.heap.size + 1, 0, none⟩) (by show w.heap.size + 1 < w5.heap.size; omega)).trans q2, (hW5.cell (p := ⟨w.heap.size + 1, 1, none⟩) (by show w.heap.size + 1 < w5.heap.size; omega)).trans q3, (hW5.cell (p := ⟨w.heap.size + 1, 2, none⟩) (by show w.heap.size + 1 < w5.heap.size; omega)).trans q4⟩ ((hW5.cell (p := ⟨w.heap.size + 1 + 1, 0, none⟩) (by show w.heap.size + 1 + 1 < w5.heap.size; omega)).trans q5))).mono ?_
        rintro e w6 ⟨g, B, c2, rfl, hw6, hge, hl⟩
        have hb6 := Lib.hid (hW.out _ (Stays.trans hw45 hw6)).2.1
        replace hl := Lib.hid hl
        replace hge := Lib.hid (show w.heap.size ≤ g by have := hst.out.size; omega)
        clear hw6 q0 q1 q2 q3 q4 q5
        go_wp2
        go_ret2
        exact ⟨g, B, c2, rfl, hb6.out, hge.out, hl.out⟩
end Go.Proofs.Ytifaojlgofibmaa
