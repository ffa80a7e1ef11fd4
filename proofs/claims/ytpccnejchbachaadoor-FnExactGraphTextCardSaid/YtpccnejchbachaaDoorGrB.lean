/- Graphs: whether one is valid: its parts. Graphs: whether one is valid. No condition. -/
import Derived.Test.YtpccnejchbachaaDoorGrA
import Derived.Test.YtpccnejchbachaaDoorOWgt
import Derived.Test.YtpccnejchbachaaDoorLa
import Derived.Test.YtpccnejchbachaaDoorSv
namespace Go.Proofs.YtpccnejchbachaaDoor
open Go Go.RowKit
set_option linter.unusedVariables false
set_option linter.unusedSimpArgs false

theorem opq_sym {P : Program} {Φ : Syms} {e : Opq} (h : OpqOK P Φ e) (h0 : e.ext = 0) (h1 : e.same = false) : SymOK P Φ e := by
  unfold OpqOK at h
  rw [if_pos h0, if_neg (by rw [h1]; exact Bool.false_ne_true)] at h
  exact h

/-- One truth value of an argument that is a row. -/
theorem calls_rowB {Φ : Syms} {e : Opq} {K : List Kd} (h : OpqOK Tryd.prog Φ e) (h0 : e.ext = 0) (h1 : e.same = false) (ha : e.args = [.agg K]) (hr : e.res = .p (.one .b)) (v : Value) (r : List NV) (w : World) (hv : ShM (.agg K) v r) :
    Calls Tryd.prog e.f #[v] w fun en w' => en = .returned (.bool (Φ (e.sym * 64 + 0) r).gb) ∧ Below w.heap.size w w' := by
  have := opq_sym h h0 h1 #[v] r w (by rw [ha]; exact ⟨r, [], by simp, hv, rfl⟩)
  refine this.mono ?_
  rintro en w' ⟨v', rfl, hm, hs⟩
  rw [hr] at hm
  obtain ⟨n, hn, hb⟩ := hm
  cases hn
  exact ⟨congrArg _ hb, hs⟩

/-- One truth value of a number. -/
theorem calls_numB {Φ : Syms} {e : Opq} {k : Kd} (h : OpqOK Tryd.prog Φ e) (h0 : e.ext = 0) (h1 : e.same = false) (ha : e.args = [.one k]) (hr : e.res = .p (.one .b)) (v : Value) (n : NV) (w : World) (hv : KM k v n) :
    Calls Tryd.prog e.f #[v] w fun en w' => en = .returned (.bool (Φ (e.sym * 64 + 0) [n]).gb) ∧ Below w.heap.size w w' := by
  have := opq_sym h h0 h1 #[v] [n] w (by rw [ha]; exact ⟨[n], [], by simp, ⟨n, rfl, hv⟩, rfl⟩)
  refine this.mono ?_
  rintro en w' ⟨v', rfl, hm, hs⟩
  rw [hr] at hm
  obtain ⟨n, hn, hb⟩ := hm
  cases hn
  exact ⟨congrArg _ hb, hs⟩

noncomputable def finP (r : List NV) : Bool := (oFin.Φ (12 * 64 + 0) r).gb
noncomputable def posW (n : NV) : Bool := (oWgt.Φ (16 * 64 + 0) [n]).gb

theorem c_l06Finite (v : Value) (r : List NV) (w : World) (h : ShM (.agg KPose) v r) : Calls Tryd.prog 65 #[v] w fun e w' => e = .returned (.bool (finP r)) ∧ Below w.heap.size w w' :=
  calls_rowB oFin.okS rfl rfl rfl rfl v r w h
theorem c_IsFinitePose (v : Value) (r : List NV) (w : World) (h : ShM (.agg KPose) v r) : Calls Tryd.prog 94 #[v] w fun e w' => e = .returned (.bool (finP r)) ∧ Below w.heap.size w w' :=
  calls_rowB oFin.okI rfl rfl rfl rfl v r w h
theorem c_l06Weight (v : Value) (n : NV) (w : World) (h : KM (.f .f32) v n) : Calls Tryd.prog 92 #[v] w fun e w' => e = .returned (.bool (posW n)) ∧ Below w.heap.size w w' :=
  calls_numB oWgt.okS rfl rfl rfl rfl v n w h
theorem c_isPos (v : Value) (n : NV) (w : World) (h : KM (.f .f32) v n) : Calls Tryd.prog 57 #[v] w fun e w' => e = .returned (.bool (posW n)) ∧ Below w.heap.size w w' :=
  calls_numB oWgt.okI rfl rfl rfl rfl v n w h

noncomputable def linkB (n : Int) (r : List NV) : Bool := (decide (0 ≤ (r.getD 0 (.i 0)).gi ∧ (r.getD 0 (.i 0)).gi ≤ n - 1) && decide (0 ≤ (r.getD 1 (.i 0)).gi ∧ (r.getD 1 (.i 0)).gi ≤ n - 1)) && (!((r.getD 0 (.i 0)).gi == (r.getD 1 (.i 0)).gi) && (finP ((r.drop 2).take 3) && posW (r.getD 5 (.i 0))))

noncomputable def graphB (ps ls : List (List NV)) : Bool := decide (1 ≤ ps.length ∧ ps.length ≤ 60) && (decide (ls.length ≤ 120) && (ps.all finP && ls.all (linkB ps.length)))

section
variable {p : List NV → Bool} {xs : List (List NV)} {k : Nat} {r : List NV}
theorem all_next (h : (xs.take k).all p = true) (hk : xs[k]? = some r) (hr : p r = true) : (xs.take (k + 1)).all p = true := by
  rw [List.take_add_one, hk, List.all_append, h]
  simp [hr]
theorem all_bad (hk : xs[k]? = some r) (hr : p r = false) : xs.all p = false :=
  Bool.eq_false_iff.2 fun h => by
    have := List.all_eq_true.1 h r (List.mem_of_getElem? hk)
    rw [hr] at this; cases this
theorem all_end (h : (xs.take k).all p = true) (hk : xs.length ≤ k) : xs.all p = true := by
  rwa [List.take_of_length_le hk] at h
end

def lkS (bf bp : Bool) (f : FuncId) (args : Array Value) (v : Value) : Prop := (f = 47 → ∀ x lo hi, args = #[.int .i64 x, .int .i64 lo, .int .i64 hi] → v = .bool (decide (lo ≤ x ∧ x ≤ hi))) ∧ (f = 65 → v = .bool bf) ∧ (f = 92 → v = .bool bp)

set_option maxRecDepth 100000 in
set_option maxHeartbeats 800000 in
theorem c_l06Link (q : Addr) (n : Int) (r : List NV) (w : World) (h : RowAt KLink w q r) (hq : q.block < w.heap.size) (hn : 0 ≤ n ∧ n ≤ 1048576) : Calls Tryd.prog 66 #[.pointer (some q), .int .i64 n] w fun e w' => e = .returned (.bool (linkB n r)) ∧ Below w.heap.size w w' := by
  obtain ⟨c0, c1, c2, c3, c4, c5, hK, g0, g1, g2, g3, g4, g5⟩ := row6 rfl h
  have hlen := KMs_rlen hK
  match r, hlen, hK with
  | [n0, n1, n2, n3, n4, n5], _, ⟨k0, k1, k2, k3, k4, k5, _⟩ =>
    have k0 : c0 = .int .i64 n0.gi := k0
    have k1 : c1 = .int .i64 n1.gi := k1
    subst k0 k1
    have hf : ∀ W, Calls Tryd.prog 65 #[.agg #[c2, c3, c4]] W fun e w' => e = .returned (.bool (finP [n2, n3, n4])) ∧ Stays W w' := fun W => c_l06Finite (.agg #[c2, c3, c4]) [n2, n3, n4] W ⟨_, rfl, k2, k3, k4, trivial⟩
    have hp : ∀ W, Calls Tryd.prog 92 #[c5] W fun e w' => e = .returned (.bool (posW n5)) ∧ Stays W w' := fun W => c_l06Weight c5 n5 W k5
    clear k2 k3 k4 k5 h
    unfold linkB
    simp only [List.getD_cons_zero, List.getD_cons_succ, List.drop_succ_cons, List.drop_zero, List.take_succ_cons, List.take_zero]
    generalize n0.gi = a at g0 ⊢
    generalize n1.gi = b at g1 ⊢
    generalize finP [n2, n3, n4] = bf at hf ⊢
    generalize posW n5 = bp at hp ⊢
    replace hf := Lib.hid hf
    replace hp := Lib.hid hp
    have hw1 : IntKind.i64.wrap (n - 1) = n - 1 := IntWalk.i64_in _ (by omega)
    have hcell := Lib.hid (And.intro g0 (And.intro g1 (And.intro g2 (And.intro g3 (And.intro g4 g5)))))
    clear g0 g1 g2 g3 g4 g5 hlen hK
    have G : Hid (∀ w', Below w.heap.size w w' → w'.cell? q = some (.int .i64 a) ∧ w'.cell? ⟨q.block, q.off + 1, none⟩ = some (.int .i64 b) ∧ w'.cell? ⟨q.block, q.off + 2, none⟩ = some c2 ∧ w'.cell? ⟨q.block, q.off + 2 + 1, none⟩ = some c3 ∧ w'.cell? ⟨q.block, q.off + 2 + 2, none⟩ = some c4 ∧ w'.cell? ⟨q.block, q.off + 5, none⟩ = some c5) :=
      Lib.hid fun w' hb => ⟨(hb.cell hq).trans hcell.out.1, (hb.cell (p := ⟨q.block, q.off + 1, none⟩) hq).trans hcell.out.2.1, (hb.cell (p := ⟨q.block, q.off + 2, none⟩) hq).trans hcell.out.2.2.1, (hb.cell (p := ⟨q.block, q.off + 3, none⟩) hq).trans hcell.out.2.2.2.1, (hb.cell (p := ⟨q.block, q.off + 4, none⟩) hq).trans hcell.out.2.2.2.2.1, (hb.cell (p := ⟨q.block, q.off + 5, none⟩) hq).trans hcell.out.2.2.2.2.2⟩
    clear hcell
    have hS : Stays w w := Stays.refl w
    obtain ⟨g0, g1, g2, g3, g4, g5⟩ := G.out _ hS
    have hcells : ∀ w1, Stays w w1 → _ := fun w1 h => G.out w1 h
    clear g0 g1 g2 g3 g4 g5
    cases h1 : decide (0 ≤ a ∧ a ≤ n - 1) with
    | false =>
      replace h1 := Lib.hid h1
      have k1 : Hid (∀ W, Calls Tryd.prog 47 #[.int .i64 a, .int .i64 0, .int .i64 (n - 1)] W fun e w' => e = .returned (.bool false) ∧ Stays W w') := Lib.hid fun W => (c_l00In a 0 (n - 1) W).mono fun e w' he => ⟨he.1.trans (by rw [h1.out]), he.2 ▸ Stays.refl _⟩
      go_enter Tryd.func66, Tryd.ntmps66
      go_wp2
      refine wp_region_soft_tail 40 (Stays.refl _) (lkS bf bp) [] (by kernel_rfl) (by kernel_rfl) (fun _ h => by cases h) ?_
      simp only [List.take_succ_cons, List.take_zero, List.drop_succ_cons, List.drop_zero]
      repeat (first | ((with_reducible apply soft_detG); (case hwa => rfl); (case hA => rfl); (case h => (intro w1 hw1; have hc := hcells w1 hw1; go_simp; exact rfl)); go_simp) | ((with_reducible apply soft_skipG); (case hwa => rfl); (case hA => rfl); go_simp) | ((with_reducible apply soft_callS (v := .bool false)); (case hwa => rfl); (case hA => rfl); (case h => (intro w1 hw1; have hc := hcells w1 hw1; go_simp; exact ⟨rfl, rfl⟩)); (case hc => (intro w1 hw1; with_reducible exact k1.out w1)); (case hS => exact ⟨fun _ x lo hi e => (by simp at e; obtain ⟨rfl, rfl, rfl⟩ := e; rw [h1.out]), fun e => absurd e (by decide), fun e => absurd e (by decide)⟩); (case hu => exact fun u hu => (hu.1 rfl _ _ _ rfl).trans (by rw [h1.out])); go_simp) | ((with_reducible apply soft_callS (v := .bool bf)); (case hwa => rfl); (case hA => rfl); (case h => (intro w1 hw1; have hc := hcells w1 hw1; go_simp; exact ⟨rfl, rfl⟩)); (case hc => (intro w1 hw1; with_reducible exact hf.out w1)); (case hS => exact ⟨fun e => absurd e (by decide), fun _ => rfl, fun e => absurd e (by decide)⟩); (case hu => exact fun u hu => hu.2.1 rfl); go_simp) | ((with_reducible apply soft_callS (v := .bool bp)); (case hwa => rfl); (case hA => rfl); (case h => (intro w1 hw1; have hc := hcells w1 hw1; go_simp; exact ⟨rfl, rfl⟩)); (case hc => (intro w1 hw1; with_reducible exact hp.out w1)); (case hS => exact ⟨fun e => absurd e (by decide), fun e => absurd e (by decide), fun _ => rfl⟩); (case hu => exact fun u hu => hu.2.2 rfl); go_simp))
      refine soft_nil ?_
      rintro w2 ⟨hw2, _⟩
      go_wp2
      go_ret
      exact ⟨ret_b (by simp [h1.out]), Stays.trans (by (repeat (first | exact Stays.refl _ | (with_reducible refine Stays.drewN ?_ _) | (with_reducible refine Stays.alloc ?_ _) | (with_reducible refine Stays.drew ?_) | (refine Stays.trans ?_ ‹Stays _ _›)))) hw2⟩
    | true =>
      replace h1 := Lib.hid h1
      have k1 : Hid (∀ W, Calls Tryd.prog 47 #[.int .i64 a, .int .i64 0, .int .i64 (n - 1)] W fun e w' => e = .returned (.bool true) ∧ Stays W w') := Lib.hid fun W => (c_l00In a 0 (n - 1) W).mono fun e w' he => ⟨he.1.trans (by rw [h1.out]), he.2 ▸ Stays.refl _⟩
      cases h2 : decide (0 ≤ b ∧ b ≤ n - 1) with
      | false =>
        replace h2 := Lib.hid h2
        have k2 : Hid (∀ W, Calls Tryd.prog 47 #[.int .i64 b, .int .i64 0, .int .i64 (n - 1)] W fun e w' => e = .returned (.bool false) ∧ Stays W w') := Lib.hid fun W => (c_l00In b 0 (n - 1) W).mono fun e w' he => ⟨he.1.trans (by rw [h2.out]), he.2 ▸ Stays.refl _⟩
        go_enter Tryd.func66, Tryd.ntmps66
        go_wp2
        refine wp_region_soft_tail 40 (Stays.refl _) (lkS bf bp) [] (by kernel_rfl) (by kernel_rfl) (fun _ h => by cases h) ?_
        simp only [List.take_succ_cons, List.take_zero, List.drop_succ_cons, List.drop_zero]
        repeat (first | ((with_reducible apply soft_detG); (case hwa => rfl); (case hA => rfl); (case h => (intro w1 hw1; have hc := hcells w1 hw1; go_simp; exact rfl)); go_simp) | ((with_reducible apply soft_skipG); (case hwa => rfl); (case hA => rfl); go_simp) | ((with_reducible apply soft_callS (v := .bool true)); (case hwa => rfl); (case hA => rfl); (case h => (intro w1 hw1; have hc := hcells w1 hw1; go_simp; exact ⟨rfl, rfl⟩)); (case hc => (intro w1 hw1; with_reducible exact k1.out w1)); (case hS => exact ⟨fun _ x lo hi e => (by simp at e; obtain ⟨rfl, rfl, rfl⟩ := e; rw [h1.out]), fun e => absurd e (by decide), fun e => absurd e (by decide)⟩); (case hu => exact fun u hu => (hu.1 rfl _ _ _ rfl).trans (by rw [h1.out])); go_simp) | ((with_reducible apply soft_callS (v := .bool false)); (case hwa => rfl); (case hA => rfl); (case h => (intro w1 hw1; have hc := hcells w1 hw1; go_simp; exact ⟨rfl, rfl⟩)); (case hc => (intro w1 hw1; with_reducible exact k2.out w1)); (case hS => exact ⟨fun _ x lo hi e => (by simp at e; obtain ⟨rfl, rfl, rfl⟩ := e; rw [h2.out]), fun e => absurd e (by decide), fun e => absurd e (by decide)⟩); (case hu => exact fun u hu => (hu.1 rfl _ _ _ rfl).trans (by rw [h2.out])); go_simp) | ((with_reducible apply soft_callS (v := .bool bf)); (case hwa => rfl); (case hA => rfl); (case h => (intro w1 hw1; have hc := hcells w1 hw1; go_simp; exact ⟨rfl, rfl⟩)); (case hc => (intro w1 hw1; with_reducible exact hf.out w1)); (case hS => exact ⟨fun e => absurd e (by decide), fun _ => rfl, fun e => absurd e (by decide)⟩); (case hu => exact fun u hu => hu.2.1 rfl); go_simp) | ((with_reducible apply soft_callS (v := .bool bp)); (case hwa => rfl); (case hA => rfl); (case h => (intro w1 hw1; have hc := hcells w1 hw1; go_simp; exact ⟨rfl, rfl⟩)); (case hc => (intro w1 hw1; with_reducible exact hp.out w1)); (case hS => exact ⟨fun e => absurd e (by decide), fun e => absurd e (by decide), fun _ => rfl⟩); (case hu => exact fun u hu => hu.2.2 rfl); go_simp))
        refine soft_nil ?_
        rintro w2 ⟨hw2, _⟩
        go_wp2
        go_ret
        exact ⟨ret_b (by simp [h1.out, h2.out]), Stays.trans (by (repeat (first | exact Stays.refl _ | (with_reducible refine Stays.drewN ?_ _) | (with_reducible refine Stays.alloc ?_ _) | (with_reducible refine Stays.drew ?_) | (refine Stays.trans ?_ ‹Stays _ _›)))) hw2⟩
      | true =>
        replace h2 := Lib.hid h2
        have k2 : Hid (∀ W, Calls Tryd.prog 47 #[.int .i64 b, .int .i64 0, .int .i64 (n - 1)] W fun e w' => e = .returned (.bool true) ∧ Stays W w') := Lib.hid fun W => (c_l00In b 0 (n - 1) W).mono fun e w' he => ⟨he.1.trans (by rw [h2.out]), he.2 ▸ Stays.refl _⟩
        by_cases hab : a = b
        · subst hab
          go_enter Tryd.func66, Tryd.ntmps66
          go_wp2
          refine wp_region_soft_tail 40 (Stays.refl _) (lkS bf bp) [] (by kernel_rfl) (by kernel_rfl) (fun _ h => by cases h) ?_
          simp only [List.take_succ_cons, List.take_zero, List.drop_succ_cons, List.drop_zero]
          repeat (first | ((with_reducible apply soft_detG); (case hwa => rfl); (case hA => rfl); (case h => (intro w1 hw1; have hc := hcells w1 hw1; go_simp; exact rfl)); go_simp) | ((with_reducible apply soft_skipG); (case hwa => rfl); (case hA => rfl); go_simp) | ((with_reducible apply soft_callS (v := .bool true)); (case hwa => rfl); (case hA => rfl); (case h => (intro w1 hw1; have hc := hcells w1 hw1; go_simp; exact ⟨rfl, rfl⟩)); (case hc => (intro w1 hw1; with_reducible exact k1.out w1)); (case hS => exact ⟨fun _ x lo hi e => (by simp at e; obtain ⟨rfl, rfl, rfl⟩ := e; rw [h1.out]), fun e => absurd e (by decide), fun e => absurd e (by decide)⟩); (case hu => exact fun u hu => (hu.1 rfl _ _ _ rfl).trans (by rw [h1.out])); go_simp) | ((with_reducible apply soft_callS (v := .bool true)); (case hwa => rfl); (case hA => rfl); (case h => (intro w1 hw1; have hc := hcells w1 hw1; go_simp; exact ⟨rfl, rfl⟩)); (case hc => (intro w1 hw1; with_reducible exact k2.out w1)); (case hS => exact ⟨fun _ x lo hi e => (by simp at e; obtain ⟨rfl, rfl, rfl⟩ := e; rw [h2.out]), fun e => absurd e (by decide), fun e => absurd e (by decide)⟩); (case hu => exact fun u hu => (hu.1 rfl _ _ _ rfl).trans (by rw [h2.out])); go_simp) | ((with_reducible apply soft_callS (v := .bool bf)); (case hwa => rfl); (case hA => rfl); (case h => (intro w1 hw1; have hc := hcells w1 hw1; go_simp; exact ⟨rfl, rfl⟩)); (case hc => (intro w1 hw1; with_reducible exact hf.out w1)); (case hS => exact ⟨fun e => absurd e (by decide), fun _ => rfl, fun e => absurd e (by decide)⟩); (case hu => exact fun u hu => hu.2.1 rfl); go_simp) | ((with_reducible apply soft_callS (v := .bool bp)); (case hwa => rfl); (case hA => rfl); (case h => (intro w1 hw1; have hc := hcells w1 hw1; go_simp; exact ⟨rfl, rfl⟩)); (case hc => (intro w1 hw1; with_reducible exact hp.out w1)); (case hS => exact ⟨fun e => absurd e (by decide), fun e => absurd e (by decide), fun _ => rfl⟩); (case hu => exact fun u hu => hu.2.2 rfl); go_simp))
          refine soft_nil ?_
          rintro w2 ⟨hw2, _⟩
          go_wp2
          go_ret
          exact ⟨ret_b (by simp [h1.out, h2.out]), Stays.trans (by (repeat (first | exact Stays.refl _ | (with_reducible refine Stays.drewN ?_ _) | (with_reducible refine Stays.alloc ?_ _) | (with_reducible refine Stays.drew ?_) | (refine Stays.trans ?_ ‹Stays _ _›)))) hw2⟩
        · have q1 : (a == b) = false := by simp [hab]
          have q2 : (a != b) = true := by simp [hab]
          cases bf with
          | false =>
            go_enter Tryd.func66, Tryd.ntmps66
            go_wp2
            refine wp_region_soft_tail 40 (Stays.refl _) (lkS false bp) [] (by kernel_rfl) (by kernel_rfl) (fun _ h => by cases h) ?_
            simp only [List.take_succ_cons, List.take_zero, List.drop_succ_cons, List.drop_zero]
            repeat (first | ((with_reducible apply soft_detG); (case hwa => rfl); (case hA => rfl); (case h => (intro w1 hw1; have hc := hcells w1 hw1; go_simp; exact rfl)); go_simp) | ((with_reducible apply soft_skipG); (case hwa => rfl); (case hA => rfl); go_simp) | ((with_reducible apply soft_callS (v := .bool true)); (case hwa => rfl); (case hA => rfl); (case h => (intro w1 hw1; have hc := hcells w1 hw1; go_simp; exact ⟨rfl, rfl⟩)); (case hc => (intro w1 hw1; with_reducible exact k1.out w1)); (case hS => exact ⟨fun _ x lo hi e => (by simp at e; obtain ⟨rfl, rfl, rfl⟩ := e; rw [h1.out]), fun e => absurd e (by decide), fun e => absurd e (by decide)⟩); (case hu => exact fun u hu => (hu.1 rfl _ _ _ rfl).trans (by rw [h1.out])); go_simp) | ((with_reducible apply soft_callS (v := .bool true)); (case hwa => rfl); (case hA => rfl); (case h => (intro w1 hw1; have hc := hcells w1 hw1; go_simp; exact ⟨rfl, rfl⟩)); (case hc => (intro w1 hw1; with_reducible exact k2.out w1)); (case hS => exact ⟨fun _ x lo hi e => (by simp at e; obtain ⟨rfl, rfl, rfl⟩ := e; rw [h2.out]), fun e => absurd e (by decide), fun e => absurd e (by decide)⟩); (case hu => exact fun u hu => (hu.1 rfl _ _ _ rfl).trans (by rw [h2.out])); go_simp) | ((with_reducible apply soft_callS (v := .bool false)); (case hwa => rfl); (case hA => rfl); (case h => (intro w1 hw1; have hc := hcells w1 hw1; go_simp; exact ⟨rfl, rfl⟩)); (case hc => (intro w1 hw1; with_reducible exact hf.out w1)); (case hS => exact ⟨fun e => absurd e (by decide), fun _ => rfl, fun e => absurd e (by decide)⟩); (case hu => exact fun u hu => hu.2.1 rfl); go_simp) | ((with_reducible apply soft_callS (v := .bool bp)); (case hwa => rfl); (case hA => rfl); (case h => (intro w1 hw1; have hc := hcells w1 hw1; go_simp; exact ⟨rfl, rfl⟩)); (case hc => (intro w1 hw1; with_reducible exact hp.out w1)); (case hS => exact ⟨fun e => absurd e (by decide), fun e => absurd e (by decide), fun _ => rfl⟩); (case hu => exact fun u hu => hu.2.2 rfl); go_simp))
            refine soft_nil ?_
            rintro w2 ⟨hw2, _⟩
            go_wp2
            go_ret
            exact ⟨ret_b (by simp [h1.out, h2.out, hab]), Stays.trans (by (repeat (first | exact Stays.refl _ | (with_reducible refine Stays.drewN ?_ _) | (with_reducible refine Stays.alloc ?_ _) | (with_reducible refine Stays.drew ?_) | (refine Stays.trans ?_ ‹Stays _ _›)))) hw2⟩
          | true =>
            cases bp with
            | false =>
              go_enter Tryd.func66, Tryd.ntmps66
              go_wp2
              refine wp_region_soft_tail 40 (Stays.refl _) (lkS true false) [] (by kernel_rfl) (by kernel_rfl) (fun _ h => by cases h) ?_
              simp only [List.take_succ_cons, List.take_zero, List.drop_succ_cons, List.drop_zero]
              repeat (first | ((with_reducible apply soft_detG); (case hwa => rfl); (case hA => rfl); (case h => (intro w1 hw1; have hc := hcells w1 hw1; go_simp; exact rfl)); go_simp) | ((with_reducible apply soft_skipG); (case hwa => rfl); (case hA => rfl); go_simp) | ((with_reducible apply soft_callS (v := .bool true)); (case hwa => rfl); (case hA => rfl); (case h => (intro w1 hw1; have hc := hcells w1 hw1; go_simp; exact ⟨rfl, rfl⟩)); (case hc => (intro w1 hw1; with_reducible exact k1.out w1)); (case hS => exact ⟨fun _ x lo hi e => (by simp at e; obtain ⟨rfl, rfl, rfl⟩ := e; rw [h1.out]), fun e => absurd e (by decide), fun e => absurd e (by decide)⟩); (case hu => exact fun u hu => (hu.1 rfl _ _ _ rfl).trans (by rw [h1.out])); go_simp) | ((with_reducible apply soft_callS (v := .bool true)); (case hwa => rfl); (case hA => rfl); (case h => (intro w1 hw1; have hc := hcells w1 hw1; go_simp; exact ⟨rfl, rfl⟩)); (case hc => (intro w1 hw1; with_reducible exact k2.out w1)); (case hS => exact ⟨fun _ x lo hi e => (by simp at e; obtain ⟨rfl, rfl, rfl⟩ := e; rw [h2.out]), fun e => absurd e (by decide), fun e => absurd e (by decide)⟩); (case hu => exact fun u hu => (hu.1 rfl _ _ _ rfl).trans (by rw [h2.out])); go_simp) | ((with_reducible apply soft_callS (v := .bool true)); (case hwa => rfl); (case hA => rfl); (case h => (intro w1 hw1; have hc := hcells w1 hw1; go_simp; exact ⟨rfl, rfl⟩)); (case hc => (intro w1 hw1; with_reducible exact hf.out w1)); (case hS => exact ⟨fun e => absurd e (by decide), fun _ => rfl, fun e => absurd e (by decide)⟩); (case hu => exact fun u hu => hu.2.1 rfl); go_simp) | ((with_reducible apply soft_callS (v := .bool false)); (case hwa => rfl); (case hA => rfl); (case h => (intro w1 hw1; have hc := hcells w1 hw1; go_simp; exact ⟨rfl, rfl⟩)); (case hc => (intro w1 hw1; with_reducible exact hp.out w1)); (case hS => exact ⟨fun e => absurd e (by decide), fun e => absurd e (by decide), fun _ => rfl⟩); (case hu => exact fun u hu => hu.2.2 rfl); go_simp))
              refine soft_nil ?_
              rintro w2 ⟨hw2, _⟩
              go_wp2
              go_ret
              exact ⟨ret_b (by simp [h1.out, h2.out, hab]), Stays.trans (by (repeat (first | exact Stays.refl _ | (with_reducible refine Stays.drewN ?_ _) | (with_reducible refine Stays.alloc ?_ _) | (with_reducible refine Stays.drew ?_) | (refine Stays.trans ?_ ‹Stays _ _›)))) hw2⟩
            | true =>
              go_enter Tryd.func66, Tryd.ntmps66
              go_wp2
              refine wp_region_soft_tail 40 (Stays.refl _) (lkS true true) [] (by kernel_rfl) (by kernel_rfl) (fun _ h => by cases h) ?_
              simp only [List.take_succ_cons, List.take_zero, List.drop_succ_cons, List.drop_zero]
              repeat (first | ((with_reducible apply soft_detG); (case hwa => rfl); (case hA => rfl); (case h => (intro w1 hw1; have hc := hcells w1 hw1; go_simp; exact rfl)); go_simp) | ((with_reducible apply soft_skipG); (case hwa => rfl); (case hA => rfl); go_simp) | ((with_reducible apply soft_callS (v := .bool true)); (case hwa => rfl); (case hA => rfl); (case h => (intro w1 hw1; have hc := hcells w1 hw1; go_simp; exact ⟨rfl, rfl⟩)); (case hc => (intro w1 hw1; with_reducible exact k1.out w1)); (case hS => exact ⟨fun _ x lo hi e => (by simp at e; obtain ⟨rfl, rfl, rfl⟩ := e; rw [h1.out]), fun e => absurd e (by decide), fun e => absurd e (by decide)⟩); (case hu => exact fun u hu => (hu.1 rfl _ _ _ rfl).trans (by rw [h1.out])); go_simp) | ((with_reducible apply soft_callS (v := .bool true)); (case hwa => rfl); (case hA => rfl); (case h => (intro w1 hw1; have hc := hcells w1 hw1; go_simp; exact ⟨rfl, rfl⟩)); (case hc => (intro w1 hw1; with_reducible exact k2.out w1)); (case hS => exact ⟨fun _ x lo hi e => (by simp at e; obtain ⟨rfl, rfl, rfl⟩ := e; rw [h2.out]), fun e => absurd e (by decide), fun e => absurd e (by decide)⟩); (case hu => exact fun u hu => (hu.1 rfl _ _ _ rfl).trans (by rw [h2.out])); go_simp) | ((with_reducible apply soft_callS (v := .bool true)); (case hwa => rfl); (case hA => rfl); (case h => (intro w1 hw1; have hc := hcells w1 hw1; go_simp; exact ⟨rfl, rfl⟩)); (case hc => (intro w1 hw1; with_reducible exact hf.out w1)); (case hS => exact ⟨fun e => absurd e (by decide), fun _ => rfl, fun e => absurd e (by decide)⟩); (case hu => exact fun u hu => hu.2.1 rfl); go_simp) | ((with_reducible apply soft_callS (v := .bool true)); (case hwa => rfl); (case hA => rfl); (case h => (intro w1 hw1; have hc := hcells w1 hw1; go_simp; exact ⟨rfl, rfl⟩)); (case hc => (intro w1 hw1; with_reducible exact hp.out w1)); (case hS => exact ⟨fun e => absurd e (by decide), fun e => absurd e (by decide), fun _ => rfl⟩); (case hu => exact fun u hu => hu.2.2 rfl); go_simp))
              refine soft_nil ?_
              rintro w2 ⟨hw2, _⟩
              go_wp2
              go_ret
              exact ⟨ret_b (by simp [h1.out, h2.out, hab]), Stays.trans (by (repeat (first | exact Stays.refl _ | (with_reducible refine Stays.drewN ?_ _) | (with_reducible refine Stays.alloc ?_ _) | (with_reducible refine Stays.drew ?_) | (refine Stays.trans ?_ ‹Stays _ _›)))) hw2⟩
end Go.Proofs.YtpccnejchbachaaDoor

namespace Go.Proofs.YtpccnejchbachaaDoor
open Go Go.RowKit
set_option linter.unusedVariables false
set_option linter.unusedSimpArgs false

theorem pose_cells {cs : List Value} {r : List NV} (h : KMs KPose cs r) : ∃ ra rb rc, cs = [.float .f32 ra, .float .f32 rb, .float .f32 rc] := by
  have hl := KMs_len h
  have hr := KMs_rlen h
  match cs, r, hl, hr, h with
  | [c0, c1, c2], [n0, n1, n2], _, _, ⟨⟨ra, h0, _⟩, ⟨rb, h1, _⟩, ⟨rc, h2, _⟩, _⟩ =>
    subst h0 h1 h2
    exact ⟨ra, rb, rc, rfl⟩

theorem link_cells {cs : List Value} {r : List NV} (h : KMs KLink cs r) : ∃ a b ra rb rc rd, cs = [.int .i64 a, .int .i64 b, .float .f32 ra, .float .f32 rb, .float .f32 rc, .float .f32 rd] := by
  have hl := KMs_len h
  have hr := KMs_rlen h
  match cs, r, hl, hr, h with
  | [c0, c1, c2, c3, c4, c5], [n0, n1, n2, n3, n4, n5], _, _, ⟨h0, h1, ⟨ra, h2, _⟩, ⟨rb, h3, _⟩, ⟨rc, h4, _⟩, ⟨rd, h5, _⟩, _⟩ =>
    have h0 : c0 = .int .i64 n0.gi := h0
    have h1 : c1 = .int .i64 n1.gi := h1
    subst h0 h1 h2 h3 h4 h5
    exact ⟨_, _, ra, rb, rc, rd, rfl⟩

theorem c_hasPose (A A' : Option Addr) (c c' n m : Nat) (i : Int) (w : World) : Calls Tryd.prog 93 #[.agg #[.slice A n c, .slice A' m c'], .int .i64 i] w fun e w' => e = .returned (.bool (decide (0 ≤ i ∧ i ≤ (n : Int) - 1))) ∧ Below w.heap.size w w' := by
  by_cases h1 : 0 ≤ i
  · by_cases h2 : i < (n : Int)
    · go_enter Tryd.func93, Tryd.ntmps93
      go_wp2
      go_ret
      exact ⟨ret_b (by first | (simp [h1]; done) | (simp [h1]; omega)), show Stays w _ from by (repeat (first | exact Stays.refl _ | (with_reducible refine Stays.drewN ?_ _) | (with_reducible refine Stays.alloc ?_ _) | (with_reducible refine Stays.drew ?_) | (refine Stays.trans ?_ ‹Stays _ _›)))⟩
    · go_enter Tryd.func93, Tryd.ntmps93
      go_wp2
      go_ret
      exact ⟨ret_b (by first | (simp [h1]; done) | (simp [h1]; omega)), show Stays w _ from by (repeat (first | exact Stays.refl _ | (with_reducible refine Stays.drewN ?_ _) | (with_reducible refine Stays.alloc ?_ _) | (with_reducible refine Stays.drew ?_) | (refine Stays.trans ?_ ‹Stays _ _›)))⟩
  · go_enter Tryd.func93, Tryd.ntmps93
    go_wp2
    go_ret
    exact ⟨ret_b (by first | (simp [h1]; done) | (simp [h1]; omega)), show Stays w _ from by (repeat (first | exact Stays.refl _ | (with_reducible refine Stays.drewN ?_ _) | (with_reducible refine Stays.alloc ?_ _) | (with_reducible refine Stays.drew ?_) | (refine Stays.trans ?_ ‹Stays _ _›)))⟩

set_option maxRecDepth 100000 in
set_option maxHeartbeats 800000 in
theorem c_mayHave (A A' : Option Addr) (c c' n m : Nat) (cs : Array Value) (r : List NV) (w : World) (h : KMs KLink cs.toList r) : Calls Tryd.prog 70 #[.agg #[.slice A n c, .slice A' m c'], .agg cs] w fun e w' => e = .returned (.bool (linkB n r)) ∧ Below w.heap.size w w' := by
  obtain ⟨l⟩ := cs
  have hl := KMs_len h
  have hlen := KMs_rlen h
  match l, r, hl, hlen, h with
  | [c0, c1, c2, c3, c4, c5], [n0, n1, n2, n3, n4, n5], _, _, ⟨k0, k1, k2, k3, k4, k5, _⟩ =>
    have k0 : c0 = .int .i64 n0.gi := k0
    have k1 : c1 = .int .i64 n1.gi := k1
    subst k0 k1
    obtain ⟨ra, rfl, fa⟩ := k2
    obtain ⟨rb, rfl, fb⟩ := k3
    obtain ⟨rc, rfl, fc⟩ := k4
    obtain ⟨rd, rfl, fd⟩ := k5
    have hf := fun W => c_IsFinitePose (.agg #[.float .f32 ra, .float .f32 rb, .float .f32 rc]) [n2, n3, n4] W ⟨_, rfl, ⟨ra, rfl, fa⟩, ⟨rb, rfl, fb⟩, ⟨rc, rfl, fc⟩, trivial⟩
    have hp := fun W => c_isPos (.float .f32 rd) n5 W ⟨rd, rfl, fd⟩
    clear fa fb fc fd h
    unfold linkB
    simp only [List.getD_cons_zero, List.getD_cons_succ, List.drop_succ_cons, List.drop_zero, List.take_succ_cons, List.take_zero]
    generalize n0.gi = a
    generalize n1.gi = b
    generalize finP [n2, n3, n4] = bf at hf ⊢
    generalize posW n5 = bp at hp ⊢
    replace hf := Lib.hid hf
    replace hp := Lib.hid hp
    have u0 : ((w.alloc (.cells #[.slice A n c, .slice A' m c'] 49)).alloc (.cells #[.int .i64 a, .int .i64 b, .float .f32 ra, .float .f32 rb, .float .f32 rc, .float .f32 rd] 96)).heap[w.heap.size]? = some (.cells #[.slice A n c, .slice A' m c'] 49 (0, 0)) := by (repeat (first | (refine heap_top _ _ _ ?_; simp; done) | (with_reducible refine heap_drawn _ _ _ ?_) | (with_reducible refine heap_under _ _ _ ?_ ?_; (simp <;> omega))))
    have u1 : ((w.alloc (.cells #[.slice A n c, .slice A' m c'] 49)).alloc (.cells #[.int .i64 a, .int .i64 b, .float .f32 ra, .float .f32 rb, .float .f32 rc, .float .f32 rd] 96)).heap[w.heap.size + 1]? = some (.cells #[.int .i64 a, .int .i64 b, .float .f32 ra, .float .f32 rb, .float .f32 rc, .float .f32 rd] 96 (0, 0)) := by (repeat (first | (refine heap_top _ _ _ ?_; simp; done) | (with_reducible refine heap_drawn _ _ _ ?_) | (with_reducible refine heap_under _ _ _ ?_ ?_; (simp <;> omega))))
    have hA := Lib.hid fun w1 (h : Stays ((w.alloc (.cells #[.slice A n c, .slice A' m c'] 49)).alloc (.cells #[.int .i64 a, .int .i64 b, .float .f32 ra, .float .f32 rb, .float .f32 rc, .float .f32 rd] 96)) w1) => row_of h u0
    have hA' := Lib.hid fun w1 (h : Stays ((w.alloc (.cells #[.slice A n c, .slice A' m c'] 49)).alloc (.cells #[.int .i64 a, .int .i64 b, .float .f32 ra, .float .f32 rb, .float .f32 rc, .float .f32 rd] 96)) w1) => row_of h u1
    clear u0 u1
    have hS : Stays ((w.alloc (.cells #[.slice A n c, .slice A' m c'] 49)).alloc (.cells #[.int .i64 a, .int .i64 b, .float .f32 ra, .float .f32 rb, .float .f32 rc, .float .f32 rd] 96)) ((w.alloc (.cells #[.slice A n c, .slice A' m c'] 49)).alloc (.cells #[.int .i64 a, .int .i64 b, .float .f32 ra, .float .f32 rb, .float .f32 rc, .float .f32 rd] 96)) := Stays.refl _
    have hc := hA.out _ hS
    have hc' := hA'.out _ hS
    cases h1 : decide (0 ≤ a ∧ a ≤ (n : Int) - 1) with
    | false =>
      replace h1 := Lib.hid h1
      have k1 : Hid (∀ W, Calls Tryd.prog 93 #[.agg #[.slice A n c, .slice A' m c'], .int .i64 a] W fun e w' => e = .returned (.bool false) ∧ Stays W w') := Lib.hid fun W => (c_hasPose A A' c c' n m a W).mono fun e w' he => ⟨he.1.trans (by rw [h1.out]), he.2⟩
      go_enter Tryd.func70, Tryd.ntmps70
      go_wp2_with (first
        | (go_at_call 93; with_reducible refine (k1.out _).mono ?_; rintro e w1 ⟨rfl, hw1⟩; replace hS := Stays.trans hS (show Stays _ _ from hw1); clear hw1 hc hc'; have hc := hA.out _ hS; have hc' := hA'.out _ hS)
        | (go_at_call 94; refine (hf.out _).mono ?_; rintro e w1 ⟨rfl, hw1⟩; replace hS := Stays.trans hS (show Stays _ _ from hw1); clear hw1 hc hc'; have hc := hA.out _ hS; have hc' := hA'.out _ hS)
        | (go_at_call 57; refine (hp.out _).mono ?_; rintro e w1 ⟨rfl, hw1⟩; replace hS := Stays.trans hS (show Stays _ _ from hw1); clear hw1 hc hc'; have hc := hA.out _ hS; have hc' := hA'.out _ hS))
      go_ret
      exact ⟨ret_b (by simp [h1.out]), Stays.trans (show Stays w _ from by (repeat (first | exact Stays.refl _ | (with_reducible refine Stays.drewN ?_ _) | (with_reducible refine Stays.alloc ?_ _) | (with_reducible refine Stays.drew ?_) | (refine Stays.trans ?_ ‹Stays _ _›)))) hS⟩
    | true =>
      replace h1 := Lib.hid h1
      have k1 : Hid (∀ W, Calls Tryd.prog 93 #[.agg #[.slice A n c, .slice A' m c'], .int .i64 a] W fun e w' => e = .returned (.bool true) ∧ Stays W w') := Lib.hid fun W => (c_hasPose A A' c c' n m a W).mono fun e w' he => ⟨he.1.trans (by rw [h1.out]), he.2⟩
      cases h2 : decide (0 ≤ b ∧ b ≤ (n : Int) - 1) with
      | false =>
        replace h2 := Lib.hid h2
        have k2 : Hid (∀ W, Calls Tryd.prog 93 #[.agg #[.slice A n c, .slice A' m c'], .int .i64 b] W fun e w' => e = .returned (.bool false) ∧ Stays W w') := Lib.hid fun W => (c_hasPose A A' c c' n m b W).mono fun e w' he => ⟨he.1.trans (by rw [h2.out]), he.2⟩
        go_enter Tryd.func70, Tryd.ntmps70
        go_wp2_with (first
          | (go_at_call 93; with_reducible refine (k1.out _).mono ?_; rintro e w1 ⟨rfl, hw1⟩; replace hS := Stays.trans hS (show Stays _ _ from hw1); clear hw1 hc hc'; have hc := hA.out _ hS; have hc' := hA'.out _ hS)
          | (go_at_call 93; with_reducible refine (k2.out _).mono ?_; rintro e w1 ⟨rfl, hw1⟩; replace hS := Stays.trans hS (show Stays _ _ from hw1); clear hw1 hc hc'; have hc := hA.out _ hS; have hc' := hA'.out _ hS)
          | (go_at_call 94; refine (hf.out _).mono ?_; rintro e w1 ⟨rfl, hw1⟩; replace hS := Stays.trans hS (show Stays _ _ from hw1); clear hw1 hc hc'; have hc := hA.out _ hS; have hc' := hA'.out _ hS)
          | (go_at_call 57; refine (hp.out _).mono ?_; rintro e w1 ⟨rfl, hw1⟩; replace hS := Stays.trans hS (show Stays _ _ from hw1); clear hw1 hc hc'; have hc := hA.out _ hS; have hc' := hA'.out _ hS))
        go_ret
        exact ⟨ret_b (by simp [h1.out, h2.out]), Stays.trans (show Stays w _ from by (repeat (first | exact Stays.refl _ | (with_reducible refine Stays.drewN ?_ _) | (with_reducible refine Stays.alloc ?_ _) | (with_reducible refine Stays.drew ?_) | (refine Stays.trans ?_ ‹Stays _ _›)))) hS⟩
      | true =>
        replace h2 := Lib.hid h2
        have k2 : Hid (∀ W, Calls Tryd.prog 93 #[.agg #[.slice A n c, .slice A' m c'], .int .i64 b] W fun e w' => e = .returned (.bool true) ∧ Stays W w') := Lib.hid fun W => (c_hasPose A A' c c' n m b W).mono fun e w' he => ⟨he.1.trans (by rw [h2.out]), he.2⟩
        by_cases hab : a = b
        · subst hab
          go_enter Tryd.func70, Tryd.ntmps70
          go_wp2_with (first
            | (go_at_call 93; with_reducible refine (k1.out _).mono ?_; rintro e w1 ⟨rfl, hw1⟩; replace hS := Stays.trans hS (show Stays _ _ from hw1); clear hw1 hc hc'; have hc := hA.out _ hS; have hc' := hA'.out _ hS)
            | (go_at_call 93; with_reducible refine (k2.out _).mono ?_; rintro e w1 ⟨rfl, hw1⟩; replace hS := Stays.trans hS (show Stays _ _ from hw1); clear hw1 hc hc'; have hc := hA.out _ hS; have hc' := hA'.out _ hS)
            | (go_at_call 94; refine (hf.out _).mono ?_; rintro e w1 ⟨rfl, hw1⟩; replace hS := Stays.trans hS (show Stays _ _ from hw1); clear hw1 hc hc'; have hc := hA.out _ hS; have hc' := hA'.out _ hS)
            | (go_at_call 57; refine (hp.out _).mono ?_; rintro e w1 ⟨rfl, hw1⟩; replace hS := Stays.trans hS (show Stays _ _ from hw1); clear hw1 hc hc'; have hc := hA.out _ hS; have hc' := hA'.out _ hS))
          go_ret
          exact ⟨ret_b (by simp [h1.out, h2.out]), Stays.trans (show Stays w _ from by (repeat (first | exact Stays.refl _ | (with_reducible refine Stays.drewN ?_ _) | (with_reducible refine Stays.alloc ?_ _) | (with_reducible refine Stays.drew ?_) | (refine Stays.trans ?_ ‹Stays _ _›)))) hS⟩
        · have q1 : (a == b) = false := by simp [hab]
          have q2 : (a != b) = true := by simp [hab]
          cases bf with
          | false =>
            go_enter Tryd.func70, Tryd.ntmps70
            go_wp2_with (first
              | (go_at_call 93; with_reducible refine (k1.out _).mono ?_; rintro e w1 ⟨rfl, hw1⟩; replace hS := Stays.trans hS (show Stays _ _ from hw1); clear hw1 hc hc'; have hc := hA.out _ hS; have hc' := hA'.out _ hS)
              | (go_at_call 93; with_reducible refine (k2.out _).mono ?_; rintro e w1 ⟨rfl, hw1⟩; replace hS := Stays.trans hS (show Stays _ _ from hw1); clear hw1 hc hc'; have hc := hA.out _ hS; have hc' := hA'.out _ hS)
              | (go_at_call 94; refine (hf.out _).mono ?_; rintro e w1 ⟨rfl, hw1⟩; replace hS := Stays.trans hS (show Stays _ _ from hw1); clear hw1 hc hc'; have hc := hA.out _ hS; have hc' := hA'.out _ hS)
              | (go_at_call 57; refine (hp.out _).mono ?_; rintro e w1 ⟨rfl, hw1⟩; replace hS := Stays.trans hS (show Stays _ _ from hw1); clear hw1 hc hc'; have hc := hA.out _ hS; have hc' := hA'.out _ hS))
            go_ret
            exact ⟨ret_b (by simp [h1.out, h2.out, hab]), Stays.trans (show Stays w _ from by (repeat (first | exact Stays.refl _ | (with_reducible refine Stays.drewN ?_ _) | (with_reducible refine Stays.alloc ?_ _) | (with_reducible refine Stays.drew ?_) | (refine Stays.trans ?_ ‹Stays _ _›)))) hS⟩
          | true =>
            cases bp with
            | false =>
              go_enter Tryd.func70, Tryd.ntmps70
              go_wp2_with (first
                | (go_at_call 93; with_reducible refine (k1.out _).mono ?_; rintro e w1 ⟨rfl, hw1⟩; replace hS := Stays.trans hS (show Stays _ _ from hw1); clear hw1 hc hc'; have hc := hA.out _ hS; have hc' := hA'.out _ hS)
                | (go_at_call 93; with_reducible refine (k2.out _).mono ?_; rintro e w1 ⟨rfl, hw1⟩; replace hS := Stays.trans hS (show Stays _ _ from hw1); clear hw1 hc hc'; have hc := hA.out _ hS; have hc' := hA'.out _ hS)
                | (go_at_call 94; refine (hf.out _).mono ?_; rintro e w1 ⟨rfl, hw1⟩; replace hS := Stays.trans hS (show Stays _ _ from hw1); clear hw1 hc hc'; have hc := hA.out _ hS; have hc' := hA'.out _ hS)
                | (go_at_call 57; refine (hp.out _).mono ?_; rintro e w1 ⟨rfl, hw1⟩; replace hS := Stays.trans hS (show Stays _ _ from hw1); clear hw1 hc hc'; have hc := hA.out _ hS; have hc' := hA'.out _ hS))
              go_ret
              exact ⟨ret_b (by simp [h1.out, h2.out, hab]), Stays.trans (show Stays w _ from by (repeat (first | exact Stays.refl _ | (with_reducible refine Stays.drewN ?_ _) | (with_reducible refine Stays.alloc ?_ _) | (with_reducible refine Stays.drew ?_) | (refine Stays.trans ?_ ‹Stays _ _›)))) hS⟩
            | true =>
              go_enter Tryd.func70, Tryd.ntmps70
              go_wp2_with (first
                | (go_at_call 93; with_reducible refine (k1.out _).mono ?_; rintro e w1 ⟨rfl, hw1⟩; replace hS := Stays.trans hS (show Stays _ _ from hw1); clear hw1 hc hc'; have hc := hA.out _ hS; have hc' := hA'.out _ hS)
                | (go_at_call 93; with_reducible refine (k2.out _).mono ?_; rintro e w1 ⟨rfl, hw1⟩; replace hS := Stays.trans hS (show Stays _ _ from hw1); clear hw1 hc hc'; have hc := hA.out _ hS; have hc' := hA'.out _ hS)
                | (go_at_call 94; refine (hf.out _).mono ?_; rintro e w1 ⟨rfl, hw1⟩; replace hS := Stays.trans hS (show Stays _ _ from hw1); clear hw1 hc hc'; have hc := hA.out _ hS; have hc' := hA'.out _ hS)
                | (go_at_call 57; refine (hp.out _).mono ?_; rintro e w1 ⟨rfl, hw1⟩; replace hS := Stays.trans hS (show Stays _ _ from hw1); clear hw1 hc hc'; have hc := hA.out _ hS; have hc' := hA'.out _ hS))
              go_ret
              exact ⟨ret_b (by simp [h1.out, h2.out, hab]), Stays.trans (show Stays w _ from by (repeat (first | exact Stays.refl _ | (with_reducible refine Stays.drewN ?_ _) | (with_reducible refine Stays.alloc ?_ _) | (with_reducible refine Stays.drew ?_) | (refine Stays.trans ?_ ‹Stays _ _›)))) hS⟩

set_option maxRecDepth 100000 in
set_option maxHeartbeats 400000 in
theorem c_areFinitePoses (A : Option Addr) (c : Nat) (xs : List (List NV)) (w : World) (h : Ls KPose 3 w w.heap.size A xs) (hn : xs.length ≤ 1048576) :
    Calls Tryd.prog 71 #[.slice A xs.length c] w fun e w' => e = .returned (.bool (xs.all finP)) ∧ Below w.heap.size w w' := by
  have H := Lib.hid h
  clear h
  go_enter Tryd.func71, Tryd.ntmps71
  go_wp2
  go_loopw [7] (fun i wr => ∃ k : Nat, k ≤ xs.length ∧ i = .int .i64 k ∧ Hid (Below w.heap.size w wr) ∧ Hid ((xs.take k).all finP = true)) (fun i _ => xs.length - (intOf i).toNat)
  case atStart => exact ⟨0, Nat.zero_le _, rfl, Lib.hid (Below.refl _ _), Lib.hid (by simp)⟩
  case round =>
    obtain ⟨k, hk, rfl, hb, ha⟩ := hrel
    by_cases hlt : k < xs.length
    · obtain ⟨ad, rfl, hbl, hrow⟩ := (H.out.below hb.out) k xs[k] (List.getElem?_eq_getElem hlt)
      have hrk := List.getElem?_eq_getElem hlt
      generalize xs[k] = r at hrow hrk
      obtain ⟨c0, c1, c2, hK, g0, g1, g2⟩ := row3 rfl hrow
      obtain ⟨ra, rb, rc, e⟩ := pose_cells hK
      cases e
      have hf := fun W => c_IsFinitePose (.agg #[.float .f32 ra, .float .f32 rb, .float .f32 rc]) r W ⟨_, rfl, hK⟩
      have nx : Hid (finP r = true → Hid ((xs.take (k + 1)).all finP = true)) := Lib.hid fun h => Lib.hid (all_next ha.out hrk h)
      have bd : Hid (finP r = false → xs.all finP = false) := Lib.hid fun h => all_bad hrk h
      generalize finP r = bf at hf nx bd
      replace hf := Lib.hid hf
      clear hK hrow hrk
      have hlt' : (k : Int) < (xs.length : Int) := by omega
      cases bf with
      | true =>
        go_wp2_with (go_at_call 94; refine (hf.out _).mono ?_; rintro e w1 ⟨rfl, hw1⟩; have hb2 := Lib.hid (show Below w.heap.size w w1 from hb.out.trans (((show Stays wr _ from by (repeat (first | exact Stays.refl _ | (with_reducible refine Stays.drewN ?_ _) | (with_reducible refine Stays.alloc ?_ _) | (with_reducible refine Stays.drew ?_) | (refine Stays.trans ?_ ‹Stays _ _›)))).trans hw1).mono hb.out.size)); clear hw1)
        go_roundw
        case rel => exact ⟨k + 1, by omega, by go_num, hb2, nx.out (by simp)⟩
        case measure => simp [intOf]; omega
      | false =>
        go_wp2_with (go_at_call 94; refine (hf.out _).mono ?_; rintro e w1 ⟨rfl, hw1⟩; have hb2 := Lib.hid (show Below w.heap.size w w1 from hb.out.trans (((show Stays wr _ from by (repeat (first | exact Stays.refl _ | (with_reducible refine Stays.drewN ?_ _) | (with_reducible refine Stays.alloc ?_ _) | (with_reducible refine Stays.drew ?_) | (refine Stays.trans ?_ ‹Stays _ _›)))).trans hw1).mono hb.out.size)); clear hw1)
        go_ret
        exact ⟨ret_b (bd.out (by simp)).symm, hb2.out⟩
    · have fin := Lib.hid (all_end ha.out (by omega))
      go_wp2
      go_ret
      exact ⟨ret_b fin.out.symm, hb.out⟩
end Go.Proofs.YtpccnejchbachaaDoor
