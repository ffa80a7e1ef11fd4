/- Graphs: whether two are the same: poses, links, lists of both. No condition. -/
import Derived.Test.YtfjchhfoefgldaaGrA
import Derived.Test.YtfjchhfoefgldaaGv
import Derived.Test.YtfjchhfoefgldaaOSam
import Derived.Test.YtfjchhfoefgldaaA1
namespace Go.Proofs.Ytfjchhfoefgldaa
open Go Go.RowKit
set_option linter.unusedVariables false
set_option linter.unusedSimpArgs false

theorem calls_row2B {Φ : Syms} {e : Opq} {K : List Kd} (h : OpqOK Try.prog Φ e) (h0 : e.ext = 0) (h1 : e.same = false) (ha : e.args = [.agg K, .agg K]) (hr : e.res = .p (.one .b)) (u1 u2 : Value) (p q : List NV) (w : World) (hp : ShM (.agg K) u1 p) (hq : ShM (.agg K) u2 q) :
    Calls Try.prog e.f #[u1, u2] w fun en w' => en = .returned (.bool (Φ (e.sym * 64 + 0) (p ++ q)).gb) ∧ Stays w w' := by
  have := opq_symR h h0 h1 #[u1, u2] (p ++ q) w (by rw [ha]; exact ⟨_, _, rfl, hp, _, [], by simp, hq, rfl⟩)
  refine this.mono ?_
  rintro en w' ⟨v', rfl, hm, hs⟩
  rw [hr] at hm
  obtain ⟨n, hn, hb⟩ := hm
  cases hn
  exact ⟨congrArg _ hb, hs⟩

noncomputable def samP (p q : List NV) : Bool := (oSam.Φ (16 * 64 + 0) (p ++ q)).gb
def sameN (a b : NV) : Bool := a.gf == b.gf
theorem sameN_of {a b : NV} {x y : Nat} (h : FIs .f32 x a.gf) (h' : FIs .f32 y b.gf) : same x y = sameN a b := by unfold same sameN; rw [h.out, h'.out]

theorem c_l06SamePose (u1 u2 : Value) (p q : List NV) (hp : ShM (.agg KPose) u1 p) (hq : ShM (.agg KPose) u2 q) (w : World) : Calls Try.prog 43 #[u1, u2] w fun e w' => e = .returned (.bool (samP p q)) ∧ Stays w w' :=
  calls_row2B oSam.okS rfl rfl rfl rfl u1 u2 p q w hp hq
theorem c_SamePose (u1 u2 : Value) (p q : List NV) (hp : ShM (.agg KPose) u1 p) (hq : ShM (.agg KPose) u2 q) (w : World) : Calls Try.prog 17 #[u1, u2] w fun e w' => e = .returned (.bool (samP p q)) ∧ Stays w w' :=
  calls_row2B oSam.okI rfl rfl rfl rfl u1 u2 p q w hp hq

noncomputable def linkS (r s : List NV) : Bool := ((r.getD 0 (.i 0)).gi == (s.getD 0 (.i 0)).gi && (r.getD 1 (.i 0)).gi == (s.getD 1 (.i 0)).gi) && (samP ((r.drop 2).take 3) ((s.drop 2).take 3) && sameN (r.getD 5 (.i 0)) (s.getD 5 (.i 0)))

def pairB (S : List NV → List NV → Bool) (xs ys : List (List NV)) : Bool := decide (xs.length = ys.length) && (List.range xs.length).all fun k => S (xs.getD k []) (ys.getD k [])

section
variable {S : List NV → List NV → Bool} {xs ys : List (List NV)} {k : Nat} {r s : List NV}
theorem pair_len (h : xs.length ≠ ys.length) : pairB S xs ys = false := by unfold pairB; rw [decide_eq_false h]; rfl
theorem pair_bad (hr : xs[k]? = some r) (hs : ys[k]? = some s) (h : S r s = false) : pairB S xs ys = false := by
  unfold pairB
  refine Bool.eq_false_iff.2 fun hb => ?_
  simp only [Bool.and_eq_true] at hb
  have := List.all_eq_true.1 hb.2 k (by simpa using (List.getElem?_eq_some_iff.1 hr).1)
  simp only [List.getD_eq_getElem?_getD, hr, hs, Option.getD_some, h] at this
  cases this
theorem pair_end (hl : xs.length = ys.length) (h : ∀ j r s, j < k → xs[j]? = some r → ys[j]? = some s → S r s = true) (hk : xs.length ≤ k) : pairB S xs ys = true := by
  unfold pairB
  rw [decide_eq_true hl, Bool.true_and]
  refine List.all_eq_true.2 fun j hj => ?_
  have hj : j < xs.length := by simpa using hj
  rw [List.getD_eq_getElem?_getD, List.getD_eq_getElem?_getD, List.getElem?_eq_getElem hj, List.getElem?_eq_getElem (by omega)]
  exact h j _ _ (by omega) (List.getElem?_eq_getElem hj) (List.getElem?_eq_getElem (by omega))
theorem pair_next (h : ∀ j r s, j < k → xs[j]? = some r → ys[j]? = some s → S r s = true) (hr : xs[k]? = some r) (hs : ys[k]? = some s) (hb : S r s = true) : ∀ j r s, j < k + 1 → xs[j]? = some r → ys[j]? = some s → S r s = true := fun j r' s' hj h1 h2 => by
  by_cases e : j = k
  · subst e
    rw [hr] at h1; rw [hs] at h2
    cases h1; cases h2
    exact hb
  · exact h j r' s' (by omega) h1 h2
end

theorem pose_floats {cs : List Value} {r : List NV} (h : KMs KPose cs r) : ∃ ra rb rc, cs = [.float .f32 ra, .float .f32 rb, .float .f32 rc] := by
  have hl := KMs_len h
  have hr := KMs_rlen h
  match cs, r, hl, hr, h with
  | [c0, c1, c2], [n0, n1, n2], _, _, ⟨⟨ra, h0, _⟩, ⟨rb, h1, _⟩, ⟨rc, h2, _⟩, _⟩ =>
    subst h0 h1 h2
    exact ⟨ra, rb, rc, rfl⟩

set_option maxRecDepth 100000 in
set_option maxHeartbeats 400000 in
theorem c_eqfPose (A A' : Option Addr) (c c' : Nat) (xs ys : List (List NV)) (w : World) (h : Ls KPose 3 w w.heap.size A xs) (h' : Ls KPose 3 w w.heap.size A' ys) (hn : xs.length ≤ 1048576) (hm : ys.length ≤ 1048576) :
    Calls Try.prog 61 #[.slice A xs.length c, .slice A' ys.length c', .func (.func 17) #[] #[]] w fun e w' => e = .returned (.bool (pairB samP xs ys)) ∧ Below w.heap.size w w' := by
  have H := Lib.hid h
  have H' := Lib.hid h'
  clear h h'
  by_cases hl : xs.length = ys.length
  · rw [← hl]
    replace hl := Lib.hid hl
    go_enter Try.func61, Try.ntmps61
    go_wp2
    go_loopw [17] (fun i wr => ∃ k : Nat, k ≤ xs.length ∧ i = .int .i64 k ∧ Hid (Below w.heap.size w wr) ∧ Hid (∀ j r s, j < k → xs[j]? = some r → ys[j]? = some s → samP r s = true)) (fun i _ => xs.length - (intOf i).toNat)
    case atStart => exact ⟨0, Nat.zero_le _, rfl, Lib.hid (Below.refl _ _), Lib.hid fun j r s hj => by omega⟩
    case round =>
      obtain ⟨k, hk, rfl, hb, ha⟩ := hrel
      by_cases hlt : k < xs.length
      · obtain ⟨ad, rfl, hbl, hrow⟩ := (H.out.below hb.out) k xs[k] (List.getElem?_eq_getElem hlt)
        obtain ⟨ad', rfl, hbl', hrow'⟩ := (H'.out.below hb.out) k (ys[k]'(by have := hl.out; omega)) (List.getElem?_eq_getElem (by have := hl.out; omega))
        have hrk := List.getElem?_eq_getElem hlt
        have hsk : ys[k]? = some (ys[k]'(by have := hl.out; omega)) := List.getElem?_eq_getElem (by have := hl.out; omega)
        generalize xs[k] = r at hrow hrk
        generalize ys[k]'(by have := hl.out; omega) = s at hrow' hsk
        obtain ⟨c0, c1, c2, hK, g0, g1, g2⟩ := row3 rfl hrow
        obtain ⟨d0, d1, d2, hK', k0, k1, k2⟩ := row3 rfl hrow'
        have hf := fun W => c_SamePose (.agg #[c0, c1, c2]) (.agg #[d0, d1, d2]) r s ⟨_, rfl, hK⟩ ⟨_, rfl, hK'⟩ W
        obtain ⟨ra, rb, rc, e⟩ := pose_floats hK
        cases e
        obtain ⟨sa, sb, sc, e⟩ := pose_floats hK'
        cases e
        have nx : Hid (samP r s = true → Hid (∀ j r s, j < k + 1 → xs[j]? = some r → ys[j]? = some s → samP r s = true)) := Lib.hid fun h => Lib.hid (pair_next ha.out hrk hsk h)
        have bd : Hid (samP r s = false → pairB samP xs ys = false) := Lib.hid fun h => pair_bad hrk hsk h
        generalize samP r s = bf at hf nx bd
        replace hf := Lib.hid hf
        have hd := World.block_lt_of_cell? _ _ k0
        have hd' : (ad'.add (k * 3)).block < wr.heap.size := hd
        have x0 : ∀ o, (wr.alloc o).cell? (ad'.add (k * 3)) = some (.float .f32 sa) := fun o => (World.cell?_alloc_lt wr o _ hd').trans k0
        have x1 : ∀ o, (wr.alloc o).cell? ⟨(ad'.add (k * 3)).block, (ad'.add (k * 3)).off + 1, none⟩ = some (.float .f32 sb) := fun o => (World.cell?_alloc_lt wr o ⟨(ad'.add (k * 3)).block, (ad'.add (k * 3)).off + 1, none⟩ hd').trans k1
        have x2 : ∀ o, (wr.alloc o).cell? ⟨(ad'.add (k * 3)).block, (ad'.add (k * 3)).off + 2, none⟩ = some (.float .f32 sc) := fun o => (World.cell?_alloc_lt wr o ⟨(ad'.add (k * 3)).block, (ad'.add (k * 3)).off + 2, none⟩ hd').trans k2
        clear hK hrow hrk hK' hrow' hsk hd hd'
        have hlt' : (k : Int) < (xs.length : Int) := by omega
        cases bf with
        | true =>
          go_wp2_with (go_at_call 17; refine (hf.out _).mono ?_; rintro e w1 ⟨rfl, hw1⟩; have hb2 := Lib.hid (show Below w.heap.size w w1 from hb.out.trans (((show Stays wr _ from by (repeat (first | exact Stays.refl _ | (with_reducible refine Stays.drewN ?_ _) | (with_reducible refine Stays.alloc ?_ _) | (with_reducible refine Stays.drew ?_) | (refine Stays.trans ?_ ‹Stays _ _›)))).trans hw1).mono hb.out.size)); clear hw1)
          go_round
          case rel => exact ⟨k + 1, by omega, by go_num, hb2, nx.out (by simp)⟩
          case measure => simp [intOf]; omega
        | false =>
          go_wp2_with (go_at_call 17; refine (hf.out _).mono ?_; rintro e w1 ⟨rfl, hw1⟩; have hb2 := Lib.hid (show Below w.heap.size w w1 from hb.out.trans (((show Stays wr _ from by (repeat (first | exact Stays.refl _ | (with_reducible refine Stays.drewN ?_ _) | (with_reducible refine Stays.alloc ?_ _) | (with_reducible refine Stays.drew ?_) | (refine Stays.trans ?_ ‹Stays _ _›)))).trans hw1).mono hb.out.size)); clear hw1)
          go_ret
          exact ⟨ret_b (bd.out (by simp)).symm, hb2.out⟩
      · have fin := Lib.hid (pair_end hl.out ha.out (by omega))
        go_wp2
        go_ret
        exact ⟨ret_b fin.out.symm, hb.out⟩
  · have hl1 : ¬ ((xs.length : Nat) : Int) = (ys.length : Nat) := by omega
    have hl2 : (((xs.length : Nat) : Int) != (ys.length : Nat)) = true := by simpa using hl1
    have fin := Lib.hid (pair_len (S := samP) hl)
    go_enter Try.func61, Try.ntmps61
    go_wp2
    go_ret
    exact ⟨ret_b fin.out.symm, Below.refl _ _⟩
end Go.Proofs.Ytfjchhfoefgldaa
