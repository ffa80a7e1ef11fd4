/- Graphs: whether two are the same: links, lists of them. No condition. -/
import Derived.Test.YtfjchhfoefgldaaPa
namespace Go.Proofs.Ytfjchhfoefgldaa
open Go Go.RowKit
set_option linter.unusedVariables false
set_option linter.unusedSimpArgs false

theorem link_flat {cs : List Value} {r : List NV} (h : KMs KLink cs r) : ∃ a b ra rb rc rd, cs = [.int .i64 a, .int .i64 b, .float .f32 ra, .float .f32 rb, .float .f32 rc, .float .f32 rd] := by
  have hl := KMs_len h
  have hr := KMs_rlen h
  match cs, r, hl, hr, h with
  | [c0, c1, c2, c3, c4, c5], [n0, n1, n2, n3, n4, n5], _, _, ⟨h0, h1, ⟨ra, h2, _⟩, ⟨rb, h3, _⟩, ⟨rc, h4, _⟩, ⟨rd, h5, _⟩, _⟩ =>
    have h0 : c0 = .int .i64 n0.gi := h0
    have h1 : c1 = .int .i64 n1.gi := h1
    subst h0 h1 h2 h3 h4 h5
    exact ⟨_, _, ra, rb, rc, rd, rfl⟩

set_option maxRecDepth 100000 in
set_option maxHeartbeats 800000 in
theorem c_linkSame (u1 u2 : Value) (r s : List NV) (hr : ShM (.agg KLink) u1 r) (hs : ShM (.agg KLink) u2 s) (w : World) : Calls Try.prog 63 #[u1, u2] w fun e w' => e = .returned (.bool (linkS r s)) ∧ Stays w w' := by
  obtain ⟨⟨l⟩, rfl, h⟩ := hr
  obtain ⟨⟨l'⟩, rfl, h'⟩ := hs
  have hl := KMs_len h
  have hlen := KMs_rlen h
  have hl' := KMs_len h'
  have hlen' := KMs_rlen h'
  match l, r, hl, hlen, h, l', s, hl', hlen', h' with
  | [c0, c1, c2, c3, c4, c5], [n0, n1, n2, n3, n4, n5], _, _, ⟨k0, k1, ⟨ra, k2, fa⟩, ⟨rb, k3, fb⟩, ⟨rc, k4, fc⟩, ⟨rd, k5, fd⟩, _⟩, [d0, d1, d2, d3, d4, d5], [m0, m1, m2, m3, m4, m5], _, _, ⟨q0, q1, ⟨sa, q2, ga⟩, ⟨sb, q3, gb⟩, ⟨sc, q4, gc⟩, ⟨sd, q5, gd⟩, _⟩ =>
    have k0 : c0 = .int .i64 n0.gi := k0
    have k1 : c1 = .int .i64 n1.gi := k1
    have q0 : d0 = .int .i64 m0.gi := q0
    have q1 : d1 = .int .i64 m1.gi := q1
    subst k0 k1 k2 k3 k4 k5 q0 q1 q2 q3 q4 q5
    have hP := fun W => c_SamePose (.agg #[.float .f32 ra, .float .f32 rb, .float .f32 rc]) (.agg #[.float .f32 sa, .float .f32 sb, .float .f32 sc]) [n2, n3, n4] [m2, m3, m4] ⟨_, rfl, ⟨ra, rfl, fa⟩, ⟨rb, rfl, fb⟩, ⟨rc, rfl, fc⟩, trivial⟩ ⟨_, rfl, ⟨sa, rfl, ga⟩, ⟨sb, rfl, gb⟩, ⟨sc, rfl, gc⟩, trivial⟩ W
    have hN : ∀ W : World, Calls Try.prog 85 #[.float .f32 rd, .float .f32 sd] W fun e w' => e = .returned (.bool (sameN n5 m5)) ∧ Stays W w' := fun W => (c_implSameNumber rd sd W).mono fun e w' he => ⟨he.1.trans (by rw [sameN_of fd gd]), he.2 ▸ Stays.refl _⟩
    clear fa fb fc fd ga gb gc gd h h'
    unfold linkS
    simp only [List.getD_cons_zero, List.getD_cons_succ, List.drop_succ_cons, List.drop_zero, List.take_succ_cons, List.take_zero]
    generalize n0.gi = a
    generalize n1.gi = b
    generalize m0.gi = a'
    generalize m1.gi = b'
    generalize samP [n2, n3, n4] [m2, m3, m4] = bp at hP ⊢
    generalize sameN n5 m5 = bn at hN ⊢
    replace hP := Lib.hid hP
    replace hN := Lib.hid hN
    have u0 : ((w.alloc (.cells #[.int .i64 a, .int .i64 b, .float .f32 ra, .float .f32 rb, .float .f32 rc, .float .f32 rd] 69)).alloc (.cells #[.int .i64 a', .int .i64 b', .float .f32 sa, .float .f32 sb, .float .f32 sc, .float .f32 sd] 69)).heap[w.heap.size]? = some (.cells #[.int .i64 a, .int .i64 b, .float .f32 ra, .float .f32 rb, .float .f32 rc, .float .f32 rd] 69 (0, 0)) := by (repeat (first | (refine heap_top _ _ _ ?_; simp; done) | (with_reducible refine heap_drawn _ _ _ ?_) | (with_reducible refine heap_under _ _ _ ?_ ?_; (simp <;> omega))))
    have u1 : ((w.alloc (.cells #[.int .i64 a, .int .i64 b, .float .f32 ra, .float .f32 rb, .float .f32 rc, .float .f32 rd] 69)).alloc (.cells #[.int .i64 a', .int .i64 b', .float .f32 sa, .float .f32 sb, .float .f32 sc, .float .f32 sd] 69)).heap[w.heap.size + 1]? = some (.cells #[.int .i64 a', .int .i64 b', .float .f32 sa, .float .f32 sb, .float .f32 sc, .float .f32 sd] 69 (0, 0)) := by (repeat (first | (refine heap_top _ _ _ ?_; simp; done) | (with_reducible refine heap_drawn _ _ _ ?_) | (with_reducible refine heap_under _ _ _ ?_ ?_; (simp <;> omega))))
    have hA := Lib.hid fun w1 (h : Stays ((w.alloc (.cells #[.int .i64 a, .int .i64 b, .float .f32 ra, .float .f32 rb, .float .f32 rc, .float .f32 rd] 69)).alloc (.cells #[.int .i64 a', .int .i64 b', .float .f32 sa, .float .f32 sb, .float .f32 sc, .float .f32 sd] 69)) w1) => row_of h u0
    have hA' := Lib.hid fun w1 (h : Stays ((w.alloc (.cells #[.int .i64 a, .int .i64 b, .float .f32 ra, .float .f32 rb, .float .f32 rc, .float .f32 rd] 69)).alloc (.cells #[.int .i64 a', .int .i64 b', .float .f32 sa, .float .f32 sb, .float .f32 sc, .float .f32 sd] 69)) w1) => row_of h u1
    clear u0 u1
    have hS : Stays ((w.alloc (.cells #[.int .i64 a, .int .i64 b, .float .f32 ra, .float .f32 rb, .float .f32 rc, .float .f32 rd] 69)).alloc (.cells #[.int .i64 a', .int .i64 b', .float .f32 sa, .float .f32 sb, .float .f32 sc, .float .f32 sd] 69)) ((w.alloc (.cells #[.int .i64 a, .int .i64 b, .float .f32 ra, .float .f32 rb, .float .f32 rc, .float .f32 rd] 69)).alloc (.cells #[.int .i64 a', .int .i64 b', .float .f32 sa, .float .f32 sb, .float .f32 sc, .float .f32 sd] 69)) := Stays.refl _
    have hc := hA.out _ hS
    have hc' := hA'.out _ hS
    by_cases e0 : a = a'
    · subst e0
      by_cases e1 : b = b'
      · subst e1
        cases bp with
        | false =>
          go_enter Try.func63, Try.ntmps63
          go_wp2_with (first
            | (go_at_call 17; refine (hP.out _).mono ?_; rintro e w1 ⟨rfl, hw1⟩; replace hS := Stays.trans hS (show Stays _ _ from hw1); clear hw1 hc hc'; have hc := hA.out _ hS; have hc' := hA'.out _ hS)
            | (go_at_call 85; refine (hN.out _).mono ?_; rintro e w1 ⟨rfl, hw1⟩; replace hS := Stays.trans hS (show Stays _ _ from hw1); clear hw1 hc hc'; have hc := hA.out _ hS; have hc' := hA'.out _ hS))
          go_ret
          exact ⟨ret_b (by simp []), Stays.trans (show Stays w _ from by (repeat (first | exact Stays.refl _ | (with_reducible refine Stays.drewN ?_ _) | (with_reducible refine Stays.alloc ?_ _) | (with_reducible refine Stays.drew ?_) | (refine Stays.trans ?_ ‹Stays _ _›)))) hS⟩
        | true =>
          cases bn with
          | false =>
            go_enter Try.func63, Try.ntmps63
            go_wp2_with (first
              | (go_at_call 17; refine (hP.out _).mono ?_; rintro e w1 ⟨rfl, hw1⟩; replace hS := Stays.trans hS (show Stays _ _ from hw1); clear hw1 hc hc'; have hc := hA.out _ hS; have hc' := hA'.out _ hS)
              | (go_at_call 85; refine (hN.out _).mono ?_; rintro e w1 ⟨rfl, hw1⟩; replace hS := Stays.trans hS (show Stays _ _ from hw1); clear hw1 hc hc'; have hc := hA.out _ hS; have hc' := hA'.out _ hS))
            go_ret
            exact ⟨ret_b (by simp []), Stays.trans (show Stays w _ from by (repeat (first | exact Stays.refl _ | (with_reducible refine Stays.drewN ?_ _) | (with_reducible refine Stays.alloc ?_ _) | (with_reducible refine Stays.drew ?_) | (refine Stays.trans ?_ ‹Stays _ _›)))) hS⟩
          | true =>
            go_enter Try.func63, Try.ntmps63
            go_wp2_with (first
              | (go_at_call 17; refine (hP.out _).mono ?_; rintro e w1 ⟨rfl, hw1⟩; replace hS := Stays.trans hS (show Stays _ _ from hw1); clear hw1 hc hc'; have hc := hA.out _ hS; have hc' := hA'.out _ hS)
              | (go_at_call 85; refine (hN.out _).mono ?_; rintro e w1 ⟨rfl, hw1⟩; replace hS := Stays.trans hS (show Stays _ _ from hw1); clear hw1 hc hc'; have hc := hA.out _ hS; have hc' := hA'.out _ hS))
            go_ret
            exact ⟨ret_b (by simp []), Stays.trans (show Stays w _ from by (repeat (first | exact Stays.refl _ | (with_reducible refine Stays.drewN ?_ _) | (with_reducible refine Stays.alloc ?_ _) | (with_reducible refine Stays.drew ?_) | (refine Stays.trans ?_ ‹Stays _ _›)))) hS⟩
      · have f1 : (b == b') = false := by simp [e1]
        go_enter Try.func63, Try.ntmps63
        go_wp2_with (first
          | (go_at_call 17; refine (hP.out _).mono ?_; rintro e w1 ⟨rfl, hw1⟩; replace hS := Stays.trans hS (show Stays _ _ from hw1); clear hw1 hc hc'; have hc := hA.out _ hS; have hc' := hA'.out _ hS)
          | (go_at_call 85; refine (hN.out _).mono ?_; rintro e w1 ⟨rfl, hw1⟩; replace hS := Stays.trans hS (show Stays _ _ from hw1); clear hw1 hc hc'; have hc := hA.out _ hS; have hc' := hA'.out _ hS))
        go_ret
        exact ⟨ret_b (by simp [e1]), Stays.trans (show Stays w _ from by (repeat (first | exact Stays.refl _ | (with_reducible refine Stays.drewN ?_ _) | (with_reducible refine Stays.alloc ?_ _) | (with_reducible refine Stays.drew ?_) | (refine Stays.trans ?_ ‹Stays _ _›)))) hS⟩
    · have f0 : (a == a') = false := by simp [e0]
      go_enter Try.func63, Try.ntmps63
      go_wp2_with (first
        | (go_at_call 17; refine (hP.out _).mono ?_; rintro e w1 ⟨rfl, hw1⟩; replace hS := Stays.trans hS (show Stays _ _ from hw1); clear hw1 hc hc'; have hc := hA.out _ hS; have hc' := hA'.out _ hS)
        | (go_at_call 85; refine (hN.out _).mono ?_; rintro e w1 ⟨rfl, hw1⟩; replace hS := Stays.trans hS (show Stays _ _ from hw1); clear hw1 hc hc'; have hc := hA.out _ hS; have hc' := hA'.out _ hS))
      go_ret
      exact ⟨ret_b (by simp [e0]), Stays.trans (show Stays w _ from by (repeat (first | exact Stays.refl _ | (with_reducible refine Stays.drewN ?_ _) | (with_reducible refine Stays.alloc ?_ _) | (with_reducible refine Stays.drew ?_) | (refine Stays.trans ?_ ‹Stays _ _›)))) hS⟩

set_option maxRecDepth 100000 in
set_option maxHeartbeats 400000 in
theorem c_eqfLink (A A' : Option Addr) (c c' : Nat) (xs ys : List (List NV)) (w : World) (h : Ls KLink 6 w w.heap.size A xs) (h' : Ls KLink 6 w w.heap.size A' ys) (hn : xs.length ≤ 1048576) (hm : ys.length ≤ 1048576) :
    Calls Try.prog 62 #[.slice A xs.length c, .slice A' ys.length c', .func (.func 63) #[] #[]] w fun e w' => e = .returned (.bool (pairB linkS xs ys)) ∧ Below w.heap.size w w' := by
  have H := Lib.hid h
  have H' := Lib.hid h'
  clear h h'
  by_cases hl : xs.length = ys.length
  · rw [← hl]
    replace hl := Lib.hid hl
    go_enter Try.func62, Try.ntmps62
    go_wp2
    go_loopw [17] (fun i wr => ∃ k : Nat, k ≤ xs.length ∧ i = .int .i64 k ∧ Hid (Below w.heap.size w wr) ∧ Hid (∀ j r s, j < k → xs[j]? = some r → ys[j]? = some s → linkS r s = true)) (fun i _ => xs.length - (intOf i).toNat)
    case atStart => exact ⟨0, Nat.zero_le _, rfl, Lib.hid (Below.refl _ _), Lib.hid fun j r s hj => by omega⟩
    case round =>
      obtain ⟨k, hk, rfl, hb, ha⟩ := hrel
      by_cases hlt : k < xs.length
      · obtain ⟨ad, rfl, hbl, hrow⟩ := (H.out.below hb.out) k xs[k] (List.getElem?_eq_getElem hlt)
        obtain ⟨ad', rfl, hbl', hrow'⟩ := (H'.out.below hb.out) k (ys[k]'(by have := hl.out; omega)) (List.getElem?_eq_getElem (by have := hl.out; omega))
        have hrk := List.getElem?_eq_getElem hlt
        have hsk : ys[k]? = some (ys[k]'(by have := hl.out; omega)) := List.getElem?_eq_getElem (by have := hl.out; omega)
        generalize xs[k] = r at hrow hrk
        generalize ys[k]'(by have := hl.out; omega) = s at hrow' hsk
        obtain ⟨c0, c1, c2, c3, c4, c5, hK, g0, g1, g2, g3, g4, g5⟩ := row6 rfl hrow
        obtain ⟨d0, d1, d2, d3, d4, d5, hK', k0, k1, k2, k3, k4, k5⟩ := row6 rfl hrow'
        have hf := fun W => c_linkSame (.agg #[c0, c1, c2, c3, c4, c5]) (.agg #[d0, d1, d2, d3, d4, d5]) r s ⟨_, rfl, hK⟩ ⟨_, rfl, hK'⟩ W
        obtain ⟨fr, to, ra, rb, rc, rd, e⟩ := link_flat hK
        cases e
        obtain ⟨fr', to', sa, sb, sc, sd, e⟩ := link_flat hK'
        cases e
        have nx : Hid (linkS r s = true → Hid (∀ j r s, j < k + 1 → xs[j]? = some r → ys[j]? = some s → linkS r s = true)) := Lib.hid fun h => Lib.hid (pair_next ha.out hrk hsk h)
        have bd : Hid (linkS r s = false → pairB linkS xs ys = false) := Lib.hid fun h => pair_bad hrk hsk h
        generalize linkS r s = bf at hf nx bd
        replace hf := Lib.hid hf
        have hd := World.block_lt_of_cell? _ _ k0
        have hd' : (ad'.add (k * 6)).block < wr.heap.size := hd
        have x0 : ∀ o, (wr.alloc o).cell? (ad'.add (k * 6)) = some (.int .i64 fr') := fun o => (World.cell?_alloc_lt wr o _ hd').trans k0
        have x1 : ∀ o, (wr.alloc o).cell? ⟨(ad'.add (k * 6)).block, (ad'.add (k * 6)).off + 1, none⟩ = some (.int .i64 to') := fun o => (World.cell?_alloc_lt wr o ⟨(ad'.add (k * 6)).block, (ad'.add (k * 6)).off + 1, none⟩ hd').trans k1
        have x2 : ∀ o, (wr.alloc o).cell? ⟨(ad'.add (k * 6)).block, (ad'.add (k * 6)).off + 2, none⟩ = some (.float .f32 sa) := fun o => (World.cell?_alloc_lt wr o ⟨(ad'.add (k * 6)).block, (ad'.add (k * 6)).off + 2, none⟩ hd').trans k2
        have x3 : ∀ o, (wr.alloc o).cell? ⟨(ad'.add (k * 6)).block, (ad'.add (k * 6)).off + 3, none⟩ = some (.float .f32 sb) := fun o => (World.cell?_alloc_lt wr o ⟨(ad'.add (k * 6)).block, (ad'.add (k * 6)).off + 3, none⟩ hd').trans k3
        have x4 : ∀ o, (wr.alloc o).cell? ⟨(ad'.add (k * 6)).block, (ad'.add (k * 6)).off + 4, none⟩ = some (.float .f32 sc) := fun o => (World.cell?_alloc_lt wr o ⟨(ad'.add (k * 6)).block, (ad'.add (k * 6)).off + 4, none⟩ hd').trans k4
        have x5 : ∀ o, (wr.alloc o).cell? ⟨(ad'.add (k * 6)).block, (ad'.add (k * 6)).off + 5, none⟩ = some (.float .f32 sd) := fun o => (World.cell?_alloc_lt wr o ⟨(ad'.add (k * 6)).block, (ad'.add (k * 6)).off + 5, none⟩ hd').trans k5
        clear hK hrow hrk hK' hrow' hsk hd hd'
        have hlt' : (k : Int) < (xs.length : Int) := by omega
        cases bf with
        | true =>
          go_wp2_with (go_at_call 63; refine (hf.out _).mono ?_; rintro e w1 ⟨rfl, hw1⟩; have hb2 := Lib.hid (show Below w.heap.size w w1 from hb.out.trans (((show Stays wr _ from by (repeat (first | exact Stays.refl _ | (with_reducible refine Stays.drewN ?_ _) | (with_reducible refine Stays.alloc ?_ _) | (with_reducible refine Stays.drew ?_) | (refine Stays.trans ?_ ‹Stays _ _›)))).trans hw1).mono hb.out.size)); clear hw1)
          go_round
          case rel => exact ⟨k + 1, by omega, by go_num, hb2, nx.out (by simp)⟩
          case measure => simp [intOf]; omega
        | false =>
          go_wp2_with (go_at_call 63; refine (hf.out _).mono ?_; rintro e w1 ⟨rfl, hw1⟩; have hb2 := Lib.hid (show Below w.heap.size w w1 from hb.out.trans (((show Stays wr _ from by (repeat (first | exact Stays.refl _ | (with_reducible refine Stays.drewN ?_ _) | (with_reducible refine Stays.alloc ?_ _) | (with_reducible refine Stays.drew ?_) | (refine Stays.trans ?_ ‹Stays _ _›)))).trans hw1).mono hb.out.size)); clear hw1)
          go_ret
          exact ⟨ret_b (bd.out (by simp)).symm, hb2.out⟩
      · have fin := Lib.hid (pair_end hl.out ha.out (by omega))
        go_wp2
        go_ret
        exact ⟨ret_b fin.out.symm, hb.out⟩
  · have hl1 : ¬ ((xs.length : Nat) : Int) = (ys.length : Nat) := by omega
    have hl2 : (((xs.length : Nat) : Int) != (ys.length : Nat)) = true := by simpa using hl1
    have fin := Lib.hid (pair_len (S := linkS) hl)
    go_enter Try.func62, Try.ntmps62
    go_wp2
    go_ret
    exact ⟨ret_b fin.out.symm, Below.refl _ _⟩
end Go.Proofs.Ytfjchhfoefgldaa
