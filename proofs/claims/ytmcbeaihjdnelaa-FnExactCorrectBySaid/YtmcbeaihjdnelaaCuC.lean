/- Curves: whether one is valid, as the program says it. No condition. -/
import Derived.Test.YtmcbeaihjdnelaaCuB
namespace Go.Proofs.Ytmcbeaihjdnelaa
open Go Go.RowKit
set_option linter.unusedVariables false
set_option linter.unusedSimpArgs false

theorem al_next {p : List NV → Bool} {xs : List (List NV)} {k : Nat} {r : List NV} (h : (xs.take k).all p = true) (hr : xs[k]? = some r) (hp : p r = true) : (xs.take (k + 1)).all p = true := by
  have hk := (List.getElem?_eq_some_iff.1 hr).1
  have he := (List.getElem?_eq_some_iff.1 hr).2
  rw [List.take_succ_eq_append_getElem hk, he, List.all_append, h]
  simp [hp]
theorem al_bad {p : List NV → Bool} {xs : List (List NV)} {k : Nat} {r : List NV} (hr : xs[k]? = some r) (hp : p r = false) : xs.all p = false := by
  rw [List.all_eq_false]
  exact ⟨r, List.mem_of_getElem? hr, by rw [hp]; exact Bool.false_ne_true⟩
theorem al_end {p : List NV → Bool} {xs : List (List NV)} {k : Nat} (h : (xs.take k).all p = true) (hk : xs.length ≤ k) : xs.all p = true := by
  rwa [List.take_of_length_le hk] at h

def finF (r : List NV) : Bool := finB (flt r)

set_option maxRecDepth 100000 in
set_option maxHeartbeats 800000 in
theorem c_areFinite (A : Option Addr) (c : Nat) (xs : List (List NV)) (w : World) (h : Ls KFl 1 w w.heap.size A xs) (hn : xs.length ≤ 1048576) :
    Calls Try.prog 120 #[.slice A xs.length c] w fun e w' => e = .returned (.bool (xs.all finF)) ∧ Below w.heap.size w w' := by
  have H := Lib.hid h
  clear h
  go_enter Try.func120, Try.ntmps120
  go_wp2
  go_loopw [7] (fun i wr => ∃ k : Nat, k ≤ xs.length ∧ i = .int .i64 k ∧ Hid (Below w.heap.size w wr) ∧ Hid ((xs.take k).all finF = true)) (fun i _ => xs.length - (intOf i).toNat)
  case atStart => exact ⟨0, Nat.zero_le _, rfl, Lib.hid (Below.refl _ _), Lib.hid (by simp)⟩
  case round =>
    obtain ⟨k, hk, rfl, hb, ha⟩ := hrel
    by_cases hlt : k < xs.length
    · obtain ⟨ad, b, rfl, hbl, hc, hf⟩ := Fl.at_ (H.out.below hb.out) (List.getElem?_eq_getElem hlt)
      have hrk := List.getElem?_eq_getElem hlt
      generalize xs[k] = r at hf hrk
      have kF := fun W => c_isFinite b W
      have nx : Hid (finB (can .f32 b) = true → Hid ((xs.take (k + 1)).all finF = true)) := Lib.hid fun h => Lib.hid (al_next ha.out hrk (by unfold finF; rw [← hf.out]; exact h))
      have bd : Hid (finB (can .f32 b) = false → xs.all finF = false) := Lib.hid fun h => al_bad hrk (by unfold finF; rw [← hf.out]; exact h)
      generalize finB (can .f32 b) = bf at kF nx bd
      replace kF := Lib.hid kF
      have hlt' : (k : Int) < (xs.length : Int) := by omega
      clear hf hrk ha
      cases bf with
      | true =>
        go_wp2_with (go_at_call 128; refine (kF.out _).mono ?_; rintro e w1 ⟨rfl, hw1⟩; have hb2 := Lib.hid (show Below w.heap.size w w1 from hb.out.trans (Below.mono hw1 hb.out.size)); clear hw1)
        go_round
        case rel => exact ⟨k + 1, by omega, by go_num, hb2, nx.out (by simp)⟩
        case measure => simp [intOf]; omega
      | false =>
        go_wp2_with (go_at_call 128; refine (kF.out _).mono ?_; rintro e w1 ⟨rfl, hw1⟩; have hb2 := Lib.hid (show Below w.heap.size w w1 from hb.out.trans (Below.mono hw1 hb.out.size)); clear hw1)
        go_ret
        exact ⟨ret_b (bd.out (by simp)).symm, hb2.out⟩
    · have fin := Lib.hid (al_end ha.out (by omega))
      go_wp2
      go_ret
      exact ⟨ret_b fin.out.symm, hb.out⟩

theorem fl_tail {ad : Addr} {n c : Nat} (h1 : 1 ≤ n) (hc : n ≤ c) : ∃ A', (∀ w, (Instr.slice 61 (.slice (some ad) n c) (some (.int .i64 1)) none none).run Try.prog w = .ok (.slice A' (n - 1) (c - 1)) w) ∧ (1 < n → A' = some (ad.add 1)) := by
  have hsz : ∀ w : World, (sizeOf (Try.prog.elem 61)).run Try.prog w = .ok 1 w := fun w => by kernel_rfl
  have hel : Try.prog.elem 61 = 22 := by kernel_rfl
  refine ⟨if c = 1 then some ad else some (ad.add 1), fun w => ?_, fun h => if_neg (by omega)⟩
  rw [run_slice_l w 61 (some ad) n c (by rw [hel]; exact Try.underlying61) .i64 1 (by decide) (by omega), hsz]
  by_cases h : c = 1
  · subst h; rfl
  · simp [Result.andThen, sliced, h]

theorem fl_next (ad : Addr) (k : Nat) : ad.add (k + 1) = ⟨ad.block, ad.off + 1 + k, none⟩ := by
  unfold Addr.add
  rw [if_neg (by omega), Nat.add_assoc, Nat.add_comm 1 k]

theorem fin_at {xs : List (List NV)} (h : xs.all finF = true) {k : Nat} {r : List NV} (hr : xs[k]? = some r) : finB (flt r) = true := List.all_eq_true.1 h r (List.mem_of_getElem? hr)

set_option maxRecDepth 100000 in
set_option maxHeartbeats 2000000 in
theorem c_implValidCurve (A A' : Option Addr) (c c' : Nat) (us vs : List (List NV)) (w : World) (h : Ls KFl 1 w w.heap.size A us) (h' : Ls KFl 1 w w.heap.size A' vs) (hn : us.length ≤ 1048576) (hm : vs.length ≤ 1048576) (hcap : us.length ≤ c) :
    Calls Try.prog 79 #[.agg #[.slice A us.length c, .slice A' vs.length c']] w fun e w' => e = .returned (.bool (curveB us vs)) ∧ Below w.heap.size w w' := by
  have H := Lib.hid h
  have HB : Hid (∀ w1, Stays (w.alloc (.cells #[.slice A us.length c, .slice A' vs.length c'] 67)) w1 → (w1.cell? ⟨w.heap.size, 0, none⟩ = some (.slice A us.length c) ∧ w1.cell? ⟨w.heap.size, 1, none⟩ = some (.slice A' vs.length c')) ∧ Below w.heap.size w w1) :=
    Lib.hid fun w1 hb => ⟨⟨row_of hb (heap_alloc_new w _) 0, row_of hb (heap_alloc_new w _) 1⟩, (show Stays w _ from by (repeat (first | exact Stays.refl _ | (with_reducible refine Stays.drewN ?_ _) | (with_reducible refine Stays.alloc ?_ _) | (with_reducible refine Stays.drew ?_) | (refine Stays.trans ?_ ‹Stays _ _›)))).trans hb⟩
  have kU := Lib.hid fun W (hb : Below w.heap.size w W) => c_areFinite A c us W ((h.below hb).more hb.size) hn
  have kV := Lib.hid fun W (hb : Below w.heap.size w W) => c_areFinite A' c' vs W ((h'.below hb).more hb.size) hm
  have hS0 := Stays.refl (w.alloc (.cells #[.slice A us.length c, .slice A' vs.length c'] 67))
  obtain ⟨⟨q0, q1⟩, hbw⟩ := HB.out _ hS0
  clear h h'
  by_cases h2 : us.length < 2
  · have fin := Lib.hid (curveB_size (us := us) (vs := vs) fun h => by have := h.1; omega)
    have g2 : ((us.length : Nat) : Int) < 2 := by omega
    go_enter Try.func79, Try.ntmps79
    go_wp2
    go_ret
    exact ⟨ret_b fin.out.symm, hbw⟩
  · have g2 : ¬ ((us.length : Nat) : Int) < 2 := by omega
    by_cases h3 : 32 < us.length
    · have fin := Lib.hid (curveB_size (us := us) (vs := vs) fun h => by have := h.2.1; omega)
      have g3 : ((us.length : Nat) : Int) > 32 := by omega
      go_enter Try.func79, Try.ntmps79
      go_wp2
      go_ret
      exact ⟨ret_b fin.out.symm, hbw⟩
    · have g3 : ¬ ((us.length : Nat) : Int) > 32 := by omega
      by_cases hM : vs.length = us.length
      · have hS := Lib.hid (show sizeC us vs from ⟨by omega, by omega, hM⟩)
        have hM1 : ((vs.length : Nat) : Int) = ((us.length : Nat) : Int) := by omega
        have hM' := Lib.hid hM
        clear hM
        cases hU : us.all finF with
        | false =>
          obtain ⟨r, hr, hp⟩ := List.all_eq_false.1 hU
          obtain ⟨k, hk⟩ := List.mem_iff_getElem?.1 hr
          have fin := Lib.hid (curveB_bad (us := us) (vs := vs) (k := k) fun g => hp (g.1 r hk))
          rw [hU] at kU
          clear hU hr hp hk
          go_enter Try.func79, Try.ntmps79
          go_wp2_with fail
          refine (kU.out _ hbw).mono ?_
          rintro e w1 ⟨rfl, hw1⟩
          go_wp2
          go_ret
          exact ⟨ret_b fin.out.symm, (HB.out _ hw1).2⟩
        | true =>
          cases hV : vs.all finF with
          | false =>
            obtain ⟨r, hr, hp⟩ := List.all_eq_false.1 hV
            obtain ⟨k, hk⟩ := List.mem_iff_getElem?.1 hr
            have fin := Lib.hid (curveB_bad (us := us) (vs := vs) (k := k) fun g => hp (g.2.1 r hk))
            rw [hU] at kU
            rw [hV] at kV
            clear hU hV hr hp hk
            go_enter Try.func79, Try.ntmps79
            go_wp2_with fail
            refine (kU.out _ hbw).mono ?_
            rintro e w1 ⟨rfl, hw1⟩
            clear q0 q1
            obtain ⟨⟨q0, q1⟩, hb1⟩ := HB.out _ hw1
            go_wp2_with fail
            refine (kV.out _ hb1).mono ?_
            rintro e w2 ⟨rfl, hw2⟩
            have hb2 := Lib.hid (HB.out _ (Stays.trans hw1 hw2)).2
            go_wp2
            go_ret
            exact ⟨ret_b fin.out.symm, hb2.out⟩
          | true =>
            rw [hU] at kU
            rw [hV] at kV
            replace hU := Lib.hid hU
            replace hV := Lib.hid hV
            obtain ⟨ad, ra, eA, _, _, _⟩ := Fl.at_ H.out (List.getElem?_eq_getElem (show 0 < us.length by omega))
            subst eA
            obtain ⟨At, ht, hta⟩ := fl_tail (ad := ad) (n := us.length) (c := c) (by omega) hcap
            have hta' := hta (by omega)
            subst hta'
            clear hta
            have hl1 : ((us.length - 1 : Nat) : Int) = (us.length : Int) - 1 := by omega
            go_enter Try.func79, Try.ntmps79
            go_wp2_with fail
            refine (kU.out _ hbw).mono ?_
            rintro e w1 ⟨rfl, hw1⟩
            clear q0 q1
            obtain ⟨⟨q0, q1⟩, hb1⟩ := HB.out _ hw1
            go_wp2_with fail
            refine (kV.out _ hb1).mono ?_
            rintro e w2 ⟨rfl, hw2⟩
            have hs2 := Lib.hid (Stays.trans hw1 hw2)
            clear q0 q1 hw1 hw2 hb1
            obtain ⟨⟨q0, q1⟩, hb2⟩ := HB.out _ hs2.out
            replace hb2 := Lib.hid hb2
            clear hbw
            go_wp2
            clear ht
            go_loop [38] (fun i => ∃ k : Nat, k ≤ us.length - 1 ∧ i = .int .i64 k ∧ Hid (∀ j, j < k + 1 → upC us j)) (fun i => us.length - (intOf i).toNat)
            case atStart => exact ⟨0, Nat.zero_le _, rfl, Lib.hid fun j hj a p h0 => by omega⟩
            case round =>
              obtain ⟨k, hk, rfl, hgd⟩ := hrel
              by_cases hlt : k + 1 < us.length
              · obtain ⟨ad1, ra, e1, _, ga, fa⟩ := Fl.at_ (H.out.below hb2.out) (List.getElem?_eq_getElem hlt)
                cases e1
                obtain ⟨ad2, rp, e2, _, gp, fp⟩ := Fl.at_ (H.out.below hb2.out) (List.getElem?_eq_getElem (show k < us.length by omega))
                cases e2
                have eu : Hid (us[k + 1]? = some us[k + 1]) := Lib.hid (List.getElem?_eq_getElem hlt)
                have ep : Hid (us[k]? = some (us[k]'(by omega))) := Lib.hid (List.getElem?_eq_getElem (by omega))
                generalize us[k + 1] = a at fa eu
                generalize us[k]'(by omega) = pr at fp ep
                rw [fl_next] at ga
                have hle := lec_of ra rp
                rw [lec_not (by rw [fa.out]; exact fin_at hU.out eu.out) (by rw [fp.out]; exact fin_at hU.out ep.out) ⟨ra, rfl⟩ ⟨rp, rfl⟩, fa.out, fp.out] at hle
                have nx : Hid (ltc (flt pr) (flt a) = true → Hid (∀ j, j < k + 1 + 1 → upC us j)) := Lib.hid fun h => Lib.hid fun j hj => by
                  by_cases e : j = k + 1
                  · subst e
                    intro a' p' _ e1 e2
                    rw [eu.out] at e1
                    cases e1
                    rw [show k + 1 - 1 = k from rfl, ep.out] at e2
                    cases e2
                    exact h
                  · exact hgd.out j (by omega)
                have bd : Hid (ltc (flt pr) (flt a) = false → curveB us vs = false) := Lib.hid fun h => curveB_bad (k := k + 1) fun g => by
                  have := g.2.2 a pr (by omega) eu.out ep.out
                  rw [h] at this
                  cases this
                clear fa fp
                generalize ltc (flt pr) (flt a) = bl at hle nx bd
                have hlt' : (k : Int) < (us.length : Int) - 1 := by omega
                have hlt2 : (k : Int) < (us.length : Int) := by omega
                cases bl with
                | true =>
                  replace hle : (FloatKind.f32.format.order ra rp == some Ordering.lt || FloatKind.f32.format.order ra rp == some Ordering.eq) = false := hle
                  go_wp2
                  go_round
                  case rel => exact ⟨k + 1, by omega, by go_num, nx.out (by simp)⟩
                  case measure => simp [intOf]; omega
                | false =>
                  replace hle : (FloatKind.f32.format.order ra rp == some Ordering.lt || FloatKind.f32.format.order ra rp == some Ordering.eq) = true := hle
                  go_wp2
                  go_ret
                  exact ⟨ret_b (bd.out (by simp)).symm, hb2.out⟩
              · have fin := Lib.hid (curveB_end hS.out fun j hj => ⟨fun a e => fin_at hU.out e, fun b e => fin_at hV.out e, hgd.out j (by omega)⟩)
                have hlt' : ¬ (k : Int) < (us.length : Int) - 1 := by omega
                go_wp2
                go_ret
                exact ⟨ret_b fin.out.symm, hb2.out⟩
      · have fin := Lib.hid (curveB_size (us := us) (vs := vs) fun h => hM h.2.2)
        have hM1 : ¬ ((vs.length : Nat) : Int) = ((us.length : Nat) : Int) := by omega
        have hM2 : ¬ vs.length = us.length := hM
        go_enter Try.func79, Try.ntmps79
        go_wp2
        go_ret
        exact ⟨ret_b fin.out.symm, hbw⟩
end Go.Proofs.Ytmcbeaihjdnelaa
