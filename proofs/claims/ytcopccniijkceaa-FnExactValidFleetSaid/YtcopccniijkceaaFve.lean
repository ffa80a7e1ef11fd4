/- Whether a fleet is valid, as the program says it. No condition. -/
import Derived.Test.YtcopccniijkceaaFvd
namespace Go.Proofs.Ytcopccniijkceaa
open Go Go.RowKit
set_option linter.unusedVariables false
set_option linter.unusedSimpArgs false

set_option maxRecDepth 100000 in
set_option maxHeartbeats 4000000 in
theorem c_implValidFleet (v : Value) (o og : Option Nat) (xss : List (List (List NV))) (w : World) (h : FlV w w.heap.size v o og xss) (hn : xss.length ≤ 1048576) :
    Calls Try.prog 12 #[v] w fun e w' => e = .returned (.bool (fleetB o og xss)) ∧ Stays w w' := by
  obtain ⟨s, g, A, c, rfl, hf, hgf, HB0⟩ := boxFl 30 h
  obtain ⟨_, _, _, _, e, _, _, hL⟩ := h
  cases e
  have hst : Stays w (w.alloc (.cells #[.float .f32 s, .float .f32 g, .slice A xss.length c] 30)) := by (repeat (first | exact Stays.refl _ | (with_reducible refine Stays.drewN ?_ _) | (with_reducible refine Stays.alloc ?_ _) | (with_reducible refine Stays.drew ?_) | (refine Stays.trans ?_ ‹Stays _ _›)))
  have H := Lib.hid ((hL.below (show Below w.heap.size w (w.alloc (.cells #[.float .f32 s, .float .f32 g, .slice A xss.length c] 30)) from hst)).more hst.size)
  have HB := Lib.hid fun W (hW : Stays (w.alloc (.cells #[.float .f32 s, .float .f32 g, .slice A xss.length c] 30)) W) => And.intro (HB0 W hW).1.1 (show Stays w W from (HB0 W hW).1.2)
  have kP : ∀ W, Calls Try.prog 53 #[.float .f32 s] W fun e w' => e = .returned (.bool (finB o && posB o)) ∧ Stays W w' := fun W => by
    have := c_isPositive s W
    rw [hf.out] at this
    exact this
  have kF : ∀ W, Calls Try.prog 54 #[.float .f32 g] W fun e w' => e = .returned (.bool (finB og)) ∧ Stays W w' := fun W => by
    have := c_isFinite g W
    rw [hgf.out] at this
    exact this
  have hlz : finB og = true → (FloatKind.f32.format.order g 0 == some Ordering.lt) = !geZ og := fun h => by
    rw [ltZ_of, ← hgf.out]
    exact ge_lt (by rw [hgf.out]; exact h)
  unfold fleetB leastB
  have kV := Lib.hid fun v r W (hv : ShM (.agg KSight) v r) => c_sightValid v r s o W hv hf
  clear HB0 hL hgf hf
  generalize (finB o && posB o) = sb at kP ⊢
  generalize finB og = fb at kF hlz ⊢
  generalize geZ og = gz at hlz ⊢
  replace kP := Lib.hid kP
  replace kF := Lib.hid kF
  obtain ⟨⟨q0, q1, q2⟩, _⟩ := HB.out _ (Stays.refl _)
  have hS := Stays.refl (w.alloc (.cells #[.float .f32 s, .float .f32 g, .slice A xss.length c] 30))
  by_cases h3 : sb = true ∧ fb = true ∧ gz = true ∧ 1 ≤ xss.length ∧ xss.length ≤ 4
  · obtain ⟨rfl, rfl, rfl, hn1, hn4⟩ := h3
    have hlz := hlz rfl
    have hdt : decide (1 ≤ xss.length ∧ xss.length ≤ 4) = true := decide_eq_true ⟨hn1, hn4⟩
    rw [hdt]
    simp only [Bool.true_and, Bool.and_self]
    clear hdt
    have n1 : ¬ ((xss.length : Nat) : Int) < 1 := by omega
    have n4 : ¬ ((xss.length : Nat) : Int) > 4 := by omega
    go_enter Try.func12, Try.ntmps12
    go_wp2_with (first
      | (go_at_call 53; refine (kP.out _).mono ?_; rintro e w1 ⟨rfl, hw1⟩; replace hS := Stays.trans hS hw1; clear q0 q1 q2 hw1; obtain ⟨⟨q0, q1, q2⟩, _⟩ := HB.out _ hS)
      | (go_at_call 54; refine (kF.out _).mono ?_; rintro e w1 ⟨rfl, hw1⟩; replace hS := Stays.trans hS hw1; clear q0 q1 q2 hw1; obtain ⟨⟨q0, q1, q2⟩, _⟩ := HB.out _ hS))
    replace hS := Lib.hid hS
    clear q0 q1 q2 n1 n4
    generalize (w.alloc (.cells #[.float .f32 s, .float .f32 g, .slice A xss.length c] 30)) = W0 at H HB hS ⊢
    go_loopw [35] (fun iv wr => ∃ i : Nat, i ≤ xss.length ∧ iv = .int .i64 (i : Nat) ∧ Hid (∀ (j : Nat) (xs : List (List NV)), j < i → xss[j]? = some xs → goodR o xs) ∧ Hid (Stays W0 wr)) (fun iv _ => xss.length - (intOf iv).toNat)
    case atStart => exact ⟨0, Nat.zero_le _, rfl, Lib.hid (fun j _ hj => by omega), hS⟩
    case round =>
      clear hS
      obtain ⟨i, hi, rfl, hgd, hb⟩ := hrel
      by_cases hlt : i < xss.length
      · have hlt' : (i : Int) < (xss.length : Int) := by omega
        obtain ⟨ad, A', c', rfl, hbl, hc, hl, hm⟩ := H.out i xss[i] (List.getElem?_eq_getElem hlt)
        have hxi := Lib.hid (List.getElem?_eq_getElem hlt)
        generalize xss[i] = xs at hc hl hm hxi
        have HC := Lib.hid fun W (hW : Stays W0 W) => (hW.cell (p := ad.add i) (by rw [block_add]; exact hbl)).trans hc
        replace hl := Lib.hid hl
        have bad := Lib.hid fun h => rowsOK_bad (o := o) hxi.out h
        clear hc
        have hci := HC.out _ hb.out
        by_cases h16 : xs.length ≤ 16
        · have h16' : ¬ ((xs.length : Nat) : Int) > 16 := by omega
          go_wp2_with fail
          clear hci
          go_loopw [44] (fun kv wr => ∃ k : Nat, k ≤ xs.length ∧ kv = .int .i64 (k : Nat) ∧ Hid (∀ (j : Nat) (r : List NV), j < k → xs[j]? = some r → sightB o r = true) ∧ Hid (Stays W0 wr)) (fun kv _ => xs.length - (intOf kv).toNat)
          case atStart => exact ⟨0, Nat.zero_le _, rfl, Lib.hid (fun j _ hj => by omega), hb⟩
          case round =>
            clear hb
            obtain ⟨k, hk, rfl, hgk, hb⟩ := hrel
            by_cases hkl : k < xs.length
            · have hk' : (k : Int) < (xs.length : Int) := by omega
              obtain ⟨ad2, rfl, hbl2, hrow⟩ := hl.out k xs[k] (List.getElem?_eq_getElem hkl)
              have hxk := Lib.hid (List.getElem?_eq_getElem hkl)
              generalize xs[k] = rr at hrow hxk
              have nx := Lib.hid fun h => good_next hgk.out hxk.out h
              have bdk := Lib.hid fun (h : sightB o rr = false) => bad.out fun hg => by rw [hg.2 k rr hxk.out] at h; cases h
              have hA2 : ∀ n, (ad2.add n).block < W0.heap.size := fun n => by rw [block_add]; exact hbl2
              obtain ⟨c0, c1, c2, c3, c4, hK, g0, g1, g2, g3, g4⟩ := row5 rfl hrow
              have hsh := Lib.hid (show ShM (.agg KSight) (.agg #[c0, c1, c2, c3, c4]) rr from ⟨_, rfl, hK⟩)
              obtain ⟨x, y, z, d, t, ecs, fx, fy, fz, fd, ft⟩ := sight_cs hK
              cases ecs
              clear fx fy fz fd ft
              have G : Hid (∀ w', Stays W0 w' → w'.cell? (ad2.add (k * 5)) = some (.float .f32 x) ∧ w'.cell? ⟨(ad2.add (k * 5)).block, (ad2.add (k * 5)).off + 1, none⟩ = some (.float .f32 y) ∧ w'.cell? ⟨(ad2.add (k * 5)).block, (ad2.add (k * 5)).off + 2, none⟩ = some (.float .f32 z) ∧ w'.cell? ⟨(ad2.add (k * 5)).block, (ad2.add (k * 5)).off + 3, none⟩ = some (.float .f32 d) ∧ w'.cell? ⟨(ad2.add (k * 5)).block, (ad2.add (k * 5)).off + 4, none⟩ = some (.int .i64 t)) := Lib.hid fun w' hW => ⟨(Below.cell hW (hA2 _)).trans g0, (Below.cell (p := ⟨(ad2.add (k * 5)).block, _, none⟩) hW (hA2 _)).trans g1, (Below.cell (p := ⟨(ad2.add (k * 5)).block, _, none⟩) hW (hA2 _)).trans g2, (Below.cell (p := ⟨(ad2.add (k * 5)).block, _, none⟩) hW (hA2 _)).trans g3, (Below.cell (p := ⟨(ad2.add (k * 5)).block, _, none⟩) hW (hA2 _)).trans g4⟩
              clear g0 g1 g2 g3 g4 hK hrow hA2
              obtain ⟨g0, g1, g2, g3, g4⟩ := G.out _ hb.out
              have hb2 := hb.out.trans (show Stays wr (wr.alloc (.cells #[.float .f32 x, .float .f32 y, .float .f32 z, .float .f32 d, .int .i64 t] 109)) from by (repeat (first | exact Stays.refl _ | (with_reducible refine Stays.drewN ?_ _) | (with_reducible refine Stays.alloc ?_ _) | (with_reducible refine Stays.drew ?_) | (refine Stays.trans ?_ ‹Stays _ _›))))
              obtain ⟨⟨q0, q1, q2⟩, _⟩ := HB.out _ hb2
              replace hb2 := Lib.hid hb2
              have kk := fun W => kV.out _ rr W hsh.out
              cases hsb : sightB o rr with
              | true =>
                rw [hsb] at kk
                replace kk := Lib.hid kk
                have nxt := Lib.hid (nx.out hsb)
                clear hsb nx bdk
                go_wp2_with fail
                refine (kk.out _).mono ?_
                rintro e w5 ⟨rfl, hw5⟩
                replace hb2 := Lib.hid (hb2.out.trans hw5)
                clear hw5 q0 q1 q2 g0 g1 g2 g3 g4 hb
                go_wp2_with fail
                go_round
                case rel => exact ⟨k + 1, by omega, by go_num, nxt, hb2⟩
                case measure => simp [intOf]; omega
              | false =>
                rw [hsb] at kk
                replace kk := Lib.hid kk
                have bd := Lib.hid (bdk.out hsb)
                clear hsb nx bdk
                go_wp2_with fail
                refine (kk.out _).mono ?_
                rintro e w5 ⟨rfl, hw5⟩
                replace hb2 := Lib.hid (hb2.out.trans hw5)
                clear hw5 q0 q1 q2 g0 g1 g2 g3 g4 hb
                go_wp2
                go_ret
                exact ⟨ret_b (by simp [bd.out]), (HB.out _ hb2.out).2⟩
            · have hgood := Lib.hid (show goodR o xs from ⟨h16, fun j r hx => hgk.out j r (by have := (List.getElem?_eq_some_iff.1 hx).1; omega) hx⟩)
              have nxi := Lib.hid (rows_next hgd.out hxi.out hgood.out)
              go_wp2_with fail
              go_round
              case rel => exact ⟨i + 1, by omega, by go_num, nxi, hb⟩
              case measure => simp [intOf]; omega
        · have h16' : ((xs.length : Nat) : Int) > 16 := by omega
          have bd := Lib.hid (bad.out fun h => h16 h.1)
          go_wp2
          go_ret
          exact ⟨ret_b (by simp [bd.out]), (HB.out _ hb.out).2⟩
      · have hend := Lib.hid (rows_end (by omega) hgd.out)
        go_wp2
        go_ret
        exact ⟨ret_b (by rw [hend.out]), (HB.out _ hb.out).2⟩
  · have hfalse : (sb && (fb && gz) && decide (1 ≤ xss.length ∧ xss.length ≤ 4) && rowsOK o xss) = false := by
      cases sb <;> cases fb <;> cases gz <;> simp at h3 ⊢
      intro h1 h2
      exact absurd h2 (by have := h3 h1; omega)
    rw [hfalse]
    by_cases hlow : xss.length < 1
    · have n1 : ((xss.length : Nat) : Int) < 1 := by omega
      clear hfalse h3
      cases sb <;> cases fb <;> cases gz
      all_goals first | (exact absurd ⟨rfl, rfl, rfl⟩ hne) | skip
      all_goals
        (try (replace hlz := hlz rfl))
        go_enter Try.func12, Try.ntmps12
        go_wp2_with (first
          | (go_at_call 53; refine (kP.out _).mono ?_; rintro e w1 ⟨rfl, hw1⟩; replace hS := Stays.trans hS hw1; clear q0 q1 q2 hw1; obtain ⟨⟨q0, q1, q2⟩, _⟩ := HB.out _ hS)
          | (go_at_call 54; refine (kF.out _).mono ?_; rintro e w1 ⟨rfl, hw1⟩; replace hS := Stays.trans hS hw1; clear q0 q1 q2 hw1; obtain ⟨⟨q0, q1, q2⟩, _⟩ := HB.out _ hS))
        go_ret
        exact ⟨rfl, (HB.out _ hS).2⟩
    · have n1 : ¬ ((xss.length : Nat) : Int) < 1 := by omega
      by_cases hhigh : xss.length ≤ 4
      · have n4 : ¬ ((xss.length : Nat) : Int) > 4 := by omega
        have hne : ¬ (sb = true ∧ fb = true ∧ gz = true) := fun h => h3 ⟨h.1, h.2.1, h.2.2, by omega, hhigh⟩
        clear hfalse h3
        cases sb <;> cases fb <;> cases gz
        all_goals first | (exact absurd ⟨rfl, rfl, rfl⟩ hne) | skip
        all_goals
          (try (replace hlz := hlz rfl))
          go_enter Try.func12, Try.ntmps12
          go_wp2_with (first
            | (go_at_call 53; refine (kP.out _).mono ?_; rintro e w1 ⟨rfl, hw1⟩; replace hS := Stays.trans hS hw1; clear q0 q1 q2 hw1; obtain ⟨⟨q0, q1, q2⟩, _⟩ := HB.out _ hS)
            | (go_at_call 54; refine (kF.out _).mono ?_; rintro e w1 ⟨rfl, hw1⟩; replace hS := Stays.trans hS hw1; clear q0 q1 q2 hw1; obtain ⟨⟨q0, q1, q2⟩, _⟩ := HB.out _ hS))
          go_ret
          exact ⟨rfl, (HB.out _ hS).2⟩
      · have n4 : ((xss.length : Nat) : Int) > 4 := by omega
        clear hfalse h3
        cases sb <;> cases fb <;> cases gz
        all_goals first | (exact absurd ⟨rfl, rfl, rfl⟩ hne) | skip
        all_goals
          (try (replace hlz := hlz rfl))
          go_enter Try.func12, Try.ntmps12
          go_wp2_with (first
            | (go_at_call 53; refine (kP.out _).mono ?_; rintro e w1 ⟨rfl, hw1⟩; replace hS := Stays.trans hS hw1; clear q0 q1 q2 hw1; obtain ⟨⟨q0, q1, q2⟩, _⟩ := HB.out _ hS)
            | (go_at_call 54; refine (kF.out _).mono ?_; rintro e w1 ⟨rfl, hw1⟩; replace hS := Stays.trans hS hw1; clear q0 q1 q2 hw1; obtain ⟨⟨q0, q1, q2⟩, _⟩ := HB.out _ hS))
          go_ret
          exact ⟨rfl, (HB.out _ hS).2⟩
end Go.Proofs.Ytcopccniijkceaa
