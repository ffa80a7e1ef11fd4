/- The law on grids that are the same. No condition. -/
import Derived.Test.YtdahlpljgcibfaaGdD
import Derived.Deep.RegionHeld
namespace Go.Proofs.Ytdahlpljgcibfaa
open Go Go.RowKit
set_option linter.unusedVariables false
set_option linter.unusedSimpArgs false

set_option maxRecDepth 100000 in
set_option maxHeartbeats 2000000 in
theorem c_lawSameGrid (v v' : Value) (a b a' b' : Int) (xs ys : List Int) (w : World) (h : GdV w w.heap.size v a b xs) (h' : GdV w w.heap.size v' a' b' ys) (hn : xs.length ≤ 9223372036854775807) (hn' : ys.length ≤ 9223372036854775807) (hrx : InB xs) (hry : InB ys) :
    Calls Try.prog 4 #[v, v'] w fun e w' => e = .returned (.bool true) ∧ Below w.heap.size w w' := by
  obtain ⟨A, c, rfl, HA⟩ := boxGd 24 h
  have hh : GdV (w.alloc (.cells #[.int .i64 a, .int .i64 b, .slice A xs.length c] 24)) (w.alloc (.cells #[.int .i64 a, .int .i64 b, .slice A xs.length c] 24)).heap.size v' a' b' ys := h'.on (show Stays w _ from by (repeat (first | exact Stays.refl _ | (with_reducible refine Stays.drewN ?_ _) | (with_reducible refine Stays.alloc ?_ _) | (with_reducible refine Stays.drew ?_) | (refine Stays.trans ?_ ‹Stays _ _›))))
  obtain ⟨D, d, rfl, HD⟩ := boxGd 24 hh
  have hsz1 : (w.alloc (.cells #[.int .i64 a, .int .i64 b, .slice A xs.length c] 24)).heap.size = w.heap.size + 1 := by simp
  rw [hsz1] at HD
  have HB : Hid (∀ w1, Stays ((w.alloc (.cells #[.int .i64 a, .int .i64 b, .slice A xs.length c] 24)).alloc (.cells #[.int .i64 a', .int .i64 b', .slice D ys.length d] 24)) w1 → ((w1.cell? ⟨w.heap.size, 0, none⟩ = some (.int .i64 a) ∧ w1.cell? ⟨w.heap.size, 1, none⟩ = some (.int .i64 b) ∧ w1.cell? ⟨w.heap.size, 2, none⟩ = some (.slice A xs.length c)) ∧ (w1.cell? ⟨w.heap.size + 1, 0, none⟩ = some (.int .i64 a') ∧ w1.cell? ⟨w.heap.size + 1, 1, none⟩ = some (.int .i64 b') ∧ w1.cell? ⟨w.heap.size + 1, 2, none⟩ = some (.slice D ys.length d))) ∧ Below w.heap.size w w1 ∧
      GdV w1 w1.heap.size (.agg #[.int .i64 a, .int .i64 b, .slice A xs.length c]) a b xs ∧ GdV w1 w1.heap.size (.agg #[.int .i64 a', .int .i64 b', .slice D ys.length d]) a' b' ys) := Lib.hid fun w1 hb => by
    obtain ⟨⟨b1, b2⟩, b3⟩ := HD w1 hb
    obtain ⟨⟨a1, a2⟩, a3⟩ := HA w1 (Stays.trans (by (repeat (first | exact Stays.refl _ | (with_reducible refine Stays.drewN ?_ _) | (with_reducible refine Stays.alloc ?_ _) | (with_reducible refine Stays.drew ?_) | (refine Stays.trans ?_ ‹Stays _ _›)))) hb)
    exact ⟨⟨a1, b1⟩, a2, a3, b3⟩
  clear h h' hh HA HD hsz1
  have k1 := fun W => c_szGrid A c xs.length a b 1048576 W hn (by omega) (by omega)
  by_cases hl : (1048576 : Int) - xs.length < 0
  · simp only [if_pos hl] at k1
    replace k1 := Lib.hid k1
    go_enter Try.func4, Try.ntmps4
    go_wp2_with fail
    refine (k1.out _).mono ?_
    rintro e w1 ⟨rfl, hb⟩
    go_wp2
    go_ret
    exact ⟨rfl, (HB.out _ hb).2.1⟩
  · simp only [if_neg hl] at k1
    have hps : xs.length ≤ 1048576 := by omega
    have k2 := fun W => c_szGrid D d ys.length a' b' ((1048576 : Int) - xs.length) W hn' (by omega) (by omega)
    have hX : ¬ ((1048576 : Int) - xs.length < 0) := hl
    have hX' : (1048576 : Int) - xs.length ≤ 1048576 := by omega
    generalize (1048576 : Int) - xs.length = X at hX hX' k1 k2
    replace k1 := Lib.hid k1
    by_cases hl2 : X - ys.length < 0
    · simp only [if_pos hl2] at k2
      replace k2 := Lib.hid k2
      go_enter Try.func4, Try.ntmps4
      go_wp2_with fail
      refine (k1.out _).mono ?_
      rintro e w1 ⟨rfl, hb⟩
      obtain ⟨⟨_, q0, q1, q2⟩, _⟩ := HB.out _ hb
      replace hb := Lib.hid (show Stays _ w1 from hb)
      go_wp2_with fail
      refine (k2.out _).mono ?_
      rintro e w2 ⟨rfl, hb2⟩
      go_wp2
      go_ret
      exact ⟨rfl, (HB.out _ (hb.out.trans hb2)).2.1⟩
    · simp only [if_neg hl2] at k2
      have hps' : ys.length ≤ 1048576 := by omega
      have hY : ¬ (X - ys.length < 0) := hl2
      generalize X - (ys.length : Int) = Y at hY k2
      replace k2 := Lib.hid k2
      have kS := fun v v' w h h' => c_specSameGrid v v' a b a' b' xs ys w h h' hrx hry
      have kI := fun v v' w h h' => c_implSameGrid v v' a b a' b' xs ys w h h' hps hps'
      generalize sameG a b a' b' xs ys = bg at kS kI
      replace kS := Lib.hid kS
      replace kI := Lib.hid kI
      clear hl hl2 hn hn' hX' hrx hry
      go_enter Try.func4, Try.ntmps4
      go_wp2_with fail
      refine (k1.out _).mono ?_
      rintro e w1 ⟨rfl, hb⟩
      obtain ⟨⟨_, q0, q1, q2⟩, _⟩ := HB.out _ hb
      replace hb := Lib.hid (show Stays _ w1 from hb)
      go_wp2_with fail
      refine (k2.out _).mono ?_
      rintro e w2 ⟨rfl, hb'⟩
      have hb2 := Lib.hid (hb.out.trans hb')
      clear hb hb' q0 q1 q2
      generalize ((w.alloc (.cells #[.int .i64 a, .int .i64 b, .slice A xs.length c] 24)).alloc (.cells #[.int .i64 a', .int .i64 b', .slice D ys.length d] 24)) = W0 at HB hb2
      have G2 : Hid (∀ w', Stays w2 w' → (w'.cell? ⟨w.heap.size, 0, none⟩ = some (.int .i64 a) ∧ w'.cell? ⟨w.heap.size, 1, none⟩ = some (.int .i64 b) ∧ w'.cell? ⟨w.heap.size, 2, none⟩ = some (.slice A xs.length c) ∧ w'.cell? ⟨w.heap.size + 1, 0, none⟩ = some (.int .i64 a') ∧ w'.cell? ⟨w.heap.size + 1, 1, none⟩ = some (.int .i64 b') ∧ w'.cell? ⟨w.heap.size + 1, 2, none⟩ = some (.slice D ys.length d)) ∧ Hid (Stays w2 w')) := Lib.hid fun w' h => by
        obtain ⟨⟨⟨a0, a1, a2⟩, b0, b1, b2⟩, _⟩ := HB.out _ (hb2.out.trans h)
        exact ⟨⟨a0, a1, a2, b0, b1, b2⟩, Lib.hid h⟩
      have h2 := Lib.hid (show Stays w2 w2.drew from (Stays.refl w2).drew)
      go_wp2_with fail
      go_region_held (fun w' => (w'.cell? ⟨w.heap.size, 0, none⟩ = some (.int .i64 a) ∧ w'.cell? ⟨w.heap.size, 1, none⟩ = some (.int .i64 b) ∧ w'.cell? ⟨w.heap.size, 2, none⟩ = some (.slice A xs.length c) ∧ w'.cell? ⟨w.heap.size + 1, 0, none⟩ = some (.int .i64 a') ∧ w'.cell? ⟨w.heap.size + 1, 1, none⟩ = some (.int .i64 b') ∧ w'.cell? ⟨w.heap.size + 1, 2, none⟩ = some (.slice D ys.length d)) ∧ Hid (Stays w2 w')) (first | exact G2.out _ h2.out | exact G2.out _ h3.out | exact G2.out _ h4.out | exact G2.out _ h5.out)
        (first
          | (go_at_call 16; refine (c_toGd (.agg #[.int .i64 a', .int .i64 b', .slice D ys.length d]) a' b' ys _ (HB.out _ (hb2.out.trans h3.out)).2.2.2 hps').mono ?_; rintro e w4 ⟨v2, rfl, hb, hv2⟩; have h4 := Lib.hid (h3.out.trans hb); replace hv1 := Lib.hid (hv1.out.on hb); clear hb; replace hv2 := Lib.hid hv2)
          | (go_at_call 16; refine (c_toGd (.agg #[.int .i64 a, .int .i64 b, .slice A xs.length c]) a b xs _ (HB.out _ (hb2.out.trans h2.out)).2.2.1 hps).mono ?_; rintro e w3 ⟨v1, rfl, hb, hv1⟩; have h3 := Lib.hid (h2.out.trans hb); clear hb; replace hv1 := Lib.hid hv1)
          | (go_at_call 19; refine (kS.out v1 v2 _ hv1.out hv2.out).mono ?_; rintro e w5 ⟨rfl, hb⟩; have h5 := Lib.hid (h4.out.trans hb); clear hb))
      have hb5 := Lib.hid (hb2.out.trans h5.out)
      clear h2 h3 h4 h5 G2 hb2 hv1 hv2
      obtain ⟨⟨⟨q0, q1, qa⟩, q2, q3, qb⟩, _⟩ := HB.out _ hb5.out
      go_wp2_with fail
      refine (c_toGd _ a b xs w5 (HB.out _ hb5.out).2.2.1 hps).mono ?_
      rintro e w6 ⟨x1, rfl, hb, hx1⟩
      obtain ⟨E, e', rfl, HE⟩ := boxGd 27 hx1
      replace HE := Lib.hid HE
      have hs6 := show Stays w6 (w6.alloc (.cells #[.int .i64 a, .int .i64 b, .slice E xs.length e'] 27)) from by (repeat (first | exact Stays.refl _ | (with_reducible refine Stays.drewN ?_ _) | (with_reducible refine Stays.alloc ?_ _) | (with_reducible refine Stays.drew ?_) | (refine Stays.trans ?_ ‹Stays _ _›)))
      have hb6 := Lib.hid ((hb5.out.trans hb).trans hs6)
      have hx6 := Lib.hid (Stays.refl (w6.alloc (.cells #[.int .i64 a, .int .i64 b, .slice E xs.length e'] 27)))
      clear hb hx1 hs6 q0 q1 qa q2 q3 qb
      obtain ⟨⟨⟨q0, q1, qa⟩, q2, q3, qb⟩, _⟩ := HB.out _ hb6.out
      go_wp2_with fail
      generalize (w6.alloc (.cells #[.int .i64 a, .int .i64 b, .slice E xs.length e'] 27)) = W6 at HE hb6 hx6 q0 q1 qa q2 q3 qb ⊢
      refine (c_toGd _ a' b' ys W6 (HB.out _ hb6.out).2.2.2 hps').mono ?_
      rintro e w7 ⟨x2, rfl, hb, hx2⟩
      obtain ⟨F, g', rfl, HF⟩ := boxGd 27 hx2
      replace HF := Lib.hid HF
      have hs7 := Stays.trans (show Stays W6 w7 from hb) (show Stays w7 (w7.alloc (.cells #[.int .i64 a', .int .i64 b', .slice F ys.length g'] 27)) from by (repeat (first | exact Stays.refl _ | (with_reducible refine Stays.drewN ?_ _) | (with_reducible refine Stays.alloc ?_ _) | (with_reducible refine Stays.drew ?_) | (refine Stays.trans ?_ ‹Stays _ _›))))
      have hb7 := Lib.hid (hb6.out.trans hs7)
      have hx7 := Lib.hid (hx6.out.trans hs7)
      have hy7 := Lib.hid (Stays.refl (w7.alloc (.cells #[.int .i64 a', .int .i64 b', .slice F ys.length g'] 27)))
      clear hb hx2 hs7 q0 q1 qa q2 q3 qb hx6
      obtain ⟨⟨⟨q0, q1, q2⟩, _⟩, _⟩ := HE.out _ hx7.out
      go_wp2_with fail
      generalize (w7.alloc (.cells #[.int .i64 a', .int .i64 b', .slice F ys.length g'] 27)) = W7 at HF hb7 hx7 hy7 q0 q1 q2 ⊢
      refine (kI.out _ _ W7 (HE.out _ hx7.out).2 (HF.out _ hy7.out).2).mono ?_
      rintro e w8 ⟨rfl, hb⟩
      have hb8 := Lib.hid (hb7.out.trans hb)
      have hx8 := Lib.hid (hx7.out.trans hb)
      have hy8 := Lib.hid (hy7.out.trans hb)
      clear hb hb7 hx7 hy7 q0 q1 q2
      cases bg
      all_goals
        have G8 : Hid (∀ w', Stays w8 w' → (w'.cell? ⟨w.heap.size, 0, none⟩ = some (.int .i64 a) ∧ w'.cell? ⟨w.heap.size, 1, none⟩ = some (.int .i64 b) ∧ w'.cell? ⟨w.heap.size, 2, none⟩ = some (.slice A xs.length c) ∧ w'.cell? ⟨w6.heap.size, 0, none⟩ = some (.int .i64 a) ∧ w'.cell? ⟨w6.heap.size, 1, none⟩ = some (.int .i64 b) ∧ w'.cell? ⟨w6.heap.size, 2, none⟩ = some (.slice E xs.length e')) ∧ Hid (Stays w8 w')) := Lib.hid fun w' h => by
          obtain ⟨⟨⟨a0, a1, a2⟩, b0, b1, b2⟩, _⟩ := HB.out _ (hb8.out.trans h)
          obtain ⟨⟨⟨c0, c1, c2⟩, _⟩, _⟩ := HE.out _ (hx8.out.trans h)
          exact ⟨⟨a0, a1, a2, c0, c1, c2⟩, Lib.hid h⟩
        have h8 := Lib.hid (show Stays w8 w8.drew from (Stays.refl w8).drew)
        go_wp2_with fail
        go_region_held (fun w' => (w'.cell? ⟨w.heap.size, 0, none⟩ = some (.int .i64 a) ∧ w'.cell? ⟨w.heap.size, 1, none⟩ = some (.int .i64 b) ∧ w'.cell? ⟨w.heap.size, 2, none⟩ = some (.slice A xs.length c) ∧ w'.cell? ⟨w6.heap.size, 0, none⟩ = some (.int .i64 a) ∧ w'.cell? ⟨w6.heap.size, 1, none⟩ = some (.int .i64 b) ∧ w'.cell? ⟨w6.heap.size, 2, none⟩ = some (.slice E xs.length e')) ∧ Hid (Stays w8 w')) (first | exact G8.out _ h8.out | exact G8.out _ h9.out | exact G8.out _ h10.out)
          (first
            | (go_at_call 16; refine (c_toGd _ a b xs _ (HB.out _ (hb8.out.trans h8.out)).2.2.1 hps).mono ?_; rintro e w9 ⟨v1, rfl, hb, hv1⟩; have h9 := Lib.hid (h8.out.trans hb); clear hb; replace hv1 := Lib.hid hv1)
            | (go_at_call 18; refine (c_eqGrid _ v1 a b xs w9 (HE.out _ (hx8.out.trans h9.out)).2 hv1.out hps).mono ?_; rintro e w10 ⟨rfl, hb⟩; have h10 := Lib.hid (h9.out.trans hb); clear hb))
        have hb10 := Lib.hid (hb8.out.trans h10.out)
        have hy10 := Lib.hid (hy8.out.trans h10.out)
        clear h8 h9 h10 G8 hv1
        have GA : Hid (∀ w', Stays w10 w' → (w'.cell? ⟨w.heap.size + 1, 0, none⟩ = some (.int .i64 a') ∧ w'.cell? ⟨w.heap.size + 1, 1, none⟩ = some (.int .i64 b') ∧ w'.cell? ⟨w.heap.size + 1, 2, none⟩ = some (.slice D ys.length d) ∧ w'.cell? ⟨w7.heap.size, 0, none⟩ = some (.int .i64 a') ∧ w'.cell? ⟨w7.heap.size, 1, none⟩ = some (.int .i64 b') ∧ w'.cell? ⟨w7.heap.size, 2, none⟩ = some (.slice F ys.length g')) ∧ Hid (Stays w10 w')) := Lib.hid fun w' h => by
          obtain ⟨⟨⟨a0, a1, a2⟩, b0, b1, b2⟩, _⟩ := HB.out _ (hb10.out.trans h)
          obtain ⟨⟨⟨c0, c1, c2⟩, _⟩, _⟩ := HF.out _ (hy10.out.trans h)
          exact ⟨⟨b0, b1, b2, c0, c1, c2⟩, Lib.hid h⟩
        have h10 := Lib.hid (show Stays w10 w10.drew from (Stays.refl w10).drew)
        go_wp2_with fail
        go_region_held (fun w' => (w'.cell? ⟨w.heap.size + 1, 0, none⟩ = some (.int .i64 a') ∧ w'.cell? ⟨w.heap.size + 1, 1, none⟩ = some (.int .i64 b') ∧ w'.cell? ⟨w.heap.size + 1, 2, none⟩ = some (.slice D ys.length d) ∧ w'.cell? ⟨w7.heap.size, 0, none⟩ = some (.int .i64 a') ∧ w'.cell? ⟨w7.heap.size, 1, none⟩ = some (.int .i64 b') ∧ w'.cell? ⟨w7.heap.size, 2, none⟩ = some (.slice F ys.length g')) ∧ Hid (Stays w10 w')) (first | exact GA.out _ h10.out | exact GA.out _ h11.out | exact GA.out _ h12.out)
          (first
            | (go_at_call 16; refine (c_toGd _ a' b' ys _ (HB.out _ (hb10.out.trans h10.out)).2.2.2 hps').mono ?_; rintro e w11 ⟨v1, rfl, hb, hv1⟩; have h11 := Lib.hid (h10.out.trans hb); clear hb; replace hv1 := Lib.hid hv1)
            | (go_at_call 18; refine (c_eqGrid _ v1 a' b' ys w11 (HF.out _ (hy10.out.trans h11.out)).2 hv1.out hps').mono ?_; rintro e w12 ⟨rfl, hb⟩; have h12 := Lib.hid (h11.out.trans hb); clear hb))
        go_wp2
        go_ret
        exact ⟨rfl, (HB.out _ (hb10.out.trans h12.out)).2.1⟩
end Go.Proofs.Ytdahlpljgcibfaa
