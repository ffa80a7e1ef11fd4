/- Maps: SameMap on both sides, and its law. No condition. -/
import Derived.Test.YtfjchhfoefgldabNe
import Derived.Deep.RegionHeld
namespace Go.Proofs.Ytfjchhfoefgldab
open Go Go.RowKit
set_option linter.unusedVariables false
set_option linter.unusedSimpArgs false

theorem c_specSameMap (v v' : Value) (o : Option Nat) (xs : List Mk) (o' : Option Nat) (ys : List Mk) (w : World) (h : MpV w w.heap.size v o xs) (h' : MpV w w.heap.size v' o' ys) (hn : xs.length ≤ 1048576) :
    Calls Try.prog 20 #[v, v'] w fun e w' => e = .returned (.bool (mapS2 o xs o' ys)) ∧ Below w.heap.size w w' := by
  obtain ⟨s, A, c, rfl, hf, h1⟩ := h.val
  obtain ⟨s', D, d, rfl, hf', h2⟩ := h'.val
  have hst : Stays w ((w.alloc (.cells #[.float .f32 s, .slice A xs.length c] 30)).alloc (.cells #[.float .f32 s', .slice D ys.length d] 30)) := by (repeat (first | exact Stays.refl _ | (with_reducible refine Stays.drewN ?_ _) | (with_reducible refine Stays.alloc ?_ _) | (with_reducible refine Stays.drew ?_) | (refine Stays.trans ?_ ‹Stays _ _›)))
  have u0 : ((w.alloc (.cells #[.float .f32 s, .slice A xs.length c] 30)).alloc (.cells #[.float .f32 s', .slice D ys.length d] 30)).heap[w.heap.size]? = some (.cells #[.float .f32 s, .slice A xs.length c] 30 (0, 0)) := by (repeat (first | (refine heap_top _ _ _ ?_; simp; done) | (with_reducible refine heap_drawn _ _ _ ?_) | (with_reducible refine heap_under _ _ _ ?_ ?_; (simp <;> omega))))
  have u1 : ((w.alloc (.cells #[.float .f32 s, .slice A xs.length c] 30)).alloc (.cells #[.float .f32 s', .slice D ys.length d] 30)).heap[w.heap.size + 1]? = some (.cells #[.float .f32 s', .slice D ys.length d] 30 (0, 0)) := by (repeat (first | (refine heap_top _ _ _ ?_; simp; done) | (with_reducible refine heap_drawn _ _ _ ?_) | (with_reducible refine heap_under _ _ _ ?_ ?_; (simp <;> omega))))
  have hk := c_l05Same w.heap.size (w.heap.size + 1) s s' o o' hf hf' A D c d xs ys ((w.alloc (.cells #[.float .f32 s, .slice A xs.length c] 30)).alloc (.cells #[.float .f32 s', .slice D ys.length d] 30)) u0 u1 ((h1.below hst).more hst.size) ((h2.below hst).more hst.size) hn
  generalize mapS2 o xs o' ys = b at hk ⊢
  replace hk := Lib.hid hk
  replace hst := Lib.hid hst
  clear h h' h1 h2 u0 u1 hf hf'
  go_enter Try.func20, Try.ntmps20
  go_wp2_with (go_at_call 64; refine hk.out.mono ?_; rintro e w1 ⟨rfl, hw1⟩)
  go_ret
  exact ⟨rfl, hst.out.trans hw1⟩

set_option maxRecDepth 100000 in
theorem c_implSameMap (v v' : Value) (o : Option Nat) (xs : List Mk) (o' : Option Nat) (ys : List Mk) (w : World) (h : MpV w w.heap.size v o xs) (h' : MpV w w.heap.size v' o' ys) (hn : xs.length ≤ 1048576) (hn' : ys.length ≤ 1048576) :
    Calls Try.prog 21 #[v, v'] w fun e w' => e = .returned (.bool (mapS2 o xs o' ys)) ∧ Below w.heap.size w w' := by
  obtain ⟨s, A, c, rfl, hf, h1⟩ := h.val
  obtain ⟨s', D, d, rfl, hf', h2⟩ := h'.val
  have hst : Stays w ((w.alloc (.cells #[.float .f32 s, .slice A xs.length c] 30)).alloc (.cells #[.float .f32 s', .slice D ys.length d] 30)) := by (repeat (first | exact Stays.refl _ | (with_reducible refine Stays.drewN ?_ _) | (with_reducible refine Stays.alloc ?_ _) | (with_reducible refine Stays.drew ?_) | (refine Stays.trans ?_ ‹Stays _ _›)))
  have u0 : ((w.alloc (.cells #[.float .f32 s, .slice A xs.length c] 30)).alloc (.cells #[.float .f32 s', .slice D ys.length d] 30)).heap[w.heap.size]? = some (.cells #[.float .f32 s, .slice A xs.length c] 30 (0, 0)) := by (repeat (first | (refine heap_top _ _ _ ?_; simp; done) | (with_reducible refine heap_drawn _ _ _ ?_) | (with_reducible refine heap_under _ _ _ ?_ ?_; (simp <;> omega))))
  have u1 : ((w.alloc (.cells #[.float .f32 s, .slice A xs.length c] 30)).alloc (.cells #[.float .f32 s', .slice D ys.length d] 30)).heap[w.heap.size + 1]? = some (.cells #[.float .f32 s', .slice D ys.length d] 30 (0, 0)) := by (repeat (first | (refine heap_top _ _ _ ?_; simp; done) | (with_reducible refine heap_drawn _ _ _ ?_) | (with_reducible refine heap_under _ _ _ ?_ ?_; (simp <;> omega))))
  have hA := Lib.hid fun w1 (h : Stays ((w.alloc (.cells #[.float .f32 s, .slice A xs.length c] 30)).alloc (.cells #[.float .f32 s', .slice D ys.length d] 30)) w1) => And.intro (row_of h u0) (row_of h u1)
  have kP := fun (W : World) (hs : Stays ((w.alloc (.cells #[.float .f32 s, .slice A xs.length c] 30)).alloc (.cells #[.float .f32 s', .slice D ys.length d] 30)) W) => c_eqfMark A D c d xs ys W ((h1.below (hst.trans hs)).more (hst.trans hs).size) ((h2.below (hst.trans hs)).more (hst.trans hs).size) hn hn'
  have kN : ∀ W : World, Calls Try.prog 65 #[.float .f32 s, .float .f32 s'] W fun e w' => e = .returned (.bool (o == o')) ∧ Stays W w' := fun W => (c_implSameNumber s s' W).mono fun e w' he => ⟨he.1.trans (by unfold same; rw [hf.out, hf'.out]), he.2 ▸ Stays.refl _⟩
  unfold mapS2
  generalize (o == o') = b1 at kN ⊢
  generalize pairM xs ys = b2 at kP ⊢
  replace kP := Lib.hid kP
  replace kN := Lib.hid kN
  replace hst := Lib.hid hst
  have hS : Stays ((w.alloc (.cells #[.float .f32 s, .slice A xs.length c] 30)).alloc (.cells #[.float .f32 s', .slice D ys.length d] 30)) ((w.alloc (.cells #[.float .f32 s, .slice A xs.length c] 30)).alloc (.cells #[.float .f32 s', .slice D ys.length d] 30)) := Stays.refl _
  clear h h' h1 h2 u0 u1 hf hf'
  obtain ⟨hc, hc'⟩ := hA.out _ hS
  cases b1
  all_goals
    go_enter Try.func21, Try.ntmps21
    go_wp2_with (first
      | (go_at_call 65; refine (kN.out _).mono ?_; rintro e w1 ⟨rfl, hw1⟩; replace hS := Stays.trans hS hw1; clear hw1 hc hc'; obtain ⟨hc, hc'⟩ := hA.out _ hS)
      | (go_at_call 66; refine (kP.out _ hS).mono ?_; rintro e w1 ⟨rfl, hw1⟩; replace hS := Stays.trans hS hw1; clear hw1 hc hc'))
    go_ret
    exact ⟨ret_b (by simp), hst.out.trans hS⟩

set_option maxRecDepth 100000 in
set_option maxHeartbeats 2000000 in
theorem c_lawSameMap (v v' : Value) (o : Option Nat) (xs : List Mk) (o' : Option Nat) (ys : List Mk) (w : World) (h : MpV w w.heap.size v o xs) (h' : MpV w w.heap.size v' o' ys) (hn : xs.length ≤ 9223372036854775807) (hn' : ys.length ≤ 9223372036854775807) :
    Calls Try.prog 4 #[v, v'] w fun e w' => e = .returned (.bool true) ∧ Below w.heap.size w w' := by
  obtain ⟨s, A, c, rfl, _, HA⟩ := boxMp 25 h
  have hh : MpV (w.alloc (.cells #[.float .f32 s, .slice A xs.length c] 25)) (w.alloc (.cells #[.float .f32 s, .slice A xs.length c] 25)).heap.size v' o' ys := h'.on (show Stays w _ from by (repeat (first | exact Stays.refl _ | (with_reducible refine Stays.drewN ?_ _) | (with_reducible refine Stays.alloc ?_ _) | (with_reducible refine Stays.drew ?_) | (refine Stays.trans ?_ ‹Stays _ _›))))
  obtain ⟨s', D, d, rfl, _, HD⟩ := boxMp 25 hh
  have hsz1 : (w.alloc (.cells #[.float .f32 s, .slice A xs.length c] 25)).heap.size = w.heap.size + 1 := by simp
  rw [hsz1] at HD
  have HB : Hid (∀ w1, Stays ((w.alloc (.cells #[.float .f32 s, .slice A xs.length c] 25)).alloc (.cells #[.float .f32 s', .slice D ys.length d] 25)) w1 → ((w1.cell? ⟨w.heap.size, 0, none⟩ = some (.float .f32 s) ∧ w1.cell? ⟨w.heap.size, 1, none⟩ = some (.slice A xs.length c)) ∧ (w1.cell? ⟨w.heap.size + 1, 0, none⟩ = some (.float .f32 s') ∧ w1.cell? ⟨w.heap.size + 1, 1, none⟩ = some (.slice D ys.length d))) ∧ Below w.heap.size w w1 ∧
      MpV w1 w1.heap.size (.agg #[.float .f32 s, .slice A xs.length c]) o xs ∧ MpV w1 w1.heap.size (.agg #[.float .f32 s', .slice D ys.length d]) o' ys) := Lib.hid fun w1 hb => by
    obtain ⟨⟨b1, b2⟩, b3⟩ := HD w1 hb
    obtain ⟨⟨a1, a2⟩, a3⟩ := HA w1 (Stays.trans (by (repeat (first | exact Stays.refl _ | (with_reducible refine Stays.drewN ?_ _) | (with_reducible refine Stays.alloc ?_ _) | (with_reducible refine Stays.drew ?_) | (refine Stays.trans ?_ ‹Stays _ _›)))) hb)
    exact ⟨⟨a1, b1⟩, a2, a3, b3⟩
  clear h h' hh HA HD hsz1
  have k1 := fun W => c_szLandMap (.float .f32 s) A c xs.length 1048576 W hn (by omega) (by omega)
  by_cases hl : (1048576 : Int) - xs.length < 0
  · simp only [if_pos hl] at k1
    replace k1 := Lib.hid k1
    go_enter Try.func4, Try.ntmps4
    go_wp2_with fail
    refine (k1.out _).mono ?_
    rintro e w1 ⟨rfl, hb⟩
    go_wp2
    go_ret
    exact ⟨rfl, (HB.out _ hb).2.1⟩
  · simp only [if_neg hl] at k1
    have hps : xs.length ≤ 1048576 := by omega
    have k2 := fun W => c_szLandMap (.float .f32 s') D d ys.length ((1048576 : Int) - xs.length) W hn' (by omega) (by omega)
    have hX : ¬ ((1048576 : Int) - xs.length < 0) := hl
    have hX' : (1048576 : Int) - xs.length ≤ 1048576 := by omega
    generalize (1048576 : Int) - xs.length = X at hX hX' k1 k2
    replace k1 := Lib.hid k1
    by_cases hl2 : X - ys.length < 0
    · simp only [if_pos hl2] at k2
      replace k2 := Lib.hid k2
      go_enter Try.func4, Try.ntmps4
      go_wp2_with fail
      refine (k1.out _).mono ?_
      rintro e w1 ⟨rfl, hb⟩
      obtain ⟨⟨_, q0, q1⟩, _⟩ := HB.out _ hb
      replace hb := Lib.hid (show Stays _ w1 from hb)
      go_wp2_with fail
      refine (k2.out _).mono ?_
      rintro e w2 ⟨rfl, hb2⟩
      go_wp2
      go_ret
      exact ⟨rfl, (HB.out _ (hb.out.trans hb2)).2.1⟩
    · simp only [if_neg hl2] at k2
      have hps' : ys.length ≤ 1048576 := by omega
      have hY : ¬ (X - ys.length < 0) := hl2
      generalize X - (ys.length : Int) = Y at hY k2
      replace k2 := Lib.hid k2
      have kS := fun v v' w h h' => c_specSameMap v v' o xs o' ys w h h' hps
      have kI := fun v v' w h h' => c_implSameMap v v' o xs o' ys w h h' hps hps'
      generalize mapS2 o xs o' ys = bg at kS kI
      replace kS := Lib.hid kS
      replace kI := Lib.hid kI
      clear hl hl2 hn hn' hX'
      go_enter Try.func4, Try.ntmps4
      go_wp2_with fail
      refine (k1.out _).mono ?_
      rintro e w1 ⟨rfl, hb⟩
      obtain ⟨⟨_, q0, q1⟩, _⟩ := HB.out _ hb
      replace hb := Lib.hid (show Stays _ w1 from hb)
      go_wp2_with fail
      refine (k2.out _).mono ?_
      rintro e w2 ⟨rfl, hb'⟩
      have hb2 := Lib.hid (hb.out.trans hb')
      clear hb hb' q0 q1
      generalize ((w.alloc (.cells #[.float .f32 s, .slice A xs.length c] 25)).alloc (.cells #[.float .f32 s', .slice D ys.length d] 25)) = W0 at HB hb2
      have G2 : Hid (∀ w', Stays w2 w' → (w'.cell? ⟨w.heap.size, 0, none⟩ = some (.float .f32 s) ∧ w'.cell? ⟨w.heap.size, 1, none⟩ = some (.slice A xs.length c) ∧ w'.cell? ⟨w.heap.size + 1, 0, none⟩ = some (.float .f32 s') ∧ w'.cell? ⟨w.heap.size + 1, 1, none⟩ = some (.slice D ys.length d)) ∧ Hid (Stays w2 w')) := Lib.hid fun w' h => by
        obtain ⟨⟨⟨a0, a1⟩, b0, b1⟩, _⟩ := HB.out _ (hb2.out.trans h)
        exact ⟨⟨a0, a1, b0, b1⟩, Lib.hid h⟩
      have h2 := Lib.hid (show Stays w2 w2.drew from (Stays.refl w2).drew)
      go_wp2_with fail
      go_region_held (fun w' => (w'.cell? ⟨w.heap.size, 0, none⟩ = some (.float .f32 s) ∧ w'.cell? ⟨w.heap.size, 1, none⟩ = some (.slice A xs.length c) ∧ w'.cell? ⟨w.heap.size + 1, 0, none⟩ = some (.float .f32 s') ∧ w'.cell? ⟨w.heap.size + 1, 1, none⟩ = some (.slice D ys.length d)) ∧ Hid (Stays w2 w')) (first | exact G2.out _ h2.out | exact G2.out _ h3.out | exact G2.out _ h4.out | exact G2.out _ h5.out)
        (first
          | (go_at_call 17; refine (c_toMp (.agg #[.float .f32 s', .slice D ys.length d]) o' ys _ (HB.out _ (hb2.out.trans h3.out)).2.2.2 hps').mono ?_; rintro e w4 ⟨v2, rfl, hb, hv2⟩; have h4 := Lib.hid (h3.out.trans hb); replace hv1 := Lib.hid (hv1.out.on hb); clear hb; replace hv2 := Lib.hid hv2)
          | (go_at_call 17; refine (c_toMp (.agg #[.float .f32 s, .slice A xs.length c]) o xs _ (HB.out _ (hb2.out.trans h2.out)).2.2.1 hps).mono ?_; rintro e w3 ⟨v1, rfl, hb, hv1⟩; have h3 := Lib.hid (h2.out.trans hb); clear hb; replace hv1 := Lib.hid hv1)
          | (go_at_call 20; refine (kS.out v1 v2 _ hv1.out hv2.out).mono ?_; rintro e w5 ⟨rfl, hb⟩; have h5 := Lib.hid (h4.out.trans hb); clear hb))
      have hb5 := Lib.hid (hb2.out.trans h5.out)
      clear h2 h3 h4 h5 G2 hb2 hv1 hv2
      obtain ⟨⟨⟨q0, q1⟩, q2, q3⟩, _⟩ := HB.out _ hb5.out
      go_wp2_with fail
      refine (c_toMp _ o xs w5 (HB.out _ hb5.out).2.2.1 hps).mono ?_
      rintro e w6 ⟨x1, rfl, hb, hx1⟩
      obtain ⟨s6, E, e', rfl, _, HE⟩ := boxMp 30 hx1
      replace HE := Lib.hid HE
      have hs6 := show Stays w6 (w6.alloc (.cells #[.float .f32 s6, .slice E xs.length e'] 30)) from by (repeat (first | exact Stays.refl _ | (with_reducible refine Stays.drewN ?_ _) | (with_reducible refine Stays.alloc ?_ _) | (with_reducible refine Stays.drew ?_) | (refine Stays.trans ?_ ‹Stays _ _›)))
      have hb6 := Lib.hid ((hb5.out.trans hb).trans hs6)
      have hx6 := Lib.hid (Stays.refl (w6.alloc (.cells #[.float .f32 s6, .slice E xs.length e'] 30)))
      clear hb hx1 hs6 q0 q1 q2 q3
      obtain ⟨⟨⟨q0, q1⟩, q2, q3⟩, _⟩ := HB.out _ hb6.out
      go_wp2_with fail
      generalize (w6.alloc (.cells #[.float .f32 s6, .slice E xs.length e'] 30)) = W6 at HE hb6 hx6 q0 q1 q2 q3 ⊢
      refine (c_toMp _ o' ys W6 (HB.out _ hb6.out).2.2.2 hps').mono ?_
      rintro e w7 ⟨x2, rfl, hb, hx2⟩
      obtain ⟨s7, F, g', rfl, _, HF⟩ := boxMp 30 hx2
      replace HF := Lib.hid HF
      have hs7 := Stays.trans (show Stays W6 w7 from hb) (show Stays w7 (w7.alloc (.cells #[.float .f32 s7, .slice F ys.length g'] 30)) from by (repeat (first | exact Stays.refl _ | (with_reducible refine Stays.drewN ?_ _) | (with_reducible refine Stays.alloc ?_ _) | (with_reducible refine Stays.drew ?_) | (refine Stays.trans ?_ ‹Stays _ _›))))
      have hb7 := Lib.hid (hb6.out.trans hs7)
      have hx7 := Lib.hid (hx6.out.trans hs7)
      have hy7 := Lib.hid (Stays.refl (w7.alloc (.cells #[.float .f32 s7, .slice F ys.length g'] 30)))
      clear hb hx2 hs7 q0 q1 q2 q3 hx6
      obtain ⟨⟨⟨q0, q1⟩, _⟩, _⟩ := HE.out _ hx7.out
      go_wp2_with fail
      generalize (w7.alloc (.cells #[.float .f32 s7, .slice F ys.length g'] 30)) = W7 at HF hb7 hx7 hy7 q0 q1 ⊢
      refine (kI.out _ _ W7 (HE.out _ hx7.out).2 (HF.out _ hy7.out).2).mono ?_
      rintro e w8 ⟨rfl, hb⟩
      have hb8 := Lib.hid (hb7.out.trans hb)
      have hx8 := Lib.hid (hx7.out.trans hb)
      have hy8 := Lib.hid (hy7.out.trans hb)
      clear hb hb7 hx7 hy7 q0 q1
      cases bg
      all_goals
        have G8 : Hid (∀ w', Stays w8 w' → (w'.cell? ⟨w.heap.size, 0, none⟩ = some (.float .f32 s) ∧ w'.cell? ⟨w.heap.size, 1, none⟩ = some (.slice A xs.length c) ∧ w'.cell? ⟨w6.heap.size, 0, none⟩ = some (.float .f32 s6) ∧ w'.cell? ⟨w6.heap.size, 1, none⟩ = some (.slice E xs.length e')) ∧ Hid (Stays w8 w')) := Lib.hid fun w' h => by
          obtain ⟨⟨⟨a0, a1⟩, b0, b1⟩, _⟩ := HB.out _ (hb8.out.trans h)
          obtain ⟨⟨⟨c0, c1⟩, _⟩, _⟩ := HE.out _ (hx8.out.trans h)
          exact ⟨⟨a0, a1, c0, c1⟩, Lib.hid h⟩
        have h8 := Lib.hid (show Stays w8 w8.drew from (Stays.refl w8).drew)
        go_wp2_with fail
        go_region_held (fun w' => (w'.cell? ⟨w.heap.size, 0, none⟩ = some (.float .f32 s) ∧ w'.cell? ⟨w.heap.size, 1, none⟩ = some (.slice A xs.length c) ∧ w'.cell? ⟨w6.heap.size, 0, none⟩ = some (.float .f32 s6) ∧ w'.cell? ⟨w6.heap.size, 1, none⟩ = some (.slice E xs.length e')) ∧ Hid (Stays w8 w')) (first | exact G8.out _ h8.out | exact G8.out _ h9.out | exact G8.out _ h10.out)
          (first
            | (go_at_call 17; refine (c_toMp _ o xs _ (HB.out _ (hb8.out.trans h8.out)).2.2.1 hps).mono ?_; rintro e w9 ⟨v1, rfl, hb, hv1⟩; have h9 := Lib.hid (h8.out.trans hb); clear hb; replace hv1 := Lib.hid hv1)
            | (go_at_call 19; refine (c_eqLandMap _ v1 o xs w9 (HE.out _ (hx8.out.trans h9.out)).2 hv1.out hps).mono ?_; rintro e w10 ⟨rfl, hb⟩; have h10 := Lib.hid (h9.out.trans hb); clear hb))
        have hb10 := Lib.hid (hb8.out.trans h10.out)
        have hy10 := Lib.hid (hy8.out.trans h10.out)
        clear h8 h9 h10 G8 hv1
        have GA : Hid (∀ w', Stays w10 w' → (w'.cell? ⟨w.heap.size + 1, 0, none⟩ = some (.float .f32 s') ∧ w'.cell? ⟨w.heap.size + 1, 1, none⟩ = some (.slice D ys.length d) ∧ w'.cell? ⟨w7.heap.size, 0, none⟩ = some (.float .f32 s7) ∧ w'.cell? ⟨w7.heap.size, 1, none⟩ = some (.slice F ys.length g')) ∧ Hid (Stays w10 w')) := Lib.hid fun w' h => by
          obtain ⟨⟨⟨a0, a1⟩, b0, b1⟩, _⟩ := HB.out _ (hb10.out.trans h)
          obtain ⟨⟨⟨c0, c1⟩, _⟩, _⟩ := HF.out _ (hy10.out.trans h)
          exact ⟨⟨b0, b1, c0, c1⟩, Lib.hid h⟩
        have h10 := Lib.hid (show Stays w10 w10.drew from (Stays.refl w10).drew)
        go_wp2_with fail
        go_region_held (fun w' => (w'.cell? ⟨w.heap.size + 1, 0, none⟩ = some (.float .f32 s') ∧ w'.cell? ⟨w.heap.size + 1, 1, none⟩ = some (.slice D ys.length d) ∧ w'.cell? ⟨w7.heap.size, 0, none⟩ = some (.float .f32 s7) ∧ w'.cell? ⟨w7.heap.size, 1, none⟩ = some (.slice F ys.length g')) ∧ Hid (Stays w10 w')) (first | exact GA.out _ h10.out | exact GA.out _ h11.out | exact GA.out _ h12.out)
          (first
            | (go_at_call 17; refine (c_toMp _ o' ys _ (HB.out _ (hb10.out.trans h10.out)).2.2.2 hps').mono ?_; rintro e w11 ⟨v1, rfl, hb, hv1⟩; have h11 := Lib.hid (h10.out.trans hb); clear hb; replace hv1 := Lib.hid hv1)
            | (go_at_call 19; refine (c_eqLandMap _ v1 o' ys w11 (HF.out _ (hy10.out.trans h11.out)).2 hv1.out hps').mono ?_; rintro e w12 ⟨rfl, hb⟩; have h12 := Lib.hid (h11.out.trans hb); clear hb))
        go_wp2
        go_ret
        exact ⟨rfl, (HB.out _ (hb10.out.trans h12.out)).2.1⟩
end Go.Proofs.Ytfjchhfoefgldab
