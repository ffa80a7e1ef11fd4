/- Records Log: the law on SameLog. No condition. -/
import Derived.Test.YtdojdnndligmhaaMsSL
import Derived.Deep.RegionHeld
namespace Go.Proofs.Ytdojdnndligmhaa
open Go Go.RowKit
set_option linter.unusedVariables false
set_option linter.unusedSimpArgs false

set_option maxRecDepth 100000 in
set_option maxHeartbeats 4000000 in
theorem c_lawSameLog (v v' : Value) (hd : List NV) (bs ls : List (List NV)) (hd' : List NV) (bs' ls' : List (List NV)) (w : World) (h : LogV w w.heap.size v hd bs ls) (h' : LogV w w.heap.size v' hd' bs' ls') (hn : bs.length ≤ 9223372036854775807) (hm : ls.length ≤ 9223372036854775807) (hn' : bs'.length ≤ 9223372036854775807) (hm' : ls'.length ≤ 9223372036854775807) :
    Calls Try.prog 8 #[v, v'] w fun e w' => e = .returned (.bool true) ∧ Below w.heap.size w w' := by
  obtain ⟨r1, x1, y1, z1, A1, c1, L1, m1, rfl, HA⟩ := boxLog 48 h
  have hh : LogV (w.alloc (.cells #[.int .i64 r1, .float .f32 x1, .float .f32 y1, .float .f32 z1, .slice A1 bs.length c1, .slice L1 ls.length m1] 48)) (w.alloc (.cells #[.int .i64 r1, .float .f32 x1, .float .f32 y1, .float .f32 z1, .slice A1 bs.length c1, .slice L1 ls.length m1] 48)).heap.size v' hd' bs' ls' := h'.on (show Stays w _ from by (repeat (first | exact Stays.refl _ | (with_reducible refine Stays.drewN ?_ _) | (with_reducible refine Stays.alloc ?_ _) | (with_reducible refine Stays.drew ?_) | (refine Stays.trans ?_ ‹Stays _ _›))))
  obtain ⟨r2, x2, y2, z2, A2, c2, L2, m2, rfl, HD⟩ := boxLog 48 hh
  have hsz1 : (w.alloc (.cells #[.int .i64 r1, .float .f32 x1, .float .f32 y1, .float .f32 z1, .slice A1 bs.length c1, .slice L1 ls.length m1] 48)).heap.size = w.heap.size + 1 := by simp
  rw [hsz1] at HD
  have HB : Hid (∀ w1, Stays ((w.alloc (.cells #[.int .i64 r1, .float .f32 x1, .float .f32 y1, .float .f32 z1, .slice A1 bs.length c1, .slice L1 ls.length m1] 48)).alloc (.cells #[.int .i64 r2, .float .f32 x2, .float .f32 y2, .float .f32 z2, .slice A2 bs'.length c2, .slice L2 ls'.length m2] 48)) w1 → ((∀ i, w1.cell? ⟨w.heap.size, i, none⟩ = (#[.int .i64 r1, .float .f32 x1, .float .f32 y1, .float .f32 z1, .slice A1 bs.length c1, .slice L1 ls.length m1] : Array Value)[i]?) ∧ (∀ i, w1.cell? ⟨w.heap.size + 1, i, none⟩ = (#[.int .i64 r2, .float .f32 x2, .float .f32 y2, .float .f32 z2, .slice A2 bs'.length c2, .slice L2 ls'.length m2] : Array Value)[i]?)) ∧ Stays w w1 ∧ LogV w1 w1.heap.size (.agg #[.int .i64 r1, .float .f32 x1, .float .f32 y1, .float .f32 z1, .slice A1 bs.length c1, .slice L1 ls.length m1]) hd bs ls ∧ LogV w1 w1.heap.size (.agg #[.int .i64 r2, .float .f32 x2, .float .f32 y2, .float .f32 z2, .slice A2 bs'.length c2, .slice L2 ls'.length m2]) hd' bs' ls') := Lib.hid fun w1 hb => by
    obtain ⟨b1, b2, b3⟩ := HD w1 hb
    obtain ⟨a1, a2, a3⟩ := HA w1 (Stays.trans (by (repeat (first | exact Stays.refl _ | (with_reducible refine Stays.drewN ?_ _) | (with_reducible refine Stays.alloc ?_ _) | (with_reducible refine Stays.drew ?_) | (refine Stays.trans ?_ ‹Stays _ _›)))) hb)
    exact ⟨⟨a1, b1⟩, a2, a3, b3⟩
  clear h h' hh HA HD hsz1
  have k1 := fun W => c_szLog (.int .i64 r1) (.float .f32 x1) (.float .f32 y1) (.float .f32 z1) A1 L1 c1 m1 bs.length ls.length 1048576 W hn hm (by omega) (by omega)
  by_cases hl : (1048576 : Int) - bs.length - ls.length < 0
  · simp only [if_pos hl] at k1
    replace k1 := Lib.hid k1
    go_enter Try.func8, Try.ntmps8
    go_wp2_with fail
    refine (k1.out _).mono ?_
    rintro e w1 ⟨rfl, hb⟩
    go_wp2
    go_ret
    exact ⟨rfl, (HB.out _ hb).2.1⟩
  · simp only [if_neg hl] at k1
    have hps : bs.length ≤ 1048576 := by omega
    have hls : ls.length ≤ 1048576 := by omega
    have kz := fun W => c_szLog (.int .i64 r2) (.float .f32 x2) (.float .f32 y2) (.float .f32 z2) A2 L2 c2 m2 bs'.length ls'.length ((1048576 : Int) - bs.length - ls.length) W hn' hm' (by omega) (by omega)
    have hX : ¬ ((1048576 : Int) - bs.length - ls.length < 0) := hl
    have hX' : (1048576 : Int) - bs.length - ls.length ≤ 1048576 := by omega
    generalize (1048576 : Int) - bs.length - ls.length = X at hX hX' k1 kz
    replace k1 := Lib.hid k1
    by_cases hl2 : X - bs'.length - ls'.length < 0
    · simp only [if_pos hl2] at kz
      replace kz := Lib.hid kz
      go_enter Try.func8, Try.ntmps8
      go_wp2_with fail
      refine (k1.out _).mono ?_
      rintro e w1 ⟨rfl, hb⟩
      obtain ⟨⟨_, q0⟩, _⟩ := HB.out _ hb
      replace hb := Lib.hid (show Stays _ w1 from hb)
      go_wp2_with fail
      refine (kz.out _).mono ?_
      rintro e w2 ⟨rfl, hb2⟩
      go_wp2
      go_ret
      exact ⟨rfl, (HB.out _ (Stays.trans hb.out hb2)).2.1⟩
    · simp only [if_neg hl2] at kz
      have hps' : bs'.length ≤ 1048576 := by omega
      have hls' : ls'.length ≤ 1048576 := by omega
      have hY : ¬ (X - bs'.length - ls'.length < 0) := hl2
      generalize X - (bs'.length : Int) - (ls'.length : Int) = Y at hY kz
      replace kz := Lib.hid kz
      have kS := fun v v' w h h' => c_specSameLog v v' hd bs ls hd' bs' ls' w h h' hps hls
      have kI := fun v v' w h h' => c_implSameLog v v' hd bs ls hd' bs' ls' w h h' hps hls hps' hls'
      generalize logS hd bs ls hd' bs' ls' = bg at kS kI
      replace kS := Lib.hid kS
      replace kI := Lib.hid kI
      clear hl hl2 hn hm hn' hm' hX'
      go_enter Try.func8, Try.ntmps8
      go_wp2_with fail
      refine (k1.out _).mono ?_
      rintro e w1 ⟨rfl, hb⟩
      obtain ⟨⟨_, q0⟩, _⟩ := HB.out _ hb
      replace hb := Lib.hid (show Stays _ w1 from hb)
      go_wp2_with fail
      refine (kz.out _).mono ?_
      rintro e w2 ⟨rfl, hb'⟩
      have hb2 := Lib.hid (Stays.trans hb.out hb')
      clear hb hb' q0
      generalize ((w.alloc (.cells #[.int .i64 r1, .float .f32 x1, .float .f32 y1, .float .f32 z1, .slice A1 bs.length c1, .slice L1 ls.length m1] 48)).alloc (.cells #[.int .i64 r2, .float .f32 x2, .float .f32 y2, .float .f32 z2, .slice A2 bs'.length c2, .slice L2 ls'.length m2] 48)) = W0 at HB hb2
      have G2 : Hid (∀ w', Stays w2 w' → ((∀ i, w'.cell? ⟨w.heap.size, i, none⟩ = (#[.int .i64 r1, .float .f32 x1, .float .f32 y1, .float .f32 z1, .slice A1 bs.length c1, .slice L1 ls.length m1] : Array Value)[i]?) ∧ (∀ i, w'.cell? ⟨w.heap.size + 1, i, none⟩ = (#[.int .i64 r2, .float .f32 x2, .float .f32 y2, .float .f32 z2, .slice A2 bs'.length c2, .slice L2 ls'.length m2] : Array Value)[i]?)) ∧ Hid (Stays w2 w')) := Lib.hid fun w' h => by
        obtain ⟨⟨a0, b0⟩, _⟩ := HB.out _ (Stays.trans hb2.out h)
        exact ⟨⟨a0, b0⟩, Lib.hid h⟩
      have h2 := Lib.hid (show Stays w2 w2.drew from (Stays.refl w2).drew)
      go_wp2_with fail
      go_region_held (fun w' => ((∀ i, w'.cell? ⟨w.heap.size, i, none⟩ = (#[.int .i64 r1, .float .f32 x1, .float .f32 y1, .float .f32 z1, .slice A1 bs.length c1, .slice L1 ls.length m1] : Array Value)[i]?) ∧ (∀ i, w'.cell? ⟨w.heap.size + 1, i, none⟩ = (#[.int .i64 r2, .float .f32 x2, .float .f32 y2, .float .f32 z2, .slice A2 bs'.length c2, .slice L2 ls'.length m2] : Array Value)[i]?)) ∧ Hid (Stays w2 w')) (first | exact G2.out _ h2.out | exact G2.out _ h3.out | exact G2.out _ h4.out | exact G2.out _ h5.out)
        (first
          | (go_at_call 24; refine (c_toLog (.agg #[.int .i64 r2, .float .f32 x2, .float .f32 y2, .float .f32 z2, .slice A2 bs'.length c2, .slice L2 ls'.length m2]) hd' bs' ls' _ (HB.out _ (Stays.trans hb2.out h3.out)).2.2.2 hps' hls').mono ?_; rintro e w4 ⟨v2, rfl, hb, hv2⟩; have h4 := Lib.hid (Stays.trans h3.out hb); replace hv1 := Lib.hid (hv1.out.on hb); clear hb; replace hv2 := Lib.hid hv2)
          | (go_at_call 24; refine (c_toLog (.agg #[.int .i64 r1, .float .f32 x1, .float .f32 y1, .float .f32 z1, .slice A1 bs.length c1, .slice L1 ls.length m1]) hd bs ls _ (HB.out _ (Stays.trans hb2.out h2.out)).2.2.1 hps hls).mono ?_; rintro e w3 ⟨v1, rfl, hb, hv1⟩; have h3 := Lib.hid (Stays.trans h2.out hb); clear hb; replace hv1 := Lib.hid hv1)
          | (go_at_call 27; refine (kS.out v1 v2 _ hv1.out hv2.out).mono ?_; rintro e w5 ⟨rfl, hb⟩; have h5 := Lib.hid (Stays.trans h4.out hb); clear hb))
      have hb5 := Lib.hid (Stays.trans hb2.out h5.out)
      clear h2 h3 h4 h5 G2 hb2 hv1 hv2
      obtain ⟨⟨q0, q2⟩, _⟩ := HB.out _ hb5.out
      go_wp2_with fail
      refine (c_toLog _ hd bs ls w5 (HB.out _ hb5.out).2.2.1 hps hls).mono ?_
      rintro e w6 ⟨x1', rfl, hb, hx1⟩
      obtain ⟨r3, x3, y3, z3, A3, c3, L3, m3, rfl, HE⟩ := boxLog 53 hx1
      replace HE := Lib.hid HE
      have hs6 := show Stays w6 (w6.alloc (.cells #[.int .i64 r3, .float .f32 x3, .float .f32 y3, .float .f32 z3, .slice A3 bs.length c3, .slice L3 ls.length m3] 53)) from by (repeat (first | exact Stays.refl _ | (with_reducible refine Stays.drewN ?_ _) | (with_reducible refine Stays.alloc ?_ _) | (with_reducible refine Stays.drew ?_) | (refine Stays.trans ?_ ‹Stays _ _›)))
      have hb6 := Lib.hid (Stays.trans (Stays.trans hb5.out hb) hs6)
      have hx6 := Lib.hid (Stays.refl (w6.alloc (.cells #[.int .i64 r3, .float .f32 x3, .float .f32 y3, .float .f32 z3, .slice A3 bs.length c3, .slice L3 ls.length m3] 53)))
      clear hb hx1 hs6 q0 q2
      obtain ⟨⟨q0, q2⟩, _⟩ := HB.out _ hb6.out
      go_wp2_with fail
      generalize (w6.alloc (.cells #[.int .i64 r3, .float .f32 x3, .float .f32 y3, .float .f32 z3, .slice A3 bs.length c3, .slice L3 ls.length m3] 53)) = W6 at HE hb6 hx6 q0 q2 ⊢
      refine (c_toLog _ hd' bs' ls' W6 (HB.out _ hb6.out).2.2.2 hps' hls').mono ?_
      rintro e w7 ⟨x2', rfl, hb, hx2⟩
      obtain ⟨r4, x4, y4, z4, A4, c4, L4, m4, rfl, HF⟩ := boxLog 53 hx2
      replace HF := Lib.hid HF
      have hs7 := Stays.trans (show Stays W6 w7 from hb) (show Stays w7 (w7.alloc (.cells #[.int .i64 r4, .float .f32 x4, .float .f32 y4, .float .f32 z4, .slice A4 bs'.length c4, .slice L4 ls'.length m4] 53)) from by (repeat (first | exact Stays.refl _ | (with_reducible refine Stays.drewN ?_ _) | (with_reducible refine Stays.alloc ?_ _) | (with_reducible refine Stays.drew ?_) | (refine Stays.trans ?_ ‹Stays _ _›))))
      have hb7 := Lib.hid (Stays.trans hb6.out hs7)
      have hx7 := Lib.hid (Stays.trans hx6.out hs7)
      have hy7 := Lib.hid (Stays.refl (w7.alloc (.cells #[.int .i64 r4, .float .f32 x4, .float .f32 y4, .float .f32 z4, .slice A4 bs'.length c4, .slice L4 ls'.length m4] 53)))
      clear hb hx2 hs7 q0 q2 hx6
      obtain ⟨q0, _⟩ := HE.out _ hx7.out
      go_wp2_with fail
      generalize (w7.alloc (.cells #[.int .i64 r4, .float .f32 x4, .float .f32 y4, .float .f32 z4, .slice A4 bs'.length c4, .slice L4 ls'.length m4] 53)) = W7 at HF hb7 hx7 hy7 q0 ⊢
      refine (kI.out _ _ W7 (HE.out _ hx7.out).2.2 (HF.out _ hy7.out).2.2).mono ?_
      rintro e w8 ⟨rfl, hb⟩
      have hb8 := Lib.hid (Stays.trans hb7.out hb)
      have hx8 := Lib.hid (Stays.trans hx7.out hb)
      have hy8 := Lib.hid (Stays.trans hy7.out hb)
      clear hb hb7 hx7 hy7 q0
      cases bg
      all_goals
        have G8 : Hid (∀ w', Stays w8 w' → ((∀ i, w'.cell? ⟨w.heap.size, i, none⟩ = (#[.int .i64 r1, .float .f32 x1, .float .f32 y1, .float .f32 z1, .slice A1 bs.length c1, .slice L1 ls.length m1] : Array Value)[i]?) ∧ (∀ i, w'.cell? ⟨w6.heap.size, i, none⟩ = (#[.int .i64 r3, .float .f32 x3, .float .f32 y3, .float .f32 z3, .slice A3 bs.length c3, .slice L3 ls.length m3] : Array Value)[i]?)) ∧ Hid (Stays w8 w')) := Lib.hid fun w' h => by
          obtain ⟨⟨a0, b0⟩, _⟩ := HB.out _ (Stays.trans hb8.out h)
          obtain ⟨c0, _⟩ := HE.out _ (Stays.trans hx8.out h)
          exact ⟨⟨a0, c0⟩, Lib.hid h⟩
        have h8 := Lib.hid (show Stays w8 w8.drew from (Stays.refl w8).drew)
        go_wp2_with fail
        go_region_held (fun w' => ((∀ i, w'.cell? ⟨w.heap.size, i, none⟩ = (#[.int .i64 r1, .float .f32 x1, .float .f32 y1, .float .f32 z1, .slice A1 bs.length c1, .slice L1 ls.length m1] : Array Value)[i]?) ∧ (∀ i, w'.cell? ⟨w6.heap.size, i, none⟩ = (#[.int .i64 r3, .float .f32 x3, .float .f32 y3, .float .f32 z3, .slice A3 bs.length c3, .slice L3 ls.length m3] : Array Value)[i]?)) ∧ Hid (Stays w8 w')) (first | exact G8.out _ h8.out | exact G8.out _ h9.out | exact G8.out _ h10.out)
          (first
            | (go_at_call 24; refine (c_toLog _ hd bs ls _ (HB.out _ (Stays.trans hb8.out h8.out)).2.2.1 hps hls).mono ?_; rintro e w9 ⟨v1, rfl, hb, hv1⟩; have h9 := Lib.hid (Stays.trans h8.out hb); clear hb; replace hv1 := Lib.hid hv1)
            | (go_at_call 26; refine (c_eqLog _ v1 hd bs ls w9 (HE.out _ (Stays.trans hx8.out h9.out)).2.2 hv1.out hps hls).mono ?_; rintro e w10 ⟨rfl, hb⟩; have h10 := Lib.hid (Stays.trans h9.out hb); clear hb))
        have hb10 := Lib.hid (Stays.trans hb8.out h10.out)
        have hy10 := Lib.hid (Stays.trans hy8.out h10.out)
        clear h8 h9 h10 G8 hv1
        have GA : Hid (∀ w', Stays w10 w' → ((∀ i, w'.cell? ⟨w.heap.size + 1, i, none⟩ = (#[.int .i64 r2, .float .f32 x2, .float .f32 y2, .float .f32 z2, .slice A2 bs'.length c2, .slice L2 ls'.length m2] : Array Value)[i]?) ∧ (∀ i, w'.cell? ⟨w7.heap.size, i, none⟩ = (#[.int .i64 r4, .float .f32 x4, .float .f32 y4, .float .f32 z4, .slice A4 bs'.length c4, .slice L4 ls'.length m4] : Array Value)[i]?)) ∧ Hid (Stays w10 w')) := Lib.hid fun w' h => by
          obtain ⟨⟨a0, b0⟩, _⟩ := HB.out _ (Stays.trans hb10.out h)
          obtain ⟨c0, _⟩ := HF.out _ (Stays.trans hy10.out h)
          exact ⟨⟨b0, c0⟩, Lib.hid h⟩
        have h10 := Lib.hid (show Stays w10 w10.drew from (Stays.refl w10).drew)
        go_wp2_with fail
        go_region_held (fun w' => ((∀ i, w'.cell? ⟨w.heap.size + 1, i, none⟩ = (#[.int .i64 r2, .float .f32 x2, .float .f32 y2, .float .f32 z2, .slice A2 bs'.length c2, .slice L2 ls'.length m2] : Array Value)[i]?) ∧ (∀ i, w'.cell? ⟨w7.heap.size, i, none⟩ = (#[.int .i64 r4, .float .f32 x4, .float .f32 y4, .float .f32 z4, .slice A4 bs'.length c4, .slice L4 ls'.length m4] : Array Value)[i]?)) ∧ Hid (Stays w10 w')) (first | exact GA.out _ h10.out | exact GA.out _ h11.out | exact GA.out _ h12.out)
          (first
            | (go_at_call 24; refine (c_toLog _ hd' bs' ls' _ (HB.out _ (Stays.trans hb10.out h10.out)).2.2.2 hps' hls').mono ?_; rintro e w11 ⟨v1, rfl, hb, hv1⟩; have h11 := Lib.hid (Stays.trans h10.out hb); clear hb; replace hv1 := Lib.hid hv1)
            | (go_at_call 26; refine (c_eqLog _ v1 hd' bs' ls' w11 (HF.out _ (Stays.trans hy10.out h11.out)).2.2 hv1.out hps' hls').mono ?_; rintro e w12 ⟨rfl, hb⟩; have h12 := Lib.hid (Stays.trans h11.out hb); clear hb))
        go_wp2
        go_ret
        exact ⟨rfl, (HB.out _ (Stays.trans hb10.out h12.out)).2.1⟩
end Go.Proofs.Ytdojdnndligmhaa
