/- Records Log: the law on ValidLog. No condition. -/
import Derived.Test.YtdojdnndligmhaaMsVX
import Derived.Deep.RegionHeld
namespace Go.Proofs.Ytdojdnndligmhaa
open Go Go.RowKit
set_option linter.unusedVariables false
set_option linter.unusedSimpArgs false

set_option maxRecDepth 100000 in
set_option maxHeartbeats 2000000 in
theorem c_lawValidLog (v : Value) (hd : List NV) (bs ls : List (List NV)) (w : World) (h : LogV w w.heap.size v hd bs ls) (hn : bs.length ≤ 9223372036854775807) (hm : ls.length ≤ 9223372036854775807) :
    Calls Try.prog 7 #[v] w fun e w' => e = .returned (.bool true) ∧ Below w.heap.size w w' := by
  obtain ⟨r, x, y, z, A, c, A', c', rfl, HB⟩ := boxLog 48 h
  clear h
  replace HB := Lib.hid HB
  have hsz := fun W => c_szLog (.int .i64 r) (.float .f32 x) (.float .f32 y) (.float .f32 z) A A' c c' bs.length ls.length 1048576 W hn hm (by omega) (by omega)
  by_cases hl : (1048576 : Int) - bs.length - ls.length < 0
  · simp only [if_pos hl] at hsz
    replace hsz := Lib.hid hsz
    go_enter Try.func7, Try.ntmps7
    go_wp2_with fail
    refine (hsz.out _).mono ?_
    rintro e w1 ⟨rfl, hb⟩
    go_wp2
    go_ret
    exact ⟨rfl, (HB.out _ hb).2.1⟩
  · simp only [if_neg hl] at hsz
    have hn' : bs.length ≤ 1048576 := by omega
    have hm' : ls.length ≤ 1048576 := by omega
    have hX : ¬ ((1048576 : Int) - bs.length - ls.length < 0) := hl
    generalize (1048576 : Int) - bs.length - ls.length = X at hX hsz
    replace hsz := Lib.hid hsz
    have kS := fun v w h => c_specValidLog v hd bs ls w h hn' hm'
    have kI := fun v w h => c_implValidLog v hd bs ls w h hn' hm'
    generalize logB hd bs ls = bg at kS kI
    replace kS := Lib.hid kS
    replace kI := Lib.hid kI
    clear hl hn hm
    go_enter Try.func7, Try.ntmps7
    go_wp2_with fail
    refine (hsz.out _).mono ?_
    rintro e w1 ⟨rfl, hb⟩
    have hb1 := Lib.hid (show Stays _ w1 from hb)
    clear hb
    generalize (w.alloc (.cells #[.int .i64 r, .float .f32 x, .float .f32 y, .float .f32 z, .slice A bs.length c, .slice A' ls.length c'] 48)) = W0 at HB hb1
    obtain ⟨q0, _, hg⟩ := HB.out _ hb1.out
    replace hg := Lib.hid hg
    go_wp2_with fail
    refine (c_toLog _ hd bs ls w1 hg.out hn' hm').mono ?_
    rintro e w2 ⟨v1, rfl, hb, hv1⟩
    have hb2 := Lib.hid (Stays.trans hb1.out hb)
    clear hb
    replace hv1 := Lib.hid hv1
    go_wp2_with fail
    refine (kS.out v1 w2 hv1.out).mono ?_
    rintro e w3 ⟨rfl, hb⟩
    have hb3 := Lib.hid (Stays.trans hb2.out hb)
    clear hb hv1 q0 hg
    obtain ⟨q0, _, hg⟩ := HB.out _ hb3.out
    replace hg := Lib.hid hg
    go_wp2_with fail
    refine (c_toLog _ hd bs ls w3 hg.out hn' hm').mono ?_
    rintro e w4 ⟨v2, rfl, hb, hv2⟩
    have hb4 := Lib.hid (Stays.trans hb3.out hb)
    clear hb q0 hg
    obtain ⟨r2, x2, y2, z2, D, d, D', d', rfl, HX⟩ := boxLog 53 hv2
    clear hv2
    replace HX := Lib.hid HX
    go_wp2_with fail
    have hb4x := Lib.hid (Stays.trans hb4.out (show Stays w4 (w4.alloc (.cells #[.int .i64 r2, .float .f32 x2, .float .f32 y2, .float .f32 z2, .slice D bs.length d, .slice D' ls.length d'] 53)) from by (repeat (first | exact Stays.refl _ | (with_reducible refine Stays.drewN ?_ _) | (with_reducible refine Stays.alloc ?_ _) | (with_reducible refine Stays.drew ?_) | (refine Stays.trans ?_ ‹Stays _ _›)))))
    have hxx := Lib.hid (Stays.refl (w4.alloc (.cells #[.int .i64 r2, .float .f32 x2, .float .f32 y2, .float .f32 z2, .slice D bs.length d, .slice D' ls.length d'] 53)))
    generalize (w4.alloc (.cells #[.int .i64 r2, .float .f32 x2, .float .f32 y2, .float .f32 z2, .slice D bs.length d, .slice D' ls.length d'] 53)) = WX at HX hb4x hxx ⊢
    refine (kI.out _ WX (HX.out _ hxx.out).2.2).mono ?_
    rintro e w5 ⟨rfl, hb⟩
    have hb5 := Lib.hid (Stays.trans hb4x.out hb)
    replace hxx := Lib.hid (Stays.trans hxx.out hb)
    clear hb
    have G : Hid (∀ w', Stays w5 w' → (∀ i, w'.cell? ⟨w.heap.size, i, none⟩ = (#[.int .i64 r, .float .f32 x, .float .f32 y, .float .f32 z, .slice A bs.length c, .slice A' ls.length c'] : Array Value)[i]?) ∧ (∀ i, w'.cell? ⟨w4.heap.size, i, none⟩ = (#[.int .i64 r2, .float .f32 x2, .float .f32 y2, .float .f32 z2, .slice D bs.length d, .slice D' ls.length d'] : Array Value)[i]?) ∧ Hid (Stays w5 w')) := Lib.hid fun w' h => ⟨(HB.out _ (Stays.trans hb5.out h)).1, (HX.out _ (Stays.trans hxx.out h)).1, Lib.hid h⟩
    have h5 := Lib.hid (show Stays w5 w5.drew from (Stays.refl w5).drew)
    cases bg
    all_goals
      go_wp2_with fail
      go_region_held (fun w' => (∀ i, w'.cell? ⟨w.heap.size, i, none⟩ = (#[.int .i64 r, .float .f32 x, .float .f32 y, .float .f32 z, .slice A bs.length c, .slice A' ls.length c'] : Array Value)[i]?) ∧ (∀ i, w'.cell? ⟨w4.heap.size, i, none⟩ = (#[.int .i64 r2, .float .f32 x2, .float .f32 y2, .float .f32 z2, .slice D bs.length d, .slice D' ls.length d'] : Array Value)[i]?) ∧ Hid (Stays w5 w')) (first | exact G.out _ h5.out | exact G.out _ h6.out | exact G.out _ h7.out)
        (first
          | (go_at_call 24; refine (c_toLog _ hd bs ls _ (HB.out _ (Stays.trans hb5.out h5.out)).2.2 hn' hm').mono ?_; rintro e w6 ⟨v3, rfl, hb, hv3⟩; have h6 := Lib.hid (Stays.trans h5.out hb); clear hb; replace hv3 := Lib.hid hv3)
          | (go_at_call 26; refine (c_eqLog _ v3 hd bs ls w6 (HX.out _ (Stays.trans hxx.out h6.out)).2.2 hv3.out hn' hm').mono ?_; rintro e w7 ⟨rfl, hb⟩; have h7 := Lib.hid (Stays.trans h6.out hb); clear hb))
      go_wp2
      go_ret
      exact ⟨rfl, (HB.out _ (Stays.trans hb5.out h7.out)).2.1⟩
end Go.Proofs.Ytdojdnndligmhaa
