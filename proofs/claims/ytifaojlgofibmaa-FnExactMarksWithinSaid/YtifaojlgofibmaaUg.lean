/- Marks within a radius, as the document says it. No condition. -/
import Derived.Test.YtifaojlgofibmaaUf
namespace Go.Proofs.Ytifaojlgofibmaa
open Go Go.RowKit
set_option linter.unusedVariables false
set_option linter.unusedSimpArgs false

set_option maxRecDepth 100000 in
set_option maxHeartbeats 2000000 in
theorem c_specMarksWithin (v : Value) (o : Option Nat) (xs : List Mk) (a b c' q : Nat) (w : World) (h : MpV w w.heap.size v o xs) (hn : xs.length ≤ 1048576) :
    Calls Try.prog 31 #[v, .agg #[.float .f32 a, .float .f32 b, .float .f32 c'], .float .f32 q] w (LDone w (mwX o xs a b c' q) (mwC o xs a b c' q)) := by
  obtain ⟨s, A, c, rfl, hf, h1⟩ := h.val
  have hst0 : Stays w ((w.alloc (.cells #[.float .f32 s, .slice A xs.length c] 55)).alloc (.cells #[.float .f32 a, .float .f32 b, .float .f32 c'] 45)) := by (repeat (first | exact Stays.refl _ | (with_reducible refine Stays.drewN ?_ _) | (with_reducible refine Stays.alloc ?_ _) | (with_reducible refine Stays.drew ?_) | (refine Stays.trans ?_ ‹Stays _ _›)))
  have u0 : ((w.alloc (.cells #[.float .f32 s, .slice A xs.length c] 55)).alloc (.cells #[.float .f32 a, .float .f32 b, .float .f32 c'] 45)).heap[w.heap.size]? = some (.cells #[.float .f32 s, .slice A xs.length c] 55 (0, 0)) := by (repeat (first | (refine heap_top _ _ _ ?_; simp; done) | (with_reducible refine heap_drawn _ _ _ ?_) | (with_reducible refine heap_under _ _ _ ?_ ?_; (simp <;> omega))))
  have u1 : ((w.alloc (.cells #[.float .f32 s, .slice A xs.length c] 55)).alloc (.cells #[.float .f32 a, .float .f32 b, .float .f32 c'] 45)).heap[w.heap.size + 1]? = some (.cells #[.float .f32 a, .float .f32 b, .float .f32 c'] 45 (0, 0)) := by (repeat (first | (refine heap_top _ _ _ ?_; simp; done) | (with_reducible refine heap_drawn _ _ _ ?_) | (with_reducible refine heap_under _ _ _ ?_ ?_; (simp <;> omega))))
  have hW := Lib.hid fun w1 (hb : Stays ((w.alloc (.cells #[.float .f32 s, .slice A xs.length c] 55)).alloc (.cells #[.float .f32 a, .float .f32 b, .float .f32 c'] 45)) w1) => And.intro (And.intro (And.intro (row_of hb u0 0) (row_of hb u0 1)) (And.intro (row_of hb u1 0) (And.intro (row_of hb u1 1) (row_of hb u1 2)))) (And.intro (Below.trans (show Below w.heap.size w _ from hst0) (Below.mono hb hst0.size)) (show w.heap.size + 1 < w1.heap.size from Nat.lt_of_lt_of_le (in_heap u1) hb.size))
  have kV := c_l05Ok w.heap.size s o hf A c xs ((w.alloc (.cells #[.float .f32 s, .slice A xs.length c] 55)).alloc (.cells #[.float .f32 a, .float .f32 b, .float .f32 c'] 45)) u0 ((h1.below hst0).more hst0.size) hn
  have kM := Lib.hid fun W (hb : Stays ((w.alloc (.cells #[.float .f32 s, .slice A xs.length c] 55)).alloc (.cells #[.float .f32 a, .float .f32 b, .float .f32 c'] 45)) W) => (h1.below (Below.trans (show Below w.heap.size w _ from hst0) (Below.mono hb hst0.size)))
  have kF := Lib.hid fun W => c_specl01Vec a b c' W
  obtain ⟨i0, hi0, hz0, hz1, hz2⟩ := info_parts infoMk
  have hrad := rad_of q
  clear u0 u1 hst0 h h1 hf
  have hS := Stays.refl ((w.alloc (.cells #[.float .f32 s, .slice A xs.length c] 55)).alloc (.cells #[.float .f32 a, .float .f32 b, .float .f32 c'] 45))
  obtain ⟨⟨⟨q0, q1⟩, ⟨q2, q3, q4⟩⟩, hst, hsz⟩ := hW.out _ hS
  unfold mwX mwC
  cases hb1 : mapOK o xs with
  | false =>
    simp only [Bool.false_and, Bool.false_eq_true, if_false]
    rw [hb1] at kV
    replace kV := Lib.hid kV
    clear hb1
    go_enter Try.func31, Try.ntmps31
    go_wp2_with fail
    refine kV.out.mono ?_
    rintro e w4 ⟨rfl, hw4⟩
    clear hst
    have hst := Lib.hid (hW.out _ hw4).2.1
    go_wp2
    go_ret2
    exact ⟨w4.heap.size, some ⟨w4.heap.size, 0, none⟩, 0, rfl, (hst.out.alloc hst.out.size _), hst.out.size, ⟨_, _, rfl, fun h => absurd rfl h⟩⟩
  | true =>
    rw [hb1] at kV
    replace kV := Lib.hid kV
    clear hb1
    simp only [Bool.true_and, if_true]
    cases hb2 : finV a b c' with
    | false =>
      simp only [Bool.false_and, Bool.false_eq_true, if_false]
      go_enter Try.func31, Try.ntmps31
      go_wp2_with fail
      refine kV.out.mono ?_
      rintro e w4 ⟨rfl, hw4⟩
      clear q0 q1 q2 q3 q4 hst hsz
      obtain ⟨⟨⟨q0, q1⟩, ⟨q2, q3, q4⟩⟩, hst, hsz⟩ := hW.out _ hw4
      go_wp2_with fail
      refine (kF.out _).mono ?_
      rintro e w5 ⟨v5, rfl, hv5, hw5⟩
      rw [show v5 = _ from hv5, hb2]
      clear hv5 q0 q1 q2 q3 q4 hst hsz
      obtain ⟨⟨⟨q0, q1⟩, ⟨q2, q3, q4⟩⟩, hst, hsz⟩ := hW.out _ (Stays.trans hw4 hw5)
      replace hst := Lib.hid hst
      go_wp2
      go_ret2
      exact ⟨w5.heap.size, some ⟨w5.heap.size, 0, none⟩, 0, rfl, (hst.out.alloc hst.out.size _), hst.out.size, ⟨_, _, rfl, fun h => absurd rfl h⟩⟩
    | true =>
      simp only [Bool.true_and]
      cases hb3 : radB q with
      | false =>
        rw [hb3] at hrad
        simp only [Bool.false_eq_true, if_false]
        go_enter Try.func31, Try.ntmps31
        go_wp2_with fail
        refine kV.out.mono ?_
        rintro e w4 ⟨rfl, hw4⟩
        clear q0 q1 q2 q3 q4 hst hsz
        obtain ⟨⟨⟨q0, q1⟩, ⟨q2, q3, q4⟩⟩, hst, hsz⟩ := hW.out _ hw4
        go_wp2_with fail
        refine (kF.out _).mono ?_
        rintro e w5 ⟨v5, rfl, hv5, hw5⟩
        rw [show v5 = _ from hv5, hb2]
        clear hv5 q0 q1 q2 q3 q4 hst hsz
        obtain ⟨⟨⟨q0, q1⟩, ⟨q2, q3, q4⟩⟩, hst, hsz⟩ := hW.out _ (Stays.trans hw4 hw5)
        replace hst := Lib.hid hst
        go_wp2
        go_ret2
        exact ⟨w5.heap.size, some ⟨w5.heap.size, 0, none⟩, 0, rfl, (hst.out.alloc hst.out.size _), hst.out.size, ⟨_, _, rfl, fun h => absurd rfl h⟩⟩
      | true =>
        rw [hb3] at hrad
        simp only [if_true]
        go_enter Try.func31, Try.ntmps31
        go_wp2_with fail
        refine kV.out.mono ?_
        rintro e w4 ⟨rfl, hw4⟩
        clear q0 q1 q2 q3 q4 hst hsz
        obtain ⟨⟨⟨q0, q1⟩, ⟨q2, q3, q4⟩⟩, hst, hsz⟩ := hW.out _ hw4
        go_wp2_with fail
        refine (kF.out _).mono ?_
        rintro e w5 ⟨v5, rfl, hv5, hw5⟩
        rw [show v5 = _ from hv5, hb2]
        clear hv5 q0 q1 q2 q3 q4 hst hsz
        obtain ⟨⟨⟨q0, q1⟩, ⟨q2, q3, q4⟩⟩, hst, hsz⟩ := hW.out _ (Stays.trans hw4 hw5)
        replace hst := Lib.hid hst
        have hs5 := Lib.hid (Stays.trans hw4 hw5)
        clear hw4 hw5 q0 q1 q2 q3 q4
        go_wp2
        have hg0 := GrowM.made w5 (Nat.le_refl _)
        have hs6 : Stays w5 (w5.alloc (.cells #[] 92)) := by (repeat (first | exact Stays.refl _ | (with_reducible refine Stays.drewN ?_ _) | (with_reducible refine Stays.alloc ?_ _) | (with_reducible refine Stays.drew ?_) | (refine Stays.trans ?_ ‹Stays _ _›)))
        replace hg0 := Lib.hid hg0
        replace hs6 := Lib.hid (show Below w5.heap.size w5 _ from hs6)
        go_loopw [8, 9] (fun v i wr => ∃ (k : Nat) (ao : Option Addr) (cv : Nat), k ≤ xs.length ∧ i = .int .i64 k ∧ v = .slice ao (kept (inB a b c' q) xs k).length cv ∧ Hid (GrowM w5.heap.size wr v (kept (inB a b c' q) xs k)) ∧ Hid (Below w5.heap.size w5 wr)) (fun _ i _ => xs.length - (intOf i).toNat)
        case atStart => exact ⟨0, _, _, Nat.zero_le _, rfl, rfl, hg0, hs6⟩
        case round =>
          clear hg0 hs6
          obtain ⟨k, ao, cv, hk, rfl, rfl, hg, hb⟩ := hrel
          have hsr := Lib.hid (Stays.trans hs5.out (show Stays w5 wr from hb.out))
          have hG : Hid (∀ w1, Stays wr w1 → _) := Lib.hid fun w1 h => hW.out w1 (Stays.trans hsr.out h)
          by_cases hlt : k < xs.length
          · obtain ⟨ad, rfl, hbl, hrow⟩ := (kM.out _ hsr.out) k xs[k] (List.getElem?_eq_getElem hlt)
            have hrk : Hid (xs[k]? = some xs[k]) := Lib.hid (List.getElem?_eq_getElem hlt)
            generalize xs[k] = m at hrow hrk
            have hlt' : (k : Int) < (xs.length : Int) := by omega
            have hlen := kept_len (inB a b c' q) xs k
            have hbl2 : (ad.add (k * 9)).block < wr.heap.size := by rw [block_add]; exact Nat.lt_of_lt_of_le hbl (hG.out _ (Stays.refl _)).2.1.size
            have kA := Lib.hid fun W (hb : Stays wr W) => c_away (ad.add (k * 9)) m a b c' W (hrow.below hb hbl2) (Nat.lt_of_lt_of_le hbl2 hb.size)
            have hrow' := Lib.hid fun W (hb : Stays wr W) => hrow.below hb hbl2
            have hcells : ∀ w1, Stays wr w1 → _ := fun w1 h => (hG.out w1 h).1
            obtain ⟨⟨⟨q0, q1⟩, ⟨q2, q3, q4⟩⟩, hst2, hsz2⟩ := hG.out _ (Stays.refl _)
            clear hrow hbl2 hst2
            go_wp2_with fail
            refine wp_region_soft_tail 7 (Stays.refl _) (oneS 64 #[.pointer (some (ad.add (k * 9))), .agg #[.float .f32 a, .float .f32 b, .float .f32 c']] (r_away m a b c')) [] (by kernel_rfl) (by kernel_rfl) (fun _ h => by cases h) ?_
            simp only [List.take_succ_cons, List.take_zero, List.drop_succ_cons, List.drop_zero]
            repeat ((with_reducible apply soft_detG); (case hwa => rfl); (case hA => rfl); (case h => (intro w1 hw1; have hc := hcells w1 hw1; go_simp; exact rfl)); go_simp)
            refine soft_callO (by rfl) rfl ?h (fun w2 hw2 => kA.out w2 hw2) ?_
            case h => intro w1 hw1; have hc := hcells w1 hw1; go_simp
            rintro v ⟨d, rfl, hd⟩
            go_simp
            repeat ((with_reducible apply soft_detG); (case hwa => rfl); (case hA => rfl); (case h => (intro w1 hw1; have hc := hcells w1 hw1; go_simp; exact rfl)); go_simp)
            refine soft_nil ?_
            rintro w2 ⟨hw2, _⟩
            have hx := leF_of d q
            rw [hd.out] at hx
            change _ = inB a b c' q m at hx
            clear hcells hd q0 q1 q2 q3 q4
            obtain ⟨⟨⟨q0, q1⟩, ⟨q2, q3, q4⟩⟩, hst2, hsz2⟩ := hG.out _ hw2
            have hb2 := Lib.hid (show Below w5.heap.size w5 w2 from Below.trans hb.out (Below.mono hw2 hb.out.size))
            have hsz5 := hb2.out.size
            obtain ⟨ra, rb, rc, rd, hkm, g0, g1, g2, g3, g4, g5, g6, g7, g8⟩ := mk_at' (hrow'.out _ hw2)
            replace hkm := Lib.hid hkm
            obtain ⟨css, hown, hin⟩ := (hg.out.stays hw2).own
            replace hown := Lib.hid hown
            replace hin := Lib.hid hin
            clear hg hst2 hw2 hrow'
            cases hkeep : inB a b c' q m with
            | true =>
              have hkn := Lib.hid (kept_true (keep := inB a b c' q) hkeep hrk.out)
              rw [hkeep] at hx
              clear hkeep
              go_wp2_with (at_builtin; go_loud (refine wpList_append_own _ rfl _ _ 53 rfl w5.heap.size 92 i0 (.agg #[.int .i32 0, .int .i32 0, .int .i32 0, .float .f32 0, .float .f32 0, .float .f32 0, .float .f32 0, .int .i64 0, .int .i64 0]) 9 48 Try.underlying53 hi0 hz0 hz1 hz2 rfl (by decide) _ _ _ rfl (hown.out.alloc _) ⟨w2.heap.size, 0, none⟩ 1 1 [.int .i32 m.x, .int .i32 m.y, .int .i32 m.z, .float .f32 ra, .float .f32 rb, .float .f32 rc, .float .f32 rd, .int .i64 m.s, .int .i64 m.l] rfl rfl (World.news_of_block (heap_alloc_new w2 _)) (kms_one hkm.out) (by unfold maxLen; omega) (by omega) (by simp; omega) ?_); intro v' w3 hown1 hgrow _)
              have hg2 := Lib.hid (GrowM.more hown1 hin.out hkm.out)
              have hb3 := Lib.hid ((hb2.out.alloc hb2.out.size _).grown hgrow (Nat.le_trans hb2.out.size (by simp)) (fun q hq => (hown.out.lt q hq).1))
              clear hown1 hgrow
              go_round
              case rel =>
                obtain ⟨ao', cv', hv⟩ := hg2.out.form
                refine ⟨k + 1, ao', cv', by omega, by go_num, ?_, ?_, hb3⟩
                · rw [hkn.out]; exact hv
                · rw [hkn.out]; exact hg2
              case measure => simp [intOf]; omega
            | false =>
              have hkn := Lib.hid (kept_false (keep := inB a b c' q) hkeep hrk.out)
              rw [hkeep] at hx
              clear hkeep
              go_wp2_with fail
              go_round
              case rel =>
                refine ⟨k + 1, ao, cv, by omega, by go_num, ?_, ?_, hb2⟩
                · rw [hkn.out]
                · rw [hkn.out]; exact Lib.hid ⟨css, hown.out, hin.out⟩
              case measure => simp [intOf]; omega
          · have e : k = xs.length := by omega
            subst e
            rw [kept_all] at *
            obtain ⟨⟨⟨q0, q1⟩, ⟨q2, q3, q4⟩⟩, hst2, hsz2⟩ := hG.out _ (Stays.refl _)
            replace hst2 := Lib.hid hst2
            obtain ⟨g, hge, hl⟩ := hg.out.lies
            replace hl := Lib.hid hl
            replace hge := Lib.hid (show w.heap.size ≤ g from by have := hst.out.size; omega)
            go_wp2
            go_ret2
            exact ⟨g, ao, cv, rfl, hst2.out, hge.out, hl.out⟩
end Go.Proofs.Ytifaojlgofibmaa
