/- Times between two times: the program's side. No condition. -/
import Derived.Test.YtpccnejchbachaaTn
namespace Go.Proofs.Ytpccnejchbachaa
open Go Go.ChangeShapes Go.WideShapes Go.RowKit
set_option linter.unusedVariables false
set_option linter.unusedSimpArgs false

set_option maxRecDepth 100000 in
set_option maxHeartbeats 2000000 in
theorem c_implTB (v : Value) (ins : List NV) (hs : Sen v ins) (a b : Int) (w : World) :
    Calls Try.prog 9 #[v, .int .i64 a, .int .i64 b] w (IDone w (tbC ins a b) (tbX ins a b)) := by
  have hcell := hs
  have hev := sen_ev w hs
  obtain ⟨r0, r1, r2, r3, r4, r5, ev, d, rfl, hdd⟩ := hs.cells
  clear hdd
  have hbox := heap_alloc_new w (.cells #[.float .f32 r0, .float .f32 r1, .float .f32 r2, .float .f32 r3, .float .f32 r4, .float .f32 r5, .int .i64 ev, .int .i64 d] 31)
  have hst : Stays w (w.alloc (.cells #[.float .f32 r0, .float .f32 r1, .float .f32 r2, .float .f32 r3, .float .f32 r4, .float .f32 r5, .int .i64 ev, .int .i64 d] 31)) := by (repeat (first | exact Stays.refl _ | (with_reducible refine Stays.drewN ?_ _) | (with_reducible refine Stays.alloc ?_ _) | (with_reducible refine Stays.drew ?_) | (refine Stays.trans ?_ ‹Stays _ _›)))
  have kS := Lib.hid (fun W => c_ValidSensor _ ins W hs)
  have HB := Lib.hid fun W (hb : Stays (w.alloc (.cells #[.float .f32 r0, .float .f32 r1, .float .f32 r2, .float .f32 r3, .float .f32 r4, .float .f32 r5, .int .i64 ev, .int .i64 d] 31)) W) => row_of hb hbox 6
  have ka := Lib.hid fun W => c_isTime a W
  have kb := Lib.hid fun W => c_isTime b W
  obtain ⟨i0, hi0, hz0, hz1, hz2⟩ := info_parts (show (Try.prog.info? 2).map (fun i => (i.zero, i.size, i.bytes)) = some (some (.int .i64 0), 1, 8) from by kernel_rfl)
  replace hst := Lib.hid hst
  unfold tbC tbX tbN
  generalize sensB ins = sb at hev kS ⊢
  cases sb with
  | false =>
    clear hs hcell hev hbox
    simp only [Bool.false_and, Bool.false_eq_true, if_false]
    go_enter Try.func9, Try.ntmps9
    go_wp2_with fail
    refine (kS.out _).mono ?_
    rintro e w1 ⟨rfl, hb1⟩
    have hb2 := Lib.hid (hst.out.trans (show Stays _ w1 from hb1))
    have hgE := Lib.hid (GrowI.nil w.heap.size w1)
    have hbE := hb2
    go_wp2
    go_ret2
    exact ⟨_, rfl, hgE.out, hbE.out⟩
  | true =>
    obtain ⟨q0, q1, q2, q3, q4, q5, ev', d', eq, he, hev1⟩ := hev rfl
    have eev : ev' = ev := by injection eq with eq; simp at eq; exact eq.2.2.2.2.2.2.1.symm
    subst eev
    rw [← he]
    clear eq he hs hcell hev hbox
    simp only [Bool.true_and, if_true]
    cases hta : okTime a with
    | false =>
      rw [hta] at ka
      clear hta
      simp only [Bool.false_and, Bool.false_eq_true, if_false]
      go_enter Try.func9, Try.ntmps9
      go_wp2_with fail
      refine (kS.out _).mono ?_
      rintro e w1 ⟨rfl, hb1⟩
      have hb2 := Lib.hid (hst.out.trans (show Stays _ w1 from hb1))
      clear hb1
      go_wp2_with fail
      refine (ka.out _).mono ?_
      rintro e w' ⟨rfl, rfl⟩
      have hgE := Lib.hid (GrowI.nil w.heap.size w1)
      have hbE := hb2
      go_wp2
      go_ret2
      exact ⟨_, rfl, hgE.out, hbE.out⟩
    | true =>
      rw [hta] at ka
      cases htb : okTime b with
      | false =>
        rw [htb] at kb
        clear hta htb
        simp only [Bool.true_and, Bool.false_and, Bool.false_eq_true, if_false]
        go_enter Try.func9, Try.ntmps9
        go_wp2_with fail
        refine (kS.out _).mono ?_
        rintro e w1 ⟨rfl, hb1⟩
        have hb2 := Lib.hid (hst.out.trans (show Stays _ w1 from hb1))
        clear hb1
        go_wp2_with fail
        refine (ka.out _).mono ?_
        rintro e w' ⟨rfl, rfl⟩
        go_wp2_with fail
        refine (kb.out _).mono ?_
        rintro e w' ⟨rfl, rfl⟩
        have hgE := Lib.hid (GrowI.nil w.heap.size w1)
        have hbE := hb2
        go_wp2
        go_ret2
        exact ⟨_, rfl, hgE.out, hbE.out⟩
      | true =>
        rw [htb] at kb
        simp only [if_true, Bool.true_and]
        have ha : 0 ≤ a ∧ a ≤ 1000000000 := by unfold okTime at hta; simpa using hta
        have hb : 0 ≤ b ∧ b ≤ 1000000000 := by unfold okTime at htb; simpa using htb
        have hf := first_bd ha hev1
        have heq := Lib.hid (first_eq ha hev1)
        clear hta htb
        have hcnt := Lib.hid (fun k => cnt_iff (f := firstT a ev') (ev := ev') (b := b) hev1.1 k)
        obtain ⟨cd, hcd⟩ : ∃ cd : Int, cd = if cnt (firstT a ev') ev' b ≤ 256 then 0 else 3 := ⟨_, rfl⟩
        obtain ⟨xs, hxs⟩ : ∃ xs : List Int, xs = if decide (cnt (firstT a ev') ev' b ≤ 256) = true then ticks (firstT a ev') ev' (cnt (firstT a ev') ev' b) else [] := ⟨_, rfl⟩
        rw [← hcd, ← hxs]
        have hgood := Lib.hid (show cnt (firstT a ev') ev' b ≤ 256 → cd = 0 ∧ xs = ticks (firstT a ev') ev' (cnt (firstT a ev') ev' b) from fun h => ⟨by rw [hcd, if_pos h], by rw [hxs, if_pos (decide_eq_true h)]⟩)
        have hbad := Lib.hid (show ¬ cnt (firstT a ev') ev' b ≤ 256 → cd = 3 ∧ xs = [] from fun h => ⟨by rw [hcd, if_neg h], by rw [hxs, if_neg (by simpa using h)]⟩)
        clear hcd hxs
        generalize firstT a ev' = f at *
        generalize cnt f ev' b = n at *
        replace ha := Lib.hid ha
        replace hb := Lib.hid hb
        replace hf := Lib.hid hf
        replace hev1 := Lib.hid hev1
        go_enter Try.func9, Try.ntmps9
        go_wp2_with fail
        refine (kS.out _).mono ?_
        rintro e w1 ⟨rfl, hb1⟩
        have hb1' := Lib.hid (show Stays _ w1 from hb1)
        clear hb1
        go_wp2_with fail
        refine (ka.out _).mono ?_
        rintro e w' ⟨rfl, rfl⟩
        go_wp2_with fail
        refine (kb.out _).mono ?_
        rintro e w' ⟨rfl, rfl⟩
        have hb2 := Lib.hid (hb1'.out.trans (show Stays w1 w1 from by (repeat (first | exact Stays.refl _ | (with_reducible refine Stays.drewN ?_ _) | (with_reducible refine Stays.alloc ?_ _) | (with_reducible refine Stays.drew ?_) | (refine Stays.trans ?_ ‹Stays _ _›)))))
        have q6 := HB.out _ hb2.out
        have hg0 := Lib.hid (GrowI.nil (w.alloc (.cells #[.float .f32 r0, .float .f32 r1, .float .f32 r2, .float .f32 r3, .float .f32 r4, .float .f32 r5, .int .i64 ev', .int .i64 d] 31)).heap.size w1)
        have e1 : ¬ (ev' = 0) := by have := hev1.out; omega
        have e2 : IntKind.i64.wrap (a + ev') = a + ev' := IntWalk.i64_in _ (by have := hev1.out; have := ha.out; omega)
        have e3 : IntKind.i64.wrap (a + ev' - 1) = a + ev' - 1 := IntWalk.i64_in _ (by have := hev1.out; have := ha.out; omega)
        have e4 : IntKind.i64.wrap (Int.tdiv (a + ev' - 1) ev') = Int.tdiv (a + ev' - 1) ev' := IntWalk.i64_in _ heq.out.2
        have e5 : Int.tdiv (a + ev' - 1) ev' * ev' = f := heq.out.1
        have e6 : IntKind.i64.wrap f = f := IntWalk.i64_in _ (by have := hf.out; omega)
        go_wp2
        go_region
        clear q6 e2 e3 e4 e5 e6
        go_wp2
        go_loopw [8, 10] (fun v i wr => ∃ (k : Nat) (t : Int) (ao : Option Addr) (cv : Nat), k ≤ 256 ∧ i = .int .i64 t ∧ v = .slice ao k cv ∧ Hid (t = f + k * ev' ∧ (0 ≤ t ∧ t ≤ 1002000000)) ∧ Hid (k ≤ n) ∧ Hid (GrowI (w.alloc (.cells #[.float .f32 r0, .float .f32 r1, .float .f32 r2, .float .f32 r3, .float .f32 r4, .float .f32 r5, .int .i64 ev', .int .i64 d] 31)).heap.size wr v (ticks f ev' k)) ∧ Hid (Stays (w.alloc (.cells #[.float .f32 r0, .float .f32 r1, .float .f32 r2, .float .f32 r3, .float .f32 r4, .float .f32 r5, .int .i64 ev', .int .i64 d] 31)) wr)) (fun _ i _ => (1002000001 - intOf i).toNat)
        case atStart => exact ⟨0, f, _, _, by omega, rfl, rfl, Lib.hid ⟨by simp, by have := hf.out; omega⟩, Lib.hid (Nat.zero_le _), Lib.hid (hg0.out.stays (by (repeat (first | exact Stays.refl _ | (with_reducible refine Stays.drewN ?_ _) | (with_reducible refine Stays.alloc ?_ _) | (with_reducible refine Stays.drew ?_) | (refine Stays.trans ?_ ‹Stays _ _›))))), Lib.hid hb2.out.drew⟩
        case round =>
          clear hb2 hg0 hb1'
          obtain ⟨k, t, ao, cv, hk, rfl, rfl, ht, hkn, hgr, hb3⟩ := hrel
          have hc := hcnt.out k
          have q6 := HB.out wr hb3.out
          by_cases hlt : t ≤ b
          · have hkn' : k < n := hc.2 (by have := ht.out; omega)
            by_cases h256 : k = 256
            · subst h256
              have hbd := hbad.out (by omega)
              obtain ⟨rfl, rfl⟩ := hbd
              clear hc hkn' hk
              have hw3 := Lib.hid (hst.out.trans hb3.out)
              have hgE := Lib.hid (GrowI.nil w.heap.size wr)
              have hbE := hw3
              go_wp2
              go_ret2
              exact ⟨_, rfl, hgE.out, hbE.out⟩
            · have h256' : ¬ ((k : Int) = 256) := by omega
              have hgl := Lib.hid (show wr.ownsRow (w.alloc (.cells #[.float .f32 r0, .float .f32 r1, .float .f32 r2, .float .f32 r3, .float .f32 r4, .float .f32 r5, .int .i64 ev', .int .i64 d] 31)).heap.size 2 1 (.slice ao k cv) k (i64L (ticks f ev' k)) from by have := hgr.out.own; rwa [ticks_len] at this)
              have hnx := Lib.hid (show i64L (ticks f ev' (k + 1)) = i64L (ticks f ev' k) ++ [.int .i64 t] from by rw [ht.out.1]; simp [ticks, i64L])
              generalize i64L (ticks f ev' k) = l at hgl hnx
              have hk2 : k < 256 := by omega
              have hks := Lib.hid hkn'
              have e7 : IntKind.i64.wrap (t + ev') = t + ev' := IntWalk.i64_in _ (by have := hev1.out; have := ht.out; omega)
              have hB := hb3.out.size
              have hsize : w.heap.size ≤ wr.heap.size := (hst.out.trans hb3.out).size
              have hb5 := Lib.hid (show Below (w.alloc (.cells #[.float .f32 r0, .float .f32 r1, .float .f32 r2, .float .f32 r3, .float .f32 r4, .float .f32 r5, .int .i64 ev', .int .i64 d] 31)).heap.size (w.alloc (.cells #[.float .f32 r0, .float .f32 r1, .float .f32 r2, .float .f32 r3, .float .f32 r4, .float .f32 r5, .int .i64 ev', .int .i64 d] 31)) wr from hb3.out)
              clear hgr hc hkn' h256 hk
              go_wp2_with (at_builtin; refine wpList_append_own _ rfl _ _ 26 rfl (w.alloc (.cells #[.float .f32 r0, .float .f32 r1, .float .f32 r2, .float .f32 r3, .float .f32 r4, .float .f32 r5, .int .i64 ev', .int .i64 d] 31)).heap.size 2 i0 (.int .i64 0) 1 8 Try.underlying26 hi0 hz0 hz1 hz2 rfl (by decide) _ _ _ rfl (hgl.out.alloc _) ⟨wr.heap.size, 0, none⟩ 1 1 [.int .i64 t] rfl rfl (World.news_of_block (heap_alloc_new wr _)) (one_i64 _) (by unfold maxLen; omega) (by omega) (by simp; omega) ?_; intro v1 w4 hown1 hgrow1 _; have hb4 := Lib.hid ((hb5.out.alloc hb5.out.size _).grown hgrow1 (Nat.le_trans hb3.out.size (by simp)) (fun q hq => (hgl.out.lt q hq).1)); have q64 := HB.out w4 hb4.out; obtain ⟨ao1, cv1, rfl⟩ := own_form hown1; replace hown1 := Lib.hid hown1; clear hgrow1)
              go_round
              case rel =>
                refine ⟨k + 1, t + ev', ao1, cv1, by omega, by go_num, by go_num, Lib.hid ?_, Lib.hid (by have := hks.out; omega), Lib.hid ⟨?_⟩, hb4⟩
                · have h1 := ht.out
                  have h2 := hev1.out
                  have h3 := hb.out
                  refine ⟨?_, by omega⟩
                  rw [h1.1]
                  push_cast
                  rw [Int.add_mul]
                  omega
                · rw [ticks_len, hnx.out]
                  exact hown1.out
              case measure => simp [intOf]; have := hev1.out; have := ht.out; have := hb.out; omega
          · have e : k = n := by have := hkn.out; have : ¬ k < n := fun h => hlt (by have := hc.1 h; have := ht.out; omega); omega
            subst e
            obtain ⟨rfl, rfl⟩ := hgood.out hk
            clear hc
            have hgE := Lib.hid ((hgr.out.lower hst.out.size))
            have hbE := Lib.hid (hst.out.trans hb3.out)
            go_wp2
            go_ret2
            exact ⟨_, rfl, hgE.out, hbE.out⟩
end Go.Proofs.Ytpccnejchbachaa
