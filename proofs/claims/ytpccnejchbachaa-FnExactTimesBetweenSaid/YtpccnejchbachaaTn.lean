/- Times between two times: the document side, No condition. -/
import Derived.Test.YtpccnejchbachaaTm
import Derived.OwnWalk
import Derived.Deep.AppendLies
namespace Go.Proofs.Ytpccnejchbachaa
open Go Go.ChangeShapes Go.WideShapes Go.RowKit
set_option linter.unusedVariables false
set_option linter.unusedSimpArgs false

def ticks (f ev : Int) : Nat → List Int
  | 0 => []
  | k + 1 => ticks f ev k ++ [f + k * ev]
theorem ticks_len (f ev : Int) : ∀ k, (ticks f ev k).length = k
  | 0 => rfl
  | k + 1 => by simp [ticks, ticks_len f ev k]
/-- How many times there are. -/
def cnt (f ev b : Int) : Nat := if f ≤ b then ((b - f) / ev).toNat + 1 else 0
theorem cnt_iff {f ev b : Int} (h : 1 ≤ ev) (k : Nat) : k < cnt f ev b ↔ f + k * ev ≤ b := by
  unfold cnt
  have hk : 0 ≤ (k : Int) * ev := Int.mul_nonneg (by omega) (by omega)
  by_cases hf : f ≤ b
  · rw [if_pos hf]
    have hq : 0 ≤ (b - f) / ev := Int.ediv_nonneg (by omega) (by omega)
    have := Int.le_ediv_iff_mul_le (a := (k : Int)) (b := b - f) (c := ev) (by omega)
    omega
  · rw [if_neg hf]
    omega

def i64L (xs : List Int) : List Value := xs.map (Value.int .i64)
/-- A row of integers that a call makes. -/
structure GrowI (B : Nat) (w : World) (v : Value) (l : List Int) : Prop where
  own : w.ownsRow B 2 1 v l.length (i64L l)
theorem GrowI.made {B : Nat} (w : World) (hB : B ≤ w.heap.size) : GrowI B (w.alloc (.cells #[] 2)) (.slice (some ⟨w.heap.size, 0, none⟩) 0 0) [] := ⟨World.ownsRow_made w #[] 0 hB (Nat.zero_le _) rfl⟩
theorem GrowI.nil (B : Nat) (w : World) : GrowI B w (.slice none 0 0) [] := ⟨World.ownsRow_nil _ _ _ _⟩
theorem GrowI.stays {B : Nat} {w w' : World} {v : Value} {l : List Int} (h : GrowI B w v l) (hs : Stays w w') : GrowI B w' v l := by
  obtain ⟨h1, h2⟩ := h
  refine ⟨h1, ?_⟩
  rcases h2 with h2 | ⟨g, cap, cur, hv, hb, hg, hr⟩
  · exact .inl h2
  · exact .inr ⟨g, cap, cur, hv, hb, (Below.block hs g (Array.getElem?_eq_some_iff.1 hg).1).trans hg, hr⟩
theorem own_form {w : World} {B : Nat} {e : TypeId} {v : Value} {n : Nat} {xs : List Value} (h : w.ownsRow B e 1 v n xs) : ∃ ao cv, v = .slice ao n cv := by
  rcases h.2 with ⟨rfl, h0⟩ | ⟨g, cap, cur, rfl, _⟩
  · exact ⟨none, 0, by rw [h0]⟩
  · exact ⟨_, _, rfl⟩
theorem one_i64 (n : Int) : ∀ u ∈ [Value.int .i64 n], u.oneCell' = true := by
  intro u hu
  rw [List.mem_singleton.1 hu]
  rfl

def firstT (a ev : Int) : Int := (a + ev - 1) / ev * ev
noncomputable def tbN (ins : List NV) (a b : Int) : Nat := cnt (firstT a (ins.getD 6 (.i 0)).gi) (ins.getD 6 (.i 0)).gi b
noncomputable def tbC (ins : List NV) (a b : Int) : Int := if sensB ins then (if okTime a && okTime b then (if tbN ins a b ≤ 256 then 0 else 3) else 2) else 1
noncomputable def tbX (ins : List NV) (a b : Int) : List Int := if sensB ins && (okTime a && okTime b) && decide (tbN ins a b ≤ 256) then ticks (firstT a (ins.getD 6 (.i 0)).gi) (ins.getD 6 (.i 0)).gi (tbN ins a b) else []
def IDone (w : World) (code : Int) (xs : List Int) (e : Ending) (w' : World) : Prop := ∃ v, e = .returned (.tuple #[v, .int .i64 code]) ∧ GrowI w.heap.size w' v xs ∧ Stays w w'

theorem first_bd {a ev : Int} (ha : 0 ≤ a ∧ a ≤ 1000000000) (he : 1 ≤ ev ∧ ev ≤ 1000000) : 0 ≤ firstT a ev ∧ firstT a ev ≤ 1001000000 := by
  unfold firstT
  have h1 : 0 ≤ (a + ev - 1) / ev := Int.ediv_nonneg (by omega) (by omega)
  have h2 : (a + ev - 1) / ev * ev ≤ a + ev - 1 := Int.ediv_mul_le _ (by omega)
  have h3 : 0 ≤ (a + ev - 1) / ev * ev := Int.mul_nonneg h1 (by omega)
  omega

theorem first_eq {a ev : Int} (ha : 0 ≤ a ∧ a ≤ 1000000000) (he : 1 ≤ ev ∧ ev ≤ 1000000) : Int.tdiv (a + ev - 1) ev * ev = firstT a ev ∧ (-9223372036854775808 ≤ Int.tdiv (a + ev - 1) ev ∧ Int.tdiv (a + ev - 1) ev ≤ 9223372036854775807) := by
  have h0 : Int.tdiv (a + ev - 1) ev = (a + ev - 1) / ev := Int.tdiv_eq_ediv_of_nonneg (by omega)
  rw [h0]
  refine ⟨rfl, ?_⟩
  have h1 : 0 ≤ (a + ev - 1) / ev := Int.ediv_nonneg (by omega) (by omega)
  have h2 : (a + ev - 1) / ev ≤ a + ev - 1 := Int.ediv_le_self _ (by omega)
  omega

theorem GrowI.lower {B B' : Nat} {w : World} {v : Value} {l : List Int} (h : GrowI B w v l) (hB : B' ≤ B) : GrowI B' w v l := by
  obtain ⟨h1, h2⟩ := h
  refine ⟨h1, ?_⟩
  rcases h2 with h2 | ⟨g, cap, cur, hv, hb, hg⟩
  · exact .inl h2
  · exact .inr ⟨g, cap, cur, hv, Nat.le_trans hB hb, hg⟩

set_option maxRecDepth 100000 in
set_option maxHeartbeats 2000000 in
theorem c_specTB (v : Value) (ins : List NV) (hs : Sen v ins) (a b : Int) (w : World) :
    Calls Try.prog 7 #[v, .int .i64 a, .int .i64 b] w (IDone w (tbC ins a b) (tbX ins a b)) := by
  have hcell := hs
  have hev := sen_ev w hs
  obtain ⟨r0, r1, r2, r3, r4, r5, ev, d, rfl, hdd⟩ := hs.cells
  clear hdd
  have hbox := heap_alloc_new w (.cells #[.float .f32 r0, .float .f32 r1, .float .f32 r2, .float .f32 r3, .float .f32 r4, .float .f32 r5, .int .i64 ev, .int .i64 d] 31)
  have hst : Stays w (w.alloc (.cells #[.float .f32 r0, .float .f32 r1, .float .f32 r2, .float .f32 r3, .float .f32 r4, .float .f32 r5, .int .i64 ev, .int .i64 d] 31)) := by (repeat (first | exact Stays.refl _ | (with_reducible refine Stays.drewN ?_ _) | (with_reducible refine Stays.alloc ?_ _) | (with_reducible refine Stays.drew ?_) | (refine Stays.trans ?_ ‹Stays _ _›)))
  have kS := Lib.hid (c_l04Sensor w.heap.size _ ins _ hbox hs)
  have HB := Lib.hid fun W (hb : Stays (w.alloc (.cells #[.float .f32 r0, .float .f32 r1, .float .f32 r2, .float .f32 r3, .float .f32 r4, .float .f32 r5, .int .i64 ev, .int .i64 d] 31)) W) => row_of hb hbox 6
  have ka := Lib.hid fun W => c_l04Time a W
  have kb := Lib.hid fun W => c_l04Time b W
  obtain ⟨i0, hi0, hz0, hz1, hz2⟩ := info_parts (show (Try.prog.info? 2).map (fun i => (i.zero, i.size, i.bytes)) = some (some (.int .i64 0), 1, 8) from by kernel_rfl)
  replace hst := Lib.hid hst
  unfold tbC tbX tbN
  generalize sensB ins = sb at hev kS ⊢
  cases sb with
  | false =>
    clear hs hcell hev hbox
    simp only [Bool.false_and, Bool.false_eq_true, if_false]
    go_enter Try.func7, Try.ntmps7
    go_wp2_with fail
    refine kS.out.mono ?_
    rintro e w1 ⟨rfl, hb1⟩
    have hb2 := Lib.hid (hst.out.trans (show Stays _ w1 from hb1))
    have hgE := Lib.hid (GrowI.made (B := w.heap.size) w1 hb2.out.size)
    have hbE := Lib.hid (hb2.out.trans (show Stays w1 (w1.alloc (.cells #[] 2)) from by (repeat (first | exact Stays.refl _ | (with_reducible refine Stays.drewN ?_ _) | (with_reducible refine Stays.alloc ?_ _) | (with_reducible refine Stays.drew ?_) | (refine Stays.trans ?_ ‹Stays _ _›)))))
    go_wp2
    go_ret2
    exact ⟨_, rfl, hgE.out, hbE.out⟩
  | true =>
    obtain ⟨q0, q1, q2, q3, q4, q5, ev', d', eq, he, hev1⟩ := hev rfl
    have eev : ev' = ev := by injection eq with eq; simp at eq; exact eq.2.2.2.2.2.2.1.symm
    subst eev
    rw [← he]
    clear eq he hs hcell hev hbox
    simp only [Bool.true_and, if_true]
    cases hta : okTime a with
    | false =>
      rw [hta] at ka
      clear hta
      simp only [Bool.false_and, Bool.false_eq_true, if_false]
      go_enter Try.func7, Try.ntmps7
      go_wp2_with fail
      refine kS.out.mono ?_
      rintro e w1 ⟨rfl, hb1⟩
      have hb2 := Lib.hid (hst.out.trans (show Stays _ w1 from hb1))
      clear hb1
      go_wp2_with fail
      refine (ka.out _).mono ?_
      rintro e w' ⟨rfl, rfl⟩
      have hgE := Lib.hid (GrowI.made (B := w.heap.size) w1 hb2.out.size)
      have hbE := Lib.hid (hb2.out.trans (show Stays w1 (w1.alloc (.cells #[] 2)) from by (repeat (first | exact Stays.refl _ | (with_reducible refine Stays.drewN ?_ _) | (with_reducible refine Stays.alloc ?_ _) | (with_reducible refine Stays.drew ?_) | (refine Stays.trans ?_ ‹Stays _ _›)))))
      go_wp2
      go_ret2
      exact ⟨_, rfl, hgE.out, hbE.out⟩
    | true =>
      rw [hta] at ka
      cases htb : okTime b with
      | false =>
        rw [htb] at kb
        clear hta htb
        simp only [Bool.true_and, Bool.false_and, Bool.false_eq_true, if_false]
        go_enter Try.func7, Try.ntmps7
        go_wp2_with fail
        refine kS.out.mono ?_
        rintro e w1 ⟨rfl, hb1⟩
        have hb2 := Lib.hid (hst.out.trans (show Stays _ w1 from hb1))
        clear hb1
        go_wp2_with fail
        refine (ka.out _).mono ?_
        rintro e w' ⟨rfl, rfl⟩
        go_wp2_with fail
        refine (kb.out _).mono ?_
        rintro e w' ⟨rfl, rfl⟩
        have hgE := Lib.hid (GrowI.made (B := w.heap.size) w1 hb2.out.size)
        have hbE := Lib.hid (hb2.out.trans (show Stays w1 (w1.alloc (.cells #[] 2)) from by (repeat (first | exact Stays.refl _ | (with_reducible refine Stays.drewN ?_ _) | (with_reducible refine Stays.alloc ?_ _) | (with_reducible refine Stays.drew ?_) | (refine Stays.trans ?_ ‹Stays _ _›)))))
        go_wp2
        go_ret2
        exact ⟨_, rfl, hgE.out, hbE.out⟩
      | true =>
        rw [htb] at kb
        simp only [if_true, Bool.true_and]
        have ha : 0 ≤ a ∧ a ≤ 1000000000 := by unfold okTime at hta; simpa using hta
        have hb : 0 ≤ b ∧ b ≤ 1000000000 := by unfold okTime at htb; simpa using htb
        have hf := first_bd ha hev1
        have heq := Lib.hid (first_eq ha hev1)
        clear hta htb
        have hcnt := Lib.hid (fun k => cnt_iff (f := firstT a ev') (ev := ev') (b := b) hev1.1 k)
        obtain ⟨cd, hcd⟩ : ∃ cd : Int, cd = if cnt (firstT a ev') ev' b ≤ 256 then 0 else 3 := ⟨_, rfl⟩
        obtain ⟨xs, hxs⟩ : ∃ xs : List Int, xs = if decide (cnt (firstT a ev') ev' b ≤ 256) = true then ticks (firstT a ev') ev' (cnt (firstT a ev') ev' b) else [] := ⟨_, rfl⟩
        rw [← hcd, ← hxs]
        have hgood := Lib.hid (show cnt (firstT a ev') ev' b ≤ 256 → cd = 0 ∧ xs = ticks (firstT a ev') ev' (cnt (firstT a ev') ev' b) from fun h => ⟨by rw [hcd, if_pos h], by rw [hxs, if_pos (decide_eq_true h)]⟩)
        have hbad := Lib.hid (show ¬ cnt (firstT a ev') ev' b ≤ 256 → cd = 3 ∧ xs = [] from fun h => ⟨by rw [hcd, if_neg h], by rw [hxs, if_neg (by simpa using h)]⟩)
        clear hcd hxs
        generalize firstT a ev' = f at *
        generalize cnt f ev' b = n at *
        replace ha := Lib.hid ha
        replace hb := Lib.hid hb
        replace hf := Lib.hid hf
        replace hev1 := Lib.hid hev1
        go_enter Try.func7, Try.ntmps7
        go_wp2_with fail
        refine kS.out.mono ?_
        rintro e w1 ⟨rfl, hb1⟩
        have hb1' := Lib.hid (show Stays _ w1 from hb1)
        clear hb1
        go_wp2_with fail
        refine (ka.out _).mono ?_
        rintro e w' ⟨rfl, rfl⟩
        go_wp2_with fail
        refine (kb.out _).mono ?_
        rintro e w' ⟨rfl, rfl⟩
        have hb2 := Lib.hid (hb1'.out.trans (show Stays w1 (w1.alloc (.cells #[] 2)) from by (repeat (first | exact Stays.refl _ | (with_reducible refine Stays.drewN ?_ _) | (with_reducible refine Stays.alloc ?_ _) | (with_reducible refine Stays.drew ?_) | (refine Stays.trans ?_ ‹Stays _ _›)))))
        have q6 := HB.out _ hb2.out
        have hg0 := Lib.hid (GrowI.made (B := (w.alloc (.cells #[.float .f32 r0, .float .f32 r1, .float .f32 r2, .float .f32 r3, .float .f32 r4, .float .f32 r5, .int .i64 ev', .int .i64 d] 31)).heap.size) w1 hb1'.out.size)
        have e1 : ¬ (ev' = 0) := by have := hev1.out; omega
        have e2 : IntKind.i64.wrap (a + ev') = a + ev' := IntWalk.i64_in _ (by have := hev1.out; have := ha.out; omega)
        have e3 : IntKind.i64.wrap (a + ev' - 1) = a + ev' - 1 := IntWalk.i64_in _ (by have := hev1.out; have := ha.out; omega)
        have e4 : IntKind.i64.wrap (Int.tdiv (a + ev' - 1) ev') = Int.tdiv (a + ev' - 1) ev' := IntWalk.i64_in _ heq.out.2
        have e5 : Int.tdiv (a + ev' - 1) ev' * ev' = f := heq.out.1
        have e6 : IntKind.i64.wrap f = f := IntWalk.i64_in _ (by have := hf.out; omega)
        go_wp2
        go_region
        clear q6 e2 e3 e4 e5 e6
        go_wp2
        go_loopw [8, 9] (fun v i wr => ∃ (k : Nat) (t : Int) (ao : Option Addr) (cv : Nat), k ≤ 256 ∧ i = .int .i64 t ∧ v = .slice ao k cv ∧ Hid (t = f + k * ev' ∧ (0 ≤ t ∧ t ≤ 1002000000)) ∧ Hid (k ≤ n) ∧ Hid (GrowI (w.alloc (.cells #[.float .f32 r0, .float .f32 r1, .float .f32 r2, .float .f32 r3, .float .f32 r4, .float .f32 r5, .int .i64 ev', .int .i64 d] 31)).heap.size wr v (ticks f ev' k)) ∧ Hid (Stays (w.alloc (.cells #[.float .f32 r0, .float .f32 r1, .float .f32 r2, .float .f32 r3, .float .f32 r4, .float .f32 r5, .int .i64 ev', .int .i64 d] 31)) wr)) (fun _ i _ => (1002000001 - intOf i).toNat)
        case atStart => exact ⟨0, f, _, _, by omega, rfl, rfl, Lib.hid ⟨by simp, by have := hf.out; omega⟩, Lib.hid (Nat.zero_le _), Lib.hid (hg0.out.stays (by (repeat (first | exact Stays.refl _ | (with_reducible refine Stays.drewN ?_ _) | (with_reducible refine Stays.alloc ?_ _) | (with_reducible refine Stays.drew ?_) | (refine Stays.trans ?_ ‹Stays _ _›))))), Lib.hid hb2.out.drew⟩
        case round =>
          clear hb2 hg0 hb1'
          obtain ⟨k, t, ao, cv, hk, rfl, rfl, ht, hkn, hgr, hb3⟩ := hrel
          have hc := hcnt.out k
          have q6 := HB.out wr hb3.out
          by_cases hlt : t ≤ b
          · have hkn' : k < n := hc.2 (by have := ht.out; omega)
            by_cases h256 : k = 256
            · subst h256
              have hbd := hbad.out (by omega)
              obtain ⟨rfl, rfl⟩ := hbd
              clear hc hkn' hk
              have hw3 := Lib.hid (hst.out.trans hb3.out)
              have hgE := Lib.hid (GrowI.made (B := w.heap.size) wr hw3.out.size)
              have hbE := Lib.hid (hw3.out.trans (show Stays wr (wr.alloc (.cells #[] 2)) from by (repeat (first | exact Stays.refl _ | (with_reducible refine Stays.drewN ?_ _) | (with_reducible refine Stays.alloc ?_ _) | (with_reducible refine Stays.drew ?_) | (refine Stays.trans ?_ ‹Stays _ _›)))))
              go_wp2
              go_ret2
              exact ⟨_, rfl, hgE.out, hbE.out⟩
            · have h256' : ¬ ((k : Int) = 256) := by omega
              have hgl := Lib.hid (show wr.ownsRow (w.alloc (.cells #[.float .f32 r0, .float .f32 r1, .float .f32 r2, .float .f32 r3, .float .f32 r4, .float .f32 r5, .int .i64 ev', .int .i64 d] 31)).heap.size 2 1 (.slice ao k cv) k (i64L (ticks f ev' k)) from by have := hgr.out.own; rwa [ticks_len] at this)
              have hnx := Lib.hid (show i64L (ticks f ev' (k + 1)) = i64L (ticks f ev' k) ++ [.int .i64 t] from by rw [ht.out.1]; simp [ticks, i64L])
              generalize i64L (ticks f ev' k) = l at hgl hnx
              have hk2 : k < 256 := by omega
              have hks := Lib.hid hkn'
              have e7 : IntKind.i64.wrap (t + ev') = t + ev' := IntWalk.i64_in _ (by have := hev1.out; have := ht.out; omega)
              have hB := hb3.out.size
              have hsize : w.heap.size ≤ wr.heap.size := (hst.out.trans hb3.out).size
              have hb5 := Lib.hid (show Below (w.alloc (.cells #[.float .f32 r0, .float .f32 r1, .float .f32 r2, .float .f32 r3, .float .f32 r4, .float .f32 r5, .int .i64 ev', .int .i64 d] 31)).heap.size (w.alloc (.cells #[.float .f32 r0, .float .f32 r1, .float .f32 r2, .float .f32 r3, .float .f32 r4, .float .f32 r5, .int .i64 ev', .int .i64 d] 31)) wr from hb3.out)
              clear hgr hc hkn' h256 hk
              go_wp2_with (at_builtin; refine wpList_append_own _ rfl _ _ 26 rfl (w.alloc (.cells #[.float .f32 r0, .float .f32 r1, .float .f32 r2, .float .f32 r3, .float .f32 r4, .float .f32 r5, .int .i64 ev', .int .i64 d] 31)).heap.size 2 i0 (.int .i64 0) 1 8 Try.underlying26 hi0 hz0 hz1 hz2 rfl (by decide) _ _ _ rfl (hgl.out.alloc _) ⟨wr.heap.size, 0, none⟩ 1 1 [.int .i64 t] rfl rfl (World.news_of_block (heap_alloc_new wr _)) (one_i64 _) (by unfold maxLen; omega) (by omega) (by simp; omega) ?_; intro v1 w4 hown1 hgrow1 _; have hb4 := Lib.hid ((hb5.out.alloc hb5.out.size _).grown hgrow1 (Nat.le_trans hb3.out.size (by simp)) (fun q hq => (hgl.out.lt q hq).1)); have q64 := HB.out w4 hb4.out; obtain ⟨ao1, cv1, rfl⟩ := own_form hown1; replace hown1 := Lib.hid hown1; clear hgrow1)
              go_round
              case rel =>
                refine ⟨k + 1, t + ev', ao1, cv1, by omega, by go_num, by go_num, Lib.hid ?_, Lib.hid (by have := hks.out; omega), Lib.hid ⟨?_⟩, hb4⟩
                · have h1 := ht.out
                  have h2 := hev1.out
                  have h3 := hb.out
                  refine ⟨?_, by omega⟩
                  rw [h1.1]
                  push_cast
                  rw [Int.add_mul]
                  omega
                · rw [ticks_len, hnx.out]
                  exact hown1.out
              case measure => simp [intOf]; have := hev1.out; have := ht.out; have := hb.out; omega
          · have e : k = n := by have := hkn.out; have : ¬ k < n := fun h => hlt (by have := hc.1 h; have := ht.out; omega); omega
            subst e
            obtain ⟨rfl, rfl⟩ := hgood.out hk
            clear hc
            have hgE := Lib.hid ((hgr.out.lower hst.out.size))
            have hbE := Lib.hid (hst.out.trans hb3.out)
            go_wp2
            go_ret2
            exact ⟨_, rfl, hgE.out, hbE.out⟩
end Go.Proofs.Ytpccnejchbachaa
