/- Maps without old marks, or without light ones, as the document says it. No condition. -/
import Derived.Test.YtifaojlgofibmaaUb
import Derived.Deep.RegionLaw
namespace Go.Proofs.Ytifaojlgofibmaa
open Go Go.RowKit
set_option linter.unusedVariables false
set_option linter.unusedSimpArgs false


set_option maxRecDepth 100000 in
set_option maxHeartbeats 2000000 in
theorem c_specForgetBefore (v : Value) (o : Option Nat) (xs : List Mk) (t : Int) (w : World) (h : MpV w w.heap.size v o xs) (hn : xs.length ≤ 1048576) :
    Calls Try.prog 23 #[v, .int .i64 t] w (MDone w (if mapOK o xs && okTime t then o else some 0) (if mapOK o xs && okTime t then xs.filter (fun m => decide (t ≤ m.l)) else []) (if mapOK o xs then (if okTime t then 0 else 2) else 1)) := by
  obtain ⟨s, A, c, rfl, hf, h1⟩ := h.val
  have hst0 : Stays w ((w.alloc (.cells #[.float .f32 s, .slice A xs.length c] 55)).alloc (.cells #[.float .f32 0, .slice none 0 0] 55)) := by (repeat (first | exact Stays.refl _ | (with_reducible refine Stays.drewN ?_ _) | (with_reducible refine Stays.alloc ?_ _) | (with_reducible refine Stays.drew ?_) | (refine Stays.trans ?_ ‹Stays _ _›)))
  have u0 : ((w.alloc (.cells #[.float .f32 s, .slice A xs.length c] 55)).alloc (.cells #[.float .f32 0, .slice none 0 0] 55)).heap[w.heap.size]? = some (.cells #[.float .f32 s, .slice A xs.length c] 55 (0, 0)) := by (repeat (first | (refine heap_top _ _ _ ?_; simp; done) | (with_reducible refine heap_drawn _ _ _ ?_) | (with_reducible refine heap_under _ _ _ ?_ ?_; (simp <;> omega))))
  have u2 : ((w.alloc (.cells #[.float .f32 s, .slice A xs.length c] 55)).alloc (.cells #[.float .f32 0, .slice none 0 0] 55)).heap[w.heap.size + 1]? = some (.cells #[.float .f32 0, .slice none 0 0] 55 (0, 0)) := by (repeat (first | (refine heap_top _ _ _ ?_; simp; done) | (with_reducible refine heap_drawn _ _ _ ?_) | (with_reducible refine heap_under _ _ _ ?_ ?_; (simp <;> omega))))
  have hW := Lib.hid fun w1 (hb : Stays ((w.alloc (.cells #[.float .f32 s, .slice A xs.length c] 55)).alloc (.cells #[.float .f32 0, .slice none 0 0] 55)) w1) => And.intro (And.intro (row_of hb u0 0) (row_of hb u0 1)) (And.intro ((hb.block _ (in_heap u2)).trans u2) (And.intro (Below.trans (show Below w.heap.size w _ from hst0) (Below.mono hb hst0.size)) (show w.heap.size + 1 < w1.heap.size from Nat.lt_of_lt_of_le (in_heap u2) hb.size)))
  have kV := c_l05Ok w.heap.size s o hf A c xs ((w.alloc (.cells #[.float .f32 s, .slice A xs.length c] 55)).alloc (.cells #[.float .f32 0, .slice none 0 0] 55)) u0 ((h1.below hst0).more hst0.size) hn
  have kM := Lib.hid fun W (hb : Stays ((w.alloc (.cells #[.float .f32 s, .slice A xs.length c] 55)).alloc (.cells #[.float .f32 0, .slice none 0 0] 55)) W) => (h1.below (Below.trans (show Below w.heap.size w _ from hst0) (Below.mono hb hst0.size)))
  obtain ⟨i0, hi0, hz0, hz1, hz2⟩ := info_parts infoMk
  replace hf := Lib.hid hf
  clear u0 u2 hst0 h h1
  have hS := Stays.refl ((w.alloc (.cells #[.float .f32 s, .slice A xs.length c] 55)).alloc (.cells #[.float .f32 0, .slice none 0 0] 55))
  obtain ⟨⟨q0, q1⟩, hres, hst, hsz⟩ := hW.out _ hS
  cases hb1 : mapOK o xs with
  | false =>
    simp only [Bool.false_and, Bool.false_eq_true, if_false]
    rw [hb1] at kV
    replace kV := Lib.hid kV
    clear hb1
    go_enter Try.func23, Try.ntmps23
    go_wp2_with fail
    refine kV.out.mono ?_
    rintro e w4 ⟨rfl, hw4⟩
    clear q0 q1 hres hst hsz
    obtain ⟨⟨q0, q1⟩, hres, hst, hsz⟩ := hW.out _ hw4
    go_wp2_with (refine wpList_store_row rfl _ _ _ rfl _ _ _ rfl rfl hres ?hi ?ho ?h1 ?hB hst ?_; (case hi => kernel_rfl); (case ho => rfl); (case h1 => first | rfl | simp [Value.oneCell']); (case hB => first | omega | (simp <;> omega)); intro w2 hw2 hq2 hother hsame)
    apply end_mp rfl rfl rfl Try.underlying55 rfl (t := 55)
    case hg => exact hq2
    case hi => kernel_rfl
    case hR => exact ⟨0, w.heap.size, none, 0, rfl, fis_zero, hw2, Nat.le_refl _, mlies_nil _ _⟩
  | true =>
    rw [hb1] at kV
    replace kV := Lib.hid kV
    clear hb1
    cases hb2 : okTime t with
    | false =>
      simp only [Bool.and_false, Bool.false_eq_true, if_false, if_true]
      go_enter Try.func23, Try.ntmps23
      go_wp2_with fail
      refine kV.out.mono ?_
      rintro e w4 ⟨rfl, hw4⟩
      clear q0 q1 hres hst hsz
      obtain ⟨⟨q0, q1⟩, hres, hst, hsz⟩ := hW.out _ hw4
      go_wp2_with fail
      refine (c_l04Time t _).mono ?_
      rintro e wt ⟨rfl, rfl⟩
      rw [hb2]
      go_wp2_with (refine wpList_store_row rfl _ _ _ rfl _ _ _ rfl rfl hres ?hi ?ho ?h1 ?hB hst ?_; (case hi => kernel_rfl); (case ho => rfl); (case h1 => first | rfl | simp [Value.oneCell']); (case hB => first | omega | (simp <;> omega)); intro w2 hw2 hq2 hother hsame)
      apply end_mp rfl rfl rfl Try.underlying55 rfl (t := 55)
      case hg => exact hq2
      case hi => kernel_rfl
      case hR => exact ⟨0, w.heap.size, none, 0, rfl, fis_zero, hw2, Nat.le_refl _, mlies_nil _ _⟩
    | true =>
      simp only [Bool.and_true, if_true]
      go_enter Try.func23, Try.ntmps23
      go_wp2_with fail
      refine kV.out.mono ?_
      rintro e w4 ⟨rfl, hw4⟩
      clear q0 q1 hres hst hsz
      obtain ⟨⟨q0, q1⟩, hres, hst, hsz⟩ := hW.out _ hw4
      go_wp2_with fail
      refine (c_l04Time t _).mono ?_
      rintro e wt ⟨rfl, rfl⟩
      rw [hb2]
      go_wp2_with fail
      have hnew := heap_alloc_new w4 (.cells #[.float .f32 s, .slice none 0 0] 55)
      have hst5 : Stays w4 (w4.alloc (.cells #[.float .f32 s, .slice none 0 0] 55)) := by (repeat (first | exact Stays.refl _ | (with_reducible refine Stays.drewN ?_ _) | (with_reducible refine Stays.alloc ?_ _) | (with_reducible refine Stays.drew ?_) | (refine Stays.trans ?_ ‹Stays _ _›)))
      have hp1 : w4.heap.size + 1 = (w4.alloc (.cells #[.float .f32 s, .slice none 0 0] 55)).heap.size := by simp
      replace hw4 := Lib.hid hw4
      clear q0 q1 hres hst
      replace hsz := Lib.hid hsz
      generalize hP : w4.heap.size = p at *
      replace hP := Lib.hid hP
      generalize (w4.alloc (.cells #[.float .f32 s, .slice none 0 0] 55)) = W5 at hnew hst5 hp1 ⊢
      replace hnew := Lib.hid hnew
      replace hst5 := Lib.hid (show Below p w4 W5 from by rw [← hP.out]; exact hst5)
      replace hp1 := Lib.hid hp1
      go_loopw [7] (fun i wr => ∃ (k : Nat) (ao : Option Addr) (cv : Nat), k ≤ xs.length ∧ i = .int .i64 k ∧ Hid (wr.heap[p]? = some (.cells #[.float .f32 s, .slice ao (kept (fun m => decide (t ≤ m.l)) xs k).length cv] 55 (0, 0))) ∧ Hid (GrowM (p + 1) wr (.slice ao (kept (fun m => decide (t ≤ m.l)) xs k).length cv) (kept (fun m => decide (t ≤ m.l)) xs k)) ∧ Hid (Below p w4 wr)) (fun i _ => xs.length - (intOf i).toNat)
      case atStart => exact ⟨0, none, 0, Nat.zero_le _, rfl, hnew, Lib.hid (GrowM.nil _ _), hst5⟩
      case round =>
        clear hnew hst5 hp1
        obtain ⟨k, ao, cv, hk, rfl, hrow0, hg, hb⟩ := hrel
        have hb4 := Lib.hid (show Stays ((w.alloc (.cells #[.float .f32 s, .slice A xs.length c] 55)).alloc (.cells #[.float .f32 0, .slice none 0 0] 55)) wr from Stays.trans hw4.out (show Stays w4 wr from (by have := hb.out; rw [← hP.out] at this; exact this)))
        obtain ⟨⟨q0, q1⟩, hres, hst, _⟩ := hW.out _ hb4.out
        replace hres := Lib.hid hres
        have z0 : wr.cell? ⟨p, 0, none⟩ = some (.float .f32 s) := cell_of_row _ _ _ _ _ _ hrow0.out
        have z1 : wr.cell? ⟨p, 1, none⟩ = some (.slice ao (kept (fun m => decide (t ≤ m.l)) xs k).length cv) := cell_of_row _ _ _ _ _ _ hrow0.out
        have hpw := Lib.hid (in_heap hrow0.out)
        by_cases hlt : k < xs.length
        · obtain ⟨ad, rfl, hbl, hrow⟩ := (kM.out _ hb4.out) k xs[k] (List.getElem?_eq_getElem hlt)
          have hrk : Hid (xs[k]? = some xs[k]) := Lib.hid (List.getElem?_eq_getElem hlt)
          generalize xs[k] = m at hrow hrk
          have hlt' : (k : Int) < (xs.length : Int) := by omega
          have hlen := kept_len (fun m => decide (t ≤ m.l)) xs k
          obtain ⟨ra, rb, rc, rd, hkm, g0, g1, g2, g3, g4, g5, g6, g7, g8⟩ := mk_at' hrow
          have hmv := mk_row hkm
          obtain ⟨ra', rb', rc', rd', emv, _, _, _, hfd⟩ := hmv
          simp only [List.cons.injEq, Value.float.injEq, true_and, and_true] at emv
          obtain ⟨rfl, rfl, rfl, rfl⟩ := emv
          have hcmp := Lib.hid (show True from trivial)
          replace hfd := Lib.hid hfd
          replace hkm := Lib.hid hkm
          obtain ⟨css, hown, hin⟩ := hg.out.own
          replace hown := Lib.hid hown
          replace hin := Lib.hid hin
          clear hrow hg
          cases hkeep : (fun m => decide (t ≤ m.l)) m with
          | true =>
            have hkn := Lib.hid (kept_true (keep := fun m => decide (t ≤ m.l)) hkeep hrk.out)
            have ht : t ≤ m.l := of_decide_eq_true hkeep
            clear hkeep
            go_wp2_with fail
            have h0 : Below (p + 1) wr wr.drew := ⟨rfl, rfl, rfl, Nat.le_refl _, fun _ _ => rfl⟩
            have hownD : wr.drew.ownsRow (p + 1) 92 9 (.slice ao (kept (fun m => decide (t ≤ m.l)) xs k).length cv) (kept (fun m => decide (t ≤ m.l)) xs k).length css.flatten := hown.out
            replace hownD := Lib.hid hownD
            replace h0 := Lib.hid h0
            have hpw2 : p < wr.heap.size := hpw.out
            have hpw3 : ¬ p = wr.heap.size := by omega
            go_region_law (refine step_append_lies _ rfl _ _ 53 rfl (p + 1) 92 i0 (.agg #[.int .i32 0, .int .i32 0, .int .i32 0, .float .f32 0, .float .f32 0, .float .f32 0, .float .f32 0, .int .i64 0, .int .i64 0]) 9 48 Try.underlying53 hi0 hz0 hz1 hz2 rfl (by decide) _ _ _ rfl (hownD.out.alloc _) ⟨wr.heap.size, 0, none⟩ 1 1 [.int .i32 m.x, .int .i32 m.y, .int .i32 m.z, .float .f32 ra, .float .f32 rb, .float .f32 rc, .float .f32 rd, .int .i64 m.s, .int .i64 m.l] rfl rfl (World.news_of_block (heap_alloc_new wr.drew _)) (kms_one hkm.out) (by decide) (by unfold maxLen; omega) (by omega) (by have := hpw.out; simp; omega) _ rfl ?_; intro g2 cap2 w2 hown1 hgrow hor hlt2; have hb2 := ((h0.out).alloc hpw.out (.cells #[.int .i32 m.x, .int .i32 m.y, .int .i32 m.z, .float .f32 ra, .float .f32 rb, .float .f32 rc, .float .f32 rd, .int .i64 m.s, .int .i64 m.l] 92)).grown hgrow (Nat.le_trans hpw.out (by simp)) (fun q hq => (hownD.out.lt q hq).1); have e2 := Lib.hid ((hb2.block p (by omega)).trans hrow0.out); have y1 : w2.cell? ⟨p, 1, none⟩ = some (.slice ao (kept (fun m => decide (t ≤ m.l)) xs k).length cv) := cell_of_row _ _ _ _ _ _ e2.out; have y2 : w2.frozen? ⟨p, 1, none⟩ = false := frozen_of_row _ _ _ _ _ e2.out; replace hb2 := Lib.hid hb2)
            all_goals
              have hg2 := GrowM.more hown1 hin.out hkm.out
              clear hown1 hgrow y1 y2
              go_wp2_with fail
              go_round
              case rel =>
                have hl2 : (kept (fun m => decide (t ≤ m.l)) xs k ++ [m]).length = (kept (fun m => decide (t ≤ m.l)) xs k).length + 1 := by simp
                have hpl : p < w2.heap.size := in_heap e2.out
                refine ⟨k + 1, some ⟨g2, 0, none⟩, cap2, by omega, by go_num, ?_, ?_, ?_⟩
                · rw [hkn.out, hl2]; exact Lib.hid (heap_setCell_same w2 p 1 _ _ _ e2.out)
                · rw [hkn.out, hl2]; exact Lib.hid (hg2.on fun g hge _ => heap_setCell_other w2 ⟨p, 1, none⟩ g _ (by show g ≠ p; omega))
                · exact Lib.hid (Below.setCell (Below.trans hb.out (Below.mono hb2.out (Nat.le_succ p))) (Nat.le_refl _) _)
              case measure => simp [intOf]; omega
          | false =>
            have hkn := Lib.hid (kept_false (keep := fun m => decide (t ≤ m.l)) hkeep hrk.out)
            have ht : m.l < t := by have := of_decide_eq_false hkeep; omega
            clear hkeep
            go_wp2_with fail
            go_round
            case rel =>
              refine ⟨k + 1, ao, cv, by omega, by go_num, ?_, ?_, hb⟩
              · rw [hkn.out]; exact hrow0
              · rw [hkn.out]; exact Lib.hid ⟨css, hown.out, hin.out⟩
            case measure => simp [intOf]; omega
        · have e : k = xs.length := by omega
          subst e
          rw [kept_all] at *
          obtain ⟨g, hge, hl⟩ := hg.out.lies
          replace hl := Lib.hid hl
          have hge' := Lib.hid (show w.heap.size + 1 < g from by have := hsz.out; omega)
          clear hge
          replace hres := hres.out
          go_wp2_with (refine wpList_store_row rfl _ _ _ rfl _ _ _ rfl rfl hres ?hi ?ho ?h1 ?hB hst ?_; (case hi => kernel_rfl); (case ho => rfl); (case h1 => first | rfl | simp [Value.oneCell']); (case hB => first | omega | (simp <;> omega)); intro w2 hw2 hq2 hother hsame)
          apply end_mp rfl rfl rfl Try.underlying55 rfl (t := 55)
          case hg => exact hq2
          case hi => kernel_rfl
          case hR => exact ⟨s, g, ao, cv, rfl, hf.out, hw2, by have := hge'.out; omega, hl.out.on fun h => same_block (hother g h (by have := hge'.out; omega)) (by omega)⟩


set_option maxRecDepth 100000 in
set_option maxHeartbeats 2000000 in
theorem c_specLeaveLighter (v : Value) (o : Option Nat) (xs : List Mk) (q : Nat) (w : World) (h : MpV w w.heap.size v o xs) (hn : xs.length ≤ 1048576) :
    Calls Try.prog 29 #[v, .float .f32 q] w (MDone w (if mapOK o xs && selfB (can .f32 q) then o else some 0) (if mapOK o xs && selfB (can .f32 q) then xs.filter (fun m => !ltF m.d (can .f32 q)) else []) (if mapOK o xs then (if selfB (can .f32 q) then 0 else 2) else 1)) := by
  obtain ⟨s, A, c, rfl, hf, h1⟩ := h.val
  have hst0 : Stays w ((w.alloc (.cells #[.float .f32 s, .slice A xs.length c] 55)).alloc (.cells #[.float .f32 0, .slice none 0 0] 55)) := by (repeat (first | exact Stays.refl _ | (with_reducible refine Stays.drewN ?_ _) | (with_reducible refine Stays.alloc ?_ _) | (with_reducible refine Stays.drew ?_) | (refine Stays.trans ?_ ‹Stays _ _›)))
  have u0 : ((w.alloc (.cells #[.float .f32 s, .slice A xs.length c] 55)).alloc (.cells #[.float .f32 0, .slice none 0 0] 55)).heap[w.heap.size]? = some (.cells #[.float .f32 s, .slice A xs.length c] 55 (0, 0)) := by (repeat (first | (refine heap_top _ _ _ ?_; simp; done) | (with_reducible refine heap_drawn _ _ _ ?_) | (with_reducible refine heap_under _ _ _ ?_ ?_; (simp <;> omega))))
  have u2 : ((w.alloc (.cells #[.float .f32 s, .slice A xs.length c] 55)).alloc (.cells #[.float .f32 0, .slice none 0 0] 55)).heap[w.heap.size + 1]? = some (.cells #[.float .f32 0, .slice none 0 0] 55 (0, 0)) := by (repeat (first | (refine heap_top _ _ _ ?_; simp; done) | (with_reducible refine heap_drawn _ _ _ ?_) | (with_reducible refine heap_under _ _ _ ?_ ?_; (simp <;> omega))))
  have hW := Lib.hid fun w1 (hb : Stays ((w.alloc (.cells #[.float .f32 s, .slice A xs.length c] 55)).alloc (.cells #[.float .f32 0, .slice none 0 0] 55)) w1) => And.intro (And.intro (row_of hb u0 0) (row_of hb u0 1)) (And.intro ((hb.block _ (in_heap u2)).trans u2) (And.intro (Below.trans (show Below w.heap.size w _ from hst0) (Below.mono hb hst0.size)) (show w.heap.size + 1 < w1.heap.size from Nat.lt_of_lt_of_le (in_heap u2) hb.size)))
  have kV := c_l05Ok w.heap.size s o hf A c xs ((w.alloc (.cells #[.float .f32 s, .slice A xs.length c] 55)).alloc (.cells #[.float .f32 0, .slice none 0 0] 55)) u0 ((h1.below hst0).more hst0.size) hn
  have kM := Lib.hid fun W (hb : Stays ((w.alloc (.cells #[.float .f32 s, .slice A xs.length c] 55)).alloc (.cells #[.float .f32 0, .slice none 0 0] 55)) W) => (h1.below (Below.trans (show Below w.heap.size w _ from hst0) (Below.mono hb hst0.size)))
  obtain ⟨i0, hi0, hz0, hz1, hz2⟩ := info_parts infoMk
  replace hf := Lib.hid hf
  clear u0 u2 hst0 h h1
  have hS := Stays.refl ((w.alloc (.cells #[.float .f32 s, .slice A xs.length c] 55)).alloc (.cells #[.float .f32 0, .slice none 0 0] 55))
  obtain ⟨⟨q0, q1⟩, hres, hst, hsz⟩ := hW.out _ hS
  cases hb1 : mapOK o xs with
  | false =>
    simp only [Bool.false_and, Bool.false_eq_true, if_false]
    rw [hb1] at kV
    replace kV := Lib.hid kV
    clear hb1
    go_enter Try.func29, Try.ntmps29
    go_wp2_with fail
    refine kV.out.mono ?_
    rintro e w4 ⟨rfl, hw4⟩
    clear q0 q1 hres hst hsz
    obtain ⟨⟨q0, q1⟩, hres, hst, hsz⟩ := hW.out _ hw4
    go_wp2_with (refine wpList_store_row rfl _ _ _ rfl _ _ _ rfl rfl hres ?hi ?ho ?h1 ?hB hst ?_; (case hi => kernel_rfl); (case ho => rfl); (case h1 => first | rfl | simp [Value.oneCell']); (case hB => first | omega | (simp <;> omega)); intro w2 hw2 hq2 hother hsame)
    apply end_mp rfl rfl rfl Try.underlying55 rfl (t := 55)
    case hg => exact hq2
    case hi => kernel_rfl
    case hR => exact ⟨0, w.heap.size, none, 0, rfl, fis_zero, hw2, Nat.le_refl _, mlies_nil _ _⟩
  | true =>
    rw [hb1] at kV
    replace kV := Lib.hid kV
    clear hb1
    cases hb2 : selfB (can .f32 q) with
    | false =>
      simp only [Bool.and_false, Bool.false_eq_true, if_false, if_true]
      have hx0 := self_of q
      rw [hb2] at hx0
      have hx : (FloatKind.f32.format.order q q != some Ordering.eq) = true := by rw [bne, hx0]; rfl
      go_enter Try.func29, Try.ntmps29
      go_wp2_with fail
      refine kV.out.mono ?_
      rintro e w4 ⟨rfl, hw4⟩
      clear q0 q1 hres hst hsz
      obtain ⟨⟨q0, q1⟩, hres, hst, hsz⟩ := hW.out _ hw4
      go_wp2_with (refine wpList_store_row rfl _ _ _ rfl _ _ _ rfl rfl hres ?hi ?ho ?h1 ?hB hst ?_; (case hi => kernel_rfl); (case ho => rfl); (case h1 => first | rfl | simp [Value.oneCell']); (case hB => first | omega | (simp <;> omega)); intro w2 hw2 hq2 hother hsame)
      apply end_mp rfl rfl rfl Try.underlying55 rfl (t := 55)
      case hg => exact hq2
      case hi => kernel_rfl
      case hR => exact ⟨0, w.heap.size, none, 0, rfl, fis_zero, hw2, Nat.le_refl _, mlies_nil _ _⟩
    | true =>
      simp only [Bool.and_true, if_true]
      have hx0 := self_of q
      rw [hb2] at hx0
      have hx : (FloatKind.f32.format.order q q != some Ordering.eq) = false := by rw [bne, hx0]; rfl
      go_enter Try.func29, Try.ntmps29
      go_wp2_with fail
      refine kV.out.mono ?_
      rintro e w4 ⟨rfl, hw4⟩
      clear q0 q1 hres hst hsz
      obtain ⟨⟨q0, q1⟩, hres, hst, hsz⟩ := hW.out _ hw4
      go_wp2_with fail
      have hnew := heap_alloc_new w4 (.cells #[.float .f32 s, .slice none 0 0] 55)
      have hst5 : Stays w4 (w4.alloc (.cells #[.float .f32 s, .slice none 0 0] 55)) := by (repeat (first | exact Stays.refl _ | (with_reducible refine Stays.drewN ?_ _) | (with_reducible refine Stays.alloc ?_ _) | (with_reducible refine Stays.drew ?_) | (refine Stays.trans ?_ ‹Stays _ _›)))
      have hp1 : w4.heap.size + 1 = (w4.alloc (.cells #[.float .f32 s, .slice none 0 0] 55)).heap.size := by simp
      replace hw4 := Lib.hid hw4
      clear q0 q1 hres hst
      replace hsz := Lib.hid hsz
      generalize hP : w4.heap.size = p at *
      replace hP := Lib.hid hP
      generalize (w4.alloc (.cells #[.float .f32 s, .slice none 0 0] 55)) = W5 at hnew hst5 hp1 ⊢
      replace hnew := Lib.hid hnew
      replace hst5 := Lib.hid (show Below p w4 W5 from by rw [← hP.out]; exact hst5)
      replace hp1 := Lib.hid hp1
      go_loopw [7] (fun i wr => ∃ (k : Nat) (ao : Option Addr) (cv : Nat), k ≤ xs.length ∧ i = .int .i64 k ∧ Hid (wr.heap[p]? = some (.cells #[.float .f32 s, .slice ao (kept (fun m => !ltF m.d (can .f32 q)) xs k).length cv] 55 (0, 0))) ∧ Hid (GrowM (p + 1) wr (.slice ao (kept (fun m => !ltF m.d (can .f32 q)) xs k).length cv) (kept (fun m => !ltF m.d (can .f32 q)) xs k)) ∧ Hid (Below p w4 wr)) (fun i _ => xs.length - (intOf i).toNat)
      case atStart => exact ⟨0, none, 0, Nat.zero_le _, rfl, hnew, Lib.hid (GrowM.nil _ _), hst5⟩
      case round =>
        clear hnew hst5 hp1
        obtain ⟨k, ao, cv, hk, rfl, hrow0, hg, hb⟩ := hrel
        have hb4 := Lib.hid (show Stays ((w.alloc (.cells #[.float .f32 s, .slice A xs.length c] 55)).alloc (.cells #[.float .f32 0, .slice none 0 0] 55)) wr from Stays.trans hw4.out (show Stays w4 wr from (by have := hb.out; rw [← hP.out] at this; exact this)))
        obtain ⟨⟨q0, q1⟩, hres, hst, _⟩ := hW.out _ hb4.out
        replace hres := Lib.hid hres
        have z0 : wr.cell? ⟨p, 0, none⟩ = some (.float .f32 s) := cell_of_row _ _ _ _ _ _ hrow0.out
        have z1 : wr.cell? ⟨p, 1, none⟩ = some (.slice ao (kept (fun m => !ltF m.d (can .f32 q)) xs k).length cv) := cell_of_row _ _ _ _ _ _ hrow0.out
        have hpw := Lib.hid (in_heap hrow0.out)
        by_cases hlt : k < xs.length
        · obtain ⟨ad, rfl, hbl, hrow⟩ := (kM.out _ hb4.out) k xs[k] (List.getElem?_eq_getElem hlt)
          have hrk : Hid (xs[k]? = some xs[k]) := Lib.hid (List.getElem?_eq_getElem hlt)
          generalize xs[k] = m at hrow hrk
          have hlt' : (k : Int) < (xs.length : Int) := by omega
          have hlen := kept_len (fun m => !ltF m.d (can .f32 q)) xs k
          obtain ⟨ra, rb, rc, rd, hkm, g0, g1, g2, g3, g4, g5, g6, g7, g8⟩ := mk_at' hrow
          have hmv := mk_row hkm
          obtain ⟨ra', rb', rc', rd', emv, _, _, _, hfd⟩ := hmv
          simp only [List.cons.injEq, Value.float.injEq, true_and, and_true] at emv
          obtain ⟨rfl, rfl, rfl, rfl⟩ := emv
          have hcmp := lt_of rd q
          replace hfd := Lib.hid hfd
          replace hkm := Lib.hid hkm
          obtain ⟨css, hown, hin⟩ := hg.out.own
          replace hown := Lib.hid hown
          replace hin := Lib.hid hin
          clear hrow hg
          cases hkeep : (fun m => !ltF m.d (can .f32 q)) m with
          | true =>
            have hkn := Lib.hid (kept_true (keep := fun m => !ltF m.d (can .f32 q)) hkeep hrk.out)
            have hlt2 : (FloatKind.f32.format.order rd q == some Ordering.lt) = false := by rw [hcmp, hfd.out.out]; simpa using hkeep
            clear hcmp
            clear hkeep
            go_wp2_with fail
            have h0 : Below (p + 1) wr wr.drew := ⟨rfl, rfl, rfl, Nat.le_refl _, fun _ _ => rfl⟩
            have hownD : wr.drew.ownsRow (p + 1) 92 9 (.slice ao (kept (fun m => !ltF m.d (can .f32 q)) xs k).length cv) (kept (fun m => !ltF m.d (can .f32 q)) xs k).length css.flatten := hown.out
            replace hownD := Lib.hid hownD
            replace h0 := Lib.hid h0
            have hpw2 : p < wr.heap.size := hpw.out
            have hpw3 : ¬ p = wr.heap.size := by omega
            go_region_law (refine step_append_lies _ rfl _ _ 53 rfl (p + 1) 92 i0 (.agg #[.int .i32 0, .int .i32 0, .int .i32 0, .float .f32 0, .float .f32 0, .float .f32 0, .float .f32 0, .int .i64 0, .int .i64 0]) 9 48 Try.underlying53 hi0 hz0 hz1 hz2 rfl (by decide) _ _ _ rfl (hownD.out.alloc _) ⟨wr.heap.size, 0, none⟩ 1 1 [.int .i32 m.x, .int .i32 m.y, .int .i32 m.z, .float .f32 ra, .float .f32 rb, .float .f32 rc, .float .f32 rd, .int .i64 m.s, .int .i64 m.l] rfl rfl (World.news_of_block (heap_alloc_new wr.drew _)) (kms_one hkm.out) (by decide) (by unfold maxLen; omega) (by omega) (by have := hpw.out; simp; omega) _ rfl ?_; intro g2 cap2 w2 hown1 hgrow hor hlt2; have hb2 := ((h0.out).alloc hpw.out (.cells #[.int .i32 m.x, .int .i32 m.y, .int .i32 m.z, .float .f32 ra, .float .f32 rb, .float .f32 rc, .float .f32 rd, .int .i64 m.s, .int .i64 m.l] 92)).grown hgrow (Nat.le_trans hpw.out (by simp)) (fun q hq => (hownD.out.lt q hq).1); have e2 := Lib.hid ((hb2.block p (by omega)).trans hrow0.out); have y1 : w2.cell? ⟨p, 1, none⟩ = some (.slice ao (kept (fun m => !ltF m.d (can .f32 q)) xs k).length cv) := cell_of_row _ _ _ _ _ _ e2.out; have y2 : w2.frozen? ⟨p, 1, none⟩ = false := frozen_of_row _ _ _ _ _ e2.out; replace hb2 := Lib.hid hb2)
            all_goals
              have hg2 := GrowM.more hown1 hin.out hkm.out
              clear hown1 hgrow y1 y2
              go_wp2_with fail
              go_round
              case rel =>
                have hl2 : (kept (fun m => !ltF m.d (can .f32 q)) xs k ++ [m]).length = (kept (fun m => !ltF m.d (can .f32 q)) xs k).length + 1 := by simp
                have hpl : p < w2.heap.size := in_heap e2.out
                refine ⟨k + 1, some ⟨g2, 0, none⟩, cap2, by omega, by go_num, ?_, ?_, ?_⟩
                · rw [hkn.out, hl2]; exact Lib.hid (heap_setCell_same w2 p 1 _ _ _ e2.out)
                · rw [hkn.out, hl2]; exact Lib.hid (hg2.on fun g hge _ => heap_setCell_other w2 ⟨p, 1, none⟩ g _ (by show g ≠ p; omega))
                · exact Lib.hid (Below.setCell (Below.trans hb.out (Below.mono hb2.out (Nat.le_succ p))) (Nat.le_refl _) _)
              case measure => simp [intOf]; omega
          | false =>
            have hkn := Lib.hid (kept_false (keep := fun m => !ltF m.d (can .f32 q)) hkeep hrk.out)
            have hlt2 : (FloatKind.f32.format.order rd q == some Ordering.lt) = true := by rw [hcmp, hfd.out.out]; simpa using hkeep
            clear hcmp
            clear hkeep
            go_wp2_with fail
            go_round
            case rel =>
              refine ⟨k + 1, ao, cv, by omega, by go_num, ?_, ?_, hb⟩
              · rw [hkn.out]; exact hrow0
              · rw [hkn.out]; exact Lib.hid ⟨css, hown.out, hin.out⟩
            case measure => simp [intOf]; omega
        · have e : k = xs.length := by omega
          subst e
          rw [kept_all] at *
          obtain ⟨g, hge, hl⟩ := hg.out.lies
          replace hl := Lib.hid hl
          have hge' := Lib.hid (show w.heap.size + 1 < g from by have := hsz.out; omega)
          clear hge
          replace hres := hres.out
          go_wp2_with (refine wpList_store_row rfl _ _ _ rfl _ _ _ rfl rfl hres ?hi ?ho ?h1 ?hB hst ?_; (case hi => kernel_rfl); (case ho => rfl); (case h1 => first | rfl | simp [Value.oneCell']); (case hB => first | omega | (simp <;> omega)); intro w2 hw2 hq2 hother hsame)
          apply end_mp rfl rfl rfl Try.underlying55 rfl (t := 55)
          case hg => exact hq2
          case hi => kernel_rfl
          case hR => exact ⟨s, g, ao, cv, rfl, hf.out, hw2, by have := hge'.out; omega, hl.out.on fun h => same_block (hother g h (by have := hge'.out; omega)) (by omega)⟩

end Go.Proofs.Ytifaojlgofibmaa
