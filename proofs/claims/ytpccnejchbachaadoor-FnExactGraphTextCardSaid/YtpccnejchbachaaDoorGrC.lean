/- Graphs: whether one is valid, on both sides. Graphs: ValidGraph on both sides, and the law. No condition. -/
import Derived.Test.YtpccnejchbachaaDoorGrB
import Derived.Deep.RegionHeld
namespace Go.Proofs.YtpccnejchbachaaDoor
open Go Go.RowKit
set_option linter.unusedVariables false
set_option linter.unusedSimpArgs false

theorem boxed2 {w : World} {p : Nat} {a b : Value} {t : TypeId} (hg : w.heap[p]? = some (.cells #[a, b] t (0, 0))) : ∀ w', Below w.heap.size w w' → w'.cell? ⟨p, 0, none⟩ = some a ∧ w'.cell? ⟨p, 1, none⟩ = some b := fun w' hb => by
  have hlt : p < w.heap.size := (Array.getElem?_eq_some_iff.1 hg).1
  exact ⟨(hb.cell (p := ⟨p, 0, none⟩) hlt).trans (cell_of_row _ _ _ _ _ _ hg), (hb.cell (p := ⟨p, 1, none⟩) hlt).trans (cell_of_row _ _ _ _ _ _ hg)⟩

theorem graphB_n {ps ls : List (List NV)} (h : ¬ (1 ≤ ps.length ∧ ps.length ≤ 60)) : graphB ps ls = false := by
  unfold graphB; rw [decide_eq_false h]; rfl
theorem graphB_m {ps ls : List (List NV)} (h : ¬ ls.length ≤ 120) : graphB ps ls = false := by
  unfold graphB; rw [decide_eq_false h]; simp
theorem graphB_p {ps ls : List (List NV)} (h : ps.all finP = false) : graphB ps ls = false := by
  unfold graphB; rw [h]; simp
theorem graphB_l {ps ls : List (List NV)} (h : ls.all (linkB ps.length) = false) : graphB ps ls = false := by
  unfold graphB; rw [h]; simp
theorem graphB_ok {ps ls : List (List NV)} (h1 : 1 ≤ ps.length ∧ ps.length ≤ 60) (h2 : ls.length ≤ 120) (h3 : ps.all finP = true) (h4 : ls.all (linkB ps.length) = true) : graphB ps ls = true := by
  unfold graphB; rw [decide_eq_true h1, decide_eq_true h2, h3, h4]; rfl

set_option maxRecDepth 100000 in
set_option maxHeartbeats 1000000 in
theorem c_l06Ok (p : Nat) (A A' : Option Addr) (c c' : Nat) (ps ls : List (List NV)) (w : World) (hg : w.heap[p]? = some (.cells #[.slice A ps.length c, .slice A' ls.length c'] 49 (0, 0)))
    (h : Ls KPose 3 w w.heap.size A ps) (h' : Ls KLink 6 w w.heap.size A' ls) (hn : ps.length ≤ 1048576) (hm : ls.length ≤ 1048576) :
    Calls Tryd.prog 38 #[.pointer (some ⟨p, 0, none⟩)] w fun e w' => e = .returned (.bool (graphB ps ls)) ∧ Below w.heap.size w w' := by
  have H := Lib.hid h
  have H' := Lib.hid h'
  have HB := Lib.hid (boxed2 hg)
  clear h h' hg
  obtain ⟨q0, q1⟩ := HB.out _ (Below.refl _ _)
  by_cases hN : 1 ≤ ps.length ∧ ps.length ≤ 60
  · have hN1 : (1 : Int) ≤ (ps.length : Nat) := by omega
    have hN2 : ((ps.length : Nat) : Int) ≤ 60 := by omega
    by_cases hM : ls.length ≤ 120
    · have hM1 : ¬ ((ls.length : Nat) : Int) > 120 := by omega
      go_enter Tryd.func38, Tryd.ntmps38
      go_wp2_with (go_at_call 47; refine (c_l00In _ _ _ _).mono ?_; rintro e w' ⟨rfl, rfl⟩)
      clear q0 q1
      go_loopw [4] (fun i wr => ∃ k : Nat, k ≤ ps.length ∧ i = .int .i64 k ∧ Hid (Below w.heap.size w wr) ∧ Hid ((ps.take k).all finP = true)) (fun i _ => ps.length - (intOf i).toNat)
      case atStart => exact ⟨0, Nat.zero_le _, rfl, Lib.hid (Below.refl _ _), Lib.hid (by simp)⟩
      case round =>
        obtain ⟨k, hk, rfl, hb, ha⟩ := hrel
        obtain ⟨q0, q1⟩ := HB.out _ hb.out
        by_cases hlt : k < ps.length
        · obtain ⟨ad, rfl, hbl, hrow⟩ := (H.out.below hb.out) k ps[k] (List.getElem?_eq_getElem hlt)
          have hrk := List.getElem?_eq_getElem hlt
          generalize ps[k] = r at hrow hrk
          obtain ⟨c0, c1, c2, hK, g0, g1, g2⟩ := row3 rfl hrow
          have hf : ∀ W, Calls Tryd.prog 65 #[.agg #[c0, c1, c2]] W fun e w' => e = .returned (.bool (finP r)) ∧ Below W.heap.size W w' := fun W => c_l06Finite (.agg #[c0, c1, c2]) r W ⟨_, rfl, hK⟩
          have nx : Hid (finP r = true → Hid ((ps.take (k + 1)).all finP = true)) := Lib.hid fun h => Lib.hid (all_next ha.out hrk h)
          have bd : Hid (finP r = false → graphB ps ls = false) := Lib.hid fun h => graphB_p (all_bad hrk h)
          generalize finP r = bf at hf nx bd
          replace hf := Lib.hid hf
          clear hK hrow hrk
          have hlt' : (k : Int) < (ps.length : Int) := by omega
          cases bf with
          | true =>
            go_wp2_with (go_at_call 65; refine (hf.out _).mono ?_; rintro e w1 ⟨rfl, hw1⟩; have hb2 := Lib.hid (show Below w.heap.size w w1 from hb.out.trans (((show Stays wr _ from by (repeat (first | exact Stays.refl _ | (with_reducible refine Stays.drewN ?_ _) | (with_reducible refine Stays.alloc ?_ _) | (with_reducible refine Stays.drew ?_) | (refine Stays.trans ?_ ‹Stays _ _›)))).trans hw1).mono hb.out.size)); clear hw1)
            go_roundw
            case rel => exact ⟨k + 1, by omega, by go_num, hb2, nx.out (by simp)⟩
            case measure => simp [intOf]; omega
          | false =>
            go_wp2_with (go_at_call 65; refine (hf.out _).mono ?_; rintro e w1 ⟨rfl, hw1⟩; have hb2 := Lib.hid (show Below w.heap.size w w1 from hb.out.trans (((show Stays wr _ from by (repeat (first | exact Stays.refl _ | (with_reducible refine Stays.drewN ?_ _) | (with_reducible refine Stays.alloc ?_ _) | (with_reducible refine Stays.drew ?_) | (refine Stays.trans ?_ ‹Stays _ _›)))).trans hw1).mono hb.out.size)); clear hw1)
            go_ret
            exact ⟨ret_b (bd.out (by simp)).symm, hb2.out⟩
        · have hP := Lib.hid (all_end ha.out (by omega))
          clear ha
          go_wp2
          clear q0 q1
          go_loopw [5] (fun i wr => ∃ k : Nat, k ≤ ls.length ∧ i = .int .i64 k ∧ Hid (Below w.heap.size w wr) ∧ Hid ((ls.take k).all (linkB ps.length) = true)) (fun i _ => ls.length - (intOf i).toNat)
          case atStart => exact ⟨0, Nat.zero_le _, rfl, hb, Lib.hid (by simp)⟩
          case round =>
            clear hb
            obtain ⟨k, hk, rfl, hb, ha⟩ := hrel
            obtain ⟨q0, q1⟩ := HB.out _ hb.out
            by_cases hlt : k < ls.length
            · obtain ⟨ad, rfl, hbl, hrow⟩ := (H'.out.below hb.out) k ls[k] (List.getElem?_eq_getElem hlt)
              have hrk := List.getElem?_eq_getElem hlt
              generalize ls[k] = r at hrow hrk
              have hf : Calls Tryd.prog 66 #[.pointer (some (ad.add (k * 6))), .int .i64 (ps.length : Nat)] wr fun e w' => e = .returned (.bool (linkB ps.length r)) ∧ Below wr.heap.size wr w' := c_l06Link _ _ r wr hrow (by rw [block_add]; exact Nat.lt_of_lt_of_le hbl hb.out.size) (by omega)
              have nx : Hid (linkB ps.length r = true → Hid ((ls.take (k + 1)).all (linkB ps.length) = true)) := Lib.hid fun h => Lib.hid (all_next ha.out hrk h)
              have bd : Hid (linkB ps.length r = false → graphB ps ls = false) := Lib.hid fun h => graphB_l (all_bad hrk h)
              generalize linkB ps.length r = bf at hf nx bd
              replace hf := Lib.hid hf
              clear hrow hrk
              have hlt' : (k : Int) < (ls.length : Int) := by omega
              cases bf with
              | true =>
                go_wp2_with (go_at_call 66; refine hf.out.mono ?_; rintro e w1 ⟨rfl, hw1⟩; have hb2 := Lib.hid (show Below w.heap.size w w1 from hb.out.trans (hw1.mono hb.out.size)); clear hw1)
                go_roundw
                case rel => exact ⟨k + 1, by omega, by go_num, hb2, nx.out (by simp)⟩
                case measure => simp [intOf]; omega
              | false =>
                go_wp2_with (go_at_call 66; refine hf.out.mono ?_; rintro e w1 ⟨rfl, hw1⟩; have hb2 := Lib.hid (show Below w.heap.size w w1 from hb.out.trans (hw1.mono hb.out.size)); clear hw1)
                go_ret
                exact ⟨ret_b (bd.out (by simp)).symm, hb2.out⟩
            · have fin := Lib.hid (graphB_ok hN hM hP.out (all_end ha.out (by omega)))
              go_wp2
              go_ret
              exact ⟨ret_b fin.out.symm, hb.out⟩
    · have hM1 : ((ls.length : Nat) : Int) > 120 := by omega
      have fin := Lib.hid (graphB_m (ps := ps) hM)
      go_enter Tryd.func38, Tryd.ntmps38
      go_wp2_with (go_at_call 47; refine (c_l00In _ _ _ _).mono ?_; rintro e w' ⟨rfl, rfl⟩)
      go_ret
      exact ⟨ret_b fin.out.symm, Below.refl _ _⟩
  · have hN1 : ¬ ((1 : Int) ≤ (ps.length : Nat) ∧ ((ps.length : Nat) : Int) ≤ 60) := by omega
    have fin := Lib.hid (graphB_n (ls := ls) hN)
    go_enter Tryd.func38, Tryd.ntmps38
    go_wp2_with (go_at_call 47; refine (c_l00In _ _ _ _).mono ?_; rintro e w' ⟨rfl, rfl⟩; rw [decide_eq_false hN1])
    go_ret
    exact ⟨ret_b fin.out.symm, Below.refl _ _⟩
end Go.Proofs.YtpccnejchbachaaDoor

namespace Go.Proofs.YtpccnejchbachaaDoor
open Go Go.RowKit
set_option linter.unusedVariables false
set_option linter.unusedSimpArgs false

set_option maxRecDepth 100000 in
set_option maxHeartbeats 1000000 in
theorem c_implValidGraph (v : Value) (ps ls : List (List NV)) (w : World) (h : GrV w w.heap.size v ps ls) (hn : ps.length ≤ 1048576) (hm : ls.length ≤ 1048576) :
    Calls Tryd.prog 42 #[v] w fun e w' => e = .returned (.bool (graphB ps ls)) ∧ Below w.heap.size w w' := by
  obtain ⟨A, c, A', c', rfl, h1, h2⟩ := h.val
  have H := Lib.hid h1
  have H' := Lib.hid h2
  have HB : Hid (∀ w1, Stays (w.alloc (.cells #[.slice A ps.length c, .slice A' ls.length c'] 49)) w1 → (w1.cell? ⟨w.heap.size, 0, none⟩ = some (.slice A ps.length c) ∧ w1.cell? ⟨w.heap.size, 1, none⟩ = some (.slice A' ls.length c')) ∧ Below w.heap.size w w1) :=
    Lib.hid fun w1 hb => ⟨⟨row_of hb (heap_alloc_new w _) 0, row_of hb (heap_alloc_new w _) 1⟩, (show Stays w _ from by (repeat (first | exact Stays.refl _ | (with_reducible refine Stays.drewN ?_ _) | (with_reducible refine Stays.alloc ?_ _) | (with_reducible refine Stays.drew ?_) | (refine Stays.trans ?_ ‹Stays _ _›)))).trans hb⟩
  clear h h1 h2
  by_cases hN : 1 ≤ ps.length ∧ ps.length ≤ 60
  · have hN1 : ¬ ((ps.length : Nat) : Int) < 1 := by omega
    have hN2 : ¬ ((ps.length : Nat) : Int) > 60 := by omega
    by_cases hM : ls.length ≤ 120
    · have hM1 : ¬ ((ls.length : Nat) : Int) > 120 := by omega
      go_enter Tryd.func42, Tryd.ntmps42
      go_wp2
      have hS0 := Lib.hid (Stays.refl (w.alloc (.cells #[.slice A ps.length c, .slice A' ls.length c'] 49)))
      generalize (w.alloc (.cells #[.slice A ps.length c, .slice A' ls.length c'] 49)) = W0 at HB hS0 ⊢
      go_loopw [24] (fun i wr => ∃ k : Nat, k ≤ ls.length ∧ i = .int .i64 k ∧ Hid (Stays W0 wr) ∧ Hid ((ls.take k).all (linkB ps.length) = true)) (fun i _ => ls.length - (intOf i).toNat)
      case atStart => exact ⟨0, Nat.zero_le _, rfl, hS0, Lib.hid (by simp)⟩
      case round =>
        clear hS0
        obtain ⟨k, hk, rfl, hb, ha⟩ := hrel
        obtain ⟨⟨q0, q1⟩, hbw⟩ := HB.out _ hb.out
        by_cases hlt : k < ls.length
        · obtain ⟨ad, rfl, hbl, hrow⟩ := (H'.out.below hbw) k ls[k] (List.getElem?_eq_getElem hlt)
          have hrk := List.getElem?_eq_getElem hlt
          generalize ls[k] = r at hrow hrk
          obtain ⟨c0, c1, c2, c3, c4, c5, hK, g0, g1, g2, g3, g4, g5⟩ := row6 rfl hrow
          have hf : ∀ W, Calls Tryd.prog 70 #[.agg #[.slice A ps.length c, .slice (some ad) ls.length c'], .agg #[c0, c1, c2, c3, c4, c5]] W fun e w' => e = .returned (.bool (linkB ps.length r)) ∧ Below W.heap.size W w' := fun W => c_mayHave A _ c c' _ _ #[c0, c1, c2, c3, c4, c5] r W hK
          obtain ⟨fr, to, ra, rb, rc, rd, e⟩ := link_cells hK
          cases e
          have nx : Hid (linkB ps.length r = true → Hid ((ls.take (k + 1)).all (linkB ps.length) = true)) := Lib.hid fun h => Lib.hid (all_next ha.out hrk h)
          have bd : Hid (linkB ps.length r = false → graphB ps ls = false) := Lib.hid fun h => graphB_l (all_bad hrk h)
          generalize linkB ps.length r = bf at hf nx bd
          replace hf := Lib.hid hf
          have hlt0 := World.block_lt_of_cell? _ _ q0
          have q0' : ∀ o, (wr.alloc o).cell? ⟨w.heap.size, 0, none⟩ = some (.slice A ps.length c) := fun o => (World.cell?_alloc_lt wr o ⟨w.heap.size, 0, none⟩ hlt0).trans q0
          have q1' : ∀ o, (wr.alloc o).cell? ⟨w.heap.size, 1, none⟩ = some (.slice (some ad) ls.length c') := fun o => (World.cell?_alloc_lt wr o ⟨w.heap.size, 1, none⟩ hlt0).trans q1
          replace hbw := Lib.hid hbw
          clear hK hrow hrk
          have hlt' : (k : Int) < (ls.length : Int) := by omega
          cases bf with
          | true =>
            go_wp2_with (go_at_call 70; refine (hf.out _).mono ?_; rintro e w1 ⟨rfl, hw1⟩; have hb2 := Lib.hid (hb.out.trans ((show Stays wr _ from by (repeat (first | exact Stays.refl _ | (with_reducible refine Stays.drewN ?_ _) | (with_reducible refine Stays.alloc ?_ _) | (with_reducible refine Stays.drew ?_) | (refine Stays.trans ?_ ‹Stays _ _›)))).trans hw1)); clear hw1)
            go_roundw
            case rel => exact ⟨k + 1, by omega, by go_num, hb2, nx.out (by simp)⟩
            case measure => simp [intOf]; omega
          | false =>
            go_wp2_with (go_at_call 70; refine (hf.out _).mono ?_; rintro e w1 ⟨rfl, hw1⟩; have hb2 := Lib.hid (hb.out.trans ((show Stays wr _ from by (repeat (first | exact Stays.refl _ | (with_reducible refine Stays.drewN ?_ _) | (with_reducible refine Stays.alloc ?_ _) | (with_reducible refine Stays.drew ?_) | (refine Stays.trans ?_ ‹Stays _ _›)))).trans hw1)); clear hw1)
            go_ret
            exact ⟨ret_b (bd.out (by simp)).symm, (HB.out _ hb2.out).2⟩
        · have hL := Lib.hid (all_end ha.out (by omega))
          have hf := c_areFinitePoses A c ps wr ((H.out.below hbw).more hbw.size) hn
          have hfin : graphB ps ls = ps.all finP := by unfold graphB; rw [decide_eq_true hN, decide_eq_true hM, hL.out]; simp
          replace hfin := Lib.hid hfin
          generalize ps.all finP = bf at hf hfin
          replace hf := Lib.hid hf
          replace hbw := Lib.hid hbw
          go_wp2_with (go_at_call 71; refine hf.out.mono ?_; rintro e w1 ⟨rfl, hw1⟩)
          go_ret
          exact ⟨ret_b hfin.out.symm, (HB.out _ (hb.out.trans hw1)).2⟩
    · have hM1 : ((ls.length : Nat) : Int) > 120 := by omega
      have fin := Lib.hid (graphB_m (ps := ps) hM)
      go_enter Tryd.func42, Tryd.ntmps42
      go_wp2
      go_ret
      exact ⟨ret_b fin.out.symm, show Stays w _ from by (repeat (first | exact Stays.refl _ | (with_reducible refine Stays.drewN ?_ _) | (with_reducible refine Stays.alloc ?_ _) | (with_reducible refine Stays.drew ?_) | (refine Stays.trans ?_ ‹Stays _ _›)))⟩
  · have fin := Lib.hid (graphB_n (ls := ls) hN)
    by_cases h1 : 1 ≤ ps.length
    · have hN1 : ¬ ((ps.length : Nat) : Int) < 1 := by omega
      have hN2 : ((ps.length : Nat) : Int) > 60 := by omega
      go_enter Tryd.func42, Tryd.ntmps42
      go_wp2
      go_ret
      exact ⟨ret_b fin.out.symm, show Stays w _ from by (repeat (first | exact Stays.refl _ | (with_reducible refine Stays.drewN ?_ _) | (with_reducible refine Stays.alloc ?_ _) | (with_reducible refine Stays.drew ?_) | (refine Stays.trans ?_ ‹Stays _ _›)))⟩
    · have hN1 : ((ps.length : Nat) : Int) < 1 := by omega
      go_enter Tryd.func42, Tryd.ntmps42
      go_wp2
      go_ret
      exact ⟨ret_b fin.out.symm, show Stays w _ from by (repeat (first | exact Stays.refl _ | (with_reducible refine Stays.drewN ?_ _) | (with_reducible refine Stays.alloc ?_ _) | (with_reducible refine Stays.drew ?_) | (refine Stays.trans ?_ ‹Stays _ _›)))⟩

theorem toGr_val {w : World} {g1 g2 : Nat} {ps ls : List (List NV)} (h1 : LiesL KPose 3 w g1 (.slice (some ⟨g1, 0, none⟩) ps.length ps.length) ps) (h2 : LiesL KLink 6 w g2 (.slice (some ⟨g2, 0, none⟩) ls.length ls.length) ls) :
    GrV w w.heap.size (.agg #[.slice (some ⟨g1, 0, none⟩) ps.length ps.length, .slice (some ⟨g2, 0, none⟩) ls.length ls.length]) ps ls := ⟨_, _, _, _, rfl, h1.rows, h2.rows⟩

/-- A copy of a graph, as a value. -/
theorem c_toGr (v : Value) (ps ls : List (List NV)) (w : World) (h : GrV w w.heap.size v ps ls) (hn : ps.length ≤ 1048576) (hm : ls.length ≤ 1048576) :
    Calls Tryd.prog 16 #[v] w fun e w' => ∃ v', e = .returned v' ∧ Below w.heap.size w w' ∧ GrV w' w'.heap.size v' ps ls := by
  refine (c_toPoseGraph v ps ls w h hn hm).mono ?_
  rintro e w' ⟨g1, g2, rfl, _, _, hb, l1, l2⟩
  exact ⟨_, rfl, hb, toGr_val l1 l2⟩

/-- An argument that is a graph, in its box. -/
theorem boxGr (t : TypeId) {w : World} {v : Value} {ps ls : List (List NV)} (h : GrV w w.heap.size v ps ls) : ∃ A c A' c', v = .agg #[.slice A ps.length c, .slice A' ls.length c'] ∧
    ∀ w1, Stays (w.alloc (.cells #[.slice A ps.length c, .slice A' ls.length c'] t)) w1 → ((w1.cell? ⟨w.heap.size, 0, none⟩ = some (.slice A ps.length c) ∧ w1.cell? ⟨w.heap.size, 1, none⟩ = some (.slice A' ls.length c')) ∧ Below w.heap.size w w1) ∧ GrV w1 w1.heap.size (.agg #[.slice A ps.length c, .slice A' ls.length c']) ps ls := by
  obtain ⟨A, c, A', c', rfl, h1, h2⟩ := h.val
  refine ⟨A, c, A', c', rfl, fun w1 hb => ?_⟩
  have hb' : Below w.heap.size w w1 := (show Stays w _ from by (repeat (first | exact Stays.refl _ | (with_reducible refine Stays.drewN ?_ _) | (with_reducible refine Stays.alloc ?_ _) | (with_reducible refine Stays.drew ?_) | (refine Stays.trans ?_ ‹Stays _ _›)))).trans hb
  exact ⟨⟨⟨row_of hb (heap_alloc_new w _) 0, row_of hb (heap_alloc_new w _) 1⟩, hb'⟩, h.on hb'⟩

end Go.Proofs.YtpccnejchbachaaDoor
