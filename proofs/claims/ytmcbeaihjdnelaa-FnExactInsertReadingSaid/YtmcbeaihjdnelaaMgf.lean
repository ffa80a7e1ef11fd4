/- Feeds that are merged, as the program does it. No condition. -/
import Derived.Test.YtmcbeaihjdnelaaMge
namespace Go.Proofs.Ytmcbeaihjdnelaa
open Go Go.RowKit
set_option linter.unusedVariables false
set_option linter.unusedSimpArgs false


theorem own_form {w : World} {B n : Nat} {v : Value} {xs : List Value} (h : w.ownsRow B 83 4 v n xs) : ∃ A cap, v = .slice A n cap := by
  rcases h.2 with ⟨e, e0⟩ | ⟨g, cap, cur, e, _⟩
  · subst e0; exact ⟨none, 0, e⟩
  · exact ⟨_, _, e⟩
theorem FDone.lower {w w1 w' : World} {code : Int} {ys : List Rd} {e : Ending} (h : FDone w1 code ys e w') (hs : Stays w w1) : FDone w code ys e w' := by
  obtain ⟨v, he, h1, h2⟩ := h
  exact ⟨v, he, hs.trans h1, own_lower h2 hs.size⟩
theorem feed_one {r : Rd} (h : okTime r.t = true) : feedB' [r] = true := by
  unfold feedB'
  rw [Bool.and_eq_true]
  refine ⟨feedOK_iff.2 fun j => ?_, by simp⟩
  intro t ht
  cases j with
  | zero =>
    cases ht
    exact ⟨h, fun u hj => by omega⟩
  | succ j => simp at ht
theorem in_mg {xs : List Rd} {r : Rd} (h : feedB' xs = true) (ht : okTime r.t = true) : mgC xs [r] = inC xs r ∧ mgX xs [r] = inX xs r := by
  have ha : Asc xs := by unfold feedB' at h; rw [Bool.and_eq_true] at h; exact feed_asc h.1
  unfold mgC mgX inC inX
  rw [h, feed_one ht, put_mrg ha, ht]
  exact ⟨rfl, rfl⟩
theorem c_feedI (A : Option Addr) (c : Nat) (rs : List Rd) (w : World) (h : Feed w w.heap.size A rs) (hn : rs.length ≤ 1048576) : Calls Try.prog 57 #[.slice A rs.length c] w fun e w' => e = .returned (.bool (feedB' rs)) ∧ Stays w w' := c_ValidFeed A c rs w h hn
set_option maxRecDepth 100000 in
set_option maxHeartbeats 4000000 in
theorem c_implMerge (g c g2 c2 : Nat) (xs ys : List Rd) (w : World) (h : Feed w w.heap.size (some ⟨g, 0, none⟩) xs) (h2 : Feed w w.heap.size (some ⟨g2, 0, none⟩) ys) (hn : xs.length ≤ 1048576) (hn2 : ys.length ≤ 1048576) (hc2 : ys.length ≤ c2) :
    Calls Try.prog 42 #[.slice (some ⟨g, 0, none⟩) xs.length c, .slice (some ⟨g2, 0, none⟩) ys.length c2] w (FDone w (mgC xs ys) (mgX xs ys)) := by
  have HF := Lib.hid fun W (hW : Stays w W) => (h.below (show Below w.heap.size w W from hW)).more hW.size
  have HF2 := Lib.hid fun W (hW : Stays w W) => (h2.below (show Below w.heap.size w W from hW)).more hW.size
  have kF := fun W (hW : Stays w W) => c_feedI (some ⟨g, 0, none⟩) c xs W (HF.out W hW) hn
  have kF2 := fun W (hW : Stays w W) => c_feedI (some ⟨g2, 0, none⟩) c2 ys W (HF2.out W hW) hn2
  have hW := Lib.hid (Stays.refl w)
  unfold mgC mgX
  clear h h2
  cases hf : feedB' xs with
  | false =>
    rw [hf] at kF
    replace kF := Lib.hid kF
    simp only [Bool.false_and, Bool.false_eq_true, if_false]
    clear hf kF2
    go_enter Try.func42, Try.ntmps42
    go_wp2_with fail
    refine (kF.out _ hW.out).mono ?_
    rintro e w1 ⟨rfl, hb⟩
    replace hW := Lib.hid (hW.out.trans hb)
    clear hb
    go_wp2
    go_ret2
    exact FDone.nil hW.out 1
  | true =>
    rw [hf] at kF
    replace kF := Lib.hid kF
    cases hf2 : feedB' ys with
    | false =>
      rw [hf2] at kF2
      replace kF2 := Lib.hid kF2
      simp only [Bool.true_and, Bool.false_eq_true, if_false]
      clear hf hf2
      go_enter Try.func42, Try.ntmps42
      go_wp2_with fail
      refine (kF.out _ hW.out).mono ?_
      rintro e w1 ⟨rfl, hb⟩
      replace hW := Lib.hid (hW.out.trans hb)
      clear hb
      go_wp2_with fail
      refine (kF2.out _ hW.out).mono ?_
      rintro e w2 ⟨rfl, hb⟩
      replace hW := Lib.hid (hW.out.trans hb)
      clear hb
      go_wp2
      go_ret2
      exact FDone.nil hW.out 1
    | true =>
      rw [hf2] at kF2
      replace kF2 := Lib.hid kF2
      simp only [Bool.true_and, if_true]
      unfold feedB' at hf hf2
      rw [Bool.and_eq_true, decide_eq_true_eq] at hf hf2
      have kM := Lib.hid fun W (hW : Stays w W) => c_merged g c g2 c2 xs ys W (HF.out W hW) (HF2.out W hW) hf.2 hf2.2 hc2
      clear hf hf2
      by_cases hl : (mrg xs ys).length ≤ 256
      · rw [if_pos hl, if_pos hl]
        go_enter Try.func42, Try.ntmps42
        go_wp2_with fail
        refine (kF.out _ hW.out).mono ?_
        rintro e w1 ⟨rfl, hb⟩
        replace hW := Lib.hid (hW.out.trans hb)
        clear hb
        go_wp2_with fail
        refine (kF2.out _ hW.out).mono ?_
        rintro e w2 ⟨rfl, hb⟩
        replace hW := Lib.hid (hW.out.trans hb)
        clear hb
        go_wp2_with fail
        refine (kM.out _ hW.out).mono ?_
        rintro e w3 ⟨v, rfl, hb, ho⟩
        obtain ⟨A, cap, rfl⟩ := own_form ho
        have ho := Lib.hid (own_lower ho hW.out.size)
        replace hW := Lib.hid (hW.out.trans hb)
        clear hb
        have hl' : ¬ (((mrg xs ys).length : Nat) : Int) > 256 := by omega
        go_wp2
        go_ret2
        exact ⟨_, rfl, hW.out, ho.out⟩
      · rw [if_neg hl, if_neg hl]
        go_enter Try.func42, Try.ntmps42
        go_wp2_with fail
        refine (kF.out _ hW.out).mono ?_
        rintro e w1 ⟨rfl, hb⟩
        replace hW := Lib.hid (hW.out.trans hb)
        clear hb
        go_wp2_with fail
        refine (kF2.out _ hW.out).mono ?_
        rintro e w2 ⟨rfl, hb⟩
        replace hW := Lib.hid (hW.out.trans hb)
        clear hb
        go_wp2_with fail
        refine (kM.out _ hW.out).mono ?_
        rintro e w3 ⟨v, rfl, hb, ho⟩
        obtain ⟨A, cap, rfl⟩ := own_form ho
        replace hW := Lib.hid (hW.out.trans hb)
        clear hb ho
        have hl' : (((mrg xs ys).length : Nat) : Int) > 256 := by omega
        go_wp2
        go_ret2
        exact FDone.nil hW.out 3

set_option maxRecDepth 100000 in
set_option maxHeartbeats 4000000 in
theorem c_implInsert (g c : Nat) (xs : List Rd) (r : Rd) (w : World) (h : Feed w w.heap.size (some ⟨g, 0, none⟩) xs) (hn : xs.length ≤ 1048576) :
    Calls Try.prog 38 #[.slice (some ⟨g, 0, none⟩) xs.length c, .agg #[.int .i64 r.t, .int .i16 r.a, .int .i16 r.b, .int .i16 r.c]] w (FDone w (inC xs r) (inX xs r)) := by
  have hst : Stays w (w.alloc (.cells #[.int .i64 r.t, .int .i16 r.a, .int .i16 r.b, .int .i16 r.c] 83)) := by (repeat (first | exact Stays.refl _ | (with_reducible refine Stays.drewN ?_ _) | (with_reducible refine Stays.alloc ?_ _) | (with_reducible refine Stays.drew ?_) | (refine Stays.trans ?_ ‹Stays _ _›)))
  have u0 : (w.alloc (.cells #[.int .i64 r.t, .int .i16 r.a, .int .i16 r.b, .int .i16 r.c] 83)).heap[w.heap.size]? = some (.cells #[.int .i64 r.t, .int .i16 r.a, .int .i16 r.b, .int .i16 r.c] 83 (0, 0)) := by (repeat (first | (refine heap_top _ _ _ ?_; simp; done) | (with_reducible refine heap_drawn _ _ _ ?_) | (with_reducible refine heap_under _ _ _ ?_ ?_; (simp <;> omega))))
  have HB := Lib.hid fun W (hW : Stays (w.alloc (.cells #[.int .i64 r.t, .int .i16 r.a, .int .i16 r.b, .int .i16 r.c] 83)) W) => And.intro (row_of hW u0 0) (And.intro (row_of hW u0 1) (And.intro (row_of hW u0 2) (row_of hW u0 3)))
  have HS := Lib.hid fun W (hW : Stays (w.alloc (.cells #[.int .i64 r.t, .int .i16 r.a, .int .i16 r.b, .int .i16 r.c] 83)) W) => hst.trans hW
  have HF := Lib.hid fun W (hW : Stays (w.alloc (.cells #[.int .i64 r.t, .int .i16 r.a, .int .i16 r.b, .int .i16 r.c] 83)) W) => ((h.below (show Below w.heap.size w W from hst.trans hW)).more (hst.trans hW).size)
  have hW := Lib.hid (Stays.refl (w.alloc (.cells #[.int .i64 r.t, .int .i16 r.a, .int .i16 r.b, .int .i16 r.c] 83)))
  have kF := fun W (hW : Stays (w.alloc (.cells #[.int .i64 r.t, .int .i16 r.a, .int .i16 r.b, .int .i16 r.c] 83)) W) => c_feedI (some ⟨g, 0, none⟩) c xs W (HF.out W hW) hn
  have kT := fun W => c_isTime r.t W
  clear h hst u0
  cases hf : feedB' xs with
  | false =>
    rw [hf] at kF
    replace kF := Lib.hid kF
    unfold inC inX
    simp only [hf, Bool.false_eq_true, if_false]
    clear hf
    go_enter Try.func38, Try.ntmps38
    go_wp2_with fail
    refine (kF.out _ hW.out).mono ?_
    rintro e w1 ⟨rfl, hb⟩
    replace hW := Lib.hid (HS.out _ (hW.out.trans hb))
    clear hb
    go_wp2
    go_ret2
    exact FDone.nil hW.out 1
  | true =>
    rw [hf] at kF
    replace kF := Lib.hid kF
    cases ht : okTime r.t with
    | false =>
      rw [ht] at kT
      replace kT := Lib.hid kT
      unfold inC inX
      simp only [hf, ht, if_true, Bool.false_eq_true, if_false]
      clear hf ht
      go_enter Try.func38, Try.ntmps38
      go_wp2_with fail
      refine (kF.out _ hW.out).mono ?_
      rintro e w1 ⟨rfl, hb⟩
      replace hW := Lib.hid (hW.out.trans hb)
      clear hb
      obtain ⟨b0, b1, b2, b3⟩ := HB.out _ hW.out
      go_wp2_with fail
      refine (kT.out _).mono ?_
      rintro e w2 ⟨rfl, rfl⟩
      replace hW := Lib.hid (HS.out _ hW.out)
      go_wp2
      go_ret2
      exact FDone.nil hW.out 2
    | true =>
      rw [ht] at kT
      replace kT := Lib.hid kT
      obtain ⟨e1, e2⟩ := in_mg hf ht
      rw [← e1, ← e2]
      have kM := Lib.hid fun W (hW : Stays (w.alloc (.cells #[.int .i64 r.t, .int .i16 r.a, .int .i16 r.b, .int .i16 r.c] 83)) W) g2 (hF2 : Feed W W.heap.size (some ⟨g2, 0, none⟩) [r]) => c_implMerge g c g2 1 xs [r] W (HF.out W hW) hF2 hn (by simp) (Nat.le_refl _)
      clear hf ht e1 e2
      go_enter Try.func38, Try.ntmps38
      go_wp2_with fail
      refine (kF.out _ hW.out).mono ?_
      rintro e w1 ⟨rfl, hb⟩
      replace hW := Lib.hid (hW.out.trans hb)
      clear hb
      obtain ⟨b0, b1, b2, b3⟩ := HB.out _ hW.out
      go_wp2_with fail
      refine (kT.out _).mono ?_
      rintro e w2 ⟨rfl, rfl⟩
      have hW1 := Lib.hid (show Stays (w.alloc (.cells #[.int .i64 r.t, .int .i16 r.a, .int .i16 r.b, .int .i16 r.c] 83)) (w1.alloc (.cells #[.int .i64 r.t, .int .i16 r.a, .int .i16 r.b, .int .i16 r.c] 83)) from hW.out.trans (by (repeat (first | exact Stays.refl _ | (with_reducible refine Stays.drewN ?_ _) | (with_reducible refine Stays.alloc ?_ _) | (with_reducible refine Stays.drew ?_) | (refine Stays.trans ?_ ‹Stays _ _›)))))
      have hF2 := Lib.hid (show Feed (w1.alloc (.cells #[.int .i64 r.t, .int .i16 r.a, .int .i16 r.b, .int .i16 r.c] 83)) (w1.alloc (.cells #[.int .i64 r.t, .int .i16 r.a, .int .i16 r.b, .int .i16 r.c] 83)).heap.size (some ⟨w1.heap.size, 0, none⟩) [r] from ?feed)
      case feed =>
        intro i q hq
        cases i with
        | succ i => simp at hq
        | zero =>
          cases hq
          have hh := heap_alloc_new w1 (.cells #[.int .i64 r.t, .int .i16 r.a, .int .i16 r.b, .int .i16 r.c] 83)
          refine ⟨_, rfl, by simp, ?_, ?_, ?_, ?_⟩ <;> (rw [add_at, cell_of_row _ _ _ _ _ _ hh]; rfl)
      have hs := Lib.hid (HS.out _ hW1.out)
      go_wp2_with fail
      refine (kM.out _ hW1.out _ hF2.out).mono ?_
      rintro e w3 ⟨v, rfl, hb, ho⟩
      replace ho := Lib.hid (own_lower ho hs.out.size)
      replace hs := Lib.hid (hs.out.trans hb)
      clear hb
      go_wp2
      go_ret2
      exact ⟨_, rfl, hs.out, ho.out⟩
end Go.Proofs.Ytmcbeaihjdnelaa
