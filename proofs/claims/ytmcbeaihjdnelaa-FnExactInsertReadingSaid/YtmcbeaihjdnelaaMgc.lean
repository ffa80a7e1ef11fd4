/- Feeds that are merged, as the document does it. No condition. -/
import Derived.Test.YtmcbeaihjdnelaaMgb
namespace Go.Proofs.Ytmcbeaihjdnelaa
open Go Go.RowKit
set_option linter.unusedVariables false
set_option linter.unusedSimpArgs false


/-- A feed and a code, in a block of its own. -/
def FDone (w : World) (code : Int) (ys : List Rd) (e : Ending) (w' : World) : Prop := ∃ v, e = .returned (.tuple #[v, .int .i64 code]) ∧ Stays w w' ∧ w'.ownsRow w.heap.size 83 4 v ys.length (cellsOf ys)
theorem FDone.nil {w w' : World} (hs : Stays w w') (code : Int) : FDone w code [] (.returned (.tuple #[.slice none 0 0, .int .i64 code])) w' := ⟨_, rfl, hs, World.ownsRow_nil _ _ _ _⟩
theorem FDone.made {w w' : World} (hs : Stays w w') (code : Int) : FDone w code [] (.returned (.tuple #[.slice (some ⟨w'.heap.size, 0, none⟩) 0 0, .int .i64 code])) (w'.alloc (.cells #[] 83)) := ⟨_, rfl, hs.trans (by (repeat (first | exact Stays.refl _ | (with_reducible refine Stays.drewN ?_ _) | (with_reducible refine Stays.alloc ?_ _) | (with_reducible refine Stays.drew ?_) | (refine Stays.trans ?_ ‹Stays _ _›)))), World.ownsRow_made w' #[] 0 hs.size (Nat.zero_le _) rfl⟩
noncomputable def feedB' (rs : List Rd) : Bool := feedOK (rs.map (·.t)) && decide (rs.length ≤ 256)
noncomputable def inC (xs : List Rd) (r : Rd) : Int := if feedB' xs = true then (if okTime r.t = true then (if (putR r xs).length ≤ 256 then 0 else 3) else 2) else 1
noncomputable def inX (xs : List Rd) (r : Rd) : List Rd := if feedB' xs = true then (if okTime r.t = true then (if (putR r xs).length ≤ 256 then putR r xs else []) else []) else []
noncomputable def mgC (xs ys : List Rd) : Int := if (feedB' xs && feedB' ys) = true then (if (mrg xs ys).length ≤ 256 then 0 else 3) else 1
noncomputable def mgX (xs ys : List Rd) : List Rd := if (feedB' xs && feedB' ys) = true then (if (mrg xs ys).length ≤ 256 then mrg xs ys else []) else []
theorem own_lower {w : World} {B B' n : Nat} {v : Value} {xs : List Value} (h : w.ownsRow B 83 4 v n xs) (hB : B' ≤ B) : w.ownsRow B' 83 4 v n xs := by
  obtain ⟨h1, h2⟩ := h
  refine ⟨h1, ?_⟩
  rcases h2 with h2 | ⟨g, cap, cur, hv, hb, hg⟩
  · exact .inl h2
  · exact .inr ⟨g, cap, cur, hv, Nat.le_trans hB hb, hg⟩

theorem c_feedS (A : Option Addr) (c : Nat) (rs : List Rd) (w : World) (h : Feed w w.heap.size A rs) (hn : rs.length ≤ 1048576) : Calls Try.prog 53 #[.slice A rs.length c] w fun e w' => e = .returned (.bool (feedB' rs)) ∧ Stays w w' := by
  have := c_l04Feed A c (rs.map (·.t)) w h.times (by simpa using hn)
  rw [List.length_map] at this
  refine this.mono ?_
  rintro e w2 ⟨rfl, m, rfl⟩
  exact ⟨rfl, below_drewN w m⟩

set_option maxRecDepth 100000 in
set_option maxHeartbeats 4000000 in
theorem c_specInsert (g c : Nat) (xs : List Rd) (r : Rd) (w : World) (h : Feed w w.heap.size (some ⟨g, 0, none⟩) xs) (hn : xs.length ≤ 1048576) (hc : xs.length ≤ c) :
    Calls Try.prog 36 #[.slice (some ⟨g, 0, none⟩) xs.length c, .agg #[.int .i64 r.t, .int .i16 r.a, .int .i16 r.b, .int .i16 r.c]] w (FDone w (inC xs r) (inX xs r)) := by
  have hst : Stays w (w.alloc (.cells #[.int .i64 r.t, .int .i16 r.a, .int .i16 r.b, .int .i16 r.c] 83)) := by (repeat (first | exact Stays.refl _ | (with_reducible refine Stays.drewN ?_ _) | (with_reducible refine Stays.alloc ?_ _) | (with_reducible refine Stays.drew ?_) | (refine Stays.trans ?_ ‹Stays _ _›)))
  have u0 : (w.alloc (.cells #[.int .i64 r.t, .int .i16 r.a, .int .i16 r.b, .int .i16 r.c] 83)).heap[w.heap.size]? = some (.cells #[.int .i64 r.t, .int .i16 r.a, .int .i16 r.b, .int .i16 r.c] 83 (0, 0)) := by (repeat (first | (refine heap_top _ _ _ ?_; simp; done) | (with_reducible refine heap_drawn _ _ _ ?_) | (with_reducible refine heap_under _ _ _ ?_ ?_; (simp <;> omega))))
  have HB := Lib.hid fun W (hW : Stays (w.alloc (.cells #[.int .i64 r.t, .int .i16 r.a, .int .i16 r.b, .int .i16 r.c] 83)) W) => And.intro (row_of hW u0 0) (And.intro (row_of hW u0 1) (And.intro (row_of hW u0 2) (row_of hW u0 3)))
  have HS := Lib.hid fun W (hW : Stays (w.alloc (.cells #[.int .i64 r.t, .int .i16 r.a, .int .i16 r.b, .int .i16 r.c] 83)) W) => hst.trans hW
  have HF := Lib.hid fun W (hW : Stays (w.alloc (.cells #[.int .i64 r.t, .int .i16 r.a, .int .i16 r.b, .int .i16 r.c] 83)) W) => ((h.below (show Below w.heap.size w W from hst.trans hW)).more (hst.trans hW).size)
  have hW := Lib.hid (Stays.refl (w.alloc (.cells #[.int .i64 r.t, .int .i16 r.a, .int .i16 r.b, .int .i16 r.c] 83)))
  have kF := fun W (hW : Stays (w.alloc (.cells #[.int .i64 r.t, .int .i16 r.a, .int .i16 r.b, .int .i16 r.c] 83)) W) => c_feedS (some ⟨g, 0, none⟩) c xs W (HF.out W hW) hn
  have kT := fun W => c_l04Time r.t W
  unfold inC inX
  clear h hst u0
  cases hf : feedB' xs with
  | false =>
    rw [hf] at kF
    replace kF := Lib.hid kF
    simp only [Bool.false_eq_true, if_false]
    clear hf
    go_enter Try.func36, Try.ntmps36
    go_wp2_with fail
    refine (kF.out _ hW.out).mono ?_
    rintro e w1 ⟨rfl, hb⟩
    replace hW := Lib.hid (HS.out _ (hW.out.trans hb))
    clear hb
    go_wp2
    go_ret2
    exact FDone.made hW.out 1
  | true =>
    rw [hf] at kF
    replace kF := Lib.hid kF
    cases ht : okTime r.t with
    | false =>
      rw [ht] at kT
      replace kT := Lib.hid kT
      simp only [if_true, Bool.false_eq_true, if_false]
      clear hf ht
      go_enter Try.func36, Try.ntmps36
      go_wp2_with fail
      refine (kF.out _ hW.out).mono ?_
      rintro e w1 ⟨rfl, hb⟩
      replace hW := Lib.hid (hW.out.trans hb)
      clear hb
      obtain ⟨b0, b1, b2, b3⟩ := HB.out _ hW.out
      go_wp2_with fail
      refine (kT.out _).mono ?_
      rintro e w2 ⟨rfl, rfl⟩
      replace hW := Lib.hid (HS.out _ hW.out)
      go_wp2
      go_ret2
      exact FDone.made hW.out 2
    | true =>
      rw [ht] at kT
      replace kT := Lib.hid kT
      unfold feedB' at hf
      rw [Bool.and_eq_true, decide_eq_true_eq] at hf
      have hasc := feed_asc hf.1
      have kP := Lib.hid fun W (hW : Stays (w.alloc (.cells #[.int .i64 r.t, .int .i16 r.a, .int .i16 r.b, .int .i16 r.c] 83)) W) => c_l04Put g c xs r W (HF.out W hW) (by omega) hc hasc
      clear hf ht
      simp only [if_true]
      by_cases hl : (putR r xs).length ≤ 256
      · rw [if_pos hl, if_pos hl]
        go_enter Try.func36, Try.ntmps36
        go_wp2_with fail
        refine (kF.out _ hW.out).mono ?_
        rintro e w1 ⟨rfl, hb⟩
        replace hW := Lib.hid (hW.out.trans hb)
        clear hb
        obtain ⟨b0, b1, b2, b3⟩ := HB.out _ hW.out
        go_wp2_with fail
        refine (kT.out _).mono ?_
        rintro e w2 ⟨rfl, rfl⟩
        go_wp2_with fail
        refine (kP.out _ hW.out).mono ?_
        rintro e w3 ⟨g3, cap, rfl, hcap, hb, ho⟩
        have hs := Lib.hid (HS.out _ (hW.out.trans hb))
        have ho : w3.ownsRow w.heap.size 83 4 (.slice (some ⟨g3, 0, none⟩) (putR r xs).length cap) (putR r xs).length (cellsOf (putR r xs)) := own_lower ho (HS.out _ hW.out).size
        clear b0 b1 b2 b3 hb
        have hl' : ¬ (((putR r xs).length : Nat) : Int) > 256 := by omega
        replace ho := Lib.hid ho
        go_wp2
        go_ret2
        exact ⟨_, rfl, hs.out, ho.out⟩
      · rw [if_neg hl, if_neg hl]
        go_enter Try.func36, Try.ntmps36
        go_wp2_with fail
        refine (kF.out _ hW.out).mono ?_
        rintro e w1 ⟨rfl, hb⟩
        replace hW := Lib.hid (hW.out.trans hb)
        clear hb
        obtain ⟨b0, b1, b2, b3⟩ := HB.out _ hW.out
        go_wp2_with fail
        refine (kT.out _).mono ?_
        rintro e w2 ⟨rfl, rfl⟩
        go_wp2_with fail
        refine (kP.out _ hW.out).mono ?_
        rintro e w3 ⟨g3, cap, rfl, hcap, hb, ho⟩
        have hs := Lib.hid (HS.out _ (hW.out.trans hb))
        have ho : w3.ownsRow w.heap.size 83 4 (.slice (some ⟨g3, 0, none⟩) (putR r xs).length cap) (putR r xs).length (cellsOf (putR r xs)) := own_lower ho (HS.out _ hW.out).size
        clear b0 b1 b2 b3 hb
        have hl' : (((putR r xs).length : Nat) : Int) > 256 := by omega
        clear ho hcap
        go_wp2
        go_ret2
        exact FDone.made hs.out 3

theorem putR_len (r : Rd) : ∀ xs : List Rd, (putR r xs).length ≤ xs.length + 1
  | [] => Nat.le_refl _
  | x :: xs => by
    have := putR_len r xs
    unfold putR
    split
    · simp; omega
    · split <;> simp
def outP (xs ys : List Rd) (i : Nat) : List Rd := (ys.take i).foldl (fun out r => putR r out) xs
theorem outP_next {xs ys : List Rd} {i : Nat} {r : Rd} (h : ys[i]? = some r) : outP xs ys (i + 1) = putR r (outP xs ys i) := by
  unfold outP
  rw [List.take_add_one, h, List.foldl_append]
  rfl
theorem outP_len (xs ys : List Rd) : ∀ i, i ≤ ys.length → (outP xs ys i).length ≤ xs.length + i
  | 0, _ => Nat.le_refl _
  | i + 1, hi => by
    rw [outP_next (List.getElem?_eq_getElem hi)]
    have := putR_len (ys[i]'hi) (outP xs ys i)
    have := outP_len xs ys i (by omega)
    omega
theorem outP_asc {xs ys : List Rd} (h : Asc xs) : ∀ i, i ≤ ys.length → Asc (outP xs ys i)
  | 0, _ => h
  | i + 1, hi => by
    rw [outP_next (List.getElem?_eq_getElem hi)]
    exact putR_asc (outP_asc h i (by omega))
theorem outP_end {xs ys : List Rd} (h : Asc xs) (h' : Asc ys) : outP xs ys ys.length = mrg xs ys := by
  unfold outP
  rw [List.take_length]
  exact puts_mrg h h'
theorem own_feed {w wr : World} {g cap : Nat} {xs : List Rd} (h : wr.ownsRow w.heap.size 83 4 (.slice (some ⟨g, 0, none⟩) xs.length cap) xs.length (cellsOf xs)) (hs : Stays w wr) : Feed wr wr.heap.size (some ⟨g, 0, none⟩) xs := by
  obtain ⟨g', _, hL⟩ := Grows.lies (w := w) ⟨h, hs⟩
  obtain ⟨A, c, e, hF⟩ := hL.feed
  cases e
  exact hF

set_option maxRecDepth 100000 in
set_option maxHeartbeats 4000000 in
theorem c_specMerge (g c g2 c2 : Nat) (xs ys : List Rd) (w : World) (h : Feed w w.heap.size (some ⟨g, 0, none⟩) xs) (h2 : Feed w w.heap.size (some ⟨g2, 0, none⟩) ys) (hn : xs.length ≤ 1048576) (hn2 : ys.length ≤ 1048576) :
    Calls Try.prog 41 #[.slice (some ⟨g, 0, none⟩) xs.length c, .slice (some ⟨g2, 0, none⟩) ys.length c2] w (FDone w (mgC xs ys) (mgX xs ys)) := by
  obtain ⟨i0, hi0, hz0, hz1, hz2⟩ := info_parts info50
  have HF := Lib.hid fun W (hW : Stays w W) => (h.below (show Below w.heap.size w W from hW)).more hW.size
  have HF2 := Lib.hid fun W (hW : Stays w W) => (h2.below (show Below w.heap.size w W from hW)).more hW.size
  have kF := fun W (hW : Stays w W) => c_feedS (some ⟨g, 0, none⟩) c xs W (HF.out W hW) hn
  have kF2 := fun W (hW : Stays w W) => c_feedS (some ⟨g2, 0, none⟩) c2 ys W (HF2.out W hW) hn2
  have hW := Lib.hid (Stays.refl w)
  unfold mgC mgX
  clear h h2
  cases hf : feedB' xs with
  | false =>
    rw [hf] at kF
    replace kF := Lib.hid kF
    simp only [Bool.false_and, Bool.false_eq_true, if_false]
    clear hf kF2
    go_enter Try.func41, Try.ntmps41
    go_wp2_with fail
    refine (kF.out _ hW.out).mono ?_
    rintro e w1 ⟨rfl, hb⟩
    replace hW := Lib.hid (hW.out.trans hb)
    clear hb
    go_wp2
    go_ret2
    exact FDone.made hW.out 1
  | true =>
    rw [hf] at kF
    replace kF := Lib.hid kF
    cases hf2 : feedB' ys with
    | false =>
      rw [hf2] at kF2
      replace kF2 := Lib.hid kF2
      simp only [Bool.true_and, Bool.false_eq_true, if_false]
      clear hf hf2
      go_enter Try.func41, Try.ntmps41
      go_wp2_with fail
      refine (kF.out _ hW.out).mono ?_
      rintro e w1 ⟨rfl, hb⟩
      replace hW := Lib.hid (hW.out.trans hb)
      clear hb
      go_wp2_with fail
      refine (kF2.out _ hW.out).mono ?_
      rintro e w2 ⟨rfl, hb⟩
      replace hW := Lib.hid (hW.out.trans hb)
      clear hb
      go_wp2
      go_ret2
      exact FDone.made hW.out 1
    | true =>
      rw [hf2] at kF2
      replace kF2 := Lib.hid kF2
      simp only [Bool.true_and, if_true]
      unfold feedB' at hf hf2
      rw [Bool.and_eq_true, decide_eq_true_eq] at hf hf2
      have hasc := feed_asc hf.1
      have hasc2 := feed_asc hf2.1
      obtain ⟨hl1, hl2⟩ := And.intro hf.2 hf2.2
      obtain ⟨cd, X, hcd⟩ : ∃ cd X, cd = (if (mrg xs ys).length ≤ 256 then (0 : Int) else 3) ∧ X = (if (mrg xs ys).length ≤ 256 then mrg xs ys else []) := ⟨_, _, rfl, rfl⟩
      rw [← hcd.1, ← hcd.2]
      replace hcd := Lib.hid hcd
      have hend := Lib.hid (outP_end hasc hasc2)
      have hA := Lib.hid fun i (hi : i ≤ ys.length) => outP_asc (ys := ys) hasc i hi
      have hLn := Lib.hid fun i (hi : i ≤ ys.length) => outP_len xs ys i hi
      have hlen4 := Lib.hid (cellsOf_len xs)
      clear hf hf2 hasc hasc2
      go_enter Try.func41, Try.ntmps41
      go_wp2_with fail
      refine (kF.out _ hW.out).mono ?_
      rintro e w1 ⟨rfl, hb⟩
      replace hW := Lib.hid (hW.out.trans hb)
      clear hb
      go_wp2_with fail
      refine (kF2.out _ hW.out).mono ?_
      rintro e w2 ⟨rfl, hb⟩
      replace hW := Lib.hid (hW.out.trans hb)
      clear hb kF kF2
      have hnews := Lib.hid fun W (hW : Stays w W) => news_part (o := 0) (HF.out W hW) (fun i r hr => by rw [Nat.zero_add]; exact hr)
      have hO0 := Lib.hid (World.ownsRow_made (base := w.heap.size) (e := 83) (size := 4) w2 #[] 0 hW.out.size (Nat.zero_le _) rfl)
      have hsw := Lib.hid hW.out.size
      go_wp2_with (at_builtin; refine wpList_append_own _ rfl _ _ 34 rfl w.heap.size 83 i0 (.agg #[.int .i64 0, .int .i16 0, .int .i16 0, .int .i16 0]) 4 16 Try.underlying34 hi0 hz0 hz1 hz2 rfl (by decide) _ _ _ rfl  hO0.out ⟨g, 0, none⟩ xs.length c (cellsOf xs) rfl hlen4.out (hnews.out _ (hW.out.alloc _)) (cellsOf_one xs) (by unfold maxLen; omega) (by omega) (by have := hsw.out; simp; omega) ?_; intro v7 w7 hown7 hgrow7 hiff7; obtain ⟨g7, cap7, cur7, rfl, hb7, hn7, hh7, ht7⟩ := own_some hown7 (fun e => by have := (hiff7.1 e).1; cases this); have hs7 := Lib.hid (show Stays w w7 from Below.grown (B := w.heap.size) ((show Below w.heap.size w w2 from hW.out).alloc hsw.out (.cells #[] 83)) hgrow7 (by have := hsw.out; simp; omega) (fun k hk => by cases hk; exact hsw.out)); rw [Nat.zero_add] at hown7; rw [Nat.zero_add] at hn7; replace hown7 := Lib.hid hown7; replace hn7 := Lib.hid hn7; clear hb7 hh7 ht7 hgrow7 hiff7)
      clear hnews hO0 hsw hW
      go_loopw [6, 7] (fun v iv wr => ∃ (i g3 cap L : Nat), i ≤ ys.length ∧ iv = .int .i64 (i : Nat) ∧ v = .slice (some ⟨g3, 0, none⟩) L cap ∧ Hid (L = (outP xs ys i).length) ∧ Hid (L ≤ cap) ∧ Hid (wr.ownsRow w.heap.size 83 4 v L (cellsOf (outP xs ys i))) ∧ Hid (Stays w wr)) (fun _ iv _ => ys.length - (intOf iv).toNat)
      case atStart => exact ⟨0, g7, cap7, xs.length, Nat.zero_le _, rfl, by first | rfl | (rw [Nat.zero_add]), Lib.hid rfl, hn7, hown7, hs7⟩
      case round =>
        clear hown7 hn7 hs7
        obtain ⟨i, g3, cap, L, hi, rfl, rfl, hL, hcap, ho, hs⟩ := hrel
        have hLb : L ≤ xs.length + i := by rw [hL.out]; exact hLn.out i hi
        by_cases hlt : i < ys.length
        · have hlt' : (i : Int) < (ys.length : Int) := by omega
          have hgi : ys[i]? = some ys[i] := List.getElem?_eq_getElem hlt
          have hnx := Lib.hid (outP_next (xs := xs) hgi)
          obtain ⟨_, b0, b1, b2, b3⟩ := feed_at (HF2.out _ hs.out) hgi
          have hfd := Lib.hid (own_feed (w := w) (by rw [← hL.out]; exact ho.out) hs.out)
          have ha := hA.out i (by omega)
          generalize ys[i] = r at hgi hnx b0 b1 b2 b3
          have kP := c_l04Put g3 cap (outP xs ys i) r wr hfd.out (by rw [← hL.out]; omega) (by rw [← hL.out]; exact hcap.out) ha
          rw [← hL.out] at kP
          replace kP := Lib.hid kP
          replace hgi := Lib.hid hgi
          clear hfd ha
          have et : IntKind.i64.wrap ((i : Int) + 1) = (i : Int) + 1 := IntWalk.i64_in _ (by omega)
          go_wp2_with fail
          refine kP.out.mono ?_
          rintro e w3 ⟨g4, cap4, rfl, hc4, hb, ho4⟩
          have ho5 := Lib.hid (own_lower ho4 hs.out.size)
          have hs5 := Lib.hid (hs.out.trans hb)
          replace hc4 := Lib.hid hc4
          clear kP ho4 hb b0 b1 b2 b3 ho hs
          go_wp2_with fail
          go_round
          case rel => exact ⟨i + 1, g4, cap4, _, by omega, by go_num, rfl, Lib.hid (by rw [hnx.out]), hc4, by rw [hnx.out]; exact ho5, hs5⟩
          case measure => simp [intOf]; omega
        · have e : i = ys.length := by omega
          subst e
          rw [hend.out] at hL ho
          have hLe := hL.out
          by_cases hm : (mrg xs ys).length ≤ 256
          · have hm' : ¬ ((L : Nat) : Int) > 256 := by omega
            rw [hLe] at ho
            replace hm := Lib.hid hm
            replace hLe := Lib.hid hLe
            go_wp2
            go_ret2
            rw [hcd.out.1, hcd.out.2, if_pos hm.out, if_pos hm.out]
            exact ⟨_, rfl, hs.out, by rw [← hLe.out] at ho ⊢; exact ho.out⟩
          · have hm' : ((L : Nat) : Int) > 256 := by omega
            replace hm := Lib.hid hm
            replace hLe := Lib.hid hLe
            clear ho
            go_wp2
            go_ret2
            rw [hcd.out.1, hcd.out.2, if_neg hm.out, if_neg hm.out]
            exact FDone.made hs.out 3
end Go.Proofs.Ytmcbeaihjdnelaa
