/- Maps: whether one is valid, as the document says it. No condition. -/
import Derived.Test.YtmcbeaihjdnelaaNa
namespace Go.Proofs.Ytmcbeaihjdnelaa
open Go Go.RowKit
set_option linter.unusedVariables false
set_option linter.unusedSimpArgs false

def goodM (xs : List Mk) (j : Nat) : Prop := ∀ m, xs[j]? = some m → validB m = true ∧ ∀ p, 0 < j → xs[j - 1]? = some p → mcmp p m < 0

open Classical in
noncomputable def marksOK (xs : List Mk) : Bool := decide (∀ j, goodM xs j)
theorem marksOK_iff {xs : List Mk} : marksOK xs = true ↔ ∀ j, goodM xs j := @decide_eq_true_iff _ (Classical.propDecidable _)

def sideB (o : Option Nat) : Bool := finB o && posB o
noncomputable def mapOK (o : Option Nat) (xs : List Mk) : Bool := sideB o && decide (xs.length ≤ 200) && marksOK xs

def mapS (f1 f2 : FuncId) (b : Bool) (cv : Int) (f : FuncId) (args : Array Value) (v : Value) : Prop := (f = f1 → v = .bool b) ∧ (f = f2 → v = .int .i64 cv)

theorem goodM_at {xs : List Mk} {k : Nat} (h : k < xs.length) : goodM xs k ↔ validB xs[k] = true ∧ (0 < k → mcmp (xs[k - 1]'(by omega)) xs[k] < 0) := by
  unfold goodM
  rw [List.getElem?_eq_getElem h]
  constructor
  · intro g
    exact ⟨(g _ rfl).1, fun h0 => (g _ rfl).2 _ h0 (List.getElem?_eq_getElem (by omega))⟩
  · rintro ⟨g1, g2⟩ m e
    cases e
    exact ⟨g1, fun p h0 hp => by rw [List.getElem?_eq_getElem (by omega)] at hp; cases hp; exact g2 h0⟩

theorem goodM_next {xs : List Mk} {k : Nat} (h : ∀ j, j < k → goodM xs j) (hk : goodM xs k) : ∀ j, j < k + 1 → goodM xs j := fun j hj => by
  by_cases e : j = k
  · subst e; exact hk
  · exact h j (by omega)

theorem marksOK_bad {xs : List Mk} {k : Nat} (h : ¬ goodM xs k) : marksOK xs = false := Bool.eq_false_iff.2 fun g => h (marksOK_iff.1 g k)

theorem marksOK_end {xs : List Mk} {k : Nat} (hk : xs.length ≤ k) (h : ∀ j, j < k → goodM xs j) : marksOK xs = true := marksOK_iff.2 fun j => by
  by_cases hj : j < k
  · exact h j hj
  · intro m hm
    rw [List.getElem?_eq_none (by omega)] at hm
    cases hm

/-- A map in a block of its own. -/
def Boxed (w w' : World) (p : Nat) (a b : Value) : Prop := w'.cell? ⟨p, 0, none⟩ = some a ∧ w'.cell? ⟨p, 1, none⟩ = some b

theorem boxed_all {w : World} {p : Nat} {a b : Value} {t : TypeId} (hg : w.heap[p]? = some (.cells #[a, b] t (0, 0))) : ∀ w', Below w.heap.size w w' → w'.cell? ⟨p, 0, none⟩ = some a ∧ w'.cell? ⟨p, 1, none⟩ = some b := fun w' hb => by
  have hlt : p < w.heap.size := (Array.getElem?_eq_some_iff.1 hg).1
  exact ⟨(hb.cell (p := ⟨p, 0, none⟩) hlt).trans (cell_of_row _ _ _ _ _ _ hg), (hb.cell (p := ⟨p, 1, none⟩) hlt).trans (cell_of_row _ _ _ _ _ _ hg)⟩

set_option maxRecDepth 100000 in
set_option maxHeartbeats 4000000 in
theorem c_l05Ok (p : Nat) (sd : Nat) (o : Option Nat) (hf : FIs .f32 sd o) (A : Option Addr) (c : Nat) (xs : List Mk) (w : World) (hg : w.heap[p]? = some (.cells #[.float .f32 sd, .slice A xs.length c] 56 (0, 0))) (h : Mks w w.heap.size A xs) (hn : xs.length ≤ 1048576) :
    Calls Try.prog 67 #[.pointer (some ⟨p, 0, none⟩)] w fun e w' => e = .returned (.bool (mapOK o xs)) ∧ Below w.heap.size w w' := by
  have H := Lib.hid h
  have HB := Lib.hid (boxed_all hg)
  have hs : ∀ W, Calls Try.prog 116 #[.float .f32 sd] W fun e w' => e = .returned (.bool (sideB o)) ∧ Below W.heap.size W w' := fun W => by
    have := c_l05Side sd W
    rw [hf.out] at this
    exact this
  unfold mapOK
  generalize sideB o = sb at hs ⊢
  replace hs := Lib.hid hs
  clear h hg
  have hS := Stays.refl w
  obtain ⟨q0, q1⟩ := HB.out _ hS
  cases sb with
  | false =>
    go_enter Try.func67, Try.ntmps67
    go_wp2_with (go_at_call 116; refine (hs.out _).mono ?_; rintro e w1 ⟨rfl, hw1⟩)
    go_ret
    exact ⟨rfl, hw1⟩
  | true =>
    by_cases h200 : xs.length ≤ 200
    · have h200' : ¬ ((xs.length : Nat) : Int) > 200 := by omega
      have h200'' : ((xs.length : Nat) : Int) ≤ 200 := by omega
      go_enter Try.func67, Try.ntmps67
      go_wp2_with (go_at_call 116; refine (hs.out _).mono ?_; rintro e w1 ⟨rfl, hw1⟩; clear q0 q1; obtain ⟨q0, q1⟩ := HB.out _ hw1)
      have hw1 := Lib.hid hw1
      clear q0 q1
      go_loopw [3] (fun i wr => ∃ k : Nat, k ≤ xs.length ∧ i = .int .i64 k ∧ Hid (Below w.heap.size w wr) ∧ Hid (∀ j, j < k → goodM xs j)) (fun i _ => xs.length - (intOf i).toNat)
      case atStart => exact ⟨0, Nat.zero_le _, rfl, hw1, Lib.hid fun j hj => by omega⟩
      case round =>
        clear hw1
        obtain ⟨k, hk, rfl, hb, hgd⟩ := hrel
        obtain ⟨q0, q1⟩ := HB.out _ hb.out
        by_cases hlt : k < xs.length
        · obtain ⟨ad, rfl, hbl, hrow⟩ := (H.out.below hb.out) k xs[k] (List.getElem?_eq_getElem hlt)
          have hgk := goodM_at hlt
          have hprev : 0 < k → ∃ ad', some ad = some ad' ∧ ad'.block < w.heap.size ∧ RowAt mkK wr (ad'.add ((k - 1) * 9)) (xs[k - 1]'(by omega)).ins := fun h0 => (H.out.below hb.out) (k - 1) _ (List.getElem?_eq_getElem (by omega))
          have bad : ¬ goodM xs k → Ending.returned (.bool false) = .returned (.bool (true && decide (xs.length ≤ 200) && marksOK xs)) := fun hb => by rw [marksOK_bad hb]; simp
          have next : goodM xs k → Hid (∀ j, j < k + 1 → goodM xs j) := fun hb => Lib.hid (goodM_next hgd.out hb)
          have bad := Lib.hid bad
          have next := Lib.hid next
          generalize xs[k] = m at hrow hgk
          have hlt' : (k : Int) < (xs.length : Int) := by omega
          obtain ⟨c0, c1, c2, c3, c4, c5, c6, c7, c8, ⟨e0, e1, e2, _⟩, g0, g1, g2, _⟩ := mk_at hrow
          have e0 : c0 = .int .i32 m.x := e0
          have e1 : c1 = .int .i32 m.y := e1
          have e2 : c2 = .int .i32 m.z := e2
          subst e0 e1 e2
          have hblk : ∀ w1, Stays wr w1 → (ad.add (k * 9)).block < w1.heap.size := fun w1 h => by rw [block_add]; exact Nat.lt_of_lt_of_le hbl (Nat.le_trans hb.out.size h.size)
          have kM0 : ∀ w1, Stays wr w1 → Calls Try.prog 62 #[.pointer (some (ad.add (k * 9)))] w1 fun e w' => e = .returned (.bool (validB m)) ∧ Stays w1 w' := fun w1 h => c_l05Mark _ m w1 (hrow.below h (by rw [block_add]; exact Nat.lt_of_lt_of_le hbl hb.out.size)) (hblk w1 h)
          clear hrow hblk
          have hbx : ∀ w1, Stays wr w1 → w1.cell? ⟨p, 1, none⟩ = some (.slice (some ad) xs.length c) := fun w1 h => (HB.out _ (hb.out.trans (Below.mono h hb.out.size))).2
          replace hbx := Lib.hid hbx
          cases hv : validB m with
          | false =>
            have bd := Lib.hid (marksOK_bad fun h => absurd (hgk.1 h).1 (by rw [hv]; exact Bool.false_ne_true))
            have kM := Lib.hid kM0
            rw [hv] at kM
            have hcells : ∀ w1, Stays wr w1 → _ := fun w1 h => hbx.out w1 h
            clear hgk hprev kM0 g0 g1 g2 hv
            go_wp2_with fail
            refine wp_region_soft_tail 32 (Stays.refl _) (mapS 62 117 false 0) [] (by kernel_rfl) (by kernel_rfl) (fun _ h => by cases h) ?_
            simp only [List.take_succ_cons, List.take_zero, List.drop_succ_cons, List.drop_zero]
            repeat (first | ((with_reducible apply soft_detG); (case hwa => rfl); (case hA => rfl); (case h => (intro w1 hw1; have hc := hcells w1 hw1; go_simp; exact rfl)); go_simp) | ((with_reducible apply soft_skipG); (case hwa => rfl); (case hA => rfl); go_simp) | ((with_reducible apply soft_callS (v := .bool false)); (case hwa => rfl); (case hA => rfl); (case h => (intro w1 hw1; have hc := hcells w1 hw1; go_simp; exact ⟨rfl, rfl⟩)); (case hc => (intro w1 hw1; with_reducible exact kM.out w1 hw1)); (case hS => exact ⟨fun _ => rfl, fun e => absurd e (by decide)⟩); (case hu => exact fun u hu => hu.1 rfl); go_simp))
            refine soft_nil ?_
            rintro w2 ⟨hw2, _⟩
            replace hw2 := Lib.hid (hb.out.trans (Below.mono hw2 hb.out.size))
            clear hcells
            go_wp2
            go_ret
            exact ⟨ret_b (by simp [bd.out]), hw2.out⟩
          | true =>
            have kM := Lib.hid kM0
            rw [hv] at kM
            by_cases h0 : 0 < k
            · obtain ⟨ad', e, hbl', hrow'⟩ := hprev h0
              cases e
              have hgk : goodM xs k ↔ validB m = true ∧ mcmp (xs[k - 1]'(by omega)) m < 0 := hgk.trans ⟨fun h => ⟨h.1, h.2 h0⟩, fun h => ⟨h.1, fun _ => h.2⟩⟩
              generalize xs[k - 1]'(by omega) = m' at hrow' hgk
              obtain ⟨d0, d1, d2, d3, d4, d5, d6, d7, d8, ⟨f0, f1, f2, _⟩, k0, k1, k2, _⟩ := mk_at hrow'
              have f0 : d0 = .int .i32 m'.x := f0
              have f1 : d1 = .int .i32 m'.y := f1
              have f2 : d2 = .int .i32 m'.z := f2
              subst f0 f1 f2
              have hlt1 : ∀ n, (ad.add n).block < wr.heap.size := fun n => by rw [block_add]; exact Nat.lt_of_lt_of_le hbl hb.out.size
              have G : Hid (∀ w', Stays wr w' → w'.cell? (ad.add (k * 9)) = some (.int .i32 m.x) ∧ w'.cell? ⟨(ad.add (k * 9)).block, (ad.add (k * 9)).off + 1, none⟩ = some (.int .i32 m.y) ∧ w'.cell? ⟨(ad.add (k * 9)).block, (ad.add (k * 9)).off + 2, none⟩ = some (.int .i32 m.z) ∧
                  w'.cell? (ad.add ((k - 1) * 9)) = some (.int .i32 m'.x) ∧ w'.cell? ⟨(ad.add ((k - 1) * 9)).block, (ad.add ((k - 1) * 9)).off + 1, none⟩ = some (.int .i32 m'.y) ∧ w'.cell? ⟨(ad.add ((k - 1) * 9)).block, (ad.add ((k - 1) * 9)).off + 2, none⟩ = some (.int .i32 m'.z)) := Lib.hid fun w' hx =>
                ⟨(Below.cell hx (hlt1 _)).trans g0, (Below.cell (p := ⟨(ad.add (k * 9)).block, (ad.add (k * 9)).off + 1, none⟩) hx (hlt1 _)).trans g1, (Below.cell (p := ⟨(ad.add (k * 9)).block, (ad.add (k * 9)).off + 2, none⟩) hx (hlt1 _)).trans g2, (Below.cell hx (hlt1 _)).trans k0, (Below.cell (p := ⟨(ad.add ((k - 1) * 9)).block, (ad.add ((k - 1) * 9)).off + 1, none⟩) hx (hlt1 _)).trans k1, (Below.cell (p := ⟨(ad.add ((k - 1) * 9)).block, (ad.add ((k - 1) * 9)).off + 2, none⟩) hx (hlt1 _)).trans k2⟩
              have hcells : ∀ w1, Stays wr w1 → _ := fun w1 h => And.intro (hbx.out w1 h) (G.out w1 h)
              have hk1 : IntKind.i64.wrap ((k : Int) - 1) = ((k - 1 : Nat) : Int) := by rw [IntWalk.i64_in _ (by omega)]; omega
              have hk2 : ((k - 1 : Nat) : Int) < (xs.length : Int) := by omega
              have hk3 : (0 : Int) < (k : Int) := by omega
              have kC0 : ∀ w1 : World, Calls Try.prog 117 #[.agg #[.int .i32 m'.x, .int .i32 m'.y, .int .i32 m'.z], .agg #[.int .i32 m.x, .int .i32 m.y, .int .i32 m.z]] w1 fun e w' => e = .returned (.int .i64 (mcmp m' m)) ∧ Stays w1 w' := fun w1 => c_l05Compare _ _ _ _ _ _ w1
              have nx : Hid (mcmp m' m < 0 → Hid (∀ j, j < k + 1 → goodM xs j)) := Lib.hid fun hc => next.out (hgk.2 ⟨hv, hc⟩)
              have bd : Hid (¬ mcmp m' m < 0 → marksOK xs = false) := Lib.hid fun hc => marksOK_bad fun h => hc (hgk.1 h).2
              generalize mcmp m' m = cv at kC0 nx bd
              have kC := Lib.hid kC0
              clear hgk hv hrow' g0 g1 g2 k0 k1 k2 hprev kM0 kC0
              by_cases hc : cv < 0
              · have hc' : ¬ 0 ≤ cv := by omega
                go_wp2_with fail
                refine wp_region_soft_tail 32 (Stays.refl _) (mapS 62 117 true cv) [] (by kernel_rfl) (by kernel_rfl) (fun _ h => by cases h) ?_
                simp only [List.take_succ_cons, List.take_zero, List.drop_succ_cons, List.drop_zero]
                repeat (first | ((with_reducible apply soft_detG); (case hwa => rfl); (case hA => rfl); (case h => (intro w1 hw1; have hc := hcells w1 hw1; go_simp; exact rfl)); go_simp) | ((with_reducible apply soft_skipG); (case hwa => rfl); (case hA => rfl); go_simp) | ((with_reducible apply soft_callS (v := .bool true)); (case hwa => rfl); (case hA => rfl); (case h => (intro w1 hw1; have hc := hcells w1 hw1; go_simp; exact ⟨rfl, rfl⟩)); (case hc => (intro w1 hw1; with_reducible exact kM.out w1 hw1)); (case hS => exact ⟨fun _ => rfl, fun e => absurd e (by decide)⟩); (case hu => exact fun u hu => hu.1 rfl); go_simp) | ((with_reducible apply soft_callS (v := .int .i64 cv)); (case hwa => rfl); (case hA => rfl); (case h => (intro w1 hw1; have hc := hcells w1 hw1; go_simp; exact ⟨rfl, rfl⟩)); (case hc => (intro w1 hw1; with_reducible exact kC.out w1)); (case hS => exact ⟨fun e => absurd e (by decide), fun _ => rfl⟩); (case hu => exact fun u hu => hu.2 rfl); go_simp))
                refine soft_nil ?_
                rintro w2 ⟨hw2, _⟩
                replace hw2 := Lib.hid (hb.out.trans (Below.mono hw2 hb.out.size))
                clear hcells
                go_wp2
                go_round
                case rel => exact ⟨k + 1, by omega, by go_num, hw2, nx.out hc⟩
                case measure => simp [intOf]; omega
              · have hc' : 0 ≤ cv := by omega
                go_wp2_with fail
                refine wp_region_soft_tail 32 (Stays.refl _) (mapS 62 117 true cv) [] (by kernel_rfl) (by kernel_rfl) (fun _ h => by cases h) ?_
                simp only [List.take_succ_cons, List.take_zero, List.drop_succ_cons, List.drop_zero]
                repeat (first | ((with_reducible apply soft_detG); (case hwa => rfl); (case hA => rfl); (case h => (intro w1 hw1; have hc := hcells w1 hw1; go_simp; exact rfl)); go_simp) | ((with_reducible apply soft_skipG); (case hwa => rfl); (case hA => rfl); go_simp) | ((with_reducible apply soft_callS (v := .bool true)); (case hwa => rfl); (case hA => rfl); (case h => (intro w1 hw1; have hc := hcells w1 hw1; go_simp; exact ⟨rfl, rfl⟩)); (case hc => (intro w1 hw1; with_reducible exact kM.out w1 hw1)); (case hS => exact ⟨fun _ => rfl, fun e => absurd e (by decide)⟩); (case hu => exact fun u hu => hu.1 rfl); go_simp) | ((with_reducible apply soft_callS (v := .int .i64 cv)); (case hwa => rfl); (case hA => rfl); (case h => (intro w1 hw1; have hc := hcells w1 hw1; go_simp; exact ⟨rfl, rfl⟩)); (case hc => (intro w1 hw1; with_reducible exact kC.out w1)); (case hS => exact ⟨fun e => absurd e (by decide), fun _ => rfl⟩); (case hu => exact fun u hu => hu.2 rfl); go_simp))
                refine soft_nil ?_
                rintro w2 ⟨hw2, _⟩
                replace hw2 := Lib.hid (hb.out.trans (Below.mono hw2 hb.out.size))
                clear hcells
                go_wp2
                go_ret
                exact ⟨ret_b (by simp [bd.out hc]), hw2.out⟩
            · have nx := next.out (hgk.2 ⟨hv, fun h => absurd h h0⟩)
              have hcells : ∀ w1, Stays wr w1 → _ := fun w1 h => hbx.out w1 h
              have hk3 : ¬ (0 : Int) < (k : Int) := by omega
              clear hgk hprev kM0 g0 g1 g2 hv
              go_wp2_with fail
              refine wp_region_soft_tail 32 (Stays.refl _) (mapS 62 117 true 0) [] (by kernel_rfl) (by kernel_rfl) (fun _ h => by cases h) ?_
              simp only [List.take_succ_cons, List.take_zero, List.drop_succ_cons, List.drop_zero]
              repeat (first | ((with_reducible apply soft_detG); (case hwa => rfl); (case hA => rfl); (case h => (intro w1 hw1; have hc := hcells w1 hw1; go_simp; exact rfl)); go_simp) | ((with_reducible apply soft_skipG); (case hwa => rfl); (case hA => rfl); go_simp) | ((with_reducible apply soft_callS (v := .bool true)); (case hwa => rfl); (case hA => rfl); (case h => (intro w1 hw1; have hc := hcells w1 hw1; go_simp; exact ⟨rfl, rfl⟩)); (case hc => (intro w1 hw1; with_reducible exact kM.out w1 hw1)); (case hS => exact ⟨fun _ => rfl, fun e => absurd e (by decide)⟩); (case hu => exact fun u hu => hu.1 rfl); go_simp))
              refine soft_nil ?_
              rintro w2 ⟨hw2, _⟩
              replace hw2 := Lib.hid (hb.out.trans (Below.mono hw2 hb.out.size))
              clear hcells
              go_wp2
              go_round
              case rel => exact ⟨k + 1, by omega, by go_num, hw2, nx⟩
              case measure => simp [intOf]; omega
        · have fin := Lib.hid (marksOK_end (by omega) hgd.out)
          go_wp2
          go_ret
          exact ⟨ret_b (by rw [fin.out, decide_eq_true h200]; rfl), hb.out⟩
    · have h200' : ((xs.length : Nat) : Int) > 200 := by omega
      go_enter Try.func67, Try.ntmps67
      go_wp2_with (go_at_call 116; refine (hs.out _).mono ?_; rintro e w1 ⟨rfl, hw1⟩; clear q0 q1; obtain ⟨q0, q1⟩ := HB.out _ hw1)
      go_ret
      exact ⟨ret_b (by rw [decide_eq_false h200]; simp), hw1⟩

set_option maxRecDepth 100000 in
set_option maxHeartbeats 4000000 in
theorem c_implValidMap (v : Value) (o : Option Nat) (xs : List Mk) (w : World) (h : MpV w w.heap.size v o xs) (hn : xs.length ≤ 1048576) :
    Calls Try.prog 70 #[v] w fun e w' => e = .returned (.bool (mapOK o xs)) ∧ Below w.heap.size w w' := by
  obtain ⟨sd, A, c, rfl, hf, h1⟩ := h.val
  have H := Lib.hid h1
  have HB : Hid (∀ w1, Stays (w.alloc (.cells #[.float .f32 sd, .slice A xs.length c] 56)) w1 → (w1.cell? ⟨w.heap.size, 0, none⟩ = some (.float .f32 sd) ∧ w1.cell? ⟨w.heap.size, 1, none⟩ = some (.slice A xs.length c)) ∧ Below w.heap.size w w1) :=
    Lib.hid fun w1 hb => ⟨⟨row_of hb (heap_alloc_new w _) 0, row_of hb (heap_alloc_new w _) 1⟩, (show Stays w _ from by (repeat (first | exact Stays.refl _ | (with_reducible refine Stays.drewN ?_ _) | (with_reducible refine Stays.alloc ?_ _) | (with_reducible refine Stays.drew ?_) | (refine Stays.trans ?_ ‹Stays _ _›)))).trans hb⟩
  have hs : ∀ W, Calls Try.prog 111 #[.float .f32 sd] W fun e w' => e = .returned (.bool (sideB o)) ∧ Below W.heap.size W w' := fun W => by
    have := c_isPositive sd W
    rw [hf.out] at this
    exact this
  unfold mapOK
  generalize sideB o = sb at hs ⊢
  replace hs := Lib.hid hs
  clear h h1 hf
  cases sb with
  | false =>
    go_enter Try.func70, Try.ntmps70
    go_wp2_with (go_at_call 111; refine (hs.out _).mono ?_; rintro e w1 ⟨rfl, hw1⟩)
    go_ret
    exact ⟨rfl, (HB.out _ hw1).2⟩
  | true =>
    by_cases h200 : xs.length ≤ 200
    · have h200' : ¬ ((xs.length : Nat) : Int) > 200 := by omega
      have h200'' : ((xs.length : Nat) : Int) ≤ 200 := by omega
      go_enter Try.func70, Try.ntmps70
      go_wp2_with (go_at_call 111; refine (hs.out _).mono ?_; rintro e w1 ⟨rfl, hw1⟩; obtain ⟨⟨q0, q1⟩, _⟩ := HB.out _ hw1)
      replace hw1 := Lib.hid (show Stays _ w1 from hw1)
      clear q0 q1
      generalize (w.alloc (.cells #[.float .f32 sd, .slice A xs.length c] 56)) = W0 at HB hw1
      go_loopw [18] (fun i wr => ∃ k : Nat, k ≤ xs.length ∧ i = .int .i64 k ∧ Hid (Stays W0 wr) ∧ Hid (∀ j, j < k → goodM xs j)) (fun i _ => xs.length - (intOf i).toNat)
      case atStart => exact ⟨0, Nat.zero_le _, rfl, hw1, Lib.hid fun j hj => by omega⟩
      case round =>
        clear hw1
        obtain ⟨k, hk, rfl, hb, hgd⟩ := hrel
        obtain ⟨⟨q0, q1⟩, hbw⟩ := HB.out _ hb.out
        by_cases hlt : k < xs.length
        · obtain ⟨ad, rfl, hbl, hrow⟩ := (H.out.below hbw) k xs[k] (List.getElem?_eq_getElem hlt)
          have hgk := goodM_at hlt
          have hprev : 0 < k → ∃ ad', some ad = some ad' ∧ ad'.block < w.heap.size ∧ RowAt mkK wr (ad'.add ((k - 1) * 9)) (xs[k - 1]'(by omega)).ins := fun h0 => (H.out.below hbw) (k - 1) _ (List.getElem?_eq_getElem (by omega))
          have next : goodM xs k → Hid (∀ j, j < k + 1 → goodM xs j) := fun hb => Lib.hid (goodM_next hgd.out hb)
          have next := Lib.hid next
          generalize xs[k] = m at hrow hgk
          have hlt' : (k : Int) < (xs.length : Int) := by omega
          obtain ⟨c0, c1, c2, c3, c4, c5, c6, c7, c8, hK, g0, g1, g2, g3, g4, g5, g6, g7, g8⟩ := mk_at hrow
          obtain ⟨ra, rb, rc, rd, e, _⟩ := mk_row hK
          cases e
          have hM : Hid (IsMk (.agg #[.int .i32 m.x, .int .i32 m.y, .int .i32 m.z, .float .f32 ra, .float .f32 rb, .float .f32 rc, .float .f32 rd, .int .i64 m.s, .int .i64 m.l]) m) := Lib.hid ⟨_, rfl, hK⟩
          clear hrow hK
          have hbx : ∀ w1, Stays wr w1 → w1.cell? ⟨w.heap.size, 1, none⟩ = some (.slice (some ad) xs.length c) := fun w1 h => (HB.out _ (hb.out.trans h)).1.2
          have hst1 : Stays wr (wr.alloc (.cells #[.int .i32 m.x, .int .i32 m.y, .int .i32 m.z, .float .f32 ra, .float .f32 rb, .float .f32 rc, .float .f32 rd, .int .i64 m.s, .int .i64 m.l] 45)) := by (repeat (first | exact Stays.refl _ | (with_reducible refine Stays.drewN ?_ _) | (with_reducible refine Stays.alloc ?_ _) | (with_reducible refine Stays.drew ?_) | (refine Stays.trans ?_ ‹Stays _ _›)))
          have hbox := heap_alloc_new wr (.cells #[.int .i32 m.x, .int .i32 m.y, .int .i32 m.z, .float .f32 ra, .float .f32 rb, .float .f32 rc, .float .f32 rd, .int .i64 m.s, .int .i64 m.l] 45)
          have hmk : Hid (∀ w1, Stays (wr.alloc (.cells #[.int .i32 m.x, .int .i32 m.y, .int .i32 m.z, .float .f32 ra, .float .f32 rb, .float .f32 rc, .float .f32 rd, .int .i64 m.s, .int .i64 m.l] 45)) w1 → w1.cell? ⟨wr.heap.size, 0, none⟩ = some (.int .i32 m.x) ∧ w1.cell? ⟨wr.heap.size, 1, none⟩ = some (.int .i32 m.y) ∧ w1.cell? ⟨wr.heap.size, 2, none⟩ = some (.int .i32 m.z) ∧ w1.cell? ⟨wr.heap.size, 3, none⟩ = some (.float .f32 ra) ∧ w1.cell? ⟨wr.heap.size, 4, none⟩ = some (.float .f32 rb) ∧ w1.cell? ⟨wr.heap.size, 5, none⟩ = some (.float .f32 rc) ∧ w1.cell? ⟨wr.heap.size, 6, none⟩ = some (.float .f32 rd) ∧ w1.cell? ⟨wr.heap.size, 7, none⟩ = some (.int .i64 m.s) ∧ w1.cell? ⟨wr.heap.size, 8, none⟩ = some (.int .i64 m.l) ∧ w1.cell? ⟨w.heap.size, 1, none⟩ = some (.slice (some ad) xs.length c) ∧ Stays wr w1) :=
            Lib.hid fun w1 h => ⟨row_of h hbox 0, row_of h hbox 1, row_of h hbox 2, row_of h hbox 3, row_of h hbox 4, row_of h hbox 5, row_of h hbox 6, row_of h hbox 7, row_of h hbox 8, hbx w1 (hst1.trans h), hst1.trans h⟩
          have kM0 : ∀ w1 : World, Calls Try.prog 64 #[.agg #[.int .i32 m.x, .int .i32 m.y, .int .i32 m.z, .float .f32 ra, .float .f32 rb, .float .f32 rc, .float .f32 rd, .int .i64 m.s, .int .i64 m.l]] w1 fun e w' => e = .returned (.bool (validB m)) ∧ Stays w1 w' := fun w1 => c_isValid _ m w1 hM.out
          clear hst1 hbox hbx q0 q1
          cases hv : validB m with
          | false =>
            have bd := Lib.hid (marksOK_bad fun h => absurd (hgk.1 h).1 (by rw [hv]; exact Bool.false_ne_true))
            have kM := Lib.hid kM0
            rw [hv] at kM
            clear hgk hprev kM0 hv
            go_wp2_with fail
            generalize (wr.alloc (.cells #[.int .i32 m.x, .int .i32 m.y, .int .i32 m.z, .float .f32 ra, .float .f32 rb, .float .f32 rc, .float .f32 rd, .int .i64 m.s, .int .i64 m.l] 45)) = WM at hmk ⊢
            have hcells : ∀ w1, Stays WM w1 → _ := fun w1 h => hmk.out w1 h
            refine wp_region_soft_tail 17 (Stays.refl _) (mapS 64 118 false 0) [] (by kernel_rfl) (by kernel_rfl) (fun _ h => by cases h) ?_
            simp only [List.take_succ_cons, List.take_zero, List.drop_succ_cons, List.drop_zero]
            repeat (first | ((with_reducible apply soft_detG); (case hwa => rfl); (case hA => rfl); (case h => (intro w1 hw1; have hc := hcells w1 hw1; go_simp; exact rfl)); go_simp) | ((with_reducible apply soft_skipG); (case hwa => rfl); (case hA => rfl); go_simp) | ((with_reducible apply soft_callS (v := .bool false)); (case hwa => rfl); (case hA => rfl); (case h => (intro w1 hw1; have hc := hcells w1 hw1; go_simp; exact ⟨rfl, rfl⟩)); (case hc => (intro w1 hw1; with_reducible exact kM.out w1)); (case hS => exact ⟨fun _ => rfl, fun e => absurd e (by decide)⟩); (case hu => exact fun u hu => hu.1 rfl); go_simp))
            refine soft_nil ?_
            rintro w2 ⟨hw2, _⟩
            replace hw2 := Lib.hid (hb.out.trans (hmk.out w2 hw2).2.2.2.2.2.2.2.2.2.2)
            clear hcells hmk
            go_wp2
            go_ret
            exact ⟨ret_b (by simp [bd.out]), (HB.out _ hw2.out).2⟩
          | true =>
            have kM := Lib.hid kM0
            rw [hv] at kM
            by_cases h0 : 0 < k
            · obtain ⟨ad', e, hbl', hrow'⟩ := hprev h0
              cases e
              have hgk : goodM xs k ↔ validB m = true ∧ mcmp (xs[k - 1]'(by omega)) m < 0 := hgk.trans ⟨fun h => ⟨h.1, h.2 h0⟩, fun h => ⟨h.1, fun _ => h.2⟩⟩
              generalize xs[k - 1]'(by omega) = m' at hrow' hgk
              obtain ⟨d0, d1, d2, d3, d4, d5, d6, d7, d8, hK', k0, k1, k2, k3, k4, k5, k6, k7, k8⟩ := mk_at hrow'
              have hM' : IsMk (.agg #[d0, d1, d2, d3, d4, d5, d6, d7, d8]) m' := ⟨_, rfl, hK'⟩
              have hlt1 : ∀ n, (ad.add n).block < wr.heap.size := fun n => by rw [block_add]; exact Nat.lt_of_lt_of_le hbl hbw.size
              have G : Hid (∀ w', Stays wr w' → w'.cell? (ad.add ((k - 1) * 9)) = some d0 ∧ w'.cell? ⟨(ad.add ((k - 1) * 9)).block, (ad.add ((k - 1) * 9)).off + 1, none⟩ = some d1 ∧ w'.cell? ⟨(ad.add ((k - 1) * 9)).block, (ad.add ((k - 1) * 9)).off + 2, none⟩ = some d2 ∧ w'.cell? ⟨(ad.add ((k - 1) * 9)).block, (ad.add ((k - 1) * 9)).off + 3, none⟩ = some d3 ∧ w'.cell? ⟨(ad.add ((k - 1) * 9)).block, (ad.add ((k - 1) * 9)).off + 4, none⟩ = some d4 ∧ w'.cell? ⟨(ad.add ((k - 1) * 9)).block, (ad.add ((k - 1) * 9)).off + 5, none⟩ = some d5 ∧ w'.cell? ⟨(ad.add ((k - 1) * 9)).block, (ad.add ((k - 1) * 9)).off + 6, none⟩ = some d6 ∧ w'.cell? ⟨(ad.add ((k - 1) * 9)).block, (ad.add ((k - 1) * 9)).off + 7, none⟩ = some d7 ∧ w'.cell? ⟨(ad.add ((k - 1) * 9)).block, (ad.add ((k - 1) * 9)).off + 8, none⟩ = some d8) := Lib.hid fun w' hx =>
                ⟨(Below.cell hx (hlt1 _)).trans k0, (Below.cell (p := ⟨(ad.add ((k - 1) * 9)).block, _, none⟩) hx (hlt1 _)).trans k1, (Below.cell (p := ⟨(ad.add ((k - 1) * 9)).block, _, none⟩) hx (hlt1 _)).trans k2, (Below.cell (p := ⟨(ad.add ((k - 1) * 9)).block, _, none⟩) hx (hlt1 _)).trans k3, (Below.cell (p := ⟨(ad.add ((k - 1) * 9)).block, _, none⟩) hx (hlt1 _)).trans k4, (Below.cell (p := ⟨(ad.add ((k - 1) * 9)).block, _, none⟩) hx (hlt1 _)).trans k5, (Below.cell (p := ⟨(ad.add ((k - 1) * 9)).block, _, none⟩) hx (hlt1 _)).trans k6, (Below.cell (p := ⟨(ad.add ((k - 1) * 9)).block, _, none⟩) hx (hlt1 _)).trans k7, (Below.cell (p := ⟨(ad.add ((k - 1) * 9)).block, _, none⟩) hx (hlt1 _)).trans k8⟩
              have hk1 : IntKind.i64.wrap ((k : Int) - 1) = ((k - 1 : Nat) : Int) := by rw [IntWalk.i64_in _ (by omega)]; omega
              have hk2 : ((k - 1 : Nat) : Int) < (xs.length : Int) := by omega
              have hk3 : (0 : Int) < (k : Int) := by omega
              have kC0 : ∀ w1 : World, Calls Try.prog 118 #[.agg #[.int .i32 m.x, .int .i32 m.y, .int .i32 m.z, .float .f32 ra, .float .f32 rb, .float .f32 rc, .float .f32 rd, .int .i64 m.s, .int .i64 m.l], .agg #[d0, d1, d2, d3, d4, d5, d6, d7, d8]] w1 fun e w' => e = .returned (.int .i64 (mcmp m m')) ∧ Stays w1 w' := fun w1 => c_compareCell _ _ m m' w1 hM.out hM'
              have hneg : mcmp m m' = - mcmp m' m := cmp3_neg _ _ _ _ _ _
              have nx : Hid (¬ mcmp m m' ≤ 0 → Hid (∀ j, j < k + 1 → goodM xs j)) := Lib.hid fun hc => next.out (hgk.2 ⟨hv, by omega⟩)
              have bd : Hid (mcmp m m' ≤ 0 → marksOK xs = false) := Lib.hid fun hc => marksOK_bad fun h => absurd (hgk.1 h).2 (by omega)
              clear hneg
              generalize mcmp m m' = cv at kC0 nx bd
              have kC := Lib.hid kC0
              clear hgk hv hrow' hM' hK' k0 k1 k2 k3 k4 k5 k6 k7 k8 hprev kM0 kC0
              by_cases hc : cv ≤ 0
              · have hc' : ¬ 0 < cv := by omega
                go_wp2_with fail
                generalize (wr.alloc (.cells #[.int .i32 m.x, .int .i32 m.y, .int .i32 m.z, .float .f32 ra, .float .f32 rb, .float .f32 rc, .float .f32 rd, .int .i64 m.s, .int .i64 m.l] 45)) = WM at hmk ⊢
                have hcells : ∀ w1, Stays WM w1 → _ := fun w1 h => And.intro (hmk.out w1 h) (G.out w1 (hmk.out w1 h).2.2.2.2.2.2.2.2.2.2)
                refine wp_region_soft_tail 17 (Stays.refl _) (mapS 64 118 true cv) [] (by kernel_rfl) (by kernel_rfl) (fun _ h => by cases h) ?_
                simp only [List.take_succ_cons, List.take_zero, List.drop_succ_cons, List.drop_zero]
                repeat (first | ((with_reducible apply soft_detG); (case hwa => rfl); (case hA => rfl); (case h => (intro w1 hw1; have hc := hcells w1 hw1; go_simp; exact rfl)); go_simp) | ((with_reducible apply soft_skipG); (case hwa => rfl); (case hA => rfl); go_simp) | ((with_reducible apply soft_callS (v := .bool true)); (case hwa => rfl); (case hA => rfl); (case h => (intro w1 hw1; have hc := hcells w1 hw1; go_simp; exact ⟨rfl, rfl⟩)); (case hc => (intro w1 hw1; with_reducible exact kM.out w1)); (case hS => exact ⟨fun _ => rfl, fun e => absurd e (by decide)⟩); (case hu => exact fun u hu => hu.1 rfl); go_simp) | ((with_reducible apply soft_callS (v := .int .i64 cv)); (case hwa => rfl); (case hA => rfl); (case h => (intro w1 hw1; have hc := hcells w1 hw1; go_simp; exact ⟨rfl, rfl⟩)); (case hc => (intro w1 hw1; with_reducible exact kC.out w1)); (case hS => exact ⟨fun e => absurd e (by decide), fun _ => rfl⟩); (case hu => exact fun u hu => hu.2 rfl); go_simp))
                refine soft_nil ?_
                rintro w2 ⟨hw2, _⟩
                replace hw2 := Lib.hid (hb.out.trans (hmk.out w2 hw2).2.2.2.2.2.2.2.2.2.2)
                clear hcells hmk
                go_wp2
                go_ret
                exact ⟨ret_b (by simp [bd.out hc]), (HB.out _ hw2.out).2⟩
              · have hc' : 0 < cv := by omega
                go_wp2_with fail
                generalize (wr.alloc (.cells #[.int .i32 m.x, .int .i32 m.y, .int .i32 m.z, .float .f32 ra, .float .f32 rb, .float .f32 rc, .float .f32 rd, .int .i64 m.s, .int .i64 m.l] 45)) = WM at hmk ⊢
                have hcells : ∀ w1, Stays WM w1 → _ := fun w1 h => And.intro (hmk.out w1 h) (G.out w1 (hmk.out w1 h).2.2.2.2.2.2.2.2.2.2)
                refine wp_region_soft_tail 17 (Stays.refl _) (mapS 64 118 true cv) [] (by kernel_rfl) (by kernel_rfl) (fun _ h => by cases h) ?_
                simp only [List.take_succ_cons, List.take_zero, List.drop_succ_cons, List.drop_zero]
                repeat (first | ((with_reducible apply soft_detG); (case hwa => rfl); (case hA => rfl); (case h => (intro w1 hw1; have hc := hcells w1 hw1; go_simp; exact rfl)); go_simp) | ((with_reducible apply soft_skipG); (case hwa => rfl); (case hA => rfl); go_simp) | ((with_reducible apply soft_callS (v := .bool true)); (case hwa => rfl); (case hA => rfl); (case h => (intro w1 hw1; have hc := hcells w1 hw1; go_simp; exact ⟨rfl, rfl⟩)); (case hc => (intro w1 hw1; with_reducible exact kM.out w1)); (case hS => exact ⟨fun _ => rfl, fun e => absurd e (by decide)⟩); (case hu => exact fun u hu => hu.1 rfl); go_simp) | ((with_reducible apply soft_callS (v := .int .i64 cv)); (case hwa => rfl); (case hA => rfl); (case h => (intro w1 hw1; have hc := hcells w1 hw1; go_simp; exact ⟨rfl, rfl⟩)); (case hc => (intro w1 hw1; with_reducible exact kC.out w1)); (case hS => exact ⟨fun e => absurd e (by decide), fun _ => rfl⟩); (case hu => exact fun u hu => hu.2 rfl); go_simp))
                refine soft_nil ?_
                rintro w2 ⟨hw2, _⟩
                replace hw2 := Lib.hid (hb.out.trans (hmk.out w2 hw2).2.2.2.2.2.2.2.2.2.2)
                clear hcells hmk
                go_wp2
                go_round
                case rel => exact ⟨k + 1, by omega, by go_num, hw2, nx.out hc⟩
                case measure => simp [intOf]; omega
            · have nx := next.out (hgk.2 ⟨hv, fun h => absurd h h0⟩)
              have hk3 : ¬ (0 : Int) < (k : Int) := by omega
              clear hgk hprev kM0 hv
              go_wp2_with fail
              generalize (wr.alloc (.cells #[.int .i32 m.x, .int .i32 m.y, .int .i32 m.z, .float .f32 ra, .float .f32 rb, .float .f32 rc, .float .f32 rd, .int .i64 m.s, .int .i64 m.l] 45)) = WM at hmk ⊢
              have hcells : ∀ w1, Stays WM w1 → _ := fun w1 h => hmk.out w1 h
              refine wp_region_soft_tail 17 (Stays.refl _) (mapS 64 118 true 0) [] (by kernel_rfl) (by kernel_rfl) (fun _ h => by cases h) ?_
              simp only [List.take_succ_cons, List.take_zero, List.drop_succ_cons, List.drop_zero]
              repeat (first | ((with_reducible apply soft_detG); (case hwa => rfl); (case hA => rfl); (case h => (intro w1 hw1; have hc := hcells w1 hw1; go_simp; exact rfl)); go_simp) | ((with_reducible apply soft_skipG); (case hwa => rfl); (case hA => rfl); go_simp) | ((with_reducible apply soft_callS (v := .bool true)); (case hwa => rfl); (case hA => rfl); (case h => (intro w1 hw1; have hc := hcells w1 hw1; go_simp; exact ⟨rfl, rfl⟩)); (case hc => (intro w1 hw1; with_reducible exact kM.out w1)); (case hS => exact ⟨fun _ => rfl, fun e => absurd e (by decide)⟩); (case hu => exact fun u hu => hu.1 rfl); go_simp))
              refine soft_nil ?_
              rintro w2 ⟨hw2, _⟩
              replace hw2 := Lib.hid (hb.out.trans (hmk.out w2 hw2).2.2.2.2.2.2.2.2.2.2)
              clear hcells hmk
              go_wp2
              go_round
              case rel => exact ⟨k + 1, by omega, by go_num, hw2, nx⟩
              case measure => simp [intOf]; omega
        · have fin := Lib.hid (marksOK_end (by omega) hgd.out)
          replace hbw := Lib.hid hbw
          go_wp2
          go_ret
          exact ⟨ret_b (by rw [fin.out, decide_eq_true h200]; rfl), hbw.out⟩
    · have h200' : ((xs.length : Nat) : Int) > 200 := by omega
      go_enter Try.func70, Try.ntmps70
      go_wp2_with (go_at_call 111; refine (hs.out _).mono ?_; rintro e w1 ⟨rfl, hw1⟩; obtain ⟨⟨q0, q1⟩, _⟩ := HB.out _ hw1)
      go_ret
      exact ⟨ret_b (by rw [decide_eq_false h200]; simp), (HB.out _ hw1).2⟩
end Go.Proofs.Ytmcbeaihjdnelaa
