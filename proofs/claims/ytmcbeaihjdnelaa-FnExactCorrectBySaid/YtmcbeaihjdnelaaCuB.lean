/- Curves: whether one is valid, on both sides. No condition. -/
import Derived.Test.YtmcbeaihjdnelaaCuA
import Derived.Test.YtmcbeaihjdnelaaLa
import Derived.Test.YtmcbeaihjdnelaaB3
import Derived.Deep.RegionHeld
namespace Go.Proofs.Ytmcbeaihjdnelaa
open Go Go.RowKit
set_option linter.unusedVariables false
set_option linter.unusedSimpArgs false

def ltc (p a : Option Nat) : Bool := ford .f32 p a == some .lt
def lec (a p : Option Nat) : Bool := ford .f32 a p == some .lt || ford .f32 a p == some .eq

theorem ltc_of (r q : Nat) : (FloatKind.f32.format.order r q == some Ordering.lt) = ltc (can .f32 r) (can .f32 q) := by rw [order_can]; rfl
theorem lec_of (r q : Nat) : (FloatKind.f32.format.order r q == some Ordering.lt || FloatKind.f32.format.order r q == some Ordering.eq) = lec (can .f32 r) (can .f32 q) := by rw [order_can]; rfl

theorem fin_read {o : Option Nat} (h : finB o = true) (hy : ∃ k, can .f32 k = o) : ∃ b s m p, o = some b ∧ Ieee.single.read b = .number s m p := by
  obtain ⟨k, rfl⟩ := hy
  cases hn : (FloatKind.f32.decode k).isNaN with
  | true => rw [can_nan hn] at h; cases h
  | false =>
    rw [can_num hn] at h ⊢
    have hn' : (Ieee.single.read k).isNaN = false := hn
    cases e : Ieee.single.read k with
    | nan => rw [e] at hn'; cases hn'
    | infinity s => simp [finB, e, Ieee.Datum.isInfinity] at h
    | number s m p => exact ⟨k, s, m, p, rfl, e⟩

theorem lec_not {a p : Option Nat} (ha : finB a = true) (hp : finB p = true) (ka : ∃ k, can .f32 k = a) (kp : ∃ k, can .f32 k = p) : lec a p = !ltc p a := by
  obtain ⟨x, s, m, i, rfl, hx⟩ := fin_read ha ka
  obtain ⟨y, t, n, j, rfl, hy⟩ := fin_read hp kp
  show (Ieee.single.order x y == some .lt || Ieee.single.order x y == some .eq) = !(Ieee.single.order y x == some .lt)
  unfold Ieee.Format.order
  rw [hx, hy]
  simp only [Ieee.Datum.order]
  rw [Int.min_comm j i]
  generalize Ieee.signed s m (i - min i j).toNat = X
  generalize Ieee.signed t n (j - min i j).toNat = Y
  rcases Int.lt_trichotomy X Y with h | h | h
  · rw [Int.compare_eq_lt.2 h, Int.compare_eq_gt.2 h]; rfl
  · rw [Int.compare_eq_eq.2 h, Int.compare_eq_eq.2 h.symm]; rfl
  · rw [Int.compare_eq_gt.2 h, Int.compare_eq_lt.2 h]; rfl

def upC (us : List (List NV)) (j : Nat) : Prop := ∀ a p, 0 < j → us[j]? = some a → us[j - 1]? = some p → ltc (flt p) (flt a) = true
def okC (us vs : List (List NV)) (j : Nat) : Prop := (∀ a, us[j]? = some a → finB (flt a) = true) ∧ (∀ b, vs[j]? = some b → finB (flt b) = true) ∧ upC us j
def sizeC (us vs : List (List NV)) : Prop := 2 ≤ us.length ∧ us.length ≤ 32 ∧ vs.length = us.length

noncomputable def curveB (us vs : List (List NV)) : Bool := @decide (sizeC us vs ∧ ∀ j, okC us vs j) (Classical.propDecidable _)

theorem curveB_iff {us vs : List (List NV)} : curveB us vs = true ↔ (sizeC us vs ∧ ∀ j, okC us vs j) := @decide_eq_true_iff _ (Classical.propDecidable _)
theorem curveB_size {us vs : List (List NV)} (h : ¬ sizeC us vs) : curveB us vs = false := Bool.eq_false_iff.2 fun g => h (curveB_iff.1 g).1
theorem curveB_bad {us vs : List (List NV)} {k : Nat} (h : ¬ okC us vs k) : curveB us vs = false := Bool.eq_false_iff.2 fun g => h ((curveB_iff.1 g).2 k)
theorem curveB_end {us vs : List (List NV)} (hs : sizeC us vs) (h : ∀ j, j < us.length → okC us vs j) : curveB us vs = true := by
  refine curveB_iff.2 ⟨hs, fun j => ?_⟩
  by_cases hj : j < us.length
  · exact h j hj
  · refine ⟨fun a e => ?_, fun b e => ?_, fun a p _ e _ => ?_⟩
    · rw [List.getElem?_eq_none (by omega)] at e; cases e
    · rw [List.getElem?_eq_none (by have := hs.2.2; omega)] at e; cases e
    · rw [List.getElem?_eq_none (by omega)] at e; cases e

theorem okC_next {us vs : List (List NV)} {k : Nat} (h : ∀ j, j < k → okC us vs j) (hk : okC us vs k) : ∀ j, j < k + 1 → okC us vs j := fun j hj => by
  by_cases e : j = k
  · subst e; exact hk
  · exact h j (by omega)

def cvS (f : FuncId) (args : Array Value) (v : Value) : Prop := (f = 109 → ∀ x, args = #[.float .f32 x] → v = .bool (finB (can .f32 x))) ∧ (f = 107 → ∀ x a b, args = #[.int .i64 x, .int .i64 a, .int .i64 b] → v = .bool (decide (a ≤ x ∧ x ≤ b)))

theorem boxC {w : World} {p : Nat} {a b : Value} {t : TypeId} (hg : w.heap[p]? = some (.cells #[a, b] t (0, 0))) : ∀ w', Below w.heap.size w w' → w'.cell? ⟨p, 0, none⟩ = some a ∧ w'.cell? ⟨p, 1, none⟩ = some b := fun w' hb => by
  have hlt : p < w.heap.size := (Array.getElem?_eq_some_iff.1 hg).1
  exact ⟨(hb.cell (p := ⟨p, 0, none⟩) hlt).trans (cell_of_row _ _ _ _ _ _ hg), (hb.cell (p := ⟨p, 1, none⟩) hlt).trans (cell_of_row _ _ _ _ _ _ hg)⟩

set_option maxRecDepth 100000 in
set_option maxHeartbeats 4000000 in
theorem c_l04Curve (p : Nat) (A A' : Option Addr) (c c' : Nat) (us vs : List (List NV)) (w : World) (hg : w.heap[p]? = some (.cells #[.slice A us.length c, .slice A' vs.length c'] 67 (0, 0)))
    (h : Ls KFl 1 w w.heap.size A us) (h' : Ls KFl 1 w w.heap.size A' vs) (hn : us.length ≤ 1048576) (hm : vs.length ≤ 1048576) :
    Calls Try.prog 77 #[.pointer (some ⟨p, 0, none⟩)] w fun e w' => e = .returned (.bool (curveB us vs)) ∧ Below w.heap.size w w' := by
  have H := Lib.hid h
  have H' := Lib.hid h'
  have HB := Lib.hid (boxC hg)
  clear h h' hg
  obtain ⟨q0, q1⟩ := HB.out _ (Below.refl _ _)
  have hcells : ∀ w1, Stays w w1 → w1.cell? ⟨p, 0, none⟩ = some (.slice A us.length c) ∧ w1.cell? ⟨p, 1, none⟩ = some (.slice A' vs.length c') := fun w1 h => HB.out w1 h
  by_cases hN : (2 : Int) ≤ (us.length : Nat) ∧ ((us.length : Nat) : Int) ≤ 32
  · have hN' := decide_eq_true hN
    by_cases hM : vs.length = us.length
    · have hS := Lib.hid (show sizeC us vs from ⟨by omega, by omega, hM⟩)
      have hM1 : ((vs.length : Nat) : Int) = ((us.length : Nat) : Int) := by omega
      have hM' := Lib.hid hM
      clear hM
      go_enter Try.func77, Try.ntmps77
      go_wp2_with fail
      refine wp_region_soft_tail 15 (Stays.refl _) cvS [] (by kernel_rfl) (by kernel_rfl) (fun _ h => by cases h) ?_
      simp only [List.take_succ_cons, List.take_zero, List.drop_succ_cons, List.drop_zero]
      repeat (first | ((with_reducible apply soft_detG); (case hwa => rfl); (case hA => rfl); (case h => (intro w1 hw1; have hc := hcells w1 hw1; go_simp; exact rfl)); go_simp) | ((with_reducible apply soft_skipG); (case hwa => rfl); (case hA => rfl); go_simp) | ((with_reducible apply soft_callS (v := .bool (decide ((2 : Int) ≤ (us.length : Nat) ∧ ((us.length : Nat) : Int) ≤ 32)))); (case hwa => rfl); (case hA => rfl); (case h => (intro w1 hw1; have hc := hcells w1 hw1; go_simp; exact ⟨rfl, rfl⟩)); (case hc => exact fun w1 hw1 => (c_l00In _ 2 32 w1).mono fun e w' ⟨he, hw⟩ => ⟨he, hw ▸ Stays.refl _⟩); (case hS => exact ⟨fun e => absurd e (by decide), fun _ x a b e => by cases e; rfl⟩); (case hu => exact fun u hu => hu.2 rfl _ _ _ rfl); rw [hN']; go_simp))
      refine soft_nil ?_
      rintro w2 ⟨hw2, _⟩
      replace hw2 := Lib.hid (show Below w.heap.size w w2 from hw2)
      clear hcells q0 q1
      go_wp2
      go_loopw [4] (fun i wr => ∃ k : Nat, k ≤ us.length ∧ i = .int .i64 k ∧ Hid (Below w.heap.size w wr) ∧ Hid (∀ j, j < k → okC us vs j)) (fun i _ => us.length - (intOf i).toNat)
      case atStart => exact ⟨0, Nat.zero_le _, rfl, hw2, Lib.hid fun j hj => by omega⟩
      case round =>
        clear hw2
        obtain ⟨k, hk, rfl, hb, hgd⟩ := hrel
        obtain ⟨q0, q1⟩ := HB.out _ hb.out
        by_cases hlt : k < us.length
        · obtain ⟨ad, ra, rfl, hbl, ga, fa⟩ := Fl.at_ (H.out.below hb.out) (List.getElem?_eq_getElem hlt)
          have hltv : k < vs.length := by have := hM'.out; omega
          obtain ⟨ad', rb, rfl, hbl', gb, fb⟩ := Fl.at_ (H'.out.below hb.out) (List.getElem?_eq_getElem hltv)
          have eu : Hid (us[k]? = some us[k]) := Lib.hid (List.getElem?_eq_getElem hlt)
          have ev : Hid (vs[k]? = some vs[k]) := Lib.hid (List.getElem?_eq_getElem hltv)
          generalize us[k] = a at fa eu
          generalize vs[k] = b at fb ev
          have hlt' : (k : Int) < (us.length : Int) := by omega
          have hin : ∀ (ad : Addr) n, ad.block < w.heap.size → (ad.add n).block < wr.heap.size := fun ad n h => by rw [block_add]; exact Nat.lt_of_lt_of_le h hb.out.size
          have hbx : Hid (∀ w1, Stays wr w1 → w1.cell? ⟨p, 0, none⟩ = some (.slice (some ad) us.length c) ∧ w1.cell? ⟨p, 1, none⟩ = some (.slice (some ad') vs.length c')) := Lib.hid fun w1 h => HB.out _ (hb.out.trans (Below.mono h hb.out.size))
          have fA := Lib.hid fa
          have fB := Lib.hid fb
          cases hva : finB (can .f32 ra) with
          | false =>
            have bd := Lib.hid (curveB_bad (us := us) (vs := vs) (k := k) fun g => by
              have := g.1 a eu.out
              rw [← fA.out.out, hva] at this
              cases this)
            have hcells : ∀ w1, Stays wr w1 → _ := fun w1 h => And.intro (hbx.out w1 h) ((h.cell (hin ad k hbl)).trans ga)
            clear fa fb ga gb
            go_wp2_with fail
            refine wp_region_soft_tail 42 (Stays.refl _) cvS [] (by kernel_rfl) (by kernel_rfl) (fun _ h => by cases h) ?_
            simp only [List.take_succ_cons, List.take_zero, List.drop_succ_cons, List.drop_zero]
            repeat (first | ((with_reducible apply soft_detG); (case hwa => rfl); (case hA => rfl); (case h => (intro w1 hw1; have hc := hcells w1 hw1; go_simp; exact rfl)); go_simp) | ((with_reducible apply soft_skipG); (case hwa => rfl); (case hA => rfl); go_simp) | ((with_reducible apply soft_callS (v := .bool (finB (can .f32 ra)))); (case hwa => rfl); (case hA => rfl); (case h => (intro w1 hw1; have hc := hcells w1 hw1; go_simp; exact ⟨rfl, rfl⟩)); (case hc => exact fun w1 hw1 => c_l01Finite _ w1); (case hS => exact ⟨fun _ x e => by cases e; rfl, fun e => absurd e (by decide)⟩); (case hu => exact fun u hu => hu.1 rfl _ rfl); go_simp) | ((with_reducible apply soft_callS (v := .bool (finB (can .f32 rb)))); (case hwa => rfl); (case hA => rfl); (case h => (intro w1 hw1; have hc := hcells w1 hw1; go_simp; exact ⟨rfl, rfl⟩)); (case hc => exact fun w1 hw1 => c_l01Finite _ w1); (case hS => exact ⟨fun _ x e => by cases e; rfl, fun e => absurd e (by decide)⟩); (case hu => exact fun u hu => hu.1 rfl _ rfl); go_simp))
            refine soft_nil ?_
            rintro w2 ⟨hw2, _⟩
            replace hw2 := Lib.hid (hb.out.trans (Below.mono hw2 hb.out.size))
            clear hcells
            go_wp2
            go_ret
            exact ⟨ret_b bd.out.symm, hw2.out⟩
          | true =>
            cases hvb : finB (can .f32 rb) with
            | false =>
              have bd := Lib.hid (curveB_bad (us := us) (vs := vs) (k := k) fun g => by
                have := g.2.1 b ev.out
                rw [← fB.out.out, hvb] at this
                cases this)
              have hcells : ∀ w1, Stays wr w1 → _ := fun w1 h => And.intro (hbx.out w1 h) (And.intro ((h.cell (hin ad k hbl)).trans ga) ((h.cell (hin ad' k hbl')).trans gb))
              clear fa fb ga gb
              go_wp2_with fail
              refine wp_region_soft_tail 42 (Stays.refl _) cvS [] (by kernel_rfl) (by kernel_rfl) (fun _ h => by cases h) ?_
              simp only [List.take_succ_cons, List.take_zero, List.drop_succ_cons, List.drop_zero]
              repeat (first | ((with_reducible apply soft_detG); (case hwa => rfl); (case hA => rfl); (case h => (intro w1 hw1; have hc := hcells w1 hw1; go_simp; exact rfl)); go_simp) | ((with_reducible apply soft_skipG); (case hwa => rfl); (case hA => rfl); go_simp) | ((with_reducible apply soft_callS (v := .bool (finB (can .f32 ra)))); (case hwa => rfl); (case hA => rfl); (case h => (intro w1 hw1; have hc := hcells w1 hw1; go_simp; exact ⟨rfl, rfl⟩)); (case hc => exact fun w1 hw1 => c_l01Finite _ w1); (case hS => exact ⟨fun _ x e => by cases e; rfl, fun e => absurd e (by decide)⟩); (case hu => exact fun u hu => hu.1 rfl _ rfl); go_simp) | ((with_reducible apply soft_callS (v := .bool (finB (can .f32 rb)))); (case hwa => rfl); (case hA => rfl); (case h => (intro w1 hw1; have hc := hcells w1 hw1; go_simp; exact ⟨rfl, rfl⟩)); (case hc => exact fun w1 hw1 => c_l01Finite _ w1); (case hS => exact ⟨fun _ x e => by cases e; rfl, fun e => absurd e (by decide)⟩); (case hu => exact fun u hu => hu.1 rfl _ rfl); go_simp))
              refine soft_nil ?_
              rintro w2 ⟨hw2, _⟩
              replace hw2 := Lib.hid (hb.out.trans (Below.mono hw2 hb.out.size))
              clear hcells
              go_wp2
              go_ret
              exact ⟨ret_b bd.out.symm, hw2.out⟩
            | true =>
              by_cases h0 : 0 < k
              · obtain ⟨ad2, rp, e2, _, gp, fp⟩ := Fl.at_ (H.out.below hb.out) (List.getElem?_eq_getElem (show k - 1 < us.length by omega))
                cases e2
                have ep : Hid (us[k - 1]? = some (us[k - 1]'(by omega))) := Lib.hid (List.getElem?_eq_getElem (by omega))
                generalize us[k - 1]'(by omega) = pr at fp ep
                have fP := Lib.hid fp
                have hk1 : IntKind.i64.wrap ((k : Int) - 1) = ((k - 1 : Nat) : Int) := by rw [IntWalk.i64_in _ (by omega)]; omega
                have hk2 : ((k - 1 : Nat) : Int) < (us.length : Int) := by omega
                have hk3 : (0 : Int) < (k : Int) := by omega
                have hcells : ∀ w1, Stays wr w1 → _ := fun w1 h => And.intro (hbx.out w1 h) (And.intro ((h.cell (hin ad k hbl)).trans ga) (And.intro ((h.cell (hin ad' k hbl')).trans gb) ((h.cell (hin ad (k - 1) hbl)).trans gp)))
                clear fa fb fp ga gb gp
                cases hvl : (FloatKind.f32.format.order rp ra == some Ordering.lt) with
                | false =>
                  have bd := Lib.hid (curveB_bad (us := us) (vs := vs) (k := k) fun g => by
                    have := g.2.2 a pr h0 eu.out ep.out
                    rw [← fA.out.out, ← fP.out.out, ← ltc_of, hvl] at this
                    cases this)
                  go_wp2_with fail
                  refine wp_region_soft_tail 42 (Stays.refl _) cvS [] (by kernel_rfl) (by kernel_rfl) (fun _ h => by cases h) ?_
                  simp only [List.take_succ_cons, List.take_zero, List.drop_succ_cons, List.drop_zero]
                  repeat (first | ((with_reducible apply soft_detG); (case hwa => rfl); (case hA => rfl); (case h => (intro w1 hw1; have hc := hcells w1 hw1; go_simp; exact rfl)); go_simp) | ((with_reducible apply soft_skipG); (case hwa => rfl); (case hA => rfl); go_simp) | ((with_reducible apply soft_callS (v := .bool (finB (can .f32 ra)))); (case hwa => rfl); (case hA => rfl); (case h => (intro w1 hw1; have hc := hcells w1 hw1; go_simp; exact ⟨rfl, rfl⟩)); (case hc => exact fun w1 hw1 => c_l01Finite _ w1); (case hS => exact ⟨fun _ x e => by cases e; rfl, fun e => absurd e (by decide)⟩); (case hu => exact fun u hu => hu.1 rfl _ rfl); go_simp) | ((with_reducible apply soft_callS (v := .bool (finB (can .f32 rb)))); (case hwa => rfl); (case hA => rfl); (case h => (intro w1 hw1; have hc := hcells w1 hw1; go_simp; exact ⟨rfl, rfl⟩)); (case hc => exact fun w1 hw1 => c_l01Finite _ w1); (case hS => exact ⟨fun _ x e => by cases e; rfl, fun e => absurd e (by decide)⟩); (case hu => exact fun u hu => hu.1 rfl _ rfl); go_simp))
                  refine soft_nil ?_
                  rintro w2 ⟨hw2, _⟩
                  replace hw2 := Lib.hid (hb.out.trans (Below.mono hw2 hb.out.size))
                  clear hcells
                  go_wp2
                  go_ret
                  exact ⟨ret_b bd.out.symm, hw2.out⟩
                | true =>
                  have nx := Lib.hid (okC_next hgd.out ⟨fun a' e => by rw [eu.out] at e; cases e; rw [← fA.out.out]; exact hva, fun b' e => by rw [ev.out] at e; cases e; rw [← fB.out.out]; exact hvb, fun a' p' _ e e' => by rw [eu.out] at e; cases e; rw [ep.out] at e'; cases e'; rw [← fA.out.out, ← fP.out.out, ← ltc_of]; exact hvl⟩)
                  go_wp2_with fail
                  refine wp_region_soft_tail 42 (Stays.refl _) cvS [] (by kernel_rfl) (by kernel_rfl) (fun _ h => by cases h) ?_
                  simp only [List.take_succ_cons, List.take_zero, List.drop_succ_cons, List.drop_zero]
                  repeat (first | ((with_reducible apply soft_detG); (case hwa => rfl); (case hA => rfl); (case h => (intro w1 hw1; have hc := hcells w1 hw1; go_simp; exact rfl)); go_simp) | ((with_reducible apply soft_skipG); (case hwa => rfl); (case hA => rfl); go_simp) | ((with_reducible apply soft_callS (v := .bool (finB (can .f32 ra)))); (case hwa => rfl); (case hA => rfl); (case h => (intro w1 hw1; have hc := hcells w1 hw1; go_simp; exact ⟨rfl, rfl⟩)); (case hc => exact fun w1 hw1 => c_l01Finite _ w1); (case hS => exact ⟨fun _ x e => by cases e; rfl, fun e => absurd e (by decide)⟩); (case hu => exact fun u hu => hu.1 rfl _ rfl); go_simp) | ((with_reducible apply soft_callS (v := .bool (finB (can .f32 rb)))); (case hwa => rfl); (case hA => rfl); (case h => (intro w1 hw1; have hc := hcells w1 hw1; go_simp; exact ⟨rfl, rfl⟩)); (case hc => exact fun w1 hw1 => c_l01Finite _ w1); (case hS => exact ⟨fun _ x e => by cases e; rfl, fun e => absurd e (by decide)⟩); (case hu => exact fun u hu => hu.1 rfl _ rfl); go_simp))
                  refine soft_nil ?_
                  rintro w2 ⟨hw2, _⟩
                  replace hw2 := Lib.hid (hb.out.trans (Below.mono hw2 hb.out.size))
                  clear hcells
                  go_wp2
                  go_round
                  case rel => exact ⟨k + 1, by omega, by go_num, hw2, nx⟩
                  case measure => simp [intOf]; omega
              · have hk3 : ¬ (0 : Int) < (k : Int) := by omega
                have hcells : ∀ w1, Stays wr w1 → _ := fun w1 h => And.intro (hbx.out w1 h) (And.intro ((h.cell (hin ad k hbl)).trans ga) ((h.cell (hin ad' k hbl')).trans gb))
                clear fa fb ga gb
                have nx := Lib.hid (okC_next hgd.out ⟨fun a' e => by rw [eu.out] at e; cases e; rw [← fA.out.out]; exact hva, fun b' e => by rw [ev.out] at e; cases e; rw [← fB.out.out]; exact hvb, fun a' p' h _ _ => absurd h h0⟩)
                go_wp2_with fail
                refine wp_region_soft_tail 42 (Stays.refl _) cvS [] (by kernel_rfl) (by kernel_rfl) (fun _ h => by cases h) ?_
                simp only [List.take_succ_cons, List.take_zero, List.drop_succ_cons, List.drop_zero]
                repeat (first | ((with_reducible apply soft_detG); (case hwa => rfl); (case hA => rfl); (case h => (intro w1 hw1; have hc := hcells w1 hw1; go_simp; exact rfl)); go_simp) | ((with_reducible apply soft_skipG); (case hwa => rfl); (case hA => rfl); go_simp) | ((with_reducible apply soft_callS (v := .bool (finB (can .f32 ra)))); (case hwa => rfl); (case hA => rfl); (case h => (intro w1 hw1; have hc := hcells w1 hw1; go_simp; exact ⟨rfl, rfl⟩)); (case hc => exact fun w1 hw1 => c_l01Finite _ w1); (case hS => exact ⟨fun _ x e => by cases e; rfl, fun e => absurd e (by decide)⟩); (case hu => exact fun u hu => hu.1 rfl _ rfl); go_simp) | ((with_reducible apply soft_callS (v := .bool (finB (can .f32 rb)))); (case hwa => rfl); (case hA => rfl); (case h => (intro w1 hw1; have hc := hcells w1 hw1; go_simp; exact ⟨rfl, rfl⟩)); (case hc => exact fun w1 hw1 => c_l01Finite _ w1); (case hS => exact ⟨fun _ x e => by cases e; rfl, fun e => absurd e (by decide)⟩); (case hu => exact fun u hu => hu.1 rfl _ rfl); go_simp))
                refine soft_nil ?_
                rintro w2 ⟨hw2, _⟩
                replace hw2 := Lib.hid (hb.out.trans (Below.mono hw2 hb.out.size))
                clear hcells
                go_wp2
                go_round
                case rel => exact ⟨k + 1, by omega, by go_num, hw2, nx⟩
                case measure => simp [intOf]; omega
        · have fin := Lib.hid (curveB_end hS.out fun j hj => hgd.out j (by omega))
          go_wp2
          go_ret
          exact ⟨ret_b fin.out.symm, hb.out⟩
    · have fin := Lib.hid (curveB_size (us := us) (vs := vs) fun h => hM h.2.2)
      have hM1 : ¬ ((vs.length : Nat) : Int) = ((us.length : Nat) : Int) := by omega
      have hM2 : ¬ vs.length = us.length := hM
      go_enter Try.func77, Try.ntmps77
      go_wp2_with fail
      refine wp_region_soft_tail 15 (Stays.refl _) cvS [] (by kernel_rfl) (by kernel_rfl) (fun _ h => by cases h) ?_
      simp only [List.take_succ_cons, List.take_zero, List.drop_succ_cons, List.drop_zero]
      repeat (first | ((with_reducible apply soft_detG); (case hwa => rfl); (case hA => rfl); (case h => (intro w1 hw1; have hc := hcells w1 hw1; go_simp; exact rfl)); go_simp) | ((with_reducible apply soft_skipG); (case hwa => rfl); (case hA => rfl); go_simp) | ((with_reducible apply soft_callS (v := .bool (decide ((2 : Int) ≤ (us.length : Nat) ∧ ((us.length : Nat) : Int) ≤ 32)))); (case hwa => rfl); (case hA => rfl); (case h => (intro w1 hw1; have hc := hcells w1 hw1; go_simp; exact ⟨rfl, rfl⟩)); (case hc => exact fun w1 hw1 => (c_l00In _ 2 32 w1).mono fun e w' ⟨he, hw⟩ => ⟨he, hw ▸ Stays.refl _⟩); (case hS => exact ⟨fun e => absurd e (by decide), fun _ x a b e => by cases e; rfl⟩); (case hu => exact fun u hu => hu.2 rfl _ _ _ rfl); rw [hN']; go_simp))
      refine soft_nil ?_
      rintro w2 ⟨hw2, _⟩
      replace hw2 := Lib.hid (show Below w.heap.size w w2 from hw2)
      clear hcells q0 q1
      go_wp2
      go_ret
      exact ⟨ret_b fin.out.symm, hw2.out⟩
  · have fin := Lib.hid (curveB_size (us := us) (vs := vs) fun h => hN ⟨by have := h.1; omega, by have := h.2.1; omega⟩)
    have hN' := decide_eq_false hN
    go_enter Try.func77, Try.ntmps77
    go_wp2_with fail
    refine wp_region_soft_tail 15 (Stays.refl _) cvS [] (by kernel_rfl) (by kernel_rfl) (fun _ h => by cases h) ?_
    simp only [List.take_succ_cons, List.take_zero, List.drop_succ_cons, List.drop_zero]
    repeat (first | ((with_reducible apply soft_detG); (case hwa => rfl); (case hA => rfl); (case h => (intro w1 hw1; have hc := hcells w1 hw1; go_simp; exact rfl)); go_simp) | ((with_reducible apply soft_skipG); (case hwa => rfl); (case hA => rfl); go_simp) | ((with_reducible apply soft_callS (v := .bool (decide ((2 : Int) ≤ (us.length : Nat) ∧ ((us.length : Nat) : Int) ≤ 32)))); (case hwa => rfl); (case hA => rfl); (case h => (intro w1 hw1; have hc := hcells w1 hw1; go_simp; exact ⟨rfl, rfl⟩)); (case hc => exact fun w1 hw1 => (c_l00In _ 2 32 w1).mono fun e w' ⟨he, hw⟩ => ⟨he, hw ▸ Stays.refl _⟩); (case hS => exact ⟨fun e => absurd e (by decide), fun _ x a b e => by cases e; rfl⟩); (case hu => exact fun u hu => hu.2 rfl _ _ _ rfl); rw [hN']; go_simp))
    refine soft_nil ?_
    rintro w2 ⟨hw2, _⟩
    replace hw2 := Lib.hid (show Below w.heap.size w w2 from hw2)
    clear hcells q0 q1
    go_wp2
    go_ret
    exact ⟨ret_b fin.out.symm, hw2.out⟩
end Go.Proofs.Ytmcbeaihjdnelaa
