/- Maps: whether two are the same, on both sides. No condition. -/
import Derived.Test.YtfjchhfoefgldabNd
namespace Go.Proofs.Ytfjchhfoefgldab
open Go Go.RowKit
set_option linter.unusedVariables false
set_option linter.unusedSimpArgs false

def goodS (xs ys : List Mk) (j : Nat) : Prop := ∀ r s, xs[j]? = some r → ys[j]? = some s → markS r s = true
noncomputable def pairM (xs ys : List Mk) : Bool := @decide (xs.length = ys.length ∧ ∀ j, goodS xs ys j) (Classical.propDecidable _)
theorem pairM_iff {xs ys : List Mk} : pairM xs ys = true ↔ xs.length = ys.length ∧ ∀ j, goodS xs ys j := @decide_eq_true_iff _ (Classical.propDecidable _)
theorem pairM_len {xs ys : List Mk} (h : xs.length ≠ ys.length) : pairM xs ys = false := Bool.eq_false_iff.2 fun e => h (pairM_iff.1 e).1
theorem pairM_bad {xs ys : List Mk} {k : Nat} {r s : Mk} (hr : xs[k]? = some r) (hs : ys[k]? = some s) (h : markS r s = false) : pairM xs ys = false := Bool.eq_false_iff.2 fun e => by
  have := (pairM_iff.1 e).2 k r s hr hs
  rw [h] at this; cases this
theorem pairM_next {xs ys : List Mk} {k : Nat} {r s : Mk} (h : ∀ j, j < k → goodS xs ys j) (hr : xs[k]? = some r) (hs : ys[k]? = some s) (hb : markS r s = true) : ∀ j, j < k + 1 → goodS xs ys j := fun j hj => by
  by_cases e : j = k
  · subst e
    intro r' s' h1 h2
    rw [hr] at h1; rw [hs] at h2
    cases h1; cases h2
    exact hb
  · exact h j (by omega)
theorem pairM_end {xs ys : List Mk} {k : Nat} (hl : xs.length = ys.length) (h : ∀ j, j < k → goodS xs ys j) (hk : xs.length ≤ k) : pairM xs ys = true := pairM_iff.2 ⟨hl, fun j => by
  by_cases hj : j < k
  · exact h j hj
  · intro r s h1 h2
    rw [List.getElem?_eq_none (by omega)] at h1; cases h1⟩

set_option maxRecDepth 100000 in
set_option maxHeartbeats 800000 in
theorem c_eqfMark (A A' : Option Addr) (c c' : Nat) (xs ys : List Mk) (w : World) (h : Mks w w.heap.size A xs) (h' : Mks w w.heap.size A' ys) (hn : xs.length ≤ 1048576) (hm : ys.length ≤ 1048576) :
    Calls Try.prog 66 #[.slice A xs.length c, .slice A' ys.length c', .func (.func 67) #[] #[]] w fun e w' => e = .returned (.bool (pairM xs ys)) ∧ Below w.heap.size w w' := by
  have H := Lib.hid h
  have H' := Lib.hid h'
  clear h h'
  by_cases hl : xs.length = ys.length
  · rw [← hl]
    replace hl := Lib.hid hl
    go_enter Try.func66, Try.ntmps66
    go_wp2
    go_loopw [17] (fun i wr => ∃ k : Nat, k ≤ xs.length ∧ i = .int .i64 k ∧ Hid (Below w.heap.size w wr) ∧ Hid (∀ j, j < k → goodS xs ys j)) (fun i _ => xs.length - (intOf i).toNat)
    case atStart => exact ⟨0, Nat.zero_le _, rfl, Lib.hid (Below.refl _ _), Lib.hid fun j hj => by omega⟩
    case round =>
      obtain ⟨k, hk, rfl, hb, ha⟩ := hrel
      by_cases hlt : k < xs.length
      · obtain ⟨ad, rfl, hbl, hrow⟩ := (H.out.below hb.out) k xs[k] (List.getElem?_eq_getElem hlt)
        obtain ⟨ad', rfl, hbl', hrow'⟩ := (H'.out.below hb.out) k (ys[k]'(by have := hl.out; omega)) (List.getElem?_eq_getElem (by have := hl.out; omega))
        have hrk := List.getElem?_eq_getElem hlt
        have hsk : ys[k]? = some (ys[k]'(by have := hl.out; omega)) := List.getElem?_eq_getElem (by have := hl.out; omega)
        generalize xs[k] = m at hrow hrk
        generalize ys[k]'(by have := hl.out; omega) = m' at hrow' hsk
        obtain ⟨c0, c1, c2, c3, c4, c5, c6, c7, c8, hK, g0, g1, g2, g3, g4, g5, g6, g7, g8⟩ := mk_at hrow
        obtain ⟨d0, d1, d2, d3, d4, d5, d6, d7, d8, hK', k0, k1, k2, k3, k4, k5, k6, k7, k8⟩ := mk_at hrow'
        have hf := fun W => c_markSame (.agg #[c0, c1, c2, c3, c4, c5, c6, c7, c8]) (.agg #[d0, d1, d2, d3, d4, d5, d6, d7, d8]) m m' ⟨_, rfl, hK⟩ ⟨_, rfl, hK'⟩ W
        obtain ⟨ra, rb, rc, rd, e, _⟩ := mk_row hK
        cases e
        obtain ⟨sa, sb, sc, sd, e, _⟩ := mk_row hK'
        cases e
        have nx : Hid (markS m m' = true → Hid (∀ j, j < k + 1 → goodS xs ys j)) := Lib.hid fun h => Lib.hid (pairM_next ha.out hrk hsk h)
        have bd : Hid (markS m m' = false → pairM xs ys = false) := Lib.hid fun h => pairM_bad hrk hsk h
        generalize markS m m' = bf at hf nx bd
        replace hf := Lib.hid hf
        have hd' : (ad'.add (k * 9)).block < wr.heap.size := World.block_lt_of_cell? _ _ k0
        have x0 : ∀ o, (wr.alloc o).cell? (ad'.add (k * 9)) = some (.int .i32 m'.x) := fun o => (World.cell?_alloc_lt wr o _ hd').trans k0
        have x1 : ∀ o, (wr.alloc o).cell? ⟨(ad'.add (k * 9)).block, (ad'.add (k * 9)).off + 1, none⟩ = some (.int .i32 m'.y) := fun o => (World.cell?_alloc_lt wr o ⟨(ad'.add (k * 9)).block, (ad'.add (k * 9)).off + 1, none⟩ hd').trans k1
        have x2 : ∀ o, (wr.alloc o).cell? ⟨(ad'.add (k * 9)).block, (ad'.add (k * 9)).off + 2, none⟩ = some (.int .i32 m'.z) := fun o => (World.cell?_alloc_lt wr o ⟨(ad'.add (k * 9)).block, (ad'.add (k * 9)).off + 2, none⟩ hd').trans k2
        have x3 : ∀ o, (wr.alloc o).cell? ⟨(ad'.add (k * 9)).block, (ad'.add (k * 9)).off + 3, none⟩ = some (.float .f32 sa) := fun o => (World.cell?_alloc_lt wr o ⟨(ad'.add (k * 9)).block, (ad'.add (k * 9)).off + 3, none⟩ hd').trans k3
        have x4 : ∀ o, (wr.alloc o).cell? ⟨(ad'.add (k * 9)).block, (ad'.add (k * 9)).off + 4, none⟩ = some (.float .f32 sb) := fun o => (World.cell?_alloc_lt wr o ⟨(ad'.add (k * 9)).block, (ad'.add (k * 9)).off + 4, none⟩ hd').trans k4
        have x5 : ∀ o, (wr.alloc o).cell? ⟨(ad'.add (k * 9)).block, (ad'.add (k * 9)).off + 5, none⟩ = some (.float .f32 sc) := fun o => (World.cell?_alloc_lt wr o ⟨(ad'.add (k * 9)).block, (ad'.add (k * 9)).off + 5, none⟩ hd').trans k5
        have x6 : ∀ o, (wr.alloc o).cell? ⟨(ad'.add (k * 9)).block, (ad'.add (k * 9)).off + 6, none⟩ = some (.float .f32 sd) := fun o => (World.cell?_alloc_lt wr o ⟨(ad'.add (k * 9)).block, (ad'.add (k * 9)).off + 6, none⟩ hd').trans k6
        have x7 : ∀ o, (wr.alloc o).cell? ⟨(ad'.add (k * 9)).block, (ad'.add (k * 9)).off + 7, none⟩ = some (.int .i64 m'.s) := fun o => (World.cell?_alloc_lt wr o ⟨(ad'.add (k * 9)).block, (ad'.add (k * 9)).off + 7, none⟩ hd').trans k7
        have x8 : ∀ o, (wr.alloc o).cell? ⟨(ad'.add (k * 9)).block, (ad'.add (k * 9)).off + 8, none⟩ = some (.int .i64 m'.l) := fun o => (World.cell?_alloc_lt wr o ⟨(ad'.add (k * 9)).block, (ad'.add (k * 9)).off + 8, none⟩ hd').trans k8
        clear hK hrow hrk hK' hrow' hsk hd'
        have hlt' : (k : Int) < (xs.length : Int) := by omega
        cases bf with
        | true =>
          go_wp2_with (go_at_call 67; refine (hf.out _).mono ?_; rintro e w1 ⟨rfl, hw1⟩; have hb2 := Lib.hid (show Below w.heap.size w w1 from hb.out.trans (((show Stays wr _ from by (repeat (first | exact Stays.refl _ | (with_reducible refine Stays.drewN ?_ _) | (with_reducible refine Stays.alloc ?_ _) | (with_reducible refine Stays.drew ?_) | (refine Stays.trans ?_ ‹Stays _ _›)))).trans hw1).mono hb.out.size)); clear hw1)
          go_round
          case rel => exact ⟨k + 1, by omega, by go_num, hb2, nx.out (by simp)⟩
          case measure => simp [intOf]; omega
        | false =>
          go_wp2_with (go_at_call 67; refine (hf.out _).mono ?_; rintro e w1 ⟨rfl, hw1⟩; have hb2 := Lib.hid (show Below w.heap.size w w1 from hb.out.trans (((show Stays wr _ from by (repeat (first | exact Stays.refl _ | (with_reducible refine Stays.drewN ?_ _) | (with_reducible refine Stays.alloc ?_ _) | (with_reducible refine Stays.drew ?_) | (refine Stays.trans ?_ ‹Stays _ _›)))).trans hw1).mono hb.out.size)); clear hw1)
          go_ret
          exact ⟨ret_b (bd.out (by simp)).symm, hb2.out⟩
      · have fin := Lib.hid (pairM_end hl.out ha.out (by omega))
        go_wp2
        go_ret
        exact ⟨ret_b fin.out.symm, hb.out⟩
  · have hl2 : (((xs.length : Nat) : Int) != (ys.length : Nat)) = true := by simp; omega
    have fin := Lib.hid (pairM_len hl)
    go_enter Try.func66, Try.ntmps66
    go_wp2
    go_ret
    exact ⟨ret_b fin.out.symm, Below.refl _ _⟩

theorem two_cells {w : World} {p : Nat} {a b : Value} {t : TypeId} (hg : w.heap[p]? = some (.cells #[a, b] t (0, 0))) : ∀ w', Below w.heap.size w w' → w'.cell? ⟨p, 0, none⟩ = some a ∧ w'.cell? ⟨p, 1, none⟩ = some b := fun w' hb => by
  have hlt : p < w.heap.size := (Array.getElem?_eq_some_iff.1 hg).1
  exact ⟨(hb.cell (p := ⟨p, 0, none⟩) hlt).trans (cell_of_row _ _ _ _ _ _ hg), (hb.cell (p := ⟨p, 1, none⟩) hlt).trans (cell_of_row _ _ _ _ _ _ hg)⟩

noncomputable def mapS2 (o : Option Nat) (xs : List Mk) (o' : Option Nat) (ys : List Mk) : Bool := (o == o') && pairM xs ys

def one1 (fn : FuncId) (b : Bool) (f : FuncId) (args : Array Value) (v : Value) : Prop := f = fn → v = .bool b

set_option maxRecDepth 100000 in
set_option maxHeartbeats 4000000 in
theorem c_l05Same (p p' sd sd' : Nat) (o o' : Option Nat) (hf : FIs .f32 sd o) (hf' : FIs .f32 sd' o') (A A' : Option Addr) (c c' : Nat) (xs ys : List Mk) (w : World) (hg : w.heap[p]? = some (.cells #[.float .f32 sd, .slice A xs.length c] 30 (0, 0))) (hg' : w.heap[p']? = some (.cells #[.float .f32 sd', .slice A' ys.length c'] 30 (0, 0)))
    (h : Mks w w.heap.size A xs) (h' : Mks w w.heap.size A' ys) (hn : xs.length ≤ 1048576) :
    Calls Try.prog 64 #[.pointer (some ⟨p, 0, none⟩), .pointer (some ⟨p', 0, none⟩)] w fun e w' => e = .returned (.bool (mapS2 o xs o' ys)) ∧ Below w.heap.size w w' := by
  have H := Lib.hid h
  have H' := Lib.hid h'
  have HB : Hid (∀ w', Below w.heap.size w w' → (w'.cell? ⟨p, 0, none⟩ = some (.float .f32 sd) ∧ w'.cell? ⟨p, 1, none⟩ = some (.slice A xs.length c)) ∧ (w'.cell? ⟨p', 0, none⟩ = some (.float .f32 sd') ∧ w'.cell? ⟨p', 1, none⟩ = some (.slice A' ys.length c'))) := Lib.hid fun w' h => ⟨two_cells hg w' h, two_cells hg' w' h⟩
  have hN : ∀ W : World, Calls Try.prog 104 #[.float .f32 sd, .float .f32 sd'] W fun e w' => e = .returned (.bool (o == o')) ∧ Stays W w' := fun W => (c_l01Same sd sd' W).mono fun e w' he => ⟨he.1.trans (by unfold same; rw [hf.out, hf'.out]), he.2 ▸ Stays.refl _⟩
  unfold mapS2
  generalize (o == o') = bo at hN ⊢
  replace hN := Lib.hid hN
  clear h h' hg hg' hf hf'
  have hcells : ∀ w1, Stays w w1 → _ := fun w1 h => HB.out w1 h
  cases bo with
  | false =>
    clear HB
    go_enter Try.func64, Try.ntmps64
    go_wp2
    refine wp_region_soft_tail 22 (Stays.refl _) (one1 104 false) [] (by kernel_rfl) (by kernel_rfl) (fun _ h => by cases h) ?_
    simp only [List.take_succ_cons, List.take_zero, List.drop_succ_cons, List.drop_zero]
    repeat (first | ((with_reducible apply soft_detG); (case hwa => rfl); (case hA => rfl); (case h => (intro w1 hw1; have hc := hcells w1 hw1; go_simp; exact rfl)); go_simp) | ((with_reducible apply soft_skipG); (case hwa => rfl); (case hA => rfl); go_simp) | ((with_reducible apply soft_callS (v := .bool false)); (case hwa => rfl); (case hA => rfl); (case h => (intro w1 hw1; have hc := hcells w1 hw1; go_simp; exact ⟨rfl, rfl⟩)); (case hc => (intro w1 hw1; with_reducible exact hN.out w1)); (case hS => exact fun _ => rfl); (case hu => exact fun u hu => hu rfl); go_simp))
    refine soft_nil ?_
    rintro w0 ⟨hw0, _⟩
    clear hcells
    go_wp2
    go_ret
    exact ⟨rfl, hw0⟩
  | true =>
    by_cases hl : xs.length = ys.length
    · rw [← hl] at HB hcells
      replace hl := Lib.hid hl
      go_enter Try.func64, Try.ntmps64
      go_wp2
      refine wp_region_soft_tail 22 (Stays.refl _) (one1 104 true) [] (by kernel_rfl) (by kernel_rfl) (fun _ h => by cases h) ?_
      simp only [List.take_succ_cons, List.take_zero, List.drop_succ_cons, List.drop_zero]
      repeat (first | ((with_reducible apply soft_detG); (case hwa => rfl); (case hA => rfl); (case h => (intro w1 hw1; have hc := hcells w1 hw1; go_simp; exact rfl)); go_simp) | ((with_reducible apply soft_skipG); (case hwa => rfl); (case hA => rfl); go_simp) | ((with_reducible apply soft_callS (v := .bool true)); (case hwa => rfl); (case hA => rfl); (case h => (intro w1 hw1; have hc := hcells w1 hw1; go_simp; exact ⟨rfl, rfl⟩)); (case hc => (intro w1 hw1; with_reducible exact hN.out w1)); (case hS => exact fun _ => rfl); (case hu => exact fun u hu => hu rfl); go_simp))
      refine soft_nil ?_
      rintro w0 ⟨hw0, _⟩
      replace hw0 := Lib.hid hw0
      clear hcells
      go_wp2
      go_loopw [5] (fun i wr => ∃ k : Nat, k ≤ xs.length ∧ i = .int .i64 k ∧ Hid (Below w.heap.size w wr) ∧ Hid (∀ j, j < k → goodS xs ys j)) (fun i _ => xs.length - (intOf i).toNat)
      case atStart => exact ⟨0, Nat.zero_le _, rfl, hw0, Lib.hid fun j hj => by omega⟩
      case round =>
        clear hw0
        obtain ⟨k, hk, rfl, hb, ha⟩ := hrel
        obtain ⟨⟨z0, z1⟩, z2, z3⟩ := HB.out _ hb.out
        by_cases hlt : k < xs.length
        · obtain ⟨ad, rfl, hbl, hrow⟩ := (H.out.below hb.out) k xs[k] (List.getElem?_eq_getElem hlt)
          obtain ⟨ad', rfl, hbl', hrow'⟩ := (H'.out.below hb.out) k (ys[k]'(by have := hl.out; omega)) (List.getElem?_eq_getElem (by have := hl.out; omega))
          have hrk := List.getElem?_eq_getElem hlt
          have hsk : ys[k]? = some (ys[k]'(by have := hl.out; omega)) := List.getElem?_eq_getElem (by have := hl.out; omega)
          generalize xs[k] = m at hrow hrk
          generalize ys[k]'(by have := hl.out; omega) = m' at hrow' hsk
          have nx : Hid (markS m m' = true → Hid (∀ j, j < k + 1 → goodS xs ys j)) := Lib.hid fun h => Lib.hid (pairM_next ha.out hrk hsk h)
          have bd : Hid (markS m m' = false → pairM xs ys = false) := Lib.hid fun h => pairM_bad hrk hsk h
          have hA1 : ∀ n, (ad.add n).block < wr.heap.size := fun n => by rw [block_add]; exact Nat.lt_of_lt_of_le hbl hb.out.size
          have hA2 : ∀ n, (ad'.add n).block < wr.heap.size := fun n => by rw [block_add]; exact Nat.lt_of_lt_of_le hbl' hb.out.size
          have hf : ∀ W, Stays wr W → Calls Try.prog 105 #[.pointer (some (ad.add (k * 9))), .pointer (some (ad'.add (k * 9)))] W fun e w' => e = .returned (.bool (markS m m')) ∧ Stays W w' := fun W hs => c_l05SameMark _ _ m m' W (hrow.below hs (hA1 _)) (hrow'.below hs (hA2 _)) (Nat.lt_of_lt_of_le (hA1 _) hs.size) (Nat.lt_of_lt_of_le (hA2 _) hs.size)
          generalize markS m m' = bf at hf nx bd
          replace hf := Lib.hid hf
          have hcells : ∀ w1, Stays wr w1 → _ := fun w1 h => HB.out w1 (hb.out.trans (Below.mono h hb.out.size))
          clear hrow hrow' hrk hsk hA1 hA2
          have hlt' : (k : Int) < (xs.length : Int) := by omega
          cases bf with
          | true =>
            go_wp2
            refine wp_region_soft_tail 13 (Stays.refl _) (one1 105 true) [] (by kernel_rfl) (by kernel_rfl) (fun _ h => by cases h) ?_
            simp only [List.take_succ_cons, List.take_zero, List.drop_succ_cons, List.drop_zero]
            repeat (first | ((with_reducible apply soft_detG); (case hwa => rfl); (case hA => rfl); (case h => (intro w1 hw1; have hc := hcells w1 hw1; go_simp; exact rfl)); go_simp) | ((with_reducible apply soft_callS (v := .bool true)); (case hwa => rfl); (case hA => rfl); (case h => (intro w1 hw1; have hc := hcells w1 hw1; go_simp; exact ⟨rfl, rfl⟩)); (case hc => (intro w1 hw1; with_reducible exact hf.out w1 hw1)); (case hS => exact fun _ => rfl); (case hu => exact fun u hu => hu rfl); go_simp))
            refine soft_nil ?_
            rintro w2 ⟨hw2, _⟩
            replace hw2 := Lib.hid (hb.out.trans (Below.mono hw2 hb.out.size))
            clear hcells
            go_wp2
            go_round
            case rel => exact ⟨k + 1, by omega, by go_num, hw2, nx.out (by simp)⟩
            case measure => simp [intOf]; omega
          | false =>
            go_wp2
            refine wp_region_soft_tail 13 (Stays.refl _) (one1 105 false) [] (by kernel_rfl) (by kernel_rfl) (fun _ h => by cases h) ?_
            simp only [List.take_succ_cons, List.take_zero, List.drop_succ_cons, List.drop_zero]
            repeat (first | ((with_reducible apply soft_detG); (case hwa => rfl); (case hA => rfl); (case h => (intro w1 hw1; have hc := hcells w1 hw1; go_simp; exact rfl)); go_simp) | ((with_reducible apply soft_callS (v := .bool false)); (case hwa => rfl); (case hA => rfl); (case h => (intro w1 hw1; have hc := hcells w1 hw1; go_simp; exact ⟨rfl, rfl⟩)); (case hc => (intro w1 hw1; with_reducible exact hf.out w1 hw1)); (case hS => exact fun _ => rfl); (case hu => exact fun u hu => hu rfl); go_simp))
            refine soft_nil ?_
            rintro w2 ⟨hw2, _⟩
            replace hw2 := Lib.hid (hb.out.trans (Below.mono hw2 hb.out.size))
            clear hcells
            go_wp2
            go_ret
            exact ⟨ret_b (by simp [bd.out (by simp)]), hw2.out⟩
        · have fin := Lib.hid (pairM_end hl.out ha.out (by omega))
          go_wp2
          go_ret
          exact ⟨ret_b (by simp [fin.out]), hb.out⟩
    · have hl2 : (((xs.length : Nat) : Int) != (ys.length : Nat)) = true := by simp; omega
      have fin := Lib.hid (pairM_len hl)
      clear HB
      go_enter Try.func64, Try.ntmps64
      go_wp2
      refine wp_region_soft_tail 22 (Stays.refl _) (one1 104 true) [] (by kernel_rfl) (by kernel_rfl) (fun _ h => by cases h) ?_
      simp only [List.take_succ_cons, List.take_zero, List.drop_succ_cons, List.drop_zero]
      repeat (first | ((with_reducible apply soft_detG); (case hwa => rfl); (case hA => rfl); (case h => (intro w1 hw1; have hc := hcells w1 hw1; go_simp; exact rfl)); go_simp) | ((with_reducible apply soft_skipG); (case hwa => rfl); (case hA => rfl); go_simp) | ((with_reducible apply soft_callS (v := .bool true)); (case hwa => rfl); (case hA => rfl); (case h => (intro w1 hw1; have hc := hcells w1 hw1; go_simp; exact ⟨rfl, rfl⟩)); (case hc => (intro w1 hw1; with_reducible exact hN.out w1)); (case hS => exact fun _ => rfl); (case hu => exact fun u hu => hu rfl); go_simp))
      refine soft_nil ?_
      rintro w0 ⟨hw0, _⟩
      clear hcells
      go_wp2
      go_ret
      exact ⟨ret_b (by simp [fin.out]), hw0⟩
end Go.Proofs.Ytfjchhfoefgldab
