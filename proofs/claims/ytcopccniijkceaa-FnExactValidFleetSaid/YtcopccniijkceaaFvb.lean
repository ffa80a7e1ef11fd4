/- Lists of lists of sights: opened, counted, copied, compared. No condition. -/
import Derived.Test.YtcopccniijkceaaFva
namespace Go.Proofs.Ytcopccniijkceaa
open Go Go.ChangeShapes Go.WideShapes Go.RowKit
set_option linter.unusedVariables false
set_option linter.unusedSimpArgs false

/-- A list of lists that lies in memory below a block. -/
def LsS (w : World) (B : Nat) (A : Option Addr) (xss : List (List (List NV))) : Prop :=
  ∀ i xs, xss[i]? = some xs → ∃ ad A' c', A = some ad ∧ ad.block < B ∧ w.cell? (ad.add i) = some (.slice A' xs.length c') ∧ Ls KSight 5 w B A' xs ∧ xs.length ≤ 9223372036854775807

theorem LsS.below {w w' : World} {B : Nat} {A : Option Addr} {xss : List (List (List NV))} (h : LsS w B A xss) (hb : Below B w w') : LsS w' B A xss := fun i xs hr => by
  obtain ⟨ad, A', c', e, hlt, hc, hl, hm⟩ := h i xs hr
  exact ⟨ad, A', c', e, hlt, (hb.cell (by rw [block_add]; exact hlt)).trans hc, hl.below hb, hm⟩

theorem LsS.more {w : World} {B B' : Nat} {A : Option Addr} {xss : List (List (List NV))} (h : LsS w B A xss) (hB : B ≤ B') : LsS w B' A xss := fun i xs hr => by
  obtain ⟨ad, A', c', e, hlt, hc, hl, hm⟩ := h i xs hr
  exact ⟨ad, A', c', e, by omega, hc, hl.more hB, hm⟩

theorem trod_nest {H : Type} {enc : TypeId × Value → H} {w : World} {held : Bool}
    {fuel : Nat} {cs : List Value} {x : DataW H × List MemPlace} (h : DataW.trod enc Try.prog w 0 (fun _ => true) held fuel 23 cs = some x) : ∃ A xss c, cs = [.slice A xss.length c] ∧ LsS w w.heap.size A xss ∧ xss.length ≤ 9223372036854775807 := by
  have hC : Try.prog.cellsOf 171 = 1 := by kernel_rfl
  rcases Deep.open_slice Try.underlying23 h with ⟨h0, _⟩ | ⟨a, len, cap, m, nn, D, Pl, hcs, hb, hl, hm, hmm, hx, hi⟩
  · exact ⟨none, [], 0, h0, fun i r hr => by simp at hr, by simp⟩
  · obtain ⟨rs, hrs, hp⟩ := pick (p := fun i (xs : List (List NV)) => ∃ A' c', a.block < w.heap.size ∧ w.cell? (a.add i) = some (.slice A' xs.length c') ∧ Ls KSight 5 w w.heap.size A' xs ∧ xs.length ≤ 9223372036854775807) len (by
      intro i hil
      have him : i < m := by rw [hmm]; simp; omega
      obtain ⟨cs', hc, ht⟩ := hi i him
      rw [hC, Nat.mul_one] at hc
      obtain ⟨A', xs, c', e, hL, hmax⟩ := trod_rows (K := KSight) (n := 5) Try.underlying171 rfl (by decide) (by kernel_rfl) (by kernel_rfl) ht
      subst e
      obtain ⟨_, hcl, hat⟩ := World.cells?_some hc
      have g : w.cell? (a.add i) = some (.slice A' xs.length c') := hat 0 (by omega)
      have hlt := World.block_lt_of_cell? _ _ g
      rw [block_add] at hlt
      exact ⟨xs, A', c', hlt, g, hL, hmax⟩)
    refine ⟨some a, rs, cap, by rw [hcs, hrs], fun i r hr => ?_, by rw [hrs]; unfold maxLen at hm; omega⟩
    obtain ⟨A', c', h1, h2, h3, h4⟩ := hp i r hr
    exact ⟨a, A', c', rfl, h1, h2, h3, h4⟩

set_option maxRecDepth 100000 in
set_option maxHeartbeats 800000 in
theorem c_szSightSS (A : Option Addr) (c : Nat) (xss : List (List (List NV))) (left : Int) (w : World) (B : Nat) (h : LsS w B A xss) (hn : xss.length ≤ 9223372036854775807) (h0 : 0 ≤ left) (h1 : left ≤ 1048576) :
    Calls Try.prog 50 #[.slice A xss.length c, .int .i64 left] w fun e w' => (e = .returned (.int .i64 (-1)) ∨ ∃ L : Int, 0 ≤ L ∧ e = .returned (.int .i64 L) ∧ xss.length ≤ 1048576 ∧ ∀ (j : Nat) (xs : List (List NV)), xss[j]? = some xs → xs.length ≤ 1048576) ∧ w = w' := by
  have H := Lib.hid h
  clear h
  have e : IntKind.i64.wrap (left - (xss.length : Int)) = left - xss.length := IntWalk.i64_in _ (by omega)
  by_cases hl : left - (xss.length : Int) < 0
  · go_enter Try.func50, Try.ntmps50
    go_wp2
    go_ret
    exact ⟨Or.inl rfl, rfl⟩
  · have hlen : xss.length ≤ 1048576 := by omega
    go_enter Try.func50, Try.ntmps50
    go_wp2
    clear e
    go_loop [1, 5] (fun lv iv => ∃ (k : Nat) (L : Int), k ≤ xss.length ∧ iv = .int .i64 k ∧ lv = .int .i64 L ∧ 0 ≤ L ∧ L ≤ 1048576 ∧ Hid (∀ (j : Nat) (xs : List (List NV)), j < k → xss[j]? = some xs → xs.length ≤ 1048576)) (fun _ iv => xss.length - (intOf iv).toNat)
    case atStart => exact ⟨0, _, Nat.zero_le _, rfl, rfl, by omega, by omega, Lib.hid fun j xs hj => by omega⟩
    case round =>
      obtain ⟨k, L, hk, rfl, rfl, hL0, hL1, hgd⟩ := hrel
      by_cases hlt : k < xss.length
      · obtain ⟨ad, A', c', rfl, _, hc, _, hm⟩ := H.out k xss[k] (List.getElem?_eq_getElem hlt)
        have hrk : Hid (xss[k]? = some xss[k]) := Lib.hid (List.getElem?_eq_getElem hlt)
        generalize xss[k] = xs at hc hm hrk
        have kz := fun W => c_szSightS A' c' xs.length L W hm hL0 hL1
        have hlt' : (k : Int) < (xss.length : Int) := by omega
        by_cases hx : L - (xs.length : Int) < 0
        · simp only [if_pos hx] at kz
          replace kz := Lib.hid kz
          go_wp2_with (go_at_call 94; refine (kz.out _).mono ?_; rintro e w1 ⟨rfl, rfl⟩)
          go_ret
          exact ⟨Or.inl rfl, rfl⟩
        · simp only [if_neg hx] at kz
          have hgd2 : Hid (∀ (j : Nat) (ys : List (List NV)), j < k + 1 → xss[j]? = some ys → ys.length ≤ 1048576) := Lib.hid fun j ys hj hy => by
            by_cases ej : j = k
            · subst ej
              rw [hrk.out] at hy
              cases hy
              omega
            · exact hgd.out j ys (by omega) hy
          generalize hLe : L - (xs.length : Int) = L2 at hx kz
          have hL2 : 0 ≤ L2 ∧ L2 ≤ 1048576 := by omega
          replace kz := Lib.hid kz
          clear hLe
          go_wp2_with (go_at_call 94; refine (kz.out _).mono ?_; rintro e w1 ⟨rfl, rfl⟩)
          go_round
          case rel => exact ⟨k + 1, L2, by omega, by go_num, rfl, hL2.1, hL2.2, hgd2⟩
          case measure => simp [intOf]; omega
      · go_wp2
        go_ret
        exact ⟨Or.inr ⟨L, hL0, rfl, fun j xs hx => hgd.out j xs (by have := (List.getElem?_eq_some_iff.1 hx).1; omega) hx⟩, rfl⟩

/-- The first k lists lie in blocks of the function's own. -/
structure PutS (w wr : World) (xss : List (List (List NV))) (k : Nat) : Prop where
  below : Below w.heap.size w wr
  there : wr.there w.heap.size 0 xss.length
  lt : w.heap.size < wr.heap.size
  rows : ∀ i xs, i < k → xss[i]? = some xs → ∃ g, w.heap.size < g ∧ wr.cell? ⟨w.heap.size, i, none⟩ = some (.slice (some ⟨g, 0, none⟩) xs.length xs.length) ∧ LiesL KSight 5 wr g (.slice (some ⟨g, 0, none⟩) xs.length xs.length) xs

theorem infoSl : (Try.prog.info? 107).map (fun i => (i.zero, i.size, i.bytes)) = some (some (.slice none 0 0), 1, 24) := by kernel_rfl

set_option maxRecDepth 100000 in
set_option maxHeartbeats 1000000 in
theorem c_toSightSS (A : Option Addr) (c : Nat) (xss : List (List (List NV))) (w : World) (h : LsS w w.heap.size A xss) (hn : xss.length ≤ 1048576) (hm : ∀ (j : Nat) (xs : List (List NV)), xss[j]? = some xs → xs.length ≤ 1048576) :
    Calls Try.prog 52 #[.slice A xss.length c] w fun e w' => e = .returned (.slice (some ⟨w.heap.size, 0, none⟩) xss.length xss.length) ∧ PutS w w' xss xss.length := by
  have H := Lib.hid h
  have HM := Lib.hid hm
  clear h hm
  obtain ⟨i0, hi0, hz0, hz1, hz2⟩ := info_parts infoSl
  have hmk : ∀ u : World, (Instr.makeSlice 28 (.int .i64 (xss.length : Nat)) (.int .i64 (xss.length : Nat))).run Try.prog u = .ok (.slice (some ⟨u.heap.size, 0, none⟩) xss.length xss.length) (u.alloc (.cells (madeCells #[Value.slice none 0 0] xss.length) 107)) := fun u => by
    have := run_make (P := Try.prog) u 28 107 i0 _ Try.underlying28 hi0 hz0 .i64 .i64 (xss.length : Nat) (xss.length : Nat) (by omega) (Int.le_refl _) (by rw [hz2]; omega) (by omega)
    simp [hz1] at this
    exact this
  go_enter Try.func52, Try.ntmps52
  go_wp2
  have hmt := Lib.hid (made_there w #[Value.slice none 0 0] xss.length 107)
  go_loopw [4] (fun i wr => ∃ k : Nat, k ≤ xss.length ∧ i = .int .i64 k ∧ Hid (PutS w wr xss k)) (fun i _ => xss.length - (intOf i).toNat)
  case atStart => exact ⟨0, Nat.zero_le _, rfl, Lib.hid ⟨(Below.refl _ _).alloc (Nat.le_refl _) _, hmt.out, (Array.getElem?_eq_some_iff.1 (heap_alloc_new w _)).1, fun i r hi _ => by omega⟩⟩
  case round =>
    obtain ⟨k, hk, rfl, hb⟩ := hrel
    by_cases hlt : k < xss.length
    · obtain ⟨ad, A', c', rfl, hbl, hc, hl, _⟩ := (H.out.below hb.out.below) k xss[k] (List.getElem?_eq_getElem hlt)
      have hrk : Hid (xss[k]? = some xss[k]) := Lib.hid (List.getElem?_eq_getElem hlt)
      generalize xss[k] = xs at hc hl hrk
      have kT := Lib.hid (c_toSightS A' c' xs wr (hl.more hb.out.below.size) (HM.out k xs hrk.out))
      have hlt' : (k : Int) < (xss.length : Int) := by omega
      clear hl
      go_wp2_with fail
      refine kT.out.mono ?_
      rintro e w1 ⟨rfl, hp⟩
      have hs := hp.below
      have ht := there_below hb.out.there hs hb.out.lt
      obtain ⟨u0, hu0⟩ := Option.isSome_iff_exists.1 ((there_part ht k 1 (by omega)) 0 (by omega)).1
      have hf0 := ((there_part ht k 1 (by omega)) 0 (by omega)).2
      rw [Nat.add_zero] at hu0 hf0
      have hnx : Hid (PutS w (w1.setCell ⟨w.heap.size, k, none⟩ (.slice (some ⟨wr.heap.size, 0, none⟩) xs.length xs.length)) xss (k + 1)) := Lib.hid (by
        have hsm : ∀ g, g ≠ w.heap.size → Same w1 (w1.setCell ⟨w.heap.size, k, none⟩ (.slice (some ⟨wr.heap.size, 0, none⟩) xs.length xs.length)) g := fun g hg => same_sets w.heap.size g k [_] w1 hg
        refine ⟨(hb.out.below.trans (Below.mono hs hb.out.below.size)).setCell (Nat.le_refl _) _, World.there_setCells ht w.heap.size k [_], Nat.lt_of_lt_of_le hb.out.lt (Nat.le_trans hs.size (by simp [World.setCell])), fun i ys hi hy => ?_⟩
        by_cases e : i = k
        · subst e
          rw [hrk.out] at hy
          cases hy
          refine ⟨wr.heap.size, hb.out.lt, World.cell?_setCell_same _ _ _ (by rw [hu0]), hp.lies.on fun _ => hsm _ (by have := hb.out.lt; omega)⟩
        · obtain ⟨g, h1, h2, h3⟩ := hb.out.rows i ys (by omega) hy
          refine ⟨g, h1, ?_, (LiesR.below h3 hs).on fun _ => hsm _ (by omega)⟩
          exact (World.cell?_setCell_other w1 ⟨w.heap.size, k, none⟩ ⟨w.heap.size, i, none⟩ _ (fun e' => e (by have := congrArg Addr.off e'; simp at this; omega))).trans ((hs.cell (p := ⟨w.heap.size, i, none⟩) hb.out.lt).trans h2))
      clear hp hs ht hc
      go_wp2
      go_round
      case rel => exact ⟨k + 1, by omega, by go_num, hnx⟩
      case measure => simp [intOf]; omega
    · have e : k = xss.length := by omega
      subst e
      go_wp2
      go_ret
      exact ⟨rfl, hb.out⟩

set_option maxRecDepth 100000 in
set_option maxHeartbeats 1000000 in
theorem c_eqSightSS (A A' : Option Addr) (c c' : Nat) (xss : List (List (List NV))) (w : World) (h : LsS w w.heap.size A xss) (h' : LsS w w.heap.size A' xss) (hn : xss.length ≤ 1048576) (hm : ∀ (j : Nat) (xs : List (List NV)), xss[j]? = some xs → xs.length ≤ 1048576) :
    Calls Try.prog 57 #[.slice A xss.length c, .slice A' xss.length c'] w fun e w' => e = .returned (.bool true) ∧ Below w.heap.size w w' := by
  have H := Lib.hid h
  have H' := Lib.hid h'
  have HM := Lib.hid hm
  clear h h' hm
  go_enter Try.func57, Try.ntmps57
  go_wp2
  go_loopw [5] (fun i wr => ∃ k : Nat, k ≤ xss.length ∧ i = .int .i64 k ∧ Hid (Below w.heap.size w wr)) (fun i _ => xss.length - (intOf i).toNat)
  case atStart => exact ⟨0, Nat.zero_le _, rfl, Lib.hid (Below.refl _ _)⟩
  case round =>
    obtain ⟨k, hk, rfl, hb⟩ := hrel
    by_cases hlt : k < xss.length
    · obtain ⟨ad, B, d, rfl, hbl, g0, hl, _⟩ := (H.out.below hb.out) k xss[k] (List.getElem?_eq_getElem hlt)
      obtain ⟨ad', B', d', rfl, hbl', k0, hl', _⟩ := (H'.out.below hb.out) k xss[k] (List.getElem?_eq_getElem hlt)
      have hrk : Hid (xss[k]? = some xss[k]) := Lib.hid (List.getElem?_eq_getElem hlt)
      generalize xss[k] = xs at g0 k0 hl hl' hrk
      have kE := Lib.hid fun W (hs : Below wr.heap.size wr W) => c_eqSightS B B' d d' xs W ((hl.below (Below.mono hs hb.out.size)).more (Nat.le_trans hb.out.size hs.size)) ((hl'.below (Below.mono hs hb.out.size)).more (Nat.le_trans hb.out.size hs.size)) (HM.out k xs hrk.out)
      have hlt' : (k : Int) < (xss.length : Int) := by omega
      clear hl hl'
      go_wp2_with fail
      go_still_tail 8, (by kernel_rfl)
      change wpList _ _ _ _ _ wr.drew
      have hs2 := Lib.hid (show Below wr.heap.size wr wr.drew from (Stays.refl wr).drew)
      generalize wr.drew = w2 at hs2 ⊢
      go_wp2_with (go_at_call 104; refine (kE.out _ hs2.out).mono ?_; rintro e w3 ⟨rfl, hb3⟩; have hb4 := Lib.hid (hb.out.trans (Below.mono (Below.trans hs2.out (Below.mono hb3 hs2.out.size)) hb.out.size)); clear hb3)
      go_round
      case rel => exact ⟨k + 1, by omega, by go_num, hb4⟩
      case measure => simp [intOf]; omega
    · go_wp2
      go_ret
      exact ⟨rfl, hb.out⟩
end Go.Proofs.Ytcopccniijkceaa
