/- Logs: whether two are the same, on both sides. No condition. -/
import Derived.Test.YtdojdnndligmhaaMsSE
namespace Go.Proofs.Ytdojdnndligmhaa
open Go Go.RowKit
set_option linter.unusedVariables false
set_option linter.unusedSimpArgs false

theorem c_journal (r : Int) (x y z : Nat) (A A' : Option Addr) (n c n' c' : Nat) (w : World) :
    Calls Try.prog 53 #[.agg #[.int .i64 r, .float .f32 x, .float .f32 y, .float .f32 z, .slice A n c, .slice A' n' c']] w fun e w' => e = .returned (.agg #[.int .i64 r, .float .f32 x, .float .f32 y, .float .f32 z, .slice A n c, .slice A' n' c']) ∧ Stays w w' := by
  have hst : Stays w ((w.alloc (.cells #[.int .i64 r, .float .f32 x, .float .f32 y, .float .f32 z, .slice A n c, .slice A' n' c'] 53)).alloc (.cells #[.int .i64 0, .float .f32 0, .float .f32 0, .float .f32 0, .slice none 0 0, .slice none 0 0] 91)) := by (repeat (first | exact Stays.refl _ | (with_reducible refine Stays.drewN ?_ _) | (with_reducible refine Stays.alloc ?_ _) | (with_reducible refine Stays.drew ?_) | (refine Stays.trans ?_ ‹Stays _ _›)))
  have hres : ((w.alloc (.cells #[.int .i64 r, .float .f32 x, .float .f32 y, .float .f32 z, .slice A n c, .slice A' n' c'] 53)).alloc (.cells #[.int .i64 0, .float .f32 0, .float .f32 0, .float .f32 0, .slice none 0 0, .slice none 0 0] 91)).heap[w.heap.size + 1]? = some (.cells #[.int .i64 0, .float .f32 0, .float .f32 0, .float .f32 0, .slice none 0 0, .slice none 0 0] 91 (0, 0)) := by (repeat (first | (refine heap_top _ _ _ ?_; simp; done) | (with_reducible refine heap_drawn _ _ _ ?_) | (with_reducible refine heap_under _ _ _ ?_ ?_; (simp <;> omega))))
  go_enter Try.func53, Try.ntmps53
  go_wp2_with (refine wpList_store_row rfl _ _ _ rfl _ _ _ rfl rfl hres ?hi ?ho ?h1 ?hB hst ?_; (case hi => kernel_rfl); (case ho => rfl); (case h1 => first | rfl | simp [Value.oneCell']); (case hB => first | omega | (simp <;> omega)); intro w2 hw2 hq2 hother hsame)
  go_wp2
  apply end_agg rfl rfl rfl Try.underlying91 rfl (t := 91)
  case hg => exact hq2
  case hi => kernel_rfl
  case hR => exact ⟨rfl, hw2⟩

theorem jour_field (r : Int) (x y z : Nat) (A A' : Option Addr) (n c n' c' : Nat) (W : World) :
    (Instr.field 91 (.agg #[.int .i64 r, .float .f32 x, .float .f32 y, .float .f32 z, .slice A n c, .slice A' n' c']) 0).run Try.prog W = .ok (.agg #[.int .i64 r, .float .f32 x, .float .f32 y, .float .f32 z, .slice A n c]) W := by kernel_rfl

noncomputable def logS (hd : List NV) (bs ls : List (List NV)) (hd' : List NV) (bs' ls' : List (List NV)) : Bool := frameS hd hd' bs bs' && pairB entS ls ls'

def elS (b : Bool) (f : FuncId) (args : Array Value) (v : Value) : Prop := f = 56 → v = .bool b

def slS (b1 b2 : Bool) (f : FuncId) (args : Array Value) (v : Value) : Prop := (f = 53 → ∀ a0 a1 a2 a3 a4 a5, args = #[.agg #[a0, a1, a2, a3, a4, a5]] → v = .agg #[a0, a1, a2, a3, a4, a5]) ∧ (f = 47 → v = .bool b1) ∧ (f = 57 → v = .bool b2)

set_option maxRecDepth 100000 in
set_option maxHeartbeats 2000000 in
theorem c_implSameLog (v v' : Value) (hd : List NV) (bs ls : List (List NV)) (hd' : List NV) (bs' ls' : List (List NV)) (w : World) (h : LogV w w.heap.size v hd bs ls) (h' : LogV w w.heap.size v' hd' bs' ls') (hn : bs.length ≤ 1048576) (hm : ls.length ≤ 1048576) (hn' : bs'.length ≤ 1048576) (hm' : ls'.length ≤ 1048576) :
    Calls Try.prog 28 #[v, v'] w fun e w' => e = .returned (.bool (logS hd bs ls hd' bs' ls')) ∧ Stays w w' := by
  obtain ⟨r, x, y, z, A, c, A', c', rfl, hh, h1, h2⟩ := h.val
  obtain ⟨q, x', y', z', D, d, D', d', rfl, hh', h3, h4⟩ := h'.val
  have kM := Lib.hid fun W => c_journal r x y z A A' bs.length c ls.length c' W
  have kM' := Lib.hid fun W => c_journal q x' y' z' D D' bs'.length d ls'.length d' W
  have kL0 : ∀ W, Stays w W → _ := fun W hb => c_isLike r q x y z x' y' z' A D c d hd hd' bs bs' W hh hh' ((h1.below hb).more hb.size) ((h3.below hb).more hb.size) hn hn'
  have kE0 : ∀ W, Stays w W → _ := fun W hb => c_eqfEntry A' D' c' d' ls ls' W ((h2.below hb).more hb.size) ((h4.below hb).more hb.size) hm hm'
  have hf1 := fun W => jour_field r x y z A A' bs.length c ls.length c' W
  have hf2 := fun W => jour_field q x' y' z' D D' bs'.length d ls'.length d' W
  unfold logS
  generalize frameS hd hd' bs bs' = b1 at kL0 ⊢
  generalize pairB entS ls ls' = b2 at kE0 ⊢
  clear h h' h1 h2 h3 h4 hh hh'
  have HB : Hid (∀ w1, Stays ((w.alloc (.cells #[.int .i64 r, .float .f32 x, .float .f32 y, .float .f32 z, .slice A bs.length c, .slice A' ls.length c'] 53)).alloc (.cells #[.int .i64 q, .float .f32 x', .float .f32 y', .float .f32 z', .slice D bs'.length d, .slice D' ls'.length d'] 53)) w1 → ((∀ i, w1.cell? ⟨w.heap.size, i, none⟩ = (#[.int .i64 r, .float .f32 x, .float .f32 y, .float .f32 z, .slice A bs.length c, .slice A' ls.length c'] : Array Value)[i]?) ∧ (∀ i, w1.cell? ⟨w.heap.size + 1, i, none⟩ = (#[.int .i64 q, .float .f32 x', .float .f32 y', .float .f32 z', .slice D bs'.length d, .slice D' ls'.length d'] : Array Value)[i]?)) ∧ Stays w w1) := Lib.hid fun w1 h => ⟨⟨row_of h (by (repeat (first | (refine heap_top _ _ _ ?_; simp; done) | (with_reducible refine heap_drawn _ _ _ ?_) | (with_reducible refine heap_under _ _ _ ?_ ?_; (simp <;> omega))))), row_of h (by (repeat (first | (refine heap_top _ _ _ ?_; simp; done) | (with_reducible refine heap_drawn _ _ _ ?_) | (with_reducible refine heap_under _ _ _ ?_ ?_; (simp <;> omega)))))⟩, Stays.trans (by (repeat (first | exact Stays.refl _ | (with_reducible refine Stays.drewN ?_ _) | (with_reducible refine Stays.alloc ?_ _) | (with_reducible refine Stays.drew ?_) | (refine Stays.trans ?_ ‹Stays _ _›)))) h⟩
  have kL := Lib.hid fun W hb => kL0 W (HB.out W hb).2
  have kE := Lib.hid fun W hb => kE0 W (HB.out W hb).2
  clear kL0 kE0
  have hcells : ∀ w1, Stays ((w.alloc (.cells #[.int .i64 r, .float .f32 x, .float .f32 y, .float .f32 z, .slice A bs.length c, .slice A' ls.length c'] 53)).alloc (.cells #[.int .i64 q, .float .f32 x', .float .f32 y', .float .f32 z', .slice D bs'.length d, .slice D' ls'.length d'] 53)) w1 → _ := fun w1 h => (HB.out w1 h).1
  cases b1 with
  | false =>
    go_enter Try.func28, Try.ntmps28
    go_wp2
    refine wp_region_soft_tail 14 (Stays.refl _) (slS false b2) [] (by kernel_rfl) (by kernel_rfl) (fun _ h => by cases h) ?_
    simp only [List.take_succ_cons, List.take_zero, List.drop_succ_cons, List.drop_zero]
    repeat (first | ((with_reducible apply soft_detG); (case hwa => rfl); (case hA => rfl); (case h => (intro w1 hw1; have hc := hcells w1 hw1; go_simp; exact rfl)); go_simp) | ((with_reducible apply soft_skipG); (case hwa => rfl); (case hA => rfl); go_simp) | ((with_reducible apply soft_callS (v := _)); (case hwa => rfl); (case hA => rfl); (case h => (intro w1 hw1; have hc := hcells w1 hw1; go_simp; exact ⟨rfl, rfl⟩)); (case hc => (intro w1 hw1; with_reducible exact kM.out w1)); (case hS => exact ⟨fun _ a0 a1 a2 a3 a4 a5 e => (by simp at e; obtain ⟨rfl, rfl, rfl, rfl, rfl, rfl⟩ := e; rfl), fun e => absurd e (by decide), fun e => absurd e (by decide)⟩); (case hu => exact fun u hu => hu.1 rfl _ _ _ _ _ _ rfl); go_simp) | ((with_reducible apply soft_callS (v := _)); (case hwa => rfl); (case hA => rfl); (case h => (intro w1 hw1; have hc := hcells w1 hw1; go_simp; exact ⟨rfl, rfl⟩)); (case hc => (intro w1 hw1; with_reducible exact kM'.out w1)); (case hS => exact ⟨fun _ a0 a1 a2 a3 a4 a5 e => (by simp at e; obtain ⟨rfl, rfl, rfl, rfl, rfl, rfl⟩ := e; rfl), fun e => absurd e (by decide), fun e => absurd e (by decide)⟩); (case hu => exact fun u hu => hu.1 rfl _ _ _ _ _ _ rfl); go_simp) | ((with_reducible apply soft_callS (v := .bool false)); (case hwa => rfl); (case hA => rfl); (case h => (intro w1 hw1; have hc := hcells w1 hw1; go_simp; exact ⟨rfl, rfl⟩)); (case hc => (intro w1 hw1; with_reducible exact kL.out w1 hw1)); (case hS => exact ⟨fun e => absurd e (by decide), fun _ => rfl, fun e => absurd e (by decide)⟩); (case hu => exact fun u hu => hu.2.1 rfl); go_simp))
    refine soft_nil ?_
    rintro w2 ⟨hw2, _⟩
    go_wp2
    go_ret
    exact ⟨ret_b (by simp), (HB.out _ hw2).2⟩
  | true =>
    go_enter Try.func28, Try.ntmps28
    go_wp2
    refine wp_region_soft_tail 14 (Stays.refl _) (slS true b2) [] (by kernel_rfl) (by kernel_rfl) (fun _ h => by cases h) ?_
    simp only [List.take_succ_cons, List.take_zero, List.drop_succ_cons, List.drop_zero]
    repeat (first | ((with_reducible apply soft_detG); (case hwa => rfl); (case hA => rfl); (case h => (intro w1 hw1; have hc := hcells w1 hw1; go_simp; exact rfl)); go_simp) | ((with_reducible apply soft_skipG); (case hwa => rfl); (case hA => rfl); go_simp) | ((with_reducible apply soft_callS (v := _)); (case hwa => rfl); (case hA => rfl); (case h => (intro w1 hw1; have hc := hcells w1 hw1; go_simp; exact ⟨rfl, rfl⟩)); (case hc => (intro w1 hw1; with_reducible exact kM.out w1)); (case hS => exact ⟨fun _ a0 a1 a2 a3 a4 a5 e => (by simp at e; obtain ⟨rfl, rfl, rfl, rfl, rfl, rfl⟩ := e; rfl), fun e => absurd e (by decide), fun e => absurd e (by decide)⟩); (case hu => exact fun u hu => hu.1 rfl _ _ _ _ _ _ rfl); go_simp) | ((with_reducible apply soft_callS (v := _)); (case hwa => rfl); (case hA => rfl); (case h => (intro w1 hw1; have hc := hcells w1 hw1; go_simp; exact ⟨rfl, rfl⟩)); (case hc => (intro w1 hw1; with_reducible exact kM'.out w1)); (case hS => exact ⟨fun _ a0 a1 a2 a3 a4 a5 e => (by simp at e; obtain ⟨rfl, rfl, rfl, rfl, rfl, rfl⟩ := e; rfl), fun e => absurd e (by decide), fun e => absurd e (by decide)⟩); (case hu => exact fun u hu => hu.1 rfl _ _ _ _ _ _ rfl); go_simp) | ((with_reducible apply soft_callS (v := .bool true)); (case hwa => rfl); (case hA => rfl); (case h => (intro w1 hw1; have hc := hcells w1 hw1; go_simp; exact ⟨rfl, rfl⟩)); (case hc => (intro w1 hw1; with_reducible exact kL.out w1 hw1)); (case hS => exact ⟨fun e => absurd e (by decide), fun _ => rfl, fun e => absurd e (by decide)⟩); (case hu => exact fun u hu => hu.2.1 rfl); go_simp) | ((with_reducible apply soft_callS (v := .bool b2)); (case hwa => rfl); (case hA => rfl); (case h => (intro w1 hw1; have hc := hcells w1 hw1; go_simp; exact ⟨rfl, rfl⟩)); (case hc => (intro w1 hw1; with_reducible exact kE.out w1 hw1)); (case hS => exact ⟨fun e => absurd e (by decide), fun e => absurd e (by decide), fun _ => rfl⟩); (case hu => exact fun u hu => hu.2.2 rfl); go_simp))
    refine soft_nil ?_
    rintro w2 ⟨hw2, _⟩
    go_wp2
    go_ret
    exact ⟨ret_b (by simp), (HB.out _ hw2).2⟩

set_option maxRecDepth 100000 in
set_option maxHeartbeats 4000000 in
theorem c_specSameLog (v v' : Value) (hd : List NV) (bs ls : List (List NV)) (hd' : List NV) (bs' ls' : List (List NV)) (w : World) (h : LogV w w.heap.size v hd bs ls) (h' : LogV w w.heap.size v' hd' bs' ls') (hn : bs.length ≤ 1048576) (hm : ls.length ≤ 1048576) :
    Calls Try.prog 27 #[v, v'] w fun e w' => e = .returned (.bool (logS hd bs ls hd' bs' ls')) ∧ Stays w w' := by
  obtain ⟨r, x, y, z, A, c, A', c', rfl, hh, h1, h2⟩ := h.val
  obtain ⟨q, x', y', z', D, d, D', d', rfl, hh', h3, h4⟩ := h'.val
  have H := Lib.hid h2
  have H' := Lib.hid h4
  have kV0 := fun W => c_l01SameVecG _ _ _ _ hh.shm hh'.shm W
  have kE0 : ∀ W, Stays w W → _ := fun W hb => c_l08SameVecs A D c d bs bs' W ((h1.below hb).more hb.size) ((h3.below hb).more hb.size) hn
  have er : hdR hd = r := hh.r.symm
  have er' : hdR hd' = q := hh'.r.symm
  have ev : logS hd bs ls hd' bs' ls' = ((r == q) && (samV (hd.drop 1) (hd'.drop 1) && pairB samV bs bs') && pairB entS ls ls') := by unfold logS frameS; rw [er, er']
  rw [ev]
  clear ev er er' h h' h1 h2 h3 h4 hh hh'
  generalize samV (hd.drop 1) (hd'.drop 1) = bv at kV0 ⊢
  generalize pairB samV bs bs' = bp at kE0 ⊢
  have kV := Lib.hid kV0
  have HB : Hid (∀ w1, Stays ((w.alloc (.cells #[.int .i64 r, .float .f32 x, .float .f32 y, .float .f32 z, .slice A bs.length c, .slice A' ls.length c'] 53)).alloc (.cells #[.int .i64 q, .float .f32 x', .float .f32 y', .float .f32 z', .slice D bs'.length d, .slice D' ls'.length d'] 53)) w1 → ((∀ i, w1.cell? ⟨w.heap.size, i, none⟩ = (#[.int .i64 r, .float .f32 x, .float .f32 y, .float .f32 z, .slice A bs.length c, .slice A' ls.length c'] : Array Value)[i]?) ∧ (∀ i, w1.cell? ⟨w.heap.size + 1, i, none⟩ = (#[.int .i64 q, .float .f32 x', .float .f32 y', .float .f32 z', .slice D bs'.length d, .slice D' ls'.length d'] : Array Value)[i]?)) ∧ Stays w w1) := Lib.hid fun w1 h => ⟨⟨row_of h (by (repeat (first | (refine heap_top _ _ _ ?_; simp; done) | (with_reducible refine heap_drawn _ _ _ ?_) | (with_reducible refine heap_under _ _ _ ?_ ?_; (simp <;> omega))))), row_of h (by (repeat (first | (refine heap_top _ _ _ ?_; simp; done) | (with_reducible refine heap_drawn _ _ _ ?_) | (with_reducible refine heap_under _ _ _ ?_ ?_; (simp <;> omega)))))⟩, Stays.trans (by (repeat (first | exact Stays.refl _ | (with_reducible refine Stays.drewN ?_ _) | (with_reducible refine Stays.alloc ?_ _) | (with_reducible refine Stays.drew ?_) | (refine Stays.trans ?_ ‹Stays _ _›)))) h⟩
  have kE := Lib.hid fun W hb => kE0 W (HB.out W hb).2
  clear kV0 kE0
  by_cases e0 : r = q
  · subst e0
    cases bv with
    | false =>
      clear kE
      go_enter Try.func27, Try.ntmps27
      go_wp2_with (go_at_call 45; refine (kV.out _).mono ?_; rintro e w1 ⟨rfl, hw1⟩)
      go_ret
      exact ⟨ret_b (by simp), (HB.out _ hw1).2⟩
    | true =>
      cases bp with
      | false =>
        go_enter Try.func27, Try.ntmps27
        go_wp2_with (first
          | (go_at_call 45; refine (kV.out _).mono ?_; rintro e w1 ⟨rfl, hw1⟩; obtain ⟨hc, hc'⟩ := (HB.out _ hw1).1; replace hw1 := Lib.hid hw1)
          | (go_at_call 46; refine (kE.out _ hw1.out).mono ?_; rintro e w2 ⟨rfl, hw2⟩))
        go_ret
        exact ⟨ret_b (by simp), (HB.out _ (Stays.trans hw1.out hw2)).2⟩
      | true =>
        by_cases hl : ls.length = ls'.length
        · have hl2 : (((ls.length : Nat) : Int) != (ls'.length : Nat)) = false := by first | (rw [hl]; done) | (rw [hl]; simp)
          have fin := Lib.hid fun k ha hk => pair_end (S := entS) (k := k) hl ha hk
          replace hl := Lib.hid hl
          go_enter Try.func27, Try.ntmps27
          go_wp2_with (first
            | (go_at_call 45; refine (kV.out _).mono ?_; rintro e w1 ⟨rfl, hw1⟩; obtain ⟨hc, hc'⟩ := (HB.out _ hw1).1; replace hw1 := Lib.hid hw1)
            | (go_at_call 46; refine (kE.out _ hw1.out).mono ?_; rintro e w2 ⟨rfl, hw2⟩; replace hw2 := Lib.hid (Stays.trans hw1.out hw2); clear hc hc' hw1; obtain ⟨hc, hc'⟩ := (HB.out _ hw2.out).1))
          clear hc hc' kE kV
          generalize ((w.alloc (.cells #[.int .i64 r, .float .f32 x, .float .f32 y, .float .f32 z, .slice A bs.length c, .slice A' ls.length c'] 53)).alloc (.cells #[.int .i64 r, .float .f32 x', .float .f32 y', .float .f32 z', .slice D bs'.length d, .slice D' ls'.length d'] 53)) = W0 at HB hw2
          go_loopw [5] (fun i wr => ∃ k : Nat, k ≤ ls.length ∧ i = .int .i64 k ∧ Hid (Stays W0 wr) ∧ Hid (∀ j r s, j < k → ls[j]? = some r → ls'[j]? = some s → entS r s = true)) (fun i _ => ls.length - (intOf i).toNat)
          case atStart => exact ⟨0, Nat.zero_le _, rfl, hw2, Lib.hid fun j r s hj => by omega⟩
          case round =>
            clear hw2
            obtain ⟨k, hk, rfl, hb, ha⟩ := hrel
            obtain ⟨⟨hc, hc'⟩, hbw⟩ := HB.out _ hb.out
            by_cases hlt : k < ls.length
            · obtain ⟨ad, rfl, hbl, hrow⟩ := (H.out.below hbw) k ls[k] (List.getElem?_eq_getElem hlt)
              obtain ⟨ad', rfl, hbl', hrow'⟩ := (H'.out.below hbw) k (ls'[k]'(by have := hl.out; omega)) (List.getElem?_eq_getElem (by have := hl.out; omega))
              have hrk := List.getElem?_eq_getElem hlt
              have hsk : ls'[k]? = some (ls'[k]'(by have := hl.out; omega)) := List.getElem?_eq_getElem (by have := hl.out; omega)
              generalize ls[k] = rr at hrow hrk
              generalize ls'[k]'(by have := hl.out; omega) = ss at hrow' hsk
              have hbl1 : ∀ n, (ad.add n).block < wr.heap.size := fun n => by rw [block_add]; exact Nat.lt_of_lt_of_le hbl hbw.size
              have hbl2 : ∀ n, (ad'.add n).block < wr.heap.size := fun n => by rw [block_add]; exact Nat.lt_of_lt_of_le hbl' hbw.size
              have hf : ∀ W, Stays wr W → _ := fun W hs => c_l08SameEntry (ad.add (k * 9)) (ad'.add (k * 9)) rr ss W (hrow.below hs (hbl1 _)) (Nat.lt_of_lt_of_le (hbl1 _) hs.size) (hrow'.below hs (hbl2 _)) (Nat.lt_of_lt_of_le (hbl2 _) hs.size)
              have nx : Hid (entS rr ss = true → Hid (∀ j r s, j < k + 1 → ls[j]? = some r → ls'[j]? = some s → entS r s = true)) := Lib.hid fun h => Lib.hid (pair_next ha.out hrk hsk h)
              have bd : Hid (entS rr ss = false → pairB entS ls ls' = false) := Lib.hid fun h => pair_bad hrk hsk h
              generalize entS rr ss = bf at hf nx bd
              replace hf := Lib.hid hf
              have hcells : ∀ w1, Stays wr w1 → _ := fun w1 h => (HB.out w1 (Stays.trans hb.out h)).1
              clear hrk hsk hrow hrow' hbl1 hbl2
              have hlt' : (k : Int) < (ls.length : Int) := by omega
              have hlt2 : (k : Int) < (ls'.length : Int) := by have := hl.out; omega
              cases bf with
              | true =>
                go_wp2
                clear hc hc'
                refine wp_region_soft_tail 9 (Stays.refl _) (elS true) [] (by kernel_rfl) (by kernel_rfl) (fun _ h => by cases h) ?_
                simp only [List.take_succ_cons, List.take_zero, List.drop_succ_cons, List.drop_zero]
                repeat (first | ((with_reducible apply soft_detG); (case hwa => rfl); (case hA => rfl); (case h => (intro w1 hw1; have hc := hcells w1 hw1; go_simp; exact rfl)); go_simp) | ((with_reducible apply soft_callS (v := .bool true)); (case hwa => rfl); (case hA => rfl); (case h => (intro w1 hw1; have hc := hcells w1 hw1; go_simp; exact ⟨rfl, rfl⟩)); (case hc => (intro w1 hw1; with_reducible exact hf.out w1 hw1)); (case hS => exact (fun _ => rfl)); (case hu => exact fun u hu => hu rfl); go_simp))
                refine soft_nil ?_
                rintro w2 ⟨hw2, _⟩
                replace hw2 := Lib.hid (Stays.trans hb.out hw2)
                clear hcells
                go_wp2
                go_round
                case rel => exact ⟨k + 1, by omega, by go_num, hw2, nx.out (by simp)⟩
                case measure => simp [intOf]; omega
              | false =>
                go_wp2
                clear hc hc'
                refine wp_region_soft_tail 9 (Stays.refl _) (elS false) [] (by kernel_rfl) (by kernel_rfl) (fun _ h => by cases h) ?_
                simp only [List.take_succ_cons, List.take_zero, List.drop_succ_cons, List.drop_zero]
                repeat (first | ((with_reducible apply soft_detG); (case hwa => rfl); (case hA => rfl); (case h => (intro w1 hw1; have hc := hcells w1 hw1; go_simp; exact rfl)); go_simp) | ((with_reducible apply soft_callS (v := .bool false)); (case hwa => rfl); (case hA => rfl); (case h => (intro w1 hw1; have hc := hcells w1 hw1; go_simp; exact ⟨rfl, rfl⟩)); (case hc => (intro w1 hw1; with_reducible exact hf.out w1 hw1)); (case hS => exact (fun _ => rfl)); (case hu => exact fun u hu => hu rfl); go_simp))
                refine soft_nil ?_
                rintro w2 ⟨hw2, _⟩
                replace hw2 := Lib.hid (Stays.trans hb.out hw2)
                clear hcells
                go_wp2
                go_ret
                exact ⟨ret_b (by first | (rw [bd.out (by simp)]; done) | (rw [bd.out (by simp)]; simp)), (HB.out _ hw2.out).2⟩
            · have hL := Lib.hid (fin.out k ha.out (by omega))
              go_wp2
              go_ret
              exact ⟨ret_b (by first | (rw [hL.out]; done) | (rw [hL.out]; simp)), hbw⟩
        · have hl1 : ¬ ((ls.length : Nat) : Int) = (ls'.length : Nat) := by omega
          have hl2 : (((ls.length : Nat) : Int) != (ls'.length : Nat)) = true := by simpa using hl1
          have fin := Lib.hid (pair_len (S := entS) hl)
          go_enter Try.func27, Try.ntmps27
          go_wp2_with (first
            | (go_at_call 45; refine (kV.out _).mono ?_; rintro e w1 ⟨rfl, hw1⟩; obtain ⟨hc, hc'⟩ := (HB.out _ hw1).1; replace hw1 := Lib.hid hw1)
            | (go_at_call 46; refine (kE.out _ hw1.out).mono ?_; rintro e w2 ⟨rfl, hw2⟩; replace hw2 := Lib.hid (Stays.trans hw1.out hw2); clear hc hc' hw1; obtain ⟨hc, hc'⟩ := (HB.out _ hw2.out).1))
          go_ret
          exact ⟨ret_b (by rw [fin.out]; simp), (HB.out _ hw2.out).2⟩
  · have f0 : (r != q) = true := by simp [e0]
    clear kE kV
    go_enter Try.func27, Try.ntmps27
    go_wp2
    go_ret
    exact ⟨ret_b (by simp [e0]), (HB.out _ (Stays.refl _)).2⟩
end Go.Proofs.Ytdojdnndligmhaa
