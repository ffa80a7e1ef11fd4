/- Vectors and frames compared, on both sides. No condition. -/
import Derived.Test.YtdojdnndligmhaaMsF
import Derived.Test.YtdojdnndligmhaaOSam
import Derived.Test.YtdojdnndligmhaaGv
namespace Go.Proofs.Ytdojdnndligmhaa
open Go Go.RowKit
set_option linter.unusedVariables false
set_option linter.unusedSimpArgs false

theorem calls_row2B {Φ : Syms} {e : Opq} {K : List Kd} (h : OpqOK Try.prog Φ e) (h0 : e.ext = 0) (h1 : e.same = false) (ha : e.args = [.agg K, .agg K]) (hr : e.res = .p (.one .b)) (u1 u2 : Value) (p q : List NV) (w : World) (hp : ShM (.agg K) u1 p) (hq : ShM (.agg K) u2 q) :
    Calls Try.prog e.f #[u1, u2] w fun en w' => en = .returned (.bool (Φ (e.sym * 64 + 0) (p ++ q)).gb) ∧ Stays w w' := by
  have := opq_sym h h0 h1 #[u1, u2] (p ++ q) w (by rw [ha]; exact ⟨_, _, rfl, hp, _, [], by simp, hq, rfl⟩)
  refine this.mono ?_
  rintro en w' ⟨v', rfl, hm, hs⟩
  rw [hr] at hm
  obtain ⟨n, hn, hb⟩ := hm
  cases hn
  exact ⟨congrArg _ hb, hs⟩

noncomputable def samV (p q : List NV) : Bool := (oSam.Φ (11 * 64 + 0) (p ++ q)).gb
theorem c_l01SameVecG (u1 u2 : Value) (p q : List NV) (hp : ShM (.agg KVec) u1 p) (hq : ShM (.agg KVec) u2 q) (w : World) : Calls Try.prog 45 #[u1, u2] w fun e w' => e = .returned (.bool (samV p q)) ∧ Stays w w' :=
  calls_row2B oSam.okS rfl rfl rfl rfl u1 u2 p q w hp hq
theorem c_SameVecG (u1 u2 : Value) (p q : List NV) (hp : ShM (.agg KVec) u1 p) (hq : ShM (.agg KVec) u2 q) (w : World) : Calls Try.prog 72 #[u1, u2] w fun e w' => e = .returned (.bool (samV p q)) ∧ Stays w w' :=
  calls_row2B oSam.okI rfl rfl rfl rfl u1 u2 p q w hp hq

def pairB (S : List NV → List NV → Bool) (xs ys : List (List NV)) : Bool := decide (xs.length = ys.length) && (List.range xs.length).all fun k => S (xs.getD k []) (ys.getD k [])

section
variable {S : List NV → List NV → Bool} {xs ys : List (List NV)} {k : Nat} {r s : List NV}
theorem pair_len (h : xs.length ≠ ys.length) : pairB S xs ys = false := by unfold pairB; rw [decide_eq_false h]; rfl
theorem pair_bad (hr : xs[k]? = some r) (hs : ys[k]? = some s) (h : S r s = false) : pairB S xs ys = false := by
  unfold pairB
  refine Bool.eq_false_iff.2 fun hb => ?_
  simp only [Bool.and_eq_true] at hb
  have := List.all_eq_true.1 hb.2 k (by simpa using (List.getElem?_eq_some_iff.1 hr).1)
  simp only [List.getD_eq_getElem?_getD, hr, hs, Option.getD_some, h] at this
  cases this
theorem pair_end (hl : xs.length = ys.length) (h : ∀ j r s, j < k → xs[j]? = some r → ys[j]? = some s → S r s = true) (hk : xs.length ≤ k) : pairB S xs ys = true := by
  unfold pairB
  rw [decide_eq_true hl, Bool.true_and]
  refine List.all_eq_true.2 fun j hj => ?_
  have hj : j < xs.length := by simpa using hj
  rw [List.getD_eq_getElem?_getD, List.getD_eq_getElem?_getD, List.getElem?_eq_getElem hj, List.getElem?_eq_getElem (by omega)]
  exact h j _ _ (by omega) (List.getElem?_eq_getElem hj) (List.getElem?_eq_getElem (by omega))
theorem pair_next (h : ∀ j r s, j < k → xs[j]? = some r → ys[j]? = some s → S r s = true) (hr : xs[k]? = some r) (hs : ys[k]? = some s) (hb : S r s = true) : ∀ j r s, j < k + 1 → xs[j]? = some r → ys[j]? = some s → S r s = true := fun j r' s' hj h1 h2 => by
  by_cases e : j = k
  · subst e
    rw [hr] at h1; rw [hs] at h2
    cases h1; cases h2
    exact hb
  · exact h j r' s' (by omega) h1 h2
end

set_option maxRecDepth 100000 in
set_option maxHeartbeats 800000 in
theorem c_eqfVec (A A' : Option Addr) (c c' : Nat) (xs ys : List (List NV)) (w : World) (h : Ls KVec 3 w w.heap.size A xs) (h' : Ls KVec 3 w w.heap.size A' ys) (hn : xs.length ≤ 1048576) (hm : ys.length ≤ 1048576) :
    Calls Try.prog 73 #[.slice A xs.length c, .slice A' ys.length c', .func (.func 72) #[] #[]] w fun e w' => e = .returned (.bool (pairB samV xs ys)) ∧ Stays w w' := by
  have H := Lib.hid h
  have H' := Lib.hid h'
  clear h h'
  by_cases hl : xs.length = ys.length
  · rw [← hl]
    replace hl := Lib.hid hl
    go_enter Try.func73, Try.ntmps73
    go_wp2
    go_loopw [17] (fun i wr => ∃ k : Nat, k ≤ xs.length ∧ i = .int .i64 k ∧ Hid (Stays w wr) ∧ Hid (∀ j r s, j < k → xs[j]? = some r → ys[j]? = some s → samV r s = true)) (fun i _ => xs.length - (intOf i).toNat)
    case atStart => exact ⟨0, Nat.zero_le _, rfl, Lib.hid (Stays.refl _), Lib.hid fun j r s hj => by omega⟩
    case round =>
      obtain ⟨k, hk, rfl, hb, ha⟩ := hrel
      by_cases hlt : k < xs.length
      · obtain ⟨ad, rfl, hbl, hrow⟩ := (H.out.below hb.out) k xs[k] (List.getElem?_eq_getElem hlt)
        obtain ⟨ad', rfl, hbl', hrow'⟩ := (H'.out.below hb.out) k (ys[k]'(by have := hl.out; omega)) (List.getElem?_eq_getElem (by have := hl.out; omega))
        have hrk := List.getElem?_eq_getElem hlt
        have hsk : ys[k]? = some (ys[k]'(by have := hl.out; omega)) := List.getElem?_eq_getElem (by have := hl.out; omega)
        generalize xs[k] = r at hrow hrk
        generalize ys[k]'(by have := hl.out; omega) = s at hrow' hsk
        obtain ⟨c0, c1, c2, hK, g0, g1, g2⟩ := row3 rfl hrow
        obtain ⟨d0, d1, d2, hK', k0, k1, k2⟩ := row3 rfl hrow'
        have hf := fun W => c_SameVecG (.agg #[c0, c1, c2]) (.agg #[d0, d1, d2]) r s ⟨_, rfl, hK⟩ ⟨_, rfl, hK'⟩ W
        obtain ⟨ra0, ra1, ra2, e⟩ := vec_cells hK
        cases e
        obtain ⟨sa0, sa1, sa2, e⟩ := vec_cells hK'
        cases e
        have nx : Hid (samV r s = true → Hid (∀ j r s, j < k + 1 → xs[j]? = some r → ys[j]? = some s → samV r s = true)) := Lib.hid fun h => Lib.hid (pair_next ha.out hrk hsk h)
        have bd : Hid (samV r s = false → pairB samV xs ys = false) := Lib.hid fun h => pair_bad hrk hsk h
        generalize samV r s = bf at hf nx bd
        replace hf := Lib.hid hf
        have hd := World.block_lt_of_cell? _ _ k0
        have hd' : (ad'.add (k * 3)).block < wr.heap.size := hd
        have x0 : ∀ o, (wr.alloc o).cell? (ad'.add (k * 3)) = some (.float .f32 sa0) := fun o => (World.cell?_alloc_lt wr o _ hd').trans k0
        have x1 : ∀ o, (wr.alloc o).cell? ⟨(ad'.add (k * 3)).block, (ad'.add (k * 3)).off + 1, none⟩ = some (.float .f32 sa1) := fun o => (World.cell?_alloc_lt wr o ⟨(ad'.add (k * 3)).block, (ad'.add (k * 3)).off + 1, none⟩ hd').trans k1
        have x2 : ∀ o, (wr.alloc o).cell? ⟨(ad'.add (k * 3)).block, (ad'.add (k * 3)).off + 2, none⟩ = some (.float .f32 sa2) := fun o => (World.cell?_alloc_lt wr o ⟨(ad'.add (k * 3)).block, (ad'.add (k * 3)).off + 2, none⟩ hd').trans k2
        clear hK hrow hrk hK' hrow' hsk hd hd'
        have hlt' : (k : Int) < (xs.length : Int) := by omega
        cases bf with
        | true =>
          go_wp2_with (go_at_call 72; refine (hf.out _).mono ?_; rintro e w1 ⟨rfl, hw1⟩; have hb2 := Lib.hid (Stays.trans hb.out (Stays.trans (show Stays wr _ from by (repeat (first | exact Stays.refl _ | (with_reducible refine Stays.drewN ?_ _) | (with_reducible refine Stays.alloc ?_ _) | (with_reducible refine Stays.drew ?_) | (refine Stays.trans ?_ ‹Stays _ _›)))) hw1)); clear hw1)
          go_round
          case rel => exact ⟨k + 1, by omega, by go_num, hb2, nx.out (by simp)⟩
          case measure => simp [intOf]; omega
        | false =>
          go_wp2_with (go_at_call 72; refine (hf.out _).mono ?_; rintro e w1 ⟨rfl, hw1⟩; have hb2 := Lib.hid (Stays.trans hb.out (Stays.trans (show Stays wr _ from by (repeat (first | exact Stays.refl _ | (with_reducible refine Stays.drewN ?_ _) | (with_reducible refine Stays.alloc ?_ _) | (with_reducible refine Stays.drew ?_) | (refine Stays.trans ?_ ‹Stays _ _›)))) hw1)); clear hw1)
          go_ret
          exact ⟨ret_b (bd.out (by simp)).symm, hb2.out⟩
      · have fin := Lib.hid (pair_end hl.out ha.out (by omega))
        go_wp2
        go_ret
        exact ⟨ret_b fin.out.symm, hb.out⟩
  · have hl1 : ¬ ((xs.length : Nat) : Int) = (ys.length : Nat) := by omega
    have hl2 : (((xs.length : Nat) : Int) != (ys.length : Nat)) = true := by simpa using hl1
    have fin := Lib.hid (pair_len (S := samV) hl)
    go_enter Try.func73, Try.ntmps73
    go_wp2
    go_ret
    exact ⟨ret_b fin.out.symm, Stays.refl _⟩

def vsS (b : Bool) (f : FuncId) (args : Array Value) (v : Value) : Prop := f = 45 → v = .bool b

set_option maxRecDepth 100000 in
set_option maxHeartbeats 1000000 in
theorem c_l08SameVecs (A A' : Option Addr) (c c' : Nat) (xs ys : List (List NV)) (w : World) (h : Ls KVec 3 w w.heap.size A xs) (h' : Ls KVec 3 w w.heap.size A' ys) (hn : xs.length ≤ 1048576) :
    Calls Try.prog 46 #[.slice A xs.length c, .slice A' ys.length c'] w fun e w' => e = .returned (.bool (pairB samV xs ys)) ∧ Stays w w' := by
  have H := Lib.hid h
  have H' := Lib.hid h'
  clear h h'
  by_cases hl : xs.length = ys.length
  · rw [← hl]
    replace hl := Lib.hid hl
    go_enter Try.func46, Try.ntmps46
    go_wp2
    go_loopw [5] (fun i wr => ∃ k : Nat, k ≤ xs.length ∧ i = .int .i64 k ∧ Hid (Stays w wr) ∧ Hid (∀ j r s, j < k → xs[j]? = some r → ys[j]? = some s → samV r s = true)) (fun i _ => xs.length - (intOf i).toNat)
    case atStart => exact ⟨0, Nat.zero_le _, rfl, Lib.hid (Stays.refl _), Lib.hid fun j r s hj => by omega⟩
    case round =>
      obtain ⟨k, hk, rfl, hb, ha⟩ := hrel
      by_cases hlt : k < xs.length
      · obtain ⟨ad, rfl, hbl, hrow⟩ := (H.out.below hb.out) k xs[k] (List.getElem?_eq_getElem hlt)
        obtain ⟨ad', rfl, hbl', hrow'⟩ := (H'.out.below hb.out) k (ys[k]'(by have := hl.out; omega)) (List.getElem?_eq_getElem (by have := hl.out; omega))
        have hrk := List.getElem?_eq_getElem hlt
        have hsk : ys[k]? = some (ys[k]'(by have := hl.out; omega)) := List.getElem?_eq_getElem (by have := hl.out; omega)
        generalize xs[k] = r at hrow hrk
        generalize ys[k]'(by have := hl.out; omega) = s at hrow' hsk
        obtain ⟨c0, c1, c2, hK, g0, g1, g2⟩ := row3 rfl hrow
        obtain ⟨d0, d1, d2, hK', k0, k1, k2⟩ := row3 rfl hrow'
        have hf := fun W => c_l01SameVecG (.agg #[c0, c1, c2]) (.agg #[d0, d1, d2]) r s ⟨_, rfl, hK⟩ ⟨_, rfl, hK'⟩ W
        have nx : Hid (samV r s = true → Hid (∀ j r s, j < k + 1 → xs[j]? = some r → ys[j]? = some s → samV r s = true)) := Lib.hid fun h => Lib.hid (pair_next ha.out hrk hsk h)
        have bd : Hid (samV r s = false → pairB samV xs ys = false) := Lib.hid fun h => pair_bad hrk hsk h
        generalize samV r s = bf at hf nx bd
        replace hf := Lib.hid hf
        have hA1 : ∀ n, (ad.add n).block < wr.heap.size := fun n => by rw [block_add]; exact Nat.lt_of_lt_of_le hbl hb.out.size
        have hA2 : ∀ n, (ad'.add n).block < wr.heap.size := fun n => by rw [block_add]; exact Nat.lt_of_lt_of_le hbl' hb.out.size
        have hcells : ∀ w', Stays wr w' → w'.cell? (ad.add (k * 3)) = some c0 ∧ w'.cell? ⟨(ad.add (k * 3)).block, (ad.add (k * 3)).off + 1, none⟩ = some c1 ∧ w'.cell? ⟨(ad.add (k * 3)).block, (ad.add (k * 3)).off + 2, none⟩ = some c2 ∧
            w'.cell? (ad'.add (k * 3)) = some d0 ∧ w'.cell? ⟨(ad'.add (k * 3)).block, (ad'.add (k * 3)).off + 1, none⟩ = some d1 ∧ w'.cell? ⟨(ad'.add (k * 3)).block, (ad'.add (k * 3)).off + 2, none⟩ = some d2 := fun w' hs =>
          ⟨(Below.cell hs (hA1 _)).trans g0, (Below.cell (p := ⟨(ad.add (k * 3)).block, _, none⟩) hs (hA1 _)).trans g1, (Below.cell (p := ⟨(ad.add (k * 3)).block, _, none⟩) hs (hA1 _)).trans g2, (Below.cell hs (hA2 _)).trans k0, (Below.cell (p := ⟨(ad'.add (k * 3)).block, _, none⟩) hs (hA2 _)).trans k1, (Below.cell (p := ⟨(ad'.add (k * 3)).block, _, none⟩) hs (hA2 _)).trans k2⟩
        clear hK hrow hrk hK' hrow' hsk g0 g1 g2 k0 k1 k2
        have hlt' : (k : Int) < (xs.length : Int) := by omega
        cases bf with
        | true =>
          go_wp2
          refine wp_region_soft_tail 9 (Stays.refl _) (vsS true) [] (by kernel_rfl) (by kernel_rfl) (fun _ h => by cases h) ?_
          simp only [List.take_succ_cons, List.take_zero, List.drop_succ_cons, List.drop_zero]
          repeat (first | ((with_reducible apply soft_detG); (case hwa => rfl); (case hA => rfl); (case h => (intro w1 hw1; have hc := hcells w1 hw1; go_simp; exact rfl)); go_simp) | ((with_reducible apply soft_callS (v := .bool true)); (case hwa => rfl); (case hA => rfl); (case h => (intro w1 hw1; have hc := hcells w1 hw1; go_simp; exact ⟨rfl, rfl⟩)); (case hc => (intro w1 hw1; with_reducible exact hf.out w1)); (case hS => exact (fun _ => rfl)); (case hu => exact fun u hu => hu rfl); go_simp))
          refine soft_nil ?_
          rintro w2 ⟨hw2, _⟩
          replace hw2 := Lib.hid (Stays.trans hb.out hw2)
          clear hcells
          go_wp2
          go_round
          case rel => exact ⟨k + 1, by omega, by go_num, hw2, nx.out (by simp)⟩
          case measure => simp [intOf]; omega
        | false =>
          go_wp2
          refine wp_region_soft_tail 9 (Stays.refl _) (vsS false) [] (by kernel_rfl) (by kernel_rfl) (fun _ h => by cases h) ?_
          simp only [List.take_succ_cons, List.take_zero, List.drop_succ_cons, List.drop_zero]
          repeat (first | ((with_reducible apply soft_detG); (case hwa => rfl); (case hA => rfl); (case h => (intro w1 hw1; have hc := hcells w1 hw1; go_simp; exact rfl)); go_simp) | ((with_reducible apply soft_callS (v := .bool false)); (case hwa => rfl); (case hA => rfl); (case h => (intro w1 hw1; have hc := hcells w1 hw1; go_simp; exact ⟨rfl, rfl⟩)); (case hc => (intro w1 hw1; with_reducible exact hf.out w1)); (case hS => exact (fun _ => rfl)); (case hu => exact fun u hu => hu rfl); go_simp))
          refine soft_nil ?_
          rintro w2 ⟨hw2, _⟩
          replace hw2 := Lib.hid (Stays.trans hb.out hw2)
          clear hcells
          go_wp2
          go_ret
          exact ⟨ret_b (bd.out (by simp)).symm, hw2.out⟩
      · have fin := Lib.hid (pair_end hl.out ha.out (by omega))
        go_wp2
        go_ret
        exact ⟨ret_b fin.out.symm, hb.out⟩
  · have hl1 : ¬ ((xs.length : Nat) : Int) = (ys.length : Nat) := by omega
    have hl2 : (((xs.length : Nat) : Int) != (ys.length : Nat)) = true := by simpa using hl1
    have fin := Lib.hid (pair_len (S := samV) hl)
    go_enter Try.func46, Try.ntmps46
    go_wp2
    go_ret
    exact ⟨ret_b fin.out.symm, Stays.refl _⟩

noncomputable def frameS (hd hd' : List NV) (bs bs' : List (List NV)) : Bool := (hdR hd == hdR hd') && (samV (hd.drop 1) (hd'.drop 1) && pairB samV bs bs')

set_option maxRecDepth 100000 in
set_option maxHeartbeats 1000000 in
theorem c_isLike (r r' : Int) (x y z x' y' z' : Nat) (A A' : Option Addr) (c c' : Nat) (hd hd' : List NV) (bs bs' : List (List NV)) (w : World) (hh : HdK r x y z hd) (hh' : HdK r' x' y' z' hd') (h : Ls KVec 3 w w.heap.size A bs) (h' : Ls KVec 3 w w.heap.size A' bs') (hn : bs.length ≤ 1048576) (hm : bs'.length ≤ 1048576) :
    Calls Try.prog 47 #[.agg #[.int .i64 r, .float .f32 x, .float .f32 y, .float .f32 z, .slice A bs.length c], .agg #[.int .i64 r', .float .f32 x', .float .f32 y', .float .f32 z', .slice A' bs'.length c']] w fun e w' => e = .returned (.bool (frameS hd hd' bs bs')) ∧ Stays w w' := by
  have kV0 := fun W => c_SameVecG _ _ _ _ hh.shm hh'.shm W
  have kE0 : ∀ W, Stays w W → _ := fun W hb => c_eqfVec A A' c c' bs bs' W ((h.below hb).more hb.size) ((h'.below hb).more hb.size) hn hm
  have er : hdR hd = r := hh.r.symm
  have er' : hdR hd' = r' := hh'.r.symm
  unfold frameS
  rw [er, er']
  clear er er' h h' hh hh'
  generalize samV (hd.drop 1) (hd'.drop 1) = bv at kV0 ⊢
  generalize pairB samV bs bs' = bp at kE0 ⊢
  have kV := Lib.hid kV0
  have kE := Lib.hid kE0
  clear kV0 kE0
  have HB : Hid (∀ w1, Stays ((w.alloc (.cells #[.int .i64 r, .float .f32 x, .float .f32 y, .float .f32 z, .slice A bs.length c] 76)).alloc (.cells #[.int .i64 r', .float .f32 x', .float .f32 y', .float .f32 z', .slice A' bs'.length c'] 76)) w1 → ((∀ i, w1.cell? ⟨w.heap.size, i, none⟩ = (#[.int .i64 r, .float .f32 x, .float .f32 y, .float .f32 z, .slice A bs.length c] : Array Value)[i]?) ∧ (∀ i, w1.cell? ⟨w.heap.size + 1, i, none⟩ = (#[.int .i64 r', .float .f32 x', .float .f32 y', .float .f32 z', .slice A' bs'.length c'] : Array Value)[i]?)) ∧ Stays w w1) := Lib.hid fun w1 h => ⟨⟨row_of h (by (repeat (first | (refine heap_top _ _ _ ?_; simp; done) | (with_reducible refine heap_drawn _ _ _ ?_) | (with_reducible refine heap_under _ _ _ ?_ ?_; (simp <;> omega))))), row_of h (by (repeat (first | (refine heap_top _ _ _ ?_; simp; done) | (with_reducible refine heap_drawn _ _ _ ?_) | (with_reducible refine heap_under _ _ _ ?_ ?_; (simp <;> omega)))))⟩, Stays.trans (by (repeat (first | exact Stays.refl _ | (with_reducible refine Stays.drewN ?_ _) | (with_reducible refine Stays.alloc ?_ _) | (with_reducible refine Stays.drew ?_) | (refine Stays.trans ?_ ‹Stays _ _›)))) h⟩
  by_cases e0 : r = r'
  · subst e0
    cases bv with
    | false =>
      clear kE
      go_enter Try.func47, Try.ntmps47
      go_wp2_with (go_at_call 72; refine (kV.out _).mono ?_; rintro e w1 ⟨rfl, hw1⟩)
      go_ret
      exact ⟨ret_b (by simp), (HB.out _ hw1).2⟩
    | true =>
      go_enter Try.func47, Try.ntmps47
      go_wp2_with (first
        | (go_at_call 72; refine (kV.out _).mono ?_; rintro e w1 ⟨rfl, hw1⟩; obtain ⟨hc, hc'⟩ := (HB.out _ hw1).1; replace hw1 := Lib.hid hw1)
        | (go_at_call 73; refine (kE.out _ (HB.out _ hw1.out).2).mono ?_; rintro e w2 ⟨rfl, hw2⟩))
      go_ret
      exact ⟨ret_b (by simp), (HB.out _ (Stays.trans hw1.out hw2)).2⟩
  · have f0 : (r == r') = false := by simp [e0]
    clear kE kV
    go_enter Try.func47, Try.ntmps47
    go_wp2
    go_ret
    exact ⟨ret_b (by simp [e0]), (HB.out _ (Stays.refl _)).2⟩
end Go.Proofs.Ytdojdnndligmhaa
