/- The mark of a cell, on both sides. No condition. -/
import Derived.Test.YtmcbeaihjdnelaaMiC
import Derived.Test.YtmcbeaihjdnelaaNc
namespace Go.Proofs.Ytmcbeaihjdnelaa
open Go Go.ChangeShapes Go.WideShapes Go.RowKit
set_option linter.unusedVariables false
set_option linter.unusedSimpArgs false

/-- A mark, its words in memory. -/
theorem mark_at {B : Nat} {W : World} {ad : Addr} {xs : List Mk} {k : Nat} {m : Mk} (hB : B ≤ W.heap.size) (h : Mks W B (some ad) xs) (hk : xs[k]? = some m) : ∃ ra rb rc rd, (FIs .f32 ra m.a ∧ FIs .f32 rb m.b ∧ FIs .f32 rc m.c ∧ FIs .f32 rd m.d) ∧ ∀ W', Stays W W' → (W'.cell? (ad.add (k * 9)) = some (.int .i32 m.x) ∧ W'.cell? ⟨(ad.add (k * 9)).block, (ad.add (k * 9)).off + 1, none⟩ = some (.int .i32 m.y) ∧ W'.cell? ⟨(ad.add (k * 9)).block, (ad.add (k * 9)).off + 2, none⟩ = some (.int .i32 m.z) ∧
    W'.cell? ⟨(ad.add (k * 9)).block, (ad.add (k * 9)).off + 3, none⟩ = some (.float .f32 ra) ∧ W'.cell? ⟨(ad.add (k * 9)).block, (ad.add (k * 9)).off + 4, none⟩ = some (.float .f32 rb) ∧ W'.cell? ⟨(ad.add (k * 9)).block, (ad.add (k * 9)).off + 5, none⟩ = some (.float .f32 rc) ∧ W'.cell? ⟨(ad.add (k * 9)).block, (ad.add (k * 9)).off + 6, none⟩ = some (.float .f32 rd) ∧ W'.cell? ⟨(ad.add (k * 9)).block, (ad.add (k * 9)).off + 7, none⟩ = some (.int .i64 m.s) ∧ W'.cell? ⟨(ad.add (k * 9)).block, (ad.add (k * 9)).off + 8, none⟩ = some (.int .i64 m.l)) := by
  obtain ⟨ad', e, hbl, hrow⟩ := h k m hk
  cases e
  replace hrow : RowAt mkK W (ad.add (k * 9)) m.ins := hrow
  obtain ⟨cs, hkm, hc⟩ := hrow
  have hl := KMs_len hkm
  have hb : (ad.add (k * 9)).block < W.heap.size := by rw [block_add]; omega
  match cs, hl, hkm with
  | [v0, v1, v2, v3, v4, v5, v6, v7, v8], _, ⟨e0, e1, e2, ⟨ra, e3, f3⟩, ⟨rb, e4, f4⟩, ⟨rc, e5, f5⟩, ⟨rd, e6, f6⟩, e7, e8, _⟩ =>
    cases e0; cases e1; cases e2; cases e3; cases e4; cases e5; cases e6; cases e7; cases e8
    exact ⟨ra, rb, rc, rd, ⟨f3, f4, f5, f6⟩, fun W' hW => ⟨(hW.cell (p := ad.add (k * 9)) hb).trans (hc 0 _ rfl), (hW.cell (p := ⟨(ad.add (k * 9)).block, (ad.add (k * 9)).off + 1, none⟩) hb).trans (hc 1 _ rfl), (hW.cell (p := ⟨(ad.add (k * 9)).block, (ad.add (k * 9)).off + 2, none⟩) hb).trans (hc 2 _ rfl), (hW.cell (p := ⟨(ad.add (k * 9)).block, (ad.add (k * 9)).off + 3, none⟩) hb).trans (hc 3 _ rfl), (hW.cell (p := ⟨(ad.add (k * 9)).block, (ad.add (k * 9)).off + 4, none⟩) hb).trans (hc 4 _ rfl), (hW.cell (p := ⟨(ad.add (k * 9)).block, (ad.add (k * 9)).off + 5, none⟩) hb).trans (hc 5 _ rfl), (hW.cell (p := ⟨(ad.add (k * 9)).block, (ad.add (k * 9)).off + 6, none⟩) hb).trans (hc 6 _ rfl), (hW.cell (p := ⟨(ad.add (k * 9)).block, (ad.add (k * 9)).off + 7, none⟩) hb).trans (hc 7 _ rfl), (hW.cell (p := ⟨(ad.add (k * 9)).block, (ad.add (k * 9)).off + 8, none⟩) hb).trans (hc 8 _ rfl)⟩⟩

def mkZ : Mk := ⟨0, 0, 0, can .f32 0, can .f32 0, can .f32 0, can .f32 0, 0, 0⟩
def cfM (xs : List Mk) (px py pz : Int) (t : Nat) : Int := cmp3 (xs.getD t mkZ).x (xs.getD t mkZ).y (xs.getD t mkZ).z px py pz
def FiI (xs : List Mk) (px py pz : Int) (i : Nat) : Prop := i ≤ xs.length ∧ (∀ t, t < i → cfM xs px py pz t < 0) ∧ (i < xs.length → ¬ cfM xs px py pz i < 0)
theorem FiI.one {xs : List Mk} {px py pz : Int} {i j : Nat} (h : FiI xs px py pz i) (h' : FiI xs px py pz j) : i = j := by
  rcases Nat.lt_trichotomy i j with g | g | g
  · exact absurd (h'.2.1 i g) (h.2.2 (by have := h'.1; omega))
  · exact g
  · exact absurd (h.2.1 j g) (h'.2.2 (by have := h.1; omega))
noncomputable def fiI (xs : List Mk) (px py pz : Int) : Nat := @dite _ (∃ i, FiI xs px py pz i) (Classical.propDecidable _) (fun h => Classical.choose h) (fun _ => 0)
theorem fiI_eq {xs : List Mk} {px py pz : Int} {i : Nat} (h : FiI xs px py pz i) : fiI xs px py pz = i := by
  unfold fiI
  rw [dif_pos ⟨i, h⟩]
  exact (Classical.choose_spec (⟨i, h⟩ : ∃ i, FiI xs px py pz i)).one h
noncomputable def miF (xs : List Mk) (px py pz : Int) : Bool := decide (fiI xs px py pz < xs.length) && decide (cfM xs px py pz (fiI xs px py pz) = 0)
noncomputable def miC (o : Option Nat) (xs : List Mk) (px py pz : Int) : Int := if mapOK o xs then (if miF xs px py pz then 0 else 6) else 1
noncomputable def miM (o : Option Nat) (xs : List Mk) (px py pz : Int) : Mk := if mapOK o xs then (if miF xs px py pz then xs.getD (fiI xs px py pz) mkZ else mkZ) else mkZ
def MkDone (w : World) (code : Int) (m : Mk) (e : Ending) (w' : World) : Prop := ∃ ra rb rc rd, e = .returned (.tuple #[.agg #[.int .i32 m.x, .int .i32 m.y, .int .i32 m.z, .float .f32 ra, .float .f32 rb, .float .f32 rc, .float .f32 rd, .int .i64 m.s, .int .i64 m.l], .int .i64 code]) ∧ (FIs .f32 ra m.a ∧ FIs .f32 rb m.b ∧ FIs .f32 rc m.c ∧ FIs .f32 rd m.d) ∧ Stays w w'

theorem words {W : World} {B : Nat} {A : Option Addr} {xs : List Mk} (hB : B ≤ W.heap.size) (h : Mks W B A xs) : ∃ vv : Nat → MkW, ∀ k, k < xs.length → (vv k).m = xs.getD k mkZ ∧ (FIs .f32 (vv k).a (xs.getD k mkZ).a ∧ FIs .f32 (vv k).b (xs.getD k mkZ).b ∧ FIs .f32 (vv k).c (xs.getD k mkZ).c ∧ FIs .f32 (vv k).d (xs.getD k mkZ).d) ∧ ∃ ad, A = some ad ∧ ∀ W', Stays W W' → (vv k).at_ W' (ad.add (k * 9)) := by
  refine Classical.axiomOfChoice (r := fun k v => k < xs.length → v.m = xs.getD k mkZ ∧ (FIs .f32 v.a (xs.getD k mkZ).a ∧ FIs .f32 v.b (xs.getD k mkZ).b ∧ FIs .f32 v.c (xs.getD k mkZ).c ∧ FIs .f32 v.d (xs.getD k mkZ).d) ∧ ∃ ad, A = some ad ∧ ∀ W', Stays W W' → MkW.at_ v W' (ad.add (k * 9))) fun k => ?_
  by_cases hk : k < xs.length
  · have hg : xs[k]? = some xs[k] := List.getElem?_eq_getElem hk
    have e : xs.getD k mkZ = xs[k] := by rw [List.getD_eq_getElem?_getD, hg]; rfl
    obtain ⟨ad, ea, _, _⟩ := h k _ hg
    subst ea
    obtain ⟨ra, rb, rc, rd, hf, hm⟩ := mark_at hB h hg
    exact ⟨⟨xs[k], ra, rb, rc, rd⟩, fun _ => ⟨e.symm, by rw [e]; exact hf, ad, rfl, fun W' hW' => hm W' hW'⟩⟩
  · exact ⟨⟨mkZ, 0, 0, 0, 0⟩, fun g => absurd g hk⟩

theorem map_up {o : Option Nat} {xs : List Mk} (h : mapOK o xs = true) {px py pz : Int} {k : Nat} (hk : k + 1 < xs.length) (hn : cfM xs px py pz (k + 1) < 0) : cfM xs px py pz k < 0 := by
  unfold mapOK at h
  rw [Bool.and_eq_true] at h
  have hk1 : k < xs.length := by omega
  have g := ((marksOK_iff.1 h.2 (k + 1)) _ (List.getElem?_eq_getElem hk)).2
  have e1 : xs.getD (k + 1) mkZ = xs[k + 1] := by rw [List.getD_eq_getElem?_getD, List.getElem?_eq_getElem hk]; rfl
  have e0 : xs.getD k mkZ = xs[k] := by rw [List.getD_eq_getElem?_getD, List.getElem?_eq_getElem hk1]; rfl
  have g2 := g _ (by omega) (show xs[k + 1 - 1]? = some xs[k] from List.getElem?_eq_getElem hk1)
  unfold cfM at hn ⊢
  rw [e1] at hn
  rw [e0]
  refine cmp3_trans ?_ hn
  revert g2
  unfold mcmp
  intro g2
  first | exact g2 | (rw [cmp3_neg] at g2; omega) | omega
theorem map_mono {o : Option Nat} {xs : List Mk} (h : mapOK o xs = true) {px py pz : Int} : ∀ d a, a + d < xs.length → cfM xs px py pz (a + d) < 0 → cfM xs px py pz a < 0
  | 0, a, _, h2 => h2
  | d + 1, a, hd, h2 => map_mono h d a (by omega) (map_up h (by omega) (by rw [show a + d + 1 = a + (d + 1) by omega]; exact h2))

set_option maxRecDepth 100000 in
set_option maxHeartbeats 4000000 in
theorem c_implMarkIn (v : Value) (o : Option Nat) (xs : List Mk) (px py pz : Int) (w : World) (h : MpV w w.heap.size v o xs) (hn : xs.length ≤ 1048576) :
    Calls Try.prog 25 #[v, .agg #[.int .i32 px, .int .i32 py, .int .i32 pz]] w (MkDone w (miC o xs px py pz) (miM o xs px py pz)) := by
  obtain ⟨sd, A, c, rfl, hfs, h1⟩ := h.val
  have hst : Stays w (((w.alloc (.cells #[.float .f32 sd, .slice A xs.length c] 56)).alloc (.cells #[.int .i32 px, .int .i32 py, .int .i32 pz] 43)).alloc (.cells #[.int .i32 0, .int .i32 0, .int .i32 0, .float .f32 0, .float .f32 0, .float .f32 0, .float .f32 0, .int .i64 0, .int .i64 0] 45)) := by (repeat (first | exact Stays.refl _ | (with_reducible refine Stays.drewN ?_ _) | (with_reducible refine Stays.alloc ?_ _) | (with_reducible refine Stays.drew ?_) | (refine Stays.trans ?_ ‹Stays _ _›)))
  have u0 : (((w.alloc (.cells #[.float .f32 sd, .slice A xs.length c] 56)).alloc (.cells #[.int .i32 px, .int .i32 py, .int .i32 pz] 43)).alloc (.cells #[.int .i32 0, .int .i32 0, .int .i32 0, .float .f32 0, .float .f32 0, .float .f32 0, .float .f32 0, .int .i64 0, .int .i64 0] 45)).heap[w.heap.size]? = some (.cells #[.float .f32 sd, .slice A xs.length c] 56 (0, 0)) := by (repeat (first | (refine heap_top _ _ _ ?_; simp; done) | (with_reducible refine heap_drawn _ _ _ ?_) | (with_reducible refine heap_under _ _ _ ?_ ?_; (simp <;> omega))))
  have u1 : (((w.alloc (.cells #[.float .f32 sd, .slice A xs.length c] 56)).alloc (.cells #[.int .i32 px, .int .i32 py, .int .i32 pz] 43)).alloc (.cells #[.int .i32 0, .int .i32 0, .int .i32 0, .float .f32 0, .float .f32 0, .float .f32 0, .float .f32 0, .int .i64 0, .int .i64 0] 45)).heap[w.heap.size + 1]? = some (.cells #[.int .i32 px, .int .i32 py, .int .i32 pz] 43 (0, 0)) := by (repeat (first | (refine heap_top _ _ _ ?_; simp; done) | (with_reducible refine heap_drawn _ _ _ ?_) | (with_reducible refine heap_under _ _ _ ?_ ?_; (simp <;> omega))))
  have u2 : (((w.alloc (.cells #[.float .f32 sd, .slice A xs.length c] 56)).alloc (.cells #[.int .i32 px, .int .i32 py, .int .i32 pz] 43)).alloc (.cells #[.int .i32 0, .int .i32 0, .int .i32 0, .float .f32 0, .float .f32 0, .float .f32 0, .float .f32 0, .int .i64 0, .int .i64 0] 45)).heap[w.heap.size + 1 + 1]? = some (.cells #[.int .i32 0, .int .i32 0, .int .i32 0, .float .f32 0, .float .f32 0, .float .f32 0, .float .f32 0, .int .i64 0, .int .i64 0] 45 (0, 0)) := by (repeat (first | (refine heap_top _ _ _ ?_; simp; done) | (with_reducible refine heap_drawn _ _ _ ?_) | (with_reducible refine heap_under _ _ _ ?_ ?_; (simp <;> omega))))
  have HW := Lib.hid fun W (hW : Stays (((w.alloc (.cells #[.float .f32 sd, .slice A xs.length c] 56)).alloc (.cells #[.int .i32 px, .int .i32 py, .int .i32 pz] 43)).alloc (.cells #[.int .i32 0, .int .i32 0, .int .i32 0, .float .f32 0, .float .f32 0, .float .f32 0, .float .f32 0, .int .i64 0, .int .i64 0] 45)) W) => And.intro (And.intro (And.intro (row_of hW u0 0) (row_of hW u0 1)) (And.intro (row_of hW u1 0) (And.intro (row_of hW u1 1) (row_of hW u1 2)))) (And.intro (hst.trans hW) ((Below.block hW _ (in_heap u2)).trans u2))
  have kV := Lib.hid fun W (hW : Stays (((w.alloc (.cells #[.float .f32 sd, .slice A xs.length c] 56)).alloc (.cells #[.int .i32 px, .int .i32 py, .int .i32 pz] 43)).alloc (.cells #[.int .i32 0, .int .i32 0, .int .i32 0, .float .f32 0, .float .f32 0, .float .f32 0, .float .f32 0, .int .i64 0, .int .i64 0] 45)) W) => c_implValidMap (.agg #[.float .f32 sd, .slice A xs.length c]) o xs W (h.on (hst.trans hW)) hn
  obtain ⟨vv, hvv⟩ := words (B := w.heap.size) hst.size (h1.below hst)
  clear u0 u1 u2 hfs h h1 hst
  unfold miC miM
  cases hok : mapOK o xs with
  | false =>
    rw [hok] at kV
    simp only [Bool.false_eq_true, if_false]
    clear hok
    go_enter Try.func25, Try.ntmps25
    obtain ⟨⟨⟨q0, q1⟩, q2, q3, q4⟩, _⟩ := HW.out _ (Stays.refl _)
    go_wp2_with fail
    generalize (((w.alloc (.cells #[.float .f32 sd, .slice A xs.length c] 56)).alloc (.cells #[.int .i32 px, .int .i32 py, .int .i32 pz] 43)).alloc (.cells #[.int .i32 0, .int .i32 0, .int .i32 0, .float .f32 0, .float .f32 0, .float .f32 0, .float .f32 0, .int .i64 0, .int .i64 0] 45)) = W0 at HW kV hvv q0 q1 q2 q3 q4 ⊢
    with_reducible refine (kV.out W0 (Stays.refl _)).mono ?_
    rintro e w1 ⟨rfl, hb⟩
    replace hb := Lib.hid (show Stays W0 w1 from hb)
    clear kV q0 q1 q2 q3 q4
    obtain ⟨⟨⟨q0, q1⟩, q2, q3, q4⟩, hst, hres⟩ := HW.out _ hb.out
    go_wp2_with ((refine wpList_store_row rfl _ _ _ rfl _ _ _ rfl rfl hres ?hi ?ho ?h1 ?hB hst ?_); (case hi => kernel_rfl); (case ho => rfl); (case h1 => first | rfl | simp [Value.oneCell']); (case hB => first | omega | (simp <;> omega)); intro w9 hw9 hq9 ho9 hsz9)
    apply end_gd rfl rfl rfl Try.underlying45 rfl (t := 45)
    case hg => exact hq9
    case hi => kernel_rfl
    case hR => exact ⟨_, _, _, _, rfl, ⟨FIs.self (by decide), FIs.self (by decide), FIs.self (by decide), FIs.self (by decide)⟩, hw9⟩
  | true =>
    rw [hok] at kV
    simp only [if_true]
    have hmn := fun d a (g : a + d < xs.length) => map_mono hok (px := px) (py := py) (pz := pz) d a g
    have hcm := fun k (g : k < xs.length) => show cmp3 (vv k).m.x (vv k).m.y (vv k).m.z px py pz = cfM xs px py pz k from by rw [(hvv k g).1]; rfl
    have kB := Lib.hid fun W (hW : Stays (((w.alloc (.cells #[.float .f32 sd, .slice A xs.length c] 56)).alloc (.cells #[.int .i32 px, .int .i32 py, .int .i32 pz] 43)).alloc (.cells #[.int .i32 0, .int .i32 0, .int .i32 0, .float .f32 0, .float .f32 0, .float .f32 0, .float .f32 0, .int .i64 0, .int .i64 0] 45)) W) => c_bsMk 72 #[] (fun _ _ => rfl) px py pz (fun k => cmp3 (vv k).m.x (vv k).m.y (vv k).m.z px py pz) A xs.length c vv W (fun W' hW' k hk => by
      obtain ⟨_, _, ad, e, g⟩ := hvv k hk
      exact ⟨ad, e, g W' (hW.trans hW')⟩) (fun W' hW' k hk => c_mi1 (vv k) px py pz W') (fun a b hab hb' hneg => by
      have h1 := hmn (b - a) a (by omega)
      rw [show a + (b - a) = b by omega] at h1
      simp only [hcm b hb'] at hneg
      simp only [hcm a (by omega)]
      exact h1 hneg) hn
    replace hcm := Lib.hid hcm
    replace hvv := Lib.hid hvv
    clear hok hmn
    generalize hfb : miF xs px py pz = fb
    replace hfb := Lib.hid hfb
    cases fb with
    | false =>
      simp only [Bool.false_eq_true, if_false]
      go_enter Try.func25, Try.ntmps25
      obtain ⟨⟨⟨q0, q1⟩, q2, q3, q4⟩, _⟩ := HW.out _ (Stays.refl _)
      go_wp2_with fail
      generalize (((w.alloc (.cells #[.float .f32 sd, .slice A xs.length c] 56)).alloc (.cells #[.int .i32 px, .int .i32 py, .int .i32 pz] 43)).alloc (.cells #[.int .i32 0, .int .i32 0, .int .i32 0, .float .f32 0, .float .f32 0, .float .f32 0, .float .f32 0, .int .i64 0, .int .i64 0] 45)) = W0 at HW kV hvv kB q0 q1 q2 q3 q4 ⊢
      with_reducible refine (kV.out W0 (Stays.refl _)).mono ?_
      rintro e w1 ⟨rfl, hb⟩
      replace hb := Lib.hid (show Stays W0 w1 from hb)
      clear kV q0 q1 q2 q3 q4
      obtain ⟨⟨⟨q0, q1⟩, q2, q3, q4⟩, hst, hres⟩ := HW.out _ hb.out
      go_wp2_with fail
      with_reducible refine (kB.out _ hb.out).mono ?_
      rintro e w2 ⟨i, hP, rfl, hw2⟩
      replace hb := Lib.hid (hb.out.trans hw2)
      clear hw2 kB hst hres q0 q1 q2 q3 q4
      have hI : FiI xs px py pz i := ⟨hP.1, fun t ht => by rw [← hcm.out t (by have := hP.1; omega)]; exact hP.2.1 t ht, fun g => by rw [← hcm.out i g]; have this : 0 ≤ cmp3 (vv i).m.x (vv i).m.y (vv i).m.z px py pz := hP.2.2 i (Nat.le_refl _) g; omega⟩
      have hfd : (decide (i < xs.length) && decide (cmp3 (vv i).m.x (vv i).m.y (vv i).m.z px py pz = 0)) = false := by
        rw [← hfb.out]
        unfold miF
        rw [fiI_eq hI]
        by_cases g : i < xs.length
        · rw [hcm.out i g]
        · rw [decide_eq_false g]; rfl
      have hii := Lib.hid (fiI_eq hI)
      rw [hfd]
      replace hfb := Lib.hid (hfd.trans rfl)
      clear hfd hI hP
      obtain ⟨⟨⟨q0, q1⟩, q2, q3, q4⟩, hst, hres⟩ := HW.out _ hb.out
      go_wp2_with ((refine wpList_store_row rfl _ _ _ rfl _ _ _ rfl rfl hres ?hi ?ho ?h1 ?hB hst ?_); (case hi => kernel_rfl); (case ho => rfl); (case h1 => first | rfl | simp [Value.oneCell']); (case hB => first | omega | (simp <;> omega)); intro w9 hw9 hq9 ho9 hsz9)
      apply end_gd rfl rfl rfl Try.underlying45 rfl (t := 45)
      case hg => exact hq9
      case hi => kernel_rfl
      case hR => exact ⟨_, _, _, _, rfl, ⟨FIs.self (by decide), FIs.self (by decide), FIs.self (by decide), FIs.self (by decide)⟩, hw9⟩
    | true =>
      simp only [if_true]
      generalize hmr : xs.getD (fiI xs px py pz) mkZ = mr
      replace hmr := Lib.hid hmr
      go_enter Try.func25, Try.ntmps25
      obtain ⟨⟨⟨q0, q1⟩, q2, q3, q4⟩, _⟩ := HW.out _ (Stays.refl _)
      go_wp2_with fail
      generalize (((w.alloc (.cells #[.float .f32 sd, .slice A xs.length c] 56)).alloc (.cells #[.int .i32 px, .int .i32 py, .int .i32 pz] 43)).alloc (.cells #[.int .i32 0, .int .i32 0, .int .i32 0, .float .f32 0, .float .f32 0, .float .f32 0, .float .f32 0, .int .i64 0, .int .i64 0] 45)) = W0 at HW kV hvv kB q0 q1 q2 q3 q4 ⊢
      with_reducible refine (kV.out W0 (Stays.refl _)).mono ?_
      rintro e w1 ⟨rfl, hb⟩
      replace hb := Lib.hid (show Stays W0 w1 from hb)
      clear kV q0 q1 q2 q3 q4
      obtain ⟨⟨⟨q0, q1⟩, q2, q3, q4⟩, hst, hres⟩ := HW.out _ hb.out
      go_wp2_with fail
      with_reducible refine (kB.out _ hb.out).mono ?_
      rintro e w2 ⟨i, hP, rfl, hw2⟩
      replace hb := Lib.hid (hb.out.trans hw2)
      clear hw2 kB hst hres q0 q1 q2 q3 q4
      have hI : FiI xs px py pz i := ⟨hP.1, fun t ht => by rw [← hcm.out t (by have := hP.1; omega)]; exact hP.2.1 t ht, fun g => by rw [← hcm.out i g]; have this : 0 ≤ cmp3 (vv i).m.x (vv i).m.y (vv i).m.z px py pz := hP.2.2 i (Nat.le_refl _) g; omega⟩
      have hfd : (decide (i < xs.length) && decide (cmp3 (vv i).m.x (vv i).m.y (vv i).m.z px py pz = 0)) = true := by
        rw [← hfb.out]
        unfold miF
        rw [fiI_eq hI]
        by_cases g : i < xs.length
        · rw [hcm.out i g]
        · rw [decide_eq_false g]; rfl
      have hii := Lib.hid (fiI_eq hI)
      rw [hfd]
      replace hfb := Lib.hid (hfd.trans rfl)
      clear hfd hI hP
      obtain ⟨⟨⟨q0, q1⟩, q2, q3, q4⟩, hst, hres⟩ := HW.out _ hb.out
      have hil : i < xs.length := by
        have := hfb.out
        rw [Bool.and_eq_true] at this
        exact of_decide_eq_true this.1
      obtain ⟨hvm, hvf, ad, ea, hva⟩ := hvv.out i hil
      subst ea
      have hil' : (i : Int) < (xs.length : Int) := by omega
      have hc := hva w2 hb.out
      unfold MkW.at_ at hc
      obtain ⟨c0, c1, c2, c3, c4, c5, c6, c7, c8⟩ := hc
      have hR : Hid (MkDone w 0 (vv i).m (.returned (.tuple #[.agg #[.int .i32 (vv i).m.x, .int .i32 (vv i).m.y, .int .i32 (vv i).m.z, .float .f32 (vv i).a, .float .f32 (vv i).b, .float .f32 (vv i).c, .float .f32 (vv i).d, .int .i64 (vv i).m.s, .int .i64 (vv i).m.l], .int .i64 0])) w) := Lib.hid ⟨_, _, _, _, rfl, by rw [hvm]; exact hvf, Stays.refl _⟩
      have hgoal : Hid (mr = (vv i).m) := Lib.hid (by rw [← hmr.out, hii.out, hvm])
      clear hva hvm hvf
      generalize vv i = y at c0 c1 c2 c3 c4 c5 c6 c7 c8 hR hgoal
      obtain ⟨m, a, b, c', d⟩ := y
      go_wp2_with ((refine wpList_store_row rfl _ _ _ rfl _ _ _ rfl rfl hres ?hi ?ho ?h1 ?hB hst ?_); (case hi => kernel_rfl); (case ho => rfl); (case h1 => first | rfl | simp [Value.oneCell']); (case hB => first | omega | (simp <;> omega)); intro w9 hw9 hq9 ho9 hsz9)
      apply end_gd rfl rfl rfl Try.underlying45 rfl (t := 45)
      case hg => exact hq9
      case hi => kernel_rfl
      case hR =>
        obtain ⟨_, _, _, _, e, hf, _⟩ := hR.out
        cases e
        rw [hgoal.out]
        exact ⟨_, _, _, _, rfl, hf, hw9⟩

set_option maxRecDepth 100000 in
set_option maxHeartbeats 4000000 in
theorem c_specMarkIn (v : Value) (o : Option Nat) (xs : List Mk) (px py pz : Int) (w : World) (h : MpV w w.heap.size v o xs) (hn : xs.length ≤ 1048576) :
    Calls Try.prog 22 #[v, .agg #[.int .i32 px, .int .i32 py, .int .i32 pz]] w (MkDone w (miC o xs px py pz) (miM o xs px py pz)) := by
  obtain ⟨sd, A, c, rfl, hfs, h1⟩ := h.val
  have hst : Stays w (((w.alloc (.cells #[.float .f32 sd, .slice A xs.length c] 56)).alloc (.cells #[.int .i32 px, .int .i32 py, .int .i32 pz] 43)).alloc (.cells #[.int .i32 0, .int .i32 0, .int .i32 0, .float .f32 0, .float .f32 0, .float .f32 0, .float .f32 0, .int .i64 0, .int .i64 0] 45)) := by (repeat (first | exact Stays.refl _ | (with_reducible refine Stays.drewN ?_ _) | (with_reducible refine Stays.alloc ?_ _) | (with_reducible refine Stays.drew ?_) | (refine Stays.trans ?_ ‹Stays _ _›)))
  have u0 : (((w.alloc (.cells #[.float .f32 sd, .slice A xs.length c] 56)).alloc (.cells #[.int .i32 px, .int .i32 py, .int .i32 pz] 43)).alloc (.cells #[.int .i32 0, .int .i32 0, .int .i32 0, .float .f32 0, .float .f32 0, .float .f32 0, .float .f32 0, .int .i64 0, .int .i64 0] 45)).heap[w.heap.size]? = some (.cells #[.float .f32 sd, .slice A xs.length c] 56 (0, 0)) := by (repeat (first | (refine heap_top _ _ _ ?_; simp; done) | (with_reducible refine heap_drawn _ _ _ ?_) | (with_reducible refine heap_under _ _ _ ?_ ?_; (simp <;> omega))))
  have u1 : (((w.alloc (.cells #[.float .f32 sd, .slice A xs.length c] 56)).alloc (.cells #[.int .i32 px, .int .i32 py, .int .i32 pz] 43)).alloc (.cells #[.int .i32 0, .int .i32 0, .int .i32 0, .float .f32 0, .float .f32 0, .float .f32 0, .float .f32 0, .int .i64 0, .int .i64 0] 45)).heap[w.heap.size + 1]? = some (.cells #[.int .i32 px, .int .i32 py, .int .i32 pz] 43 (0, 0)) := by (repeat (first | (refine heap_top _ _ _ ?_; simp; done) | (with_reducible refine heap_drawn _ _ _ ?_) | (with_reducible refine heap_under _ _ _ ?_ ?_; (simp <;> omega))))
  have u2 : (((w.alloc (.cells #[.float .f32 sd, .slice A xs.length c] 56)).alloc (.cells #[.int .i32 px, .int .i32 py, .int .i32 pz] 43)).alloc (.cells #[.int .i32 0, .int .i32 0, .int .i32 0, .float .f32 0, .float .f32 0, .float .f32 0, .float .f32 0, .int .i64 0, .int .i64 0] 45)).heap[w.heap.size + 1 + 1]? = some (.cells #[.int .i32 0, .int .i32 0, .int .i32 0, .float .f32 0, .float .f32 0, .float .f32 0, .float .f32 0, .int .i64 0, .int .i64 0] 45 (0, 0)) := by (repeat (first | (refine heap_top _ _ _ ?_; simp; done) | (with_reducible refine heap_drawn _ _ _ ?_) | (with_reducible refine heap_under _ _ _ ?_ ?_; (simp <;> omega))))
  have HW := Lib.hid fun W (hW : Stays (((w.alloc (.cells #[.float .f32 sd, .slice A xs.length c] 56)).alloc (.cells #[.int .i32 px, .int .i32 py, .int .i32 pz] 43)).alloc (.cells #[.int .i32 0, .int .i32 0, .int .i32 0, .float .f32 0, .float .f32 0, .float .f32 0, .float .f32 0, .int .i64 0, .int .i64 0] 45)) W) => And.intro (And.intro (And.intro (row_of hW u0 0) (row_of hW u0 1)) (And.intro (row_of hW u1 0) (And.intro (row_of hW u1 1) (row_of hW u1 2)))) (And.intro (hst.trans hW) ((Below.block hW _ (in_heap u2)).trans u2))
  have kV := Lib.hid (c_l05Ok w.heap.size sd o hfs A c xs (((w.alloc (.cells #[.float .f32 sd, .slice A xs.length c] 56)).alloc (.cells #[.int .i32 px, .int .i32 py, .int .i32 pz] 43)).alloc (.cells #[.int .i32 0, .int .i32 0, .int .i32 0, .float .f32 0, .float .f32 0, .float .f32 0, .float .f32 0, .int .i64 0, .int .i64 0] 45)) u0 ((h1.below hst).more hst.size) hn)
  obtain ⟨vv, hvv⟩ := words (B := w.heap.size) hst.size (h1.below hst)
  clear u0 u1 u2 hfs h h1 hst
  unfold miC miM
  cases hok : mapOK o xs with
  | false =>
    rw [hok] at kV
    simp only [Bool.false_eq_true, if_false]
    clear hok
    go_enter Try.func22, Try.ntmps22
    go_wp2_with fail
    generalize (((w.alloc (.cells #[.float .f32 sd, .slice A xs.length c] 56)).alloc (.cells #[.int .i32 px, .int .i32 py, .int .i32 pz] 43)).alloc (.cells #[.int .i32 0, .int .i32 0, .int .i32 0, .float .f32 0, .float .f32 0, .float .f32 0, .float .f32 0, .int .i64 0, .int .i64 0] 45)) = W0 at HW kV hvv ⊢
    with_reducible refine (kV.out).mono ?_
    rintro e w1 ⟨rfl, hb⟩
    replace hb := Lib.hid (show Stays W0 w1 from hb)
    clear kV
    obtain ⟨⟨⟨q0, q1⟩, q2, q3, q4⟩, hst, hres⟩ := HW.out _ hb.out
    go_wp2_with ((refine wpList_store_row rfl _ _ _ rfl _ _ _ rfl rfl hres ?hi ?ho ?h1 ?hB hst ?_); (case hi => kernel_rfl); (case ho => rfl); (case h1 => first | rfl | simp [Value.oneCell']); (case hB => first | omega | (simp <;> omega)); intro w9 hw9 hq9 ho9 hsz9)
    apply end_gd rfl rfl rfl Try.underlying45 rfl (t := 45)
    case hg => exact hq9
    case hi => kernel_rfl
    case hR => exact ⟨_, _, _, _, rfl, ⟨FIs.self (by decide), FIs.self (by decide), FIs.self (by decide), FIs.self (by decide)⟩, hw9⟩
  | true =>
    rw [hok] at kV
    simp only [if_true]
    have hmn := fun d a (g : a + d < xs.length) => map_mono hok (px := px) (py := py) (pz := pz) d a g
    have hcm := fun k (g : k < xs.length) => show cmp3 (vv k).m.x (vv k).m.y (vv k).m.z px py pz = cfM xs px py pz k from by rw [(hvv k g).1]; rfl
    have kB := Lib.hid fun W (hW : Stays (((w.alloc (.cells #[.float .f32 sd, .slice A xs.length c] 56)).alloc (.cells #[.int .i32 px, .int .i32 py, .int .i32 pz] 43)).alloc (.cells #[.int .i32 0, .int .i32 0, .int .i32 0, .float .f32 0, .float .f32 0, .float .f32 0, .float .f32 0, .int .i64 0, .int .i64 0] 45)) W) => c_l05Find px py pz A xs.length c vv W (fun W' hW' k hk => by
      obtain ⟨_, _, ad, e, g⟩ := hvv k hk
      exact ⟨ad, e, g W' (hW.trans hW')⟩) hn
    replace hcm := Lib.hid hcm
    replace hvv := Lib.hid hvv
    clear hok hmn
    generalize hfb : miF xs px py pz = fb
    replace hfb := Lib.hid hfb
    cases fb with
    | false =>
      simp only [Bool.false_eq_true, if_false]
      go_enter Try.func22, Try.ntmps22
      go_wp2_with fail
      generalize (((w.alloc (.cells #[.float .f32 sd, .slice A xs.length c] 56)).alloc (.cells #[.int .i32 px, .int .i32 py, .int .i32 pz] 43)).alloc (.cells #[.int .i32 0, .int .i32 0, .int .i32 0, .float .f32 0, .float .f32 0, .float .f32 0, .float .f32 0, .int .i64 0, .int .i64 0] 45)) = W0 at HW kV hvv kB ⊢
      with_reducible refine (kV.out).mono ?_
      rintro e w1 ⟨rfl, hb⟩
      replace hb := Lib.hid (show Stays W0 w1 from hb)
      clear kV
      obtain ⟨⟨⟨q0, q1⟩, q2, q3, q4⟩, hst, hres⟩ := HW.out _ hb.out
      go_wp2_with fail
      with_reducible refine (kB.out _ hb.out).mono ?_
      rintro e w2 ⟨i, hP, rfl, hw2⟩
      replace hb := Lib.hid (hb.out.trans hw2)
      clear hw2 kB hst hres q0 q1 q2 q3 q4
      have hI : FiI xs px py pz i := ⟨hP.1, fun t ht => by rw [← hcm.out t (by have := hP.1; omega)]; exact hP.2.1 t ht, fun g => by rw [← hcm.out i g]; have := hP.2.2 g; omega⟩
      have hfd : (decide (i < xs.length) && decide (cmp3 (vv i).m.x (vv i).m.y (vv i).m.z px py pz = 0)) = false := by
        rw [← hfb.out]
        unfold miF
        rw [fiI_eq hI]
        by_cases g : i < xs.length
        · rw [hcm.out i g]
        · rw [decide_eq_false g]; rfl
      have hii := Lib.hid (fiI_eq hI)
      rw [hfd]
      replace hfb := Lib.hid (hfd.trans rfl)
      clear hfd hI hP
      obtain ⟨⟨⟨q0, q1⟩, q2, q3, q4⟩, hst, hres⟩ := HW.out _ hb.out
      go_wp2_with ((refine wpList_store_row rfl _ _ _ rfl _ _ _ rfl rfl hres ?hi ?ho ?h1 ?hB hst ?_); (case hi => kernel_rfl); (case ho => rfl); (case h1 => first | rfl | simp [Value.oneCell']); (case hB => first | omega | (simp <;> omega)); intro w9 hw9 hq9 ho9 hsz9)
      apply end_gd rfl rfl rfl Try.underlying45 rfl (t := 45)
      case hg => exact hq9
      case hi => kernel_rfl
      case hR => exact ⟨_, _, _, _, rfl, ⟨FIs.self (by decide), FIs.self (by decide), FIs.self (by decide), FIs.self (by decide)⟩, hw9⟩
    | true =>
      simp only [if_true]
      generalize hmr : xs.getD (fiI xs px py pz) mkZ = mr
      replace hmr := Lib.hid hmr
      go_enter Try.func22, Try.ntmps22
      go_wp2_with fail
      generalize (((w.alloc (.cells #[.float .f32 sd, .slice A xs.length c] 56)).alloc (.cells #[.int .i32 px, .int .i32 py, .int .i32 pz] 43)).alloc (.cells #[.int .i32 0, .int .i32 0, .int .i32 0, .float .f32 0, .float .f32 0, .float .f32 0, .float .f32 0, .int .i64 0, .int .i64 0] 45)) = W0 at HW kV hvv kB ⊢
      with_reducible refine (kV.out).mono ?_
      rintro e w1 ⟨rfl, hb⟩
      replace hb := Lib.hid (show Stays W0 w1 from hb)
      clear kV
      obtain ⟨⟨⟨q0, q1⟩, q2, q3, q4⟩, hst, hres⟩ := HW.out _ hb.out
      go_wp2_with fail
      with_reducible refine (kB.out _ hb.out).mono ?_
      rintro e w2 ⟨i, hP, rfl, hw2⟩
      replace hb := Lib.hid (hb.out.trans hw2)
      clear hw2 kB hst hres q0 q1 q2 q3 q4
      have hI : FiI xs px py pz i := ⟨hP.1, fun t ht => by rw [← hcm.out t (by have := hP.1; omega)]; exact hP.2.1 t ht, fun g => by rw [← hcm.out i g]; have := hP.2.2 g; omega⟩
      have hfd : (decide (i < xs.length) && decide (cmp3 (vv i).m.x (vv i).m.y (vv i).m.z px py pz = 0)) = true := by
        rw [← hfb.out]
        unfold miF
        rw [fiI_eq hI]
        by_cases g : i < xs.length
        · rw [hcm.out i g]
        · rw [decide_eq_false g]; rfl
      have hii := Lib.hid (fiI_eq hI)
      rw [hfd]
      replace hfb := Lib.hid (hfd.trans rfl)
      clear hfd hI hP
      obtain ⟨⟨⟨q0, q1⟩, q2, q3, q4⟩, hst, hres⟩ := HW.out _ hb.out
      have hil : i < xs.length := by
        have := hfb.out
        rw [Bool.and_eq_true] at this
        exact of_decide_eq_true this.1
      obtain ⟨hvm, hvf, ad, ea, hva⟩ := hvv.out i hil
      subst ea
      have hil' : (i : Int) < (xs.length : Int) := by omega
      have hc := hva w2 hb.out
      unfold MkW.at_ at hc
      obtain ⟨c0, c1, c2, c3, c4, c5, c6, c7, c8⟩ := hc
      have hR : Hid (MkDone w 0 (vv i).m (.returned (.tuple #[.agg #[.int .i32 (vv i).m.x, .int .i32 (vv i).m.y, .int .i32 (vv i).m.z, .float .f32 (vv i).a, .float .f32 (vv i).b, .float .f32 (vv i).c, .float .f32 (vv i).d, .int .i64 (vv i).m.s, .int .i64 (vv i).m.l], .int .i64 0])) w) := Lib.hid ⟨_, _, _, _, rfl, by rw [hvm]; exact hvf, Stays.refl _⟩
      have hgoal : Hid (mr = (vv i).m) := Lib.hid (by rw [← hmr.out, hii.out, hvm])
      clear hva hvm hvf
      generalize vv i = y at c0 c1 c2 c3 c4 c5 c6 c7 c8 hR hgoal
      obtain ⟨m, a, b, c', d⟩ := y
      go_wp2_with ((refine wpList_store_row rfl _ _ _ rfl _ _ _ rfl rfl hres ?hi ?ho ?h1 ?hB hst ?_); (case hi => kernel_rfl); (case ho => rfl); (case h1 => first | rfl | simp [Value.oneCell']); (case hB => first | omega | (simp <;> omega)); intro w9 hw9 hq9 ho9 hsz9)
      apply end_gd rfl rfl rfl Try.underlying45 rfl (t := 45)
      case hg => exact hq9
      case hi => kernel_rfl
      case hR =>
        obtain ⟨_, _, _, _, e, hf, _⟩ := hR.out
        cases e
        rw [hgoal.out]
        exact ⟨_, _, _, _, rfl, hf, hw9⟩

end Go.Proofs.Ytmcbeaihjdnelaa
