/- Whether a fleet is valid, on both sides. No condition. -/
import Derived.Test.YtcopccniijkceaaFvc
import Derived.Test.YtcopccniijkceaaSv
import Derived.Deep.CutRange
import Derived.Deep.RegionHeld
namespace Go.Proofs.Ytcopccniijkceaa
open Go Go.RowKit
set_option linter.unusedVariables false
set_option linter.unusedSimpArgs false


def geZ (o : Option Nat) : Bool := ford .f32 o (some 0) == some .gt || ford .f32 o (some 0) == some .eq
def ltZ (o : Option Nat) : Bool := ford .f32 o (some 0) == some .lt
theorem geZ_of (r : Nat) : (FloatKind.f32.format.order r 0 == some Ordering.gt || FloatKind.f32.format.order r 0 == some Ordering.eq) = geZ (can .f32 r) := by
  rw [order_can]; rfl
theorem ltZ_of (r : Nat) : (FloatKind.f32.format.order r 0 == some Ordering.lt) = ltZ (can .f32 r) := by
  rw [order_can]; rfl
theorem ord_num {x y : Nat} (hx : (Ieee.single.read x).isNaN = false) (hy : (Ieee.single.read y).isNaN = false) : ∃ o, Ieee.single.order x y = some o := by
  unfold Ieee.Format.order
  cases hx' : Ieee.single.read x with
  | nan => rw [hx'] at hx; cases hx
  | infinity s =>
    cases hy' : Ieee.single.read y with
    | nan => rw [hy'] at hy; cases hy
    | infinity t => exact ⟨_, rfl⟩
    | number t n q => exact ⟨_, rfl⟩
  | number s m p =>
    cases hy' : Ieee.single.read y with
    | nan => rw [hy'] at hy; cases hy
    | infinity t => exact ⟨_, rfl⟩
    | number t n q => exact ⟨_, rfl⟩
theorem ge_lt {r : Nat} (h : finB (can .f32 r) = true) : ltZ (can .f32 r) = !geZ (can .f32 r) := by
  rw [← ltZ_of, ← geZ_of]
  have hr : (Ieee.single.read r).isNaN = false := by
    rw [can32] at h
    cases e : (Ieee.single.read r).isNaN
    · rfl
    · have e' : (Ieee.single.read r).isNaN = true := e
      rw [e', if_pos rfl] at h
      cases h
  obtain ⟨o, ho⟩ := ord_num hr (show (Ieee.single.read 0).isNaN = false from by decide)
  have ho : FloatKind.f32.format.order r 0 = some o := ho
  rw [ho]
  cases o <;> rfl
theorem fin_of {o : Option Nat} (h1 : posB o = true) (h2 : leM o = true) : finB o = true := by
  cases o with
  | none => cases h1
  | some b =>
    show (!(Ieee.single.read b).isInfinity) = true
    cases e : Ieee.single.read b with
    | nan => rfl
    | number s m p => rfl
    | infinity s =>
      exfalso
      have kM : (Ieee.single.read 1232348160).isNaN = false ∧ (Ieee.single.read 1232348160).isInfinity = false := by decide
      have k0 : (Ieee.single.read 0).isNaN = false ∧ (Ieee.single.read 0).isInfinity = false := by decide
      have h1 : (Ieee.single.order b 0 == some Ordering.gt) = true := h1
      have h2 : (Ieee.single.order b 1232348160 == some Ordering.lt || Ieee.single.order b 1232348160 == some Ordering.eq) = true := h2
      unfold Ieee.Format.order at h1 h2
      rw [e] at h1 h2
      cases hM : Ieee.single.read 1232348160 with
      | nan => rw [hM] at kM; cases kM.1
      | infinity t => rw [hM] at kM; cases kM.2
      | number t m p =>
        cases h0 : Ieee.single.read 0 with
        | nan => rw [h0] at k0; cases k0.1
        | infinity t => rw [h0] at k0; cases k0.2
        | number t0 m0 p0 =>
          rw [h0] at h1
          rw [hM] at h2
          cases s
          · cases h2
          · cases h1
def leastB (o : Option Nat) : Bool := finB o && geZ o
theorem c_l03Least (a : Nat) (w : World) : Calls Try.prog 96 #[.float .f32 a] w fun e w' => e = .returned (.bool (leastB (can .f32 a))) ∧ Stays w w' := by
  have hp := geZ_of a
  unfold leastB
  generalize hf : finB (can .f32 a) = f
  have hf := Lib.hid hf
  generalize geZ (can .f32 a) = p at hp ⊢
  cases p
  all_goals
    go_enter Try.func96, Try.ntmps96
    go_wp2_with (go_at_call 127; refine (c_l01Finite a _).mono ?_; rintro e w1 ⟨rfl, hw1⟩; rw [hf.out])
    go_ret
    refine ⟨ret_b (by simp [hp]), ?_⟩
    first | exact hw1 | exact hw1.drewN _ | (exact (Stays.refl _)) | exact (Stays.refl _).drewN _
def goodR (o : Option Nat) (xs : List (List NV)) : Prop := xs.length ≤ 16 ∧ ∀ (k : Nat) (r : List NV), xs[k]? = some r → sightB o r = true
def goodS (o : Option Nat) (xss : List (List (List NV))) : Prop := ∀ (i : Nat) (xs : List (List NV)), xss[i]? = some xs → goodR o xs
open Classical in
noncomputable def rowsOK (o : Option Nat) (xss : List (List (List NV))) : Bool := decide (goodS o xss)
theorem rowsOK_iff {o : Option Nat} {xss : List (List (List NV))} : rowsOK o xss = true ↔ goodS o xss := @decide_eq_true_iff _ (Classical.propDecidable _)
theorem rowsOK_bad {o : Option Nat} {xss : List (List (List NV))} {i : Nat} {xs : List (List NV)} (h : xss[i]? = some xs) (hb : ¬ goodR o xs) : rowsOK o xss = false := Bool.eq_false_iff.2 fun g => hb (rowsOK_iff.1 g i xs h)
noncomputable def fleetB (o og : Option Nat) (xss : List (List (List NV))) : Bool := (finB o && posB o) && leastB og && decide (1 ≤ xss.length ∧ xss.length ≤ 4) && rowsOK o xss
def clS (F : FuncId) (cd : Int) (f : FuncId) (args : Array Value) (v : Value) : Prop := f = F → ∃ p0 p1 p2, v = .tuple #[.agg #[.int .i32 p0, .int .i32 p1, .int .i32 p2], .int .i64 cd]
theorem sightS {o : Option Nat} {r : List NV} : sightB o r = (decide (cellK o (r.getD 0 (.i 0)).gf (r.getD 1 (.i 0)).gf (r.getD 2 (.i 0)).gf = 0) && (posB (r.getD 3 (.i 0)).gf && leM (r.getD 3 (.i 0)).gf) && okTime (r.getD 4 (.i 0)).gi) := by
  unfold sightB
  cases hp : posB (r.getD 3 (.i 0)).gf
  · simp
  · cases hm : leM (r.getD 3 (.i 0)).gf
    · simp
    · rw [fin_of hp hm]; simp

/-- A box for a place that is still empty. -/
structure ZP (w : World) (B p : Nat) : Prop where
  ge : B ≤ p
  row : w.heap[p]? = some (.cells #[.int .i32 0, .int .i32 0, .int .i32 0] 154 (0, 0))
theorem ZP.new {B : Nat} (w : World) (h : B ≤ w.heap.size) : ZP (w.alloc (.cells #[.int .i32 0, .int .i32 0, .int .i32 0] 154)) B w.heap.size := ⟨h, heap_alloc_new w _⟩
theorem ZP.newD (w : World) : ZP (w.drew.alloc (.cells #[.int .i32 0, .int .i32 0, .int .i32 0] 154)) w.heap.size w.heap.size := ZP.new w.drew (Nat.le_refl _)
theorem ZP.below {w w' : World} {B p : Nat} (h : ZP w B p) (hb : Stays w w') : ZP w' B p := ⟨h.ge, (Below.block hb _ (in_heap h.row)).trans h.row⟩
theorem ZP.cells {w : World} {B p : Nat} (h : ZP w B p) : (w.cell? ⟨p, 0, none⟩ = some (.int .i32 0) ∧ w.cell? ⟨p, 1, none⟩ = some (.int .i32 0) ∧ w.cell? ⟨p, 2, none⟩ = some (.int .i32 0)) ∧ w.frozen? ⟨p, 0, none⟩ = false ∧ w.frozen? ⟨p, 1, none⟩ = false ∧ w.frozen? ⟨p, 2, none⟩ = false :=
  ⟨⟨cell_of_row _ _ _ _ _ _ h.row, cell_of_row _ _ _ _ _ _ h.row, cell_of_row _ _ _ _ _ _ h.row⟩, frozen_of_row _ _ _ _ _ h.row, frozen_of_row _ _ _ _ _ h.row, frozen_of_row _ _ _ _ _ h.row⟩
theorem ZP.stays {W w : World} {p : Nat} (h : Stays W w) (hz : ZP w W.heap.size p) (a b c : Int) : Stays W (((w.setCell ⟨p, 0, none⟩ (.int .i32 a)).setCell ⟨p, 1, none⟩ (.int .i32 b)).setCell ⟨p, 2, none⟩ (.int .i32 c)) :=
  Below.setCell (Below.setCell (Below.setCell (show Below W.heap.size W w from h) hz.ge _) hz.ge _) hz.ge _
theorem good_next {o : Option Nat} {xs : List (List NV)} {k : Nat} {r : List NV} (h : ∀ (j : Nat) (r : List NV), j < k → xs[j]? = some r → sightB o r = true) (hr : xs[k]? = some r) (hb : sightB o r = true) : ∀ (j : Nat) (r : List NV), j < k + 1 → xs[j]? = some r → sightB o r = true := fun j r' hj hx => by
  by_cases e : j = k
  · subst e
    rw [hr] at hx
    cases hx
    exact hb
  · exact h j r' (by omega) hx
theorem rows_next {o : Option Nat} {xss : List (List (List NV))} {i : Nat} {xs : List (List NV)} (h : ∀ (j : Nat) (xs : List (List NV)), j < i → xss[j]? = some xs → goodR o xs) (hx : xss[i]? = some xs) (hb : goodR o xs) : ∀ (j : Nat) (xs : List (List NV)), j < i + 1 → xss[j]? = some xs → goodR o xs := fun j ys hj hy => by
  by_cases e : j = i
  · subst e
    rw [hx] at hy
    cases hy
    exact hb
  · exact h j ys (by omega) hy
theorem rows_end {o : Option Nat} {xss : List (List (List NV))} {i : Nat} (hi : xss.length ≤ i) (h : ∀ (j : Nat) (xs : List (List NV)), j < i → xss[j]? = some xs → goodR o xs) : rowsOK o xss = true := rowsOK_iff.2 fun j xs hx => h j xs (by have := (List.getElem?_eq_some_iff.1 hx).1; omega) hx
set_option maxRecDepth 100000 in
set_option maxHeartbeats 4000000 in
theorem c_l09Ok (p s g : Nat) (o og : Option Nat) (hf : FIs .f32 s o) (hgf : FIs .f32 g og) (A : Option Addr) (c : Nat) (xss : List (List (List NV))) (w : World) (hg : w.heap[p]? = some (.cells #[.float .f32 s, .float .f32 g, .slice A xss.length c] 30 (0, 0))) (h : LsS w w.heap.size A xss) (hn : xss.length ≤ 1048576) :
    Calls Try.prog 51 #[.pointer (some ⟨p, 0, none⟩)] w fun e w' => e = .returned (.bool (fleetB o og xss)) ∧ Stays w w' := by
  have H := Lib.hid h
  have HB := Lib.hid fun W (hW : Stays w W) => And.intro (row_of hW hg 0) (And.intro (row_of hW hg 1) (row_of hW hg 2))
  have kS : ∀ W, Calls Try.prog 95 #[.float .f32 s] W fun e w' => e = .returned (.bool (finB o && posB o)) ∧ Stays W w' := fun W => by
    have := c_l05Side s W
    rw [hf.out] at this
    exact this
  have kL : ∀ W, Calls Try.prog 96 #[.float .f32 g] W fun e w' => e = .returned (.bool (leastB og)) ∧ Stays W w' := fun W => by
    have := c_l03Least g W
    rw [hgf.out] at this
    exact this
  have kI := fun W => c_l00In (xss.length : Nat) 1 4 W
  unfold fleetB
  have hdec : decide ((1 : Int) ≤ (xss.length : Nat) ∧ ((xss.length : Nat) : Int) ≤ 4) = decide (1 ≤ xss.length ∧ xss.length ≤ 4) := by
    by_cases h : 1 ≤ xss.length ∧ xss.length ≤ 4
    · rw [decide_eq_true h, decide_eq_true (by omega)]
    · rw [decide_eq_false h, decide_eq_false (by omega)]
  rw [hdec] at kI
  clear hdec h hg
  have hS := Stays.refl w
  obtain ⟨q0, q1, q2⟩ := HB.out _ hS
  have hbb : (((finB o && posB o) && leastB og && decide (1 ≤ xss.length ∧ xss.length ≤ 4) && rowsOK o xss) = (rowsOK o xss && (finB o && posB o) && leastB og && decide (1 ≤ xss.length ∧ xss.length ≤ 4))) := by
    cases (finB o && posB o) <;> cases leastB og <;> cases rowsOK o xss <;> simp
  clear hbb
  generalize (finB o && posB o) = sb at kS ⊢
  generalize leastB og = lb at kL ⊢
  replace kS := Lib.hid kS
  replace kL := Lib.hid kL
  by_cases h3 : sb = true ∧ lb = true ∧ 1 ≤ xss.length ∧ xss.length ≤ 4
  · obtain ⟨rfl, rfl, hn1, hn4⟩ := h3
    have hdt : decide (1 ≤ xss.length ∧ xss.length ≤ 4) = true := decide_eq_true ⟨hn1, hn4⟩
    rw [hdt] at kI ⊢
    replace kI := Lib.hid kI
    simp only [Bool.true_and]
    clear hdt
    go_enter Try.func51, Try.ntmps51
    go_wp2_with (first
      | (go_at_call 95; refine (kS.out _).mono ?_; rintro e w1 ⟨rfl, hw1⟩; replace hS := Stays.trans hS hw1; clear q0 q1 q2 hw1; obtain ⟨q0, q1, q2⟩ := HB.out _ hS)
      | (go_at_call 96; refine (kL.out _).mono ?_; rintro e w1 ⟨rfl, hw1⟩; replace hS := Stays.trans hS hw1; clear q0 q1 q2 hw1; obtain ⟨q0, q1, q2⟩ := HB.out _ hS)
      | (go_at_call 97; refine (kI.out _).mono ?_; rintro e w1 ⟨rfl, rfl⟩))
    replace hS := Lib.hid hS
    clear q0 q1 q2
    go_loopw [3] (fun iv wr => ∃ i : Nat, i ≤ xss.length ∧ iv = .int .i64 (i : Nat) ∧ Hid (∀ (j : Nat) (xs : List (List NV)), j < i → xss[j]? = some xs → goodR o xs) ∧ Hid (Stays w wr)) (fun iv _ => xss.length - (intOf iv).toNat)
    case atStart => exact ⟨0, Nat.zero_le _, rfl, Lib.hid (fun j _ hj => by omega), hS⟩
    case round =>
      clear hS
      obtain ⟨i, hi, rfl, hgd, hb⟩ := hrel
      obtain ⟨q0, q1, q2⟩ := HB.out _ hb.out
      by_cases hlt : i < xss.length
      · have hlt' : (i : Int) < (xss.length : Int) := by omega
        obtain ⟨ad, A', c', rfl, hbl, hc, hl, hm⟩ := H.out i xss[i] (List.getElem?_eq_getElem hlt)
        have hxi := Lib.hid (List.getElem?_eq_getElem hlt)
        generalize xss[i] = xs at hc hl hm hxi
        have HC := Lib.hid fun W (hW : Stays w W) => (hW.cell (p := ad.add i) (by rw [block_add]; exact hbl)).trans hc
        replace hl := Lib.hid hl
        have bad := Lib.hid fun h => rowsOK_bad (o := o) hxi.out h
        clear hc
        have hci := HC.out _ hb.out
        by_cases h16 : xs.length ≤ 16
        · have h16' : ¬ ((xs.length : Nat) : Int) > 16 := by omega
          go_wp2_with fail
          clear q0 q1 q2 hci
          go_loopw [4] (fun kv wr => ∃ k : Nat, k ≤ xs.length ∧ kv = .int .i64 (k : Nat) ∧ Hid (∀ (j : Nat) (r : List NV), j < k → xs[j]? = some r → sightB o r = true) ∧ Hid (Stays w wr)) (fun kv _ => xs.length - (intOf kv).toNat)
          case atStart => exact ⟨0, Nat.zero_le _, rfl, Lib.hid (fun j _ hj => by omega), hb⟩
          case round =>
            clear hb
            obtain ⟨k, hk, rfl, hgk, hb⟩ := hrel
            obtain ⟨q0, q1, q2⟩ := HB.out _ hb.out
            have hci := HC.out _ hb.out
            by_cases hkl : k < xs.length
            · have hk' : (k : Int) < (xs.length : Int) := by omega
              obtain ⟨ad2, rfl, hbl2, hrow⟩ := hl.out k xs[k] (List.getElem?_eq_getElem hkl)
              have hxk := Lib.hid (List.getElem?_eq_getElem hkl)
              generalize xs[k] = rr at hrow hxk
              have nx := Lib.hid fun h => good_next hgk.out hxk.out h
              have bdk := Lib.hid fun (h : sightB o rr = false) => bad.out fun hg => by rw [hg.2 k rr hxk.out] at h; cases h
              have hA2 : ∀ n, (ad2.add n).block < w.heap.size := fun n => by rw [block_add]; exact hbl2
              obtain ⟨c0, c1, c2, c3, c4, hK, g0, g1, g2, g3, g4⟩ := row5 rfl hrow
              obtain ⟨x, y, z, d, t, ecs, fx, fy, fz, fd, ft⟩ := sight_cs hK
              cases ecs
              have G : Hid (∀ w', Stays w w' → w'.cell? (ad2.add (k * 5)) = some (.float .f32 x) ∧ w'.cell? ⟨(ad2.add (k * 5)).block, (ad2.add (k * 5)).off + 1, none⟩ = some (.float .f32 y) ∧ w'.cell? ⟨(ad2.add (k * 5)).block, (ad2.add (k * 5)).off + 2, none⟩ = some (.float .f32 z) ∧ w'.cell? ⟨(ad2.add (k * 5)).block, (ad2.add (k * 5)).off + 3, none⟩ = some (.float .f32 d) ∧ w'.cell? ⟨(ad2.add (k * 5)).block, (ad2.add (k * 5)).off + 4, none⟩ = some (.int .i64 t)) := Lib.hid fun w' hW => ⟨(Below.cell hW (hA2 _)).trans g0, (Below.cell (p := ⟨(ad2.add (k * 5)).block, _, none⟩) hW (hA2 _)).trans g1, (Below.cell (p := ⟨(ad2.add (k * 5)).block, _, none⟩) hW (hA2 _)).trans g2, (Below.cell (p := ⟨(ad2.add (k * 5)).block, _, none⟩) hW (hA2 _)).trans g3, (Below.cell (p := ⟨(ad2.add (k * 5)).block, _, none⟩) hW (hA2 _)).trans g4⟩
              have hsb := Lib.hid (sightS (o := o) (r := rr))
              rw [← ft] at hsb
              have kC := Lib.hid fun W => c_cellAny oCell.okS rfl rfl rfl rfl rfl s x y z o _ _ _ W hf fx fy fz
              have hp := pos_of d
              have hM := leM_of d
              rw [fd.out] at hp hM
              have kT := Lib.hid fun W => c_l04Time t W
              generalize posB (rr.getD 3 (.i 0)).gf = bp at hp hsb
              generalize leM (rr.getD 3 (.i 0)).gf = bm at hM hsb
              generalize okTime t = bt at kT hsb
              generalize cellK o (rr.getD 0 (.i 0)).gf (rr.getD 1 (.i 0)).gf (rr.getD 2 (.i 0)).gf = cd at kC hsb
              have nxt := Lib.hid fun (h : (decide (cd = 0) && (bp && bm) && bt) = true) => Lib.hid (nx.out (hsb.out.trans h))
              have bdt := Lib.hid fun (h : (decide (cd = 0) && (bp && bm) && bt) = false) => bdk.out (hsb.out.trans h)
              clear g0 g1 g2 g3 g4 hK hrow fx fy fz fd ft hsb hA2 nx bdk
              obtain ⟨g0, g1, g2, g3, g4⟩ := G.out _ hb.out
              have hs11 : Stays wr (wr.alloc (.cells #[.float .f32 x, .float .f32 y, .float .f32 z, .float .f32 d, .int .i64 t] 109)) := by (repeat (first | exact Stays.refl _ | (with_reducible refine Stays.drewN ?_ _) | (with_reducible refine Stays.alloc ?_ _) | (with_reducible refine Stays.drew ?_) | (refine Stays.trans ?_ ‹Stays _ _›)))
              have u0 : (wr.alloc (.cells #[.float .f32 x, .float .f32 y, .float .f32 z, .float .f32 d, .int .i64 t] 109)).heap[wr.heap.size]? = some (.cells #[.float .f32 x, .float .f32 y, .float .f32 z, .float .f32 d, .int .i64 t] 109 (0, 0)) := heap_alloc_new wr _
              have G5 := Lib.hid fun W (hW : Stays (wr.alloc (.cells #[.float .f32 x, .float .f32 y, .float .f32 z, .float .f32 d, .int .i64 t] 109)) W) => And.intro (HB.out W (hb.out.trans (hs11.trans hW))) (And.intro (row_of hW u0 0) (And.intro (row_of hW u0 1) (And.intro (row_of hW u0 2) (And.intro (row_of hW u0 3) (row_of hW u0 4)))))
              have hb10 := Lib.hid (hb.out.trans hs11)
              clear u0 hs11
              go_upto_region 12 with fail
              clear g0 g1 g2 g3 g4 q0 q1 q2 hci
              generalize wr.heap.size = q5 at G5 ⊢
              generalize (wr.alloc (.cells #[.float .f32 x, .float .f32 y, .float .f32 z, .float .f32 d, .int .i64 t] 109)) = W5 at G5 hb10 ⊢
              have hcells : ∀ w', Stays W5 w' → ((w'.cell? ⟨p, 0, none⟩ = some (.float .f32 s) ∧ w'.cell? ⟨p, 1, none⟩ = some (.float .f32 g) ∧ w'.cell? ⟨p, 2, none⟩ = some (.slice (some ad) xss.length c)) ∧ w'.cell? ⟨q5, 0, none⟩ = some (.float .f32 x) ∧ w'.cell? ⟨q5, 1, none⟩ = some (.float .f32 y) ∧ w'.cell? ⟨q5, 2, none⟩ = some (.float .f32 z) ∧ w'.cell? ⟨q5, 3, none⟩ = some (.float .f32 d) ∧ w'.cell? ⟨q5, 4, none⟩ = some (.int .i64 t)) := fun w1 h => G5.out w1 h
              have kC5 := Lib.hid fun W (hW : Stays W5 W) => kC.out W
              have h1 := Lib.hid (show Stays W5 W5.drew from (Stays.refl W5).drew)
              go_cut [7] from 71 to 80 (fun t7 wx => t7 = .int .i64 cd ∧ Stays W5 wx)
              case first =>
                go_region_held (fun w' => ((w'.cell? ⟨p, 0, none⟩ = some (.float .f32 s) ∧ w'.cell? ⟨p, 1, none⟩ = some (.float .f32 g) ∧ w'.cell? ⟨p, 2, none⟩ = some (.slice (some ad) xss.length c)) ∧ w'.cell? ⟨q5, 0, none⟩ = some (.float .f32 x) ∧ w'.cell? ⟨q5, 1, none⟩ = some (.float .f32 y) ∧ w'.cell? ⟨q5, 2, none⟩ = some (.float .f32 z) ∧ w'.cell? ⟨q5, 3, none⟩ = some (.float .f32 d) ∧ w'.cell? ⟨q5, 4, none⟩ = some (.int .i64 t))) (first | (with_reducible exact hcells _ (ZP.stays h4.out hz.out _ _ _)) | (with_reducible exact hcells _ ((Stays.refl W5).alloc _).drew) | (with_reducible exact hcells _ h1.out) | (with_reducible exact hcells _ h4.out) | (with_reducible exact hcells _ (h1.out.alloc _)) | (with_reducible exact hcells _ (h4.out.alloc _)))
                  (first
                    | (go_at_call 98; first
                      | ((with_reducible refine (kC5.out _ h1.out).mono ?_); rintro e w10 ⟨p0, p1, p2, rfl, hb9⟩; have h4 := Lib.hid (h1.out.trans hb9); clear hb9)
                      | ((with_reducible refine (kC5.out _ (h1.out.alloc _)).mono ?_); rintro e w10 ⟨p0, p1, p2, rfl, hb9⟩; have hz := Lib.hid ((ZP.newD W5).below hb9); obtain ⟨⟨z0, z1, z2⟩, f0, f1, f2⟩ := hz.out.cells; have h4 := Lib.hid ((h1.out.alloc _).trans hb9); clear hb9)
                      | ((with_reducible refine (kC5.out _ ((Stays.refl W5).alloc _).drew).mono ?_); rintro e w10 ⟨p0, p1, p2, rfl, hb9⟩; have hz := Lib.hid (((ZP.new (B := W5.heap.size) _ (Nat.le_refl _)).below (Stays.refl _).drew).below hb9); obtain ⟨⟨z0, z1, z2⟩, f0, f1, f2⟩ := hz.out.cells; have h4 := Lib.hid ((((Stays.refl W5).alloc _).drew).trans hb9); clear hb9)))
                all_goals (go_wp2_with fail; go_meet; (first | (with_reducible exact ⟨rfl, h4.out.alloc _⟩) | (with_reducible exact ⟨rfl, ZP.stays h4.out hz.out _ _ _⟩)))
              case rest =>
              obtain ⟨rfl, hw11⟩ := hcut
              rename World => w11
              have hb11 := Lib.hid (hb10.out.trans hw11)
              obtain ⟨_, _, _, _, b3, b4⟩ := hcells _ hw11
              clear hcells hw11 hb10 hb
              by_cases hc0 : cd = 0
              · subst hc0
                cases bp <;> cases bm <;> cases bt
                all_goals
                  go_wp2_with (go_at_call 99; refine (kT.out _).mono ?_; rintro e w13 ⟨rfl, rfl⟩)
                  first
                    | (go_round
                       case rel => exact ⟨k + 1, by omega, by go_num, nxt.out rfl, hb11⟩
                       case measure => simp [intOf]; omega)
                    | (go_ret
                       exact ⟨ret_b (by simp [bdt.out rfl]), hb11.out⟩)
              · have hd0 : decide (cd = 0) = false := decide_eq_false hc0
                go_wp2
                go_ret
                exact ⟨ret_b (by simp [bdt.out (by rw [hd0]; rfl)]), hb11.out⟩
            · have hgood := Lib.hid (show goodR o xs from ⟨h16, fun j r hx => hgk.out j r (by have := (List.getElem?_eq_some_iff.1 hx).1; omega) hx⟩)
              have nxi := Lib.hid (rows_next hgd.out hxi.out hgood.out)
              go_wp2_with fail
              go_round
              case rel => exact ⟨i + 1, by omega, by go_num, nxi, hb⟩
              case measure => simp [intOf]; omega
        · have h16' : ((xs.length : Nat) : Int) > 16 := by omega
          have bd := Lib.hid (bad.out fun h => h16 h.1)
          go_wp2
          go_ret
          exact ⟨ret_b (by simp [bd.out]), hb.out⟩
      · have hend := Lib.hid (rows_end (by omega) hgd.out)
        go_wp2
        go_ret
        exact ⟨ret_b (by rw [hend.out]), hb.out⟩
  · replace kI := Lib.hid kI
    have hfalse : (sb && lb && decide (1 ≤ xss.length ∧ xss.length ≤ 4) && rowsOK o xss) = false := by
      cases sb <;> cases lb <;> simp at h3 ⊢
      intro h1 h2
      exact absurd h2 (by have := h3 h1; omega)
    rw [hfalse]
    cases sb <;> cases lb
    case true.true =>
      have hdf : decide (1 ≤ xss.length ∧ xss.length ≤ 4) = false := decide_eq_false fun h => h3 ⟨rfl, rfl, h⟩
      rw [hdf] at kI
      clear h3 hfalse hdf
      go_enter Try.func51, Try.ntmps51
      go_wp2_with (first
        | (go_at_call 95; refine (kS.out _).mono ?_; rintro e w1 ⟨rfl, hw1⟩; replace hS := Stays.trans hS hw1; clear q0 q1 q2 hw1; obtain ⟨q0, q1, q2⟩ := HB.out _ hS)
        | (go_at_call 96; refine (kL.out _).mono ?_; rintro e w1 ⟨rfl, hw1⟩; replace hS := Stays.trans hS hw1; clear q0 q1 q2 hw1; obtain ⟨q0, q1, q2⟩ := HB.out _ hS)
        | (go_at_call 97; refine (kI.out _).mono ?_; rintro e w1 ⟨rfl, rfl⟩))
      go_ret
      exact ⟨rfl, hS⟩
    all_goals
      clear h3 hfalse
      go_enter Try.func51, Try.ntmps51
      go_wp2_with (first
        | (go_at_call 95; refine (kS.out _).mono ?_; rintro e w1 ⟨rfl, hw1⟩; replace hS := Stays.trans hS hw1; clear q0 q1 q2 hw1; obtain ⟨q0, q1, q2⟩ := HB.out _ hS)
        | (go_at_call 96; refine (kL.out _).mono ?_; rintro e w1 ⟨rfl, hw1⟩; replace hS := Stays.trans hS hw1; clear q0 q1 q2 hw1; obtain ⟨q0, q1, q2⟩ := HB.out _ hS))
      go_ret
      exact ⟨rfl, hS⟩

end Go.Proofs.Ytcopccniijkceaa
