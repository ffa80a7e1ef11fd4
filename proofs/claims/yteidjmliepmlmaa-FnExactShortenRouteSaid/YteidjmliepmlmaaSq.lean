/- Lines on a grid: their spots lie in it, and lead from one to the next where no walls stand. Whether a spot is seen from another one, as the document and the program tell it. Whether a spot is seen from another one: the asked functions, on both sides. No condition. -/
import Derived.Test.YteidjmliepmlmaaRz
import Derived.Test.YteidjmliepmlmaaGhD
import Derived.Test.YteidjmliepmlmaaSv
import Derived.Test.YteidjmliepmlmaaGeB
namespace Go.Proofs.Yteidjmliepmlmaa
open Go Go.RowKit
set_option linter.unusedVariables false
set_option linter.unusedSimpArgs false

theorem lnC_bdM {a d n i M : Int} (ha : 0 ≤ a ∧ a ≤ M) (hb : 0 ≤ a + d ∧ a + d ≤ M) (hn : 0 < n) (hi : 0 ≤ i ∧ i ≤ n) : 0 ≤ lnC a d n i ∧ lnC a d n i ≤ M := by
  obtain ⟨h0, h1⟩ := lnC_impl ha.1 hb.1 hn hi
  rw [Int.tdiv_eq_ediv_of_nonneg h0] at h1
  refine ⟨by rw [← h1]; exact Int.ediv_nonneg h0 (by omega), ?_⟩
  rw [← h1]
  have := (Int.ediv_lt_iff_lt_mul (a := 2 * n * a + 2 * i * d + n) (b := M + 1) (c := 2 * n) (by omega)).2 (by
    rw [Int.mul_assoc, Int.mul_assoc, Int.add_mul]
    have e : M * (2 * n) = 2 * (n * M) := by rw [Int.mul_comm M, Int.mul_assoc]
    rw [e]
    by_cases hd : 0 ≤ d
    · have h2 : i * d ≤ n * d := Int.mul_le_mul_of_nonneg_right hi.2 hd
      have h3 : n * (a + d) ≤ n * M := Int.mul_le_mul_of_nonneg_left hb.2 (by omega)
      rw [Int.mul_add] at h3
      omega
    · have h2 : i * d ≤ 0 := Int.mul_nonpos_of_nonneg_of_nonpos hi.1 (by omega)
      have h3 : n * a ≤ n * M := Int.mul_le_mul_of_nonneg_left ha.2 (by omega)
      omega)
  omega

theorem quo_near {x e m : Int} (hm : 0 < m) (he : -m ≤ e ∧ e ≤ m) : -1 ≤ (x + e) / m - x / m ∧ (x + e) / m - x / m ≤ 1 := by
  have h1 : (x + e) / m ≤ (x + m) / m := Int.ediv_le_ediv hm (by omega)
  have h2 : (x - m) / m ≤ (x + e) / m := Int.ediv_le_ediv hm (by omega)
  have e1 : (x + m) / m = x / m + 1 := by
    have := Int.add_mul_ediv_left x 1 (show m ≠ 0 by omega)
    rwa [Int.mul_one] at this
  have e2 : (x - m) / m = x / m - 1 := by
    have := Int.add_mul_ediv_left x (-1) (show m ≠ 0 by omega)
    rw [Int.mul_neg, Int.mul_one] at this
    exact this
  omega

theorem lnC_near {a d n i : Int} (hn : 0 < n) (hd : -n ≤ d ∧ d ≤ n) : -1 ≤ lnC a d n (i + 1) - lnC a d n i ∧ lnC a d n (i + 1) - lnC a d n i ≤ 1 := by
  unfold lnC
  have e : 2 * (i + 1) * d + n = (2 * i * d + n) + 2 * d := by
    rw [Int.mul_add, Int.mul_one, Int.add_mul]
    omega
  rw [e]
  have := quo_near (x := 2 * i * d + n) (e := 2 * d) (m := 2 * n) (by omega) (by omega)
  omega

theorem half_quo {n : Int} (hn : 0 < n) : n / (2 * n) = 0 := Int.ediv_eq_zero_of_lt (by omega) (by omega)
theorem lnC_up {a n i : Int} (hn : 0 < n) : lnC a n n i = a + i := by
  unfold lnC
  have e : 2 * i * n + n = n + 2 * n * i := by
    rw [Int.mul_right_comm]
    omega
  rw [e, Int.add_mul_ediv_left n i (by omega), half_quo hn]
  omega
theorem lnC_down {a n i : Int} (hn : 0 < n) : lnC a (-n) n i = a - i := by
  unfold lnC
  have e : 2 * i * -n + n = n + 2 * n * (-i) := by
    rw [Int.mul_neg, Int.mul_neg, Int.mul_right_comm]
    omega
  rw [e, Int.add_mul_ediv_left n (-i) (by omega), half_quo hn]
  omega

/-- A straight line moves by a neighbour. -/
theorem line_nb {ax ay dx dy i : Int} (hn : 0 < lnN dx dy) : nbB (lnC ax dx (lnN dx dy) i) (lnC ay dy (lnN dx dy) i) (lnC ax dx (lnN dx dy) (i + 1)) (lnC ay dy (lnN dx dy) (i + 1)) = true := by
  rw [nbB_iff]
  refine ⟨?_, lnC_near hn lnN_x, lnC_near hn lnN_y⟩
  rintro ⟨h1, h2⟩
  rcases (show lnN dx dy = dx ∨ lnN dx dy = -dx ∨ lnN dx dy = dy ∨ lnN dx dy = -dy from by unfold lnN; omega) with h | h | h | h
  · rw [h] at h1 hn
    rw [lnC_up hn, lnC_up hn] at h1
    omega
  · have e : dx = -lnN dx dy := by omega
    generalize lnN dx dy = n at *
    subst e
    rw [lnC_down hn, lnC_down hn] at h1
    omega
  · rw [h] at h2 hn
    rw [lnC_up hn, lnC_up hn] at h2
    omega
  · have e : dy = -lnN dx dy := by omega
    generalize lnN dx dy = n at *
    subst e
    rw [lnC_down hn, lnC_down hn] at h2
    omega

theorem has_free {a b x y : Int} {xs : List Int} (h : hasB a b x y = true) : freeB a b xs x y = !wallB a xs x y := by
  unfold freeB
  rw [h, Bool.true_and]

/-- What a line between two spots of a grid is. -/
structure OnG (a b ax ay dx dy n : Int) : Prop where
  x0 : 0 ≤ ax ∧ ax ≤ a - 1
  y0 : 0 ≤ ay ∧ ay ≤ b - 1
  x1 : 0 ≤ ax + dx ∧ ax + dx ≤ a - 1
  y1 : 0 ≤ ay + dy ∧ ay + dy ≤ b - 1
  n0 : n = lnN dx dy

theorem OnG.of {a b ax ay bx by' : Int} (h1 : hasB a b ax ay = true) (h2 : hasB a b bx by' = true) : OnG a b ax ay (bx - ax) (by' - ay) (lnN (bx - ax) (by' - ay)) := by
  have h1 := hasB_iff.1 h1
  have h2 := hasB_iff.1 h2
  exact ⟨h1.1, h1.2, by omega, by omega, rfl⟩

section
variable {a b ax ay dx dy n : Int} (h : OnG a b ax ay dx dy n)
include h
theorem OnG.xb {i : Int} (hi : 0 ≤ i ∧ i ≤ n) : 0 ≤ lnC ax dx n i ∧ lnC ax dx n i ≤ a - 1 := by
  by_cases hn : 0 < n
  · exact lnC_bdM h.x0 h.x1 hn hi
  · have e : n = 0 := by omega
    rw [e, lnC_zero]
    exact h.x0
theorem OnG.yb {i : Int} (hi : 0 ≤ i ∧ i ≤ n) : 0 ≤ lnC ay dy n i ∧ lnC ay dy n i ≤ b - 1 := by
  by_cases hn : 0 < n
  · exact lnC_bdM h.y0 h.y1 hn hi
  · have e : n = 0 := by omega
    rw [e, lnC_zero]
    exact h.y0
theorem OnG.has {i j : Int} (hi : 0 ≤ i ∧ i ≤ n) (hj : 0 ≤ j ∧ j ≤ n) : hasB a b (lnC ax dx n i) (lnC ay dy n j) = true := hasB_iff.2 ⟨h.xb hi, h.yb hj⟩
theorem OnG.lead {xs : List Int} {i : Int} (hi : 0 ≤ i ∧ i + 1 ≤ n) : leadB a b xs (lnC ax dx n i) (lnC ay dy n i) (lnC ax dx n (i + 1)) (lnC ay dy n (i + 1)) =
    (!wallB a xs (lnC ax dx n (i + 1)) (lnC ay dy n (i + 1)) && (!wallB a xs (lnC ax dx n i) (lnC ay dy n (i + 1)) && !wallB a xs (lnC ax dx n (i + 1)) (lnC ay dy n i))) := by
  unfold leadB
  have h1 := h.n0
  rw [has_free (h.has (i := i + 1) (j := i + 1) (by omega) (by omega)), has_free (h.has (i := i) (j := i + 1) (by omega) (by omega)), has_free (h.has (i := i + 1) (j := i) (by omega) (by omega))]
  rw [h1, line_nb (by omega), Bool.true_and]
end

/-- The spots of a line, by their numbers. -/
theorem line_at {ax ay dx dy n : Int} {k i : Nat} (hi : i < k) : (lnR ax ay dx dy n k)[i]? = some [NV.i (lnC ax dx n i), NV.i (lnC ay dy n i)] := by
  unfold lnR
  rw [List.getElem?_map, List.getElem?_range hi]
  rfl

theorem head_lnR {a b ax ay dx dy n : Int} {xs : List Int} {k : Nat} : headB a b xs (lnR ax ay dx dy n (k + 1)) = freeB a b xs (lnC ax dx n 0) (lnC ay dy n 0) := by
  unfold lnR
  rw [List.range_succ_eq_map]
  rfl

theorem step_lnR {a b ax ay dx dy n : Int} {xs : List Int} {k j : Nat} (hj : j + 1 < k) : stepB a b xs (lnR ax ay dx dy n k) j ↔ leadB a b xs (lnC ax dx n j) (lnC ay dy n j) (lnC ax dx n (j + 1 : Nat)) (lnC ay dy n (j + 1 : Nat)) = true :=
  stepB_at (line_at (by omega)) (line_at hj)
end Go.Proofs.Yteidjmliepmlmaa

namespace Go.Proofs.Yteidjmliepmlmaa
open Go Go.RowKit
set_option linter.unusedVariables false
set_option linter.unusedSimpArgs false

theorem GrowL.form' {K : List Kd} {n : Nat} {t : TypeId} {B : Nat} {w : World} {v : Value} {xs : List (List NV)} (h : GrowL K n t B w v xs) : ∃ ao cv, v = .slice ao xs.length cv ∧ xs.length ≤ cv := by
  obtain ⟨css, ⟨_, h2⟩, _⟩ := h
  rcases h2 with ⟨rfl, h0⟩ | ⟨g, cap, cur, rfl, _, _, hc, _⟩
  · exact ⟨none, 0, by rw [h0], by omega⟩
  · exact ⟨_, _, rfl, hc⟩

theorem add_zero_block (g m : Nat) : (⟨g, 0, none⟩ : Addr).add m = ⟨g, m, none⟩ := by unfold Addr.add; split <;> simp_all

/-- The cells of a list of spots in a block. -/
theorem spots_at {w : World} {g c : Nat} {A : Option Addr} {rs : List (List NV)} (h : LiesS w g (.slice A rs.length c) rs) {j : Nat} {r : List NV} (hr : rs[j]? = some r) :
    w.cell? ⟨g, j * 2, none⟩ = some (.int .i16 (sx r)) ∧ w.cell? ⟨g, j * 2 + 1, none⟩ = some (.int .i16 (sy r)) := by
  obtain ⟨ad, e, hlt, hrow⟩ := h.rows j r hr
  have hA := LiesL_at h (by have := (List.getElem?_eq_some_iff.1 hr).1; omega)
  rw [hA] at e
  cases e
  rw [add_zero_block] at hrow
  obtain ⟨c0, c1, hk, h0, h1⟩ := row2 rfl hrow
  obtain ⟨rfl, rfl⟩ := sp_cells hk
  exact ⟨h0, h1⟩

def wlS (a : Int) (xs : List Int) (f : FuncId) (args : Array Value) (v : Value) : Prop := ∀ q x y, args = #[q, .agg #[.int .i16 x, .int .i16 y]] → v = .bool (wallB a xs x y)
theorem wlS_of {a x y : Int} {xs : List Int} {f : FuncId} {q : Value} {b : Bool} (h : wallB a xs x y = b) : wlS a xs f #[q, .agg #[.int .i16 x, .int .i16 y]] (.bool b) := fun q' x' y' e => by
  simp at e
  obtain ⟨_, rfl, rfl⟩ := e
  rw [h]

set_option maxRecDepth 100000 in
set_option maxHeartbeats 4000000 in
theorem c_l07Sees (p : Nat) (a b ax ay bx by' : Int) (A : Option Addr) (c : Nat) (xs : List Int) (w : World) (hG : GridAt w p a b A c xs.length) (h1 : Bs w w.heap.size A xs) (hg : gridB a b xs.length = true) (hha : hasB a b ax ay = true) (hhb : hasB a b bx by' = true) :
    Calls Try.prog 70 #[.pointer (some ⟨p, 0, none⟩), .agg #[.int .i16 ax, .int .i16 ay], .agg #[.int .i16 bx, .int .i16 by']] w fun e w' => e = .returned (.bool (routeB a b xs (line ax ay bx by'))) ∧ Stays w w' := by
  obtain ⟨ga, gb, hne⟩ := gridB_iff.1 hg
  have i1 := hasB_iff.1 hha
  have i2 := hasB_iff.1 hhb
  have kL := fun W => c_l07Line ax ay bx by' W (by omega) (by omega) (by omega) (by omega)
  have hO := OnG.of hha hhb
  have hn0 : 0 ≤ lnN (bx - ax) (by' - ay) := by unfold lnN; omega
  have hnb : lnN (bx - ax) (by' - ay) ≤ 23 := (lnN_bd (by omega) (by omega) (by omega) (by omega)).2
  have hl : line ax ay bx by' = lnR ax ay (bx - ax) (by' - ay) (lnN (bx - ax) (by' - ay)) ((lnN (bx - ax) (by' - ay)).toNat + 1) := rfl
  generalize line ax ay bx by' = RS at hl kL ⊢
  generalize lnN (bx - ax) (by' - ay) = n at *
  generalize bx - ax = dx at *
  generalize by' - ay = dy at *
  obtain ⟨nn, rfl⟩ : ∃ nn : Nat, n = nn := ⟨n.toNat, by omega⟩
  rw [show ((nn : Int)).toNat = nn from by omega] at hl
  have hlen : RS.length = nn + 1 := by rw [hl, lnR_len]
  obtain ⟨X, hX⟩ : ∃ X : Nat → Int, X = fun i : Nat => lnC ax dx nn (i : Int) := ⟨_, rfl⟩
  obtain ⟨Y, hY⟩ : ∃ Y : Nat → Int, Y = fun i : Nat => lnC ay dy nn (i : Int) := ⟨_, rfl⟩
  have hhas : ∀ i j, i ≤ nn → j ≤ nn → hasB a b (X i) (Y j) = true := fun i j hi hj => by rw [hX, hY]; exact hO.has (by omega) (by omega)
  have hat : ∀ j, j ≤ nn → RS[j]? = some [NV.i (X j), NV.i (Y j)] := fun j hj => by rw [hl, hX, hY]; exact line_at (by omega)
  have end0 : wallB a xs (X 0) (Y 0) = true → routeB a b xs RS = false := fun h => routeB_head (by
    rw [hl, head_lnR, has_free (by have := hhas 0 0 (by omega) (by omega); rw [hX, hY] at this; exact this)]
    rw [hX, hY] at h
    have h' : wallB a xs (lnC ax dx nn 0) (lnC ay dy nn 0) = true := h
    rw [h']; rfl)
  have hlead : ∀ j, j + 1 ≤ nn → leadB a b xs (lnC ax dx nn j) (lnC ay dy nn j) (lnC ax dx nn (j + 1 : Nat)) (lnC ay dy nn (j + 1 : Nat)) = (!wallB a xs (X (j + 1)) (Y (j + 1)) && (!wallB a xs (X j) (Y (j + 1)) && !wallB a xs (X (j + 1)) (Y j))) := fun j hj => by
    rw [hX, hY]
    have := hO.lead (xs := xs) (i := j) (by omega)
    push_cast
    exact this
  have endB : ∀ j, j + 1 ≤ nn → (!wallB a xs (X (j + 1)) (Y (j + 1)) && (!wallB a xs (X j) (Y (j + 1)) && !wallB a xs (X (j + 1)) (Y j))) = false → routeB a b xs RS = false := fun j hj h => routeB_bad (k := j) (by
    rw [hl, step_lnR (by omega), hlead j hj, h]
    exact Bool.false_ne_true)
  have endS : (∀ j, j < nn + 1 → wallB a xs (X j) (Y j) = false) → (∀ j, j + 1 < nn + 1 → (!wallB a xs (X (j + 1)) (Y (j + 1)) && (!wallB a xs (X j) (Y (j + 1)) && !wallB a xs (X (j + 1)) (Y j))) = true) → routeB a b xs RS = true := fun h0 hs => routeB_end (k := nn) (by
      rw [hl, head_lnR, has_free (by have := hhas 0 0 (by omega) (by omega); rw [hX, hY] at this; exact this)]
      have h' := h0 0 (by omega)
      rw [hX, hY] at h'
      have h' : wallB a xs (lnC ax dx nn 0) (lnC ay dy nn 0) = false := h'
      rw [h']; rfl) (by omega) (fun j hj => by
      rw [hl, step_lnR (by omega), hlead j (by omega)]
      exact hs j (by omega))
  have hst0 : Stays w ((w.alloc (.cells #[.int .i16 ax, .int .i16 ay] 32)).alloc (.cells #[.int .i16 bx, .int .i16 by'] 32)) := by (repeat (first | exact Stays.refl _ | (with_reducible refine Stays.drewN ?_ _) | (with_reducible refine Stays.alloc ?_ _) | (with_reducible refine Stays.drew ?_) | (refine Stays.trans ?_ ‹Stays _ _›)))
  have kW := fun W (h : Stays w W) i j hi hj => c_l07Wall p a b (X i) (Y j) A c xs W (hG.on h) ((h1.below h).more h.size) hg (hhas i j hi hj)
  replace kL := Lib.hid kL
  replace kW := Lib.hid kW
  replace hat := Lib.hid hat
  replace end0 := Lib.hid end0
  replace endB := Lib.hid endB
  replace endS := Lib.hid endS
  replace hst0 := Lib.hid hst0
  replace hlen := Lib.hid hlen
  generalize routeB a b xs RS = RB at *
  clear hG h1 hg hha hhb ga gb hne i1 i2 hO hn0 hl hX hY hhas hlead
  go_enter Try.func70, Try.ntmps70
  go_wp2_with fail
  generalize ((w.alloc (.cells #[.int .i16 ax, .int .i16 ay] 32)).alloc (.cells #[.int .i16 bx, .int .i16 by'] 32)) = W0 at hst0 ⊢
  refine (kL.out _).mono ?_
  rintro e w1 ⟨v, rfl, hgr, hs1⟩
  obtain ⟨g, hge, hL⟩ := GrowL.lies (K := KSpot) rfl hgr
  obtain ⟨A1, c1, rfl⟩ := hgr.form
  have hA1 := LiesL_at hL (by have := hlen.out; omega)
  have hgl := LiesL_lt hL (by have := hlen.out; omega)
  subst hA1
  have hs := Lib.hid (hst0.out.trans hs1)
  have HL := Lib.hid fun W (h : Stays w1 W) j (hj : j ≤ nn) => show W.cell? ⟨g, j * 2, none⟩ = some (.int .i16 (X j)) ∧ W.cell? ⟨g, j * 2 + 1, none⟩ = some (.int .i16 (Y j)) from spots_at (LiesR.below hL h) (hat.out j hj)
  rw [hlen.out]
  clear hgr hs1 hge hL hgl
  go_wp2
  go_loopw [8] (fun i wr => ∃ k : Nat, k ≤ nn + 1 ∧ i = .int .i64 k ∧ Hid (∀ j, j < k → wallB a xs (X j) (Y j) = false) ∧ Hid (∀ j, j + 1 < k → (!wallB a xs (X (j + 1)) (Y (j + 1)) && (!wallB a xs (X j) (Y (j + 1)) && !wallB a xs (X (j + 1)) (Y j))) = true) ∧ Hid (Stays w1 wr)) (fun i _ => nn + 1 - (intOf i).toNat)
  case atStart => exact ⟨0, Nat.zero_le _, rfl, Lib.hid fun j hj => by omega, Lib.hid fun j hj => by omega, Lib.hid (Stays.refl _)⟩
  case round =>
    obtain ⟨k, hk, rfl, hgood, hstep, hb⟩ := hrel
    by_cases hlt : k < nn + 1
    · have hlt' : (k : Int) < (nn : Int) + 1 := by omega
      have kWk := fun W h => kW.out W h k k (by omega) (by omega)
      obtain ⟨q0, q1⟩ := HL.out _ hb.out k (by omega)
      cases hwk : wallB a xs (X k) (Y k) with
      | true =>
        rw [hwk] at kWk
        have hend : Hid (RB = false) := Lib.hid (by
          cases k with
          | zero => exact end0.out hwk
          | succ j => exact endB.out j (by omega) (by rw [hwk]; rfl))
        replace kWk := Lib.hid kWk
        clear hwk
        go_wp2_with (go_at_call 89; refine (kWk.out _ (hs.out.trans hb.out)).mono ?_; rintro e w2 ⟨rfl, hw2⟩)
        go_ret
        exact ⟨by rw [hend.out]; rfl, hs.out.trans (hb.out.trans hw2)⟩
      | false =>
        rw [hwk] at kWk
        replace kWk := Lib.hid kWk
        replace hwk := Lib.hid hwk
        go_wp2_with fail
        refine (kWk.out _ (hs.out.trans hb.out)).mono ?_
        rintro e w2 ⟨rfl, hw2⟩
        have hb2 := Lib.hid (hb.out.trans hw2)
        have hgood2 : Hid (∀ j, j < k + 1 → wallB a xs (X j) (Y j) = false) := Lib.hid fun j hj => by
          by_cases e : j = k
          · subst e; exact hwk.out
          · exact hgood.out j (by omega)
        clear hw2 q0 q1 hb kWk
        cases k with
        | zero =>
          go_wp2_with fail
          have hcells : ∀ W, Stays w2 W → True := fun W h => trivial
          refine wp_region_soft_tail 29 (Stays.refl _) (fun _ _ _ => False) [] (by kernel_rfl) (by kernel_rfl) (fun _ h => by cases h) ?_
          simp only [List.take_succ_cons, List.take_zero, List.drop_succ_cons, List.drop_zero]
          repeat (first | ((with_reducible apply soft_detG); (case hwa => rfl); (case hA => rfl); (case h => (intro w1 hw1; have hc := hcells w1 hw1; go_simp; exact rfl)); go_simp) | ((with_reducible apply soft_skipG); (case hwa => rfl); (case hA => rfl); go_simp))
          refine soft_nil ?_
          rintro w3 ⟨hw3, _⟩
          have hb3 := Lib.hid (hb2.out.trans hw3)
          clear hcells
          go_wp2
          go_round
          case rel => exact ⟨1, by omega, by go_num, hgood2, Lib.hid fun j hj => by omega, hb3⟩
          case measure => simp [intOf]
        | succ j =>
          obtain ⟨q0, q1⟩ := HL.out _ hb2.out (j + 1) (by omega)
          obtain ⟨r0, r1⟩ := HL.out _ hb2.out j (by omega)
          have ej1 : IntKind.i64.wrap ((j : Int) + 1 - 1) = (j : Int) := by have h := IntWalk.i64_in ((j : Int) + 1 - 1) (by omega); rw [h]; omega
          have ej2 : IntKind.i64.wrap (((j + 1 : Nat) : Int) - 1) = (j : Int) := by have h := IntWalk.i64_in (((j + 1 : Nat) : Int) - 1) (by omega); rw [h]; omega
          have ej3 : IntKind.i64.wrap (j : Int) = (j : Int) := IntWalk.i64_in _ (by omega)
          have hj0 : (0 : Int) < (j : Int) + 1 := by omega
          have hj1 : (j : Int) < (nn : Int) + 1 := by omega
          have hj2 : j < nn := by omega
          have hj3 : (j : Int) < (nn : Int) := by omega
          have hj4 : ((j : Int) + 1).toNat = j + 1 := by omega
          have hj5 : (0 : Int) ≤ (j : Int) + 1 := by omega
          have hj6 : j < nn + 1 := by omega
          have hj7 : (j : Int) + 1 < (nn : Int) + 1 := by omega
          have hcells : ∀ W, Stays w2 W → (W.cell? ⟨g, (j + 1) * 2, none⟩ = some (.int .i16 (X (j + 1))) ∧ W.cell? ⟨g, (j + 1) * 2 + 1, none⟩ = some (.int .i16 (Y (j + 1)))) ∧ (W.cell? ⟨g, j * 2, none⟩ = some (.int .i16 (X j)) ∧ W.cell? ⟨g, j * 2 + 1, none⟩ = some (.int .i16 (Y j))) := fun W h => ⟨HL.out _ (hb2.out.trans h) (j + 1) (by omega), HL.out _ (hb2.out.trans h) j (by omega)⟩
          have hwj := Lib.hid (hgood.out j (by omega))
          clear q0 q1 r0 r1
          by_cases ex : X (j + 1) = X j
          · replace ex := ex
            have exb : (X (j + 1) == X j) = true := by simpa using ex
            have exbn : (X (j + 1) != X j) = false := by rw [bne, exb]; rfl
            have hst2 : Hid (∀ i, i + 1 < j + 1 + 1 → (!wallB a xs (X (i + 1)) (Y (i + 1)) && (!wallB a xs (X i) (Y (i + 1)) && !wallB a xs (X (i + 1)) (Y i))) = true) := Lib.hid fun i hi => by
              by_cases e : i = j
              · subst e
                have t1 : wallB a xs (X i) (Y (i + 1)) = false := by rw [← ex]; exact hwk.out
                have t2 : wallB a xs (X (i + 1)) (Y i) = false := by rw [ex]; exact hwj.out
                rw [hwk.out, t1, t2]; rfl
              · exact hstep.out i (by omega)
            clear ex hstep
            go_wp2_with fail
            refine wp_region_soft_tail 29 (Stays.refl _) (fun _ _ _ => False) [] (by kernel_rfl) (by kernel_rfl) (fun _ h => by cases h) ?_
            simp only [List.take_succ_cons, List.take_zero, List.drop_succ_cons, List.drop_zero]
            repeat (first | ((with_reducible apply soft_detG); (case hwa => rfl); (case hA => rfl); (case h => (intro w1 hw1; have hc := hcells w1 hw1; go_simp; exact rfl)); go_simp) | ((with_reducible apply soft_skipG); (case hwa => rfl); (case hA => rfl); go_simp))
            refine soft_nil ?_
            rintro w3 ⟨hw3, _⟩
            have hb3 := Lib.hid (hb2.out.trans hw3)
            clear hcells
            go_wp2
            go_round
            case rel => exact ⟨j + 1 + 1, by omega, by go_num, hgood2, hst2, hb3⟩
            case measure => simp [intOf]; omega
          · by_cases ey : Y (j + 1) = Y j
            · have exb : (X (j + 1) == X j) = false := by simpa using ex
              have exbn : (X (j + 1) != X j) = true := by rw [bne, exb]; rfl
              have eyb : (Y (j + 1) == Y j) = true := by simpa using ey
              have eybn : (Y (j + 1) != Y j) = false := by rw [bne, eyb]; rfl
              have hst2 : Hid (∀ i, i + 1 < j + 1 + 1 → (!wallB a xs (X (i + 1)) (Y (i + 1)) && (!wallB a xs (X i) (Y (i + 1)) && !wallB a xs (X (i + 1)) (Y i))) = true) := Lib.hid fun i hi => by
                by_cases e : i = j
                · subst e
                  have t1 : wallB a xs (X (i + 1)) (Y i) = false := by rw [← ey]; exact hwk.out
                  have t2 : wallB a xs (X i) (Y (i + 1)) = false := by rw [ey]; exact hwj.out
                  rw [hwk.out, t1, t2]; rfl
                · exact hstep.out i (by omega)
              clear ey hstep
              go_wp2_with fail
              refine wp_region_soft_tail 29 (Stays.refl _) (fun _ _ _ => False) [] (by kernel_rfl) (by kernel_rfl) (fun _ h => by cases h) ?_
              simp only [List.take_succ_cons, List.take_zero, List.drop_succ_cons, List.drop_zero]
              repeat (first | ((with_reducible apply soft_detG); (case hwa => rfl); (case hA => rfl); (case h => (intro w1 hw1; have hc := hcells w1 hw1; go_simp; exact rfl)); go_simp) | ((with_reducible apply soft_skipG); (case hwa => rfl); (case hA => rfl); go_simp))
              refine soft_nil ?_
              rintro w3 ⟨hw3, _⟩
              have hb3 := Lib.hid (hb2.out.trans hw3)
              clear hcells
              go_wp2
              go_round
              case rel => exact ⟨j + 1 + 1, by omega, by go_num, hgood2, hst2, hb3⟩
              case measure => simp [intOf]; omega
            · have exb : (X (j + 1) == X j) = false := by simpa using ex
              have exbn : (X (j + 1) != X j) = true := by rw [bne, exb]; rfl
              have eyb : (Y (j + 1) == Y j) = false := by simpa using ey
              have eybn : (Y (j + 1) != Y j) = true := by rw [bne, eyb]; rfl
              have kA := fun W (h : Stays w2 W) => kW.out W (hs.out.trans (hb2.out.trans h)) (j + 1) j (by omega) (by omega)
              have kB := fun W (h : Stays w2 W) => kW.out W (hs.out.trans (hb2.out.trans h)) j (j + 1) (by omega) (by omega)
              clear ex ey
              go_wp2_with fail
              refine wp_region_soft_tail 29 (Stays.refl _) (fun _ _ _ => False) [] (by kernel_rfl) (by kernel_rfl) (fun _ h => by cases h) ?_
              simp only [List.take_succ_cons, List.take_zero, List.drop_succ_cons, List.drop_zero]
              repeat (first | ((with_reducible apply soft_detG); (case hwa => rfl); (case hA => rfl); (case h => (intro w1 hw1; have hc := hcells w1 hw1; go_simp; exact rfl)); go_simp) | ((with_reducible apply soft_skipG); (case hwa => rfl); (case hA => rfl); go_simp))
              refine soft_nil ?_
              rintro w3 ⟨hw3, _⟩
              have hb3 := Lib.hid (hb2.out.trans hw3)
              replace kA := fun W (h : Stays w3 W) => kA W (Stays.trans hw3 h)
              replace kB := fun W (h : Stays w3 W) => kB W (Stays.trans hw3 h)
              have hc3 := fun W (h : Stays w3 W) => hcells W (Stays.trans hw3 h)
              clear hcells hw3
              have hcells := hc3
              clear hc3 hb2
              generalize hwa : wallB a xs (X (j + 1)) (Y j) = wa at kA
              generalize hwb : wallB a xs (X j) (Y (j + 1)) = wb at kB
              have sa := Lib.hid (wlS_of (f := 89) (q := .pointer (some ⟨p, 0, none⟩)) hwa)
              have sb := Lib.hid (wlS_of (f := 89) (q := .pointer (some ⟨p, 0, none⟩)) hwb)
              have ea := Lib.hid (congrArg Value.bool hwa)
              have eb := Lib.hid (congrArg Value.bool hwb)
              replace kA := Lib.hid kA
              replace kB := Lib.hid kB
              have HWA := Lib.hid hwa
              have HWB := Lib.hid hwb
              clear hwa hwb
              cases wa with
              | true =>
                have hend : Hid (RB = false) := Lib.hid (endB.out j (by omega) (by simp [hwk.out, HWA.out]))
                clear hstep
                go_wp2_with fail
                refine wp_region_soft_tail 29 (Stays.refl _) (wlS a xs) [] (by kernel_rfl) (by kernel_rfl) (fun _ h => by cases h) ?_
                simp only [List.take_succ_cons, List.take_zero, List.drop_succ_cons, List.drop_zero]
                repeat (first | ((with_reducible apply soft_detG); (case hwa => rfl); (case hA => rfl); (case h => (intro w1 hw1; have hc := hcells w1 hw1; go_simp; exact rfl)); go_simp) | ((with_reducible apply soft_skipG); (case hwa => rfl); (case hA => rfl); go_simp) | ((with_reducible apply soft_callS (v := .bool true)); (case hwa => rfl); (case hA => rfl); (case h => (intro w1 hw1; have hc := hcells w1 hw1; go_simp; exact ⟨rfl, rfl⟩)); (case hc => (intro w1 hw1; with_reducible exact kA.out w1 hw1)); (case hS => exact sa.out); (case hu => exact fun u hu => hu _ _ _ rfl |>.trans ea.out); go_simp))
                refine soft_nil ?_
                rintro w4 ⟨hw4, _⟩
                have hb4 := Lib.hid (hb3.out.trans hw4)
                clear hcells hw4
                go_wp2
                go_ret
                exact ⟨by rw [hend.out]; rfl, hs.out.trans hb4.out⟩
              | false =>
                cases wb with
                | true =>
                  have hend : Hid (RB = false) := Lib.hid (endB.out j (by omega) (by simp [hwk.out, HWA.out, HWB.out]))
                  clear hstep
                  go_wp2_with fail
                  refine wp_region_soft_tail 29 (Stays.refl _) (wlS a xs) [] (by kernel_rfl) (by kernel_rfl) (fun _ h => by cases h) ?_
                  simp only [List.take_succ_cons, List.take_zero, List.drop_succ_cons, List.drop_zero]
                  repeat (first | ((with_reducible apply soft_detG); (case hwa => rfl); (case hA => rfl); (case h => (intro w1 hw1; have hc := hcells w1 hw1; go_simp; exact rfl)); go_simp) | ((with_reducible apply soft_skipG); (case hwa => rfl); (case hA => rfl); go_simp) | ((with_reducible apply soft_callS (v := .bool false)); (case hwa => rfl); (case hA => rfl); (case h => (intro w1 hw1; have hc := hcells w1 hw1; go_simp; exact ⟨rfl, rfl⟩)); (case hc => (intro w1 hw1; with_reducible exact kA.out w1 hw1)); (case hS => exact sa.out); (case hu => exact fun u hu => hu _ _ _ rfl |>.trans ea.out); go_simp) | ((with_reducible apply soft_callS (v := .bool true)); (case hwa => rfl); (case hA => rfl); (case h => (intro w1 hw1; have hc := hcells w1 hw1; go_simp; exact ⟨rfl, rfl⟩)); (case hc => (intro w1 hw1; with_reducible exact kB.out w1 hw1)); (case hS => exact sb.out); (case hu => exact fun u hu => hu _ _ _ rfl |>.trans eb.out); go_simp))
                  refine soft_nil ?_
                  rintro w4 ⟨hw4, _⟩
                  have hb4 := Lib.hid (hb3.out.trans hw4)
                  clear hcells hw4
                  go_wp2
                  go_ret
                  exact ⟨by rw [hend.out]; rfl, hs.out.trans hb4.out⟩
                | false =>
                  have hst2 : Hid (∀ i, i + 1 < j + 1 + 1 → (!wallB a xs (X (i + 1)) (Y (i + 1)) && (!wallB a xs (X i) (Y (i + 1)) && !wallB a xs (X (i + 1)) (Y i))) = true) := Lib.hid fun i hi => by
                    by_cases e : i = j
                    · subst e; simp [hwk.out, HWA.out, HWB.out]
                    · exact hstep.out i (by omega)
                  clear hstep
                  go_wp2_with fail
                  refine wp_region_soft_tail 29 (Stays.refl _) (wlS a xs) [] (by kernel_rfl) (by kernel_rfl) (fun _ h => by cases h) ?_
                  simp only [List.take_succ_cons, List.take_zero, List.drop_succ_cons, List.drop_zero]
                  repeat (first | ((with_reducible apply soft_detG); (case hwa => rfl); (case hA => rfl); (case h => (intro w1 hw1; have hc := hcells w1 hw1; go_simp; exact rfl)); go_simp) | ((with_reducible apply soft_skipG); (case hwa => rfl); (case hA => rfl); go_simp) | ((with_reducible apply soft_callS (v := .bool false)); (case hwa => rfl); (case hA => rfl); (case h => (intro w1 hw1; have hc := hcells w1 hw1; go_simp; exact ⟨rfl, rfl⟩)); (case hc => (intro w1 hw1; with_reducible exact kA.out w1 hw1)); (case hS => exact sa.out); (case hu => exact fun u hu => hu _ _ _ rfl |>.trans ea.out); go_simp) | ((with_reducible apply soft_callS (v := .bool false)); (case hwa => rfl); (case hA => rfl); (case h => (intro w1 hw1; have hc := hcells w1 hw1; go_simp; exact ⟨rfl, rfl⟩)); (case hc => (intro w1 hw1; with_reducible exact kB.out w1 hw1)); (case hS => exact sb.out); (case hu => exact fun u hu => hu _ _ _ rfl |>.trans eb.out); go_simp))
                  refine soft_nil ?_
                  rintro w4 ⟨hw4, _⟩
                  have hb4 := Lib.hid (hb3.out.trans hw4)
                  clear hcells hw4
                  go_wp2
                  go_round
                  case rel => exact ⟨j + 1 + 1, by omega, by go_num, hgood2, hst2, hb4⟩
                  case measure => simp [intOf]; omega
    · have e : k = nn + 1 := by omega
      subst e
      have hend := Lib.hid (endS.out hgood.out hstep.out)
      go_wp2
      go_ret
      exact ⟨by rw [hend.out]; rfl, hs.out.trans hb.out⟩

set_option maxRecDepth 100000 in
set_option maxHeartbeats 2000000 in
theorem c_sees (a b ax ay bx by' : Int) (A : Option Addr) (c : Nat) (xs : List Int) (w : World) (h1 : Bs w w.heap.size A xs) (hc : xs.length ≤ c) (hg : gridB a b xs.length = true) (hha : hasB a b ax ay = true) (hhb : hasB a b bx by' = true) :
    Calls Try.prog 71 #[.agg #[.int .i64 a, .int .i64 b, .slice A xs.length c], .agg #[.int .i16 ax, .int .i16 ay], .agg #[.int .i16 bx, .int .i16 by']] w fun e w' => e = .returned (.bool (routeB a b xs (line ax ay bx by'))) ∧ Stays w w' := by
  obtain ⟨ga, gb, hne⟩ := gridB_iff.1 hg
  have i1 := hasB_iff.1 hha
  have i2 := hasB_iff.1 hhb
  have kL := Lib.hid fun W => c_lineOf ax ay bx by' W (by omega) (by omega) (by omega) (by omega)
  have hS : InS (line ax ay bx by') := fun i r hr => by
    obtain ⟨hi, rfl⟩ := lnR_at hr
    have hn0 : 0 ≤ lnN (bx - ax) (by' - ay) := by unfold lnN; omega
    have hO := OnG.of hha hhb
    have h1 := hO.xb (i := i) (by omega)
    have h2 := hO.yb (i := i) (by omega)
    exact ⟨show In16 (lnC _ _ _ _) from by unfold In16; omega, show In16 (lnC _ _ _ _) from by unfold In16; omega⟩
  have hln : (line ax ay bx by').length ≤ 1048576 := by
    have := (lnN_bd (ax := ax) (ay := ay) (bx := bx) (by' := by') (by omega) (by omega) (by omega) (by omega)).2
    unfold line
    rw [lnR_len]
    omega
  have hst0 : Stays w (((w.alloc (.cells #[.int .i64 a, .int .i64 b, .slice A xs.length c] 28)).alloc (.cells #[.int .i16 ax, .int .i16 ay] 32)).alloc (.cells #[.int .i16 bx, .int .i16 by'] 32)) := by (repeat (first | exact Stays.refl _ | (with_reducible refine Stays.drewN ?_ _) | (with_reducible refine Stays.alloc ?_ _) | (with_reducible refine Stays.drew ?_) | (refine Stays.trans ?_ ‹Stays _ _›)))
  have u0 : (((w.alloc (.cells #[.int .i64 a, .int .i64 b, .slice A xs.length c] 28)).alloc (.cells #[.int .i16 ax, .int .i16 ay] 32)).alloc (.cells #[.int .i16 bx, .int .i16 by'] 32)).heap[w.heap.size]? = some (.cells #[.int .i64 a, .int .i64 b, .slice A xs.length c] 28 (0, 0)) := by (repeat (first | (refine heap_top _ _ _ ?_; simp; done) | (with_reducible refine heap_drawn _ _ _ ?_) | (with_reducible refine heap_under _ _ _ ?_ ?_; (simp <;> omega))))
  have u1 : (((w.alloc (.cells #[.int .i64 a, .int .i64 b, .slice A xs.length c] 28)).alloc (.cells #[.int .i16 ax, .int .i16 ay] 32)).alloc (.cells #[.int .i16 bx, .int .i16 by'] 32)).heap[w.heap.size + 1]? = some (.cells #[.int .i16 ax, .int .i16 ay] 32 (0, 0)) := by (repeat (first | (refine heap_top _ _ _ ?_; simp; done) | (with_reducible refine heap_drawn _ _ _ ?_) | (with_reducible refine heap_under _ _ _ ?_ ?_; (simp <;> omega))))
  have u2 : (((w.alloc (.cells #[.int .i64 a, .int .i64 b, .slice A xs.length c] 28)).alloc (.cells #[.int .i16 ax, .int .i16 ay] 32)).alloc (.cells #[.int .i16 bx, .int .i16 by'] 32)).heap[w.heap.size + 1 + 1]? = some (.cells #[.int .i16 bx, .int .i16 by'] 32 (0, 0)) := by (repeat (first | (refine heap_top _ _ _ ?_; simp; done) | (with_reducible refine heap_drawn _ _ _ ?_) | (with_reducible refine heap_under _ _ _ ?_ ?_; (simp <;> omega))))
  have HB := Lib.hid fun w' (h : Stays (((w.alloc (.cells #[.int .i64 a, .int .i64 b, .slice A xs.length c] 28)).alloc (.cells #[.int .i16 ax, .int .i16 ay] 32)).alloc (.cells #[.int .i16 bx, .int .i16 by'] 32)) w') => show w'.cell? ⟨w.heap.size, 0, none⟩ = some (.int .i64 a) ∧ w'.cell? ⟨w.heap.size, 1, none⟩ = some (.int .i64 b) ∧ w'.cell? ⟨w.heap.size, 2, none⟩ = some (.slice A xs.length c) ∧ w'.cell? ⟨w.heap.size + 1, 0, none⟩ = some (.int .i16 ax) ∧ w'.cell? ⟨w.heap.size + 1, 1, none⟩ = some (.int .i16 ay) ∧ w'.cell? ⟨w.heap.size + 1 + 1, 0, none⟩ = some (.int .i16 bx) ∧ w'.cell? ⟨w.heap.size + 1 + 1, 1, none⟩ = some (.int .i16 by') from ⟨row_of h u0 0, row_of h u0 1, row_of h u0 2, row_of h u1 0, row_of h u1 1, row_of h u2 0, row_of h u2 1⟩
  generalize line ax ay bx by' = RS at *
  have kR := Lib.hid fun W D d (h : Stays w W) (h2 : Ls KSpot 2 W W.heap.size D RS) (hd : RS.length ≤ d) => c_isRoute a b A D c d xs RS W ((h1.below h).more h.size) hc hg h2 hd hS hln
  replace hst0 := Lib.hid hst0
  generalize routeB a b xs RS = RB at *
  clear u0 u1 u2 h1 hc hg hha hhb ga gb hne i1 i2 hS hln
  go_enter Try.func71, Try.ntmps71
  go_wp2_with fail
  generalize (((w.alloc (.cells #[.int .i64 a, .int .i64 b, .slice A xs.length c] 28)).alloc (.cells #[.int .i16 ax, .int .i16 ay] 32)).alloc (.cells #[.int .i16 bx, .int .i16 by'] 32)) = W0 at HB hst0 ⊢
  have G : Hid (∀ w', Stays W0 w' → ((w'.cell? ⟨w.heap.size, 0, none⟩ = some (.int .i64 a) ∧ w'.cell? ⟨w.heap.size, 1, none⟩ = some (.int .i64 b) ∧ w'.cell? ⟨w.heap.size, 2, none⟩ = some (.slice A xs.length c) ∧ w'.cell? ⟨w.heap.size + 1, 0, none⟩ = some (.int .i16 ax) ∧ w'.cell? ⟨w.heap.size + 1, 1, none⟩ = some (.int .i16 ay) ∧ w'.cell? ⟨w.heap.size + 1 + 1, 0, none⟩ = some (.int .i16 bx) ∧ w'.cell? ⟨w.heap.size + 1 + 1, 1, none⟩ = some (.int .i16 by')) ∧ Hid (Stays W0 w'))) := Lib.hid fun w' h => ⟨HB.out w' h, Lib.hid h⟩
  have h5 := Lib.hid (show Stays W0 W0.drew from (Stays.refl W0).drew)
  go_region_held (fun w' => ((w'.cell? ⟨w.heap.size, 0, none⟩ = some (.int .i64 a) ∧ w'.cell? ⟨w.heap.size, 1, none⟩ = some (.int .i64 b) ∧ w'.cell? ⟨w.heap.size, 2, none⟩ = some (.slice A xs.length c) ∧ w'.cell? ⟨w.heap.size + 1, 0, none⟩ = some (.int .i16 ax) ∧ w'.cell? ⟨w.heap.size + 1, 1, none⟩ = some (.int .i16 ay) ∧ w'.cell? ⟨w.heap.size + 1 + 1, 0, none⟩ = some (.int .i16 bx) ∧ w'.cell? ⟨w.heap.size + 1 + 1, 1, none⟩ = some (.int .i16 by')) ∧ Hid (Stays W0 w'))) (first | exact G.out _ h5.out | exact G.out _ h6.out | exact G.out _ h7.out)
    (first
      | (go_at_call 69; refine (kL.out _).mono ?_; rintro e w2 ⟨v, rfl, hgr, hb⟩; have h6 := Lib.hid (h5.out.trans hb); obtain ⟨g, hge, hL⟩ := GrowL.lies (K := KSpot) rfl hgr; obtain ⟨A1, c1, rfl, hcap⟩ := hgr.form'; replace hL := Lib.hid hL; replace hcap := Lib.hid hcap; clear hgr hge hb)
      | (go_at_call 65; refine (kR.out _ _ _ (hst0.out.trans h6.out) hL.out.rows hcap.out).mono ?_; rintro e w3 ⟨rfl, hb⟩; have h7 := Lib.hid (h6.out.trans hb); clear hb))
  go_wp2
  go_ret
  exact ⟨rfl, hst0.out.trans h7.out⟩
end Go.Proofs.Yteidjmliepmlmaa

namespace Go.Proofs.Yteidjmliepmlmaa
open Go Go.RowKit
set_option linter.unusedVariables false
set_option linter.unusedSimpArgs false

def ask2 (a b : Int) (n : Nat) (x y u v : Int) : Int := if gridB a b n then (if hasB a b x y && hasB a b u v then 0 else 2) else 1
noncomputable def seeV (a b : Int) (xs : List Int) (x y u v : Int) : Bool := gridB a b xs.length && (hasB a b x y && hasB a b u v) && routeB a b xs (line x y u v)

set_option maxRecDepth 100000 in
set_option maxHeartbeats 1000000 in
theorem c_asked2 (p g : Nat) (a b x y u v : Int) (A : Option Addr) (c n : Nat) (w : World) (hg : w.heap[p]? = some (.cells #[.int .i64 a, .int .i64 b, .slice A n c] 28 (0, 0))) (hn : n ≤ 1048576) (hx : In16 x) (hy : In16 y) (hu : In16 u) (hv : In16 v)
    (hs : ∀ w1, Stays w w1 → w1.cell? ⟨g, 0, none⟩ = some (.int .i16 x) ∧ w1.cell? ⟨g, 1, none⟩ = some (.int .i16 y) ∧ w1.cell? ⟨g, 2, none⟩ = some (.int .i16 u) ∧ w1.cell? ⟨g, 3, none⟩ = some (.int .i16 v)) :
    Calls Try.prog 46 #[.pointer (some ⟨p, 0, none⟩), .slice (some ⟨g, 0, none⟩) 2 2] w fun e w' => e = .returned (.int .i64 (ask2 a b n x y u v)) ∧ Stays w w' := by
  have k0 := c_l07Ok p a b A c n w hg hn
  have HG := grid_at hg
  have HS := Lib.hid hs
  unfold ask2
  cases hgb : gridB a b n with
  | false =>
    rw [hgb] at k0
    replace k0 := Lib.hid k0
    clear hg HG hs
    go_enter Try.func46, Try.ntmps46
    go_wp2_with (go_at_call 58; refine k0.out.mono ?_; rintro e w1 ⟨rfl, hw1⟩)
    go_ret
    exact ⟨rfl, hw1⟩
  | true =>
    obtain ⟨ha, hb, hne⟩ := gridB_iff.1 hgb
    rw [hgb] at k0
    have k1 := fun W (h : Stays w W) => c_l07Spot p a b x y A c n W (HG.on h) ha hb hx hy
    have k2 := fun W (h : Stays w W) => c_l07Spot p a b u v A c n W (HG.on h) ha hb hu hv
    generalize hasB a b x y = q at k1 ⊢
    generalize hasB a b u v = r at k2 ⊢
    replace k0 := Lib.hid k0
    replace k1 := Lib.hid k1
    replace k2 := Lib.hid k2
    clear hg HG hs ha hb hne hgb hx hy hu hv
    cases q with
    | false =>
      go_enter Try.func46, Try.ntmps46
      go_wp2_with fail
      refine k0.out.mono ?_
      rintro e w1 ⟨rfl, hw1⟩
      replace hw1 := Lib.hid (show Stays w w1 from hw1)
      obtain ⟨q0, q1, q2, q3⟩ := HS.out w1 hw1.out
      go_wp2
      refine wp_loop_rounds 3 ?_
      rw [rounds_succ]
      go_wp2_with fail
      refine (k1.out w1 hw1.out).mono ?_
      rintro e w2 ⟨rfl, hw2⟩
      replace hw2 := Lib.hid (hw1.out.trans hw2)
      go_wp2
      go_ret
      exact ⟨rfl, hw2.out⟩
    | true =>
      cases r
      all_goals
        go_enter Try.func46, Try.ntmps46
        go_wp2_with fail
        refine k0.out.mono ?_
        rintro e w1 ⟨rfl, hw1⟩
        replace hw1 := Lib.hid (show Stays w w1 from hw1)
        obtain ⟨q0, q1, q2, q3⟩ := HS.out w1 hw1.out
        go_wp2
        refine wp_loop_rounds 3 ?_
        rw [rounds_succ]
        go_wp2_with fail
        refine (k1.out w1 hw1.out).mono ?_
        rintro e w2 ⟨rfl, hw2⟩
        replace hw2 := Lib.hid (hw1.out.trans hw2)
        clear q0 q1 q2 q3 hw1
        obtain ⟨q0, q1, q2, q3⟩ := HS.out w2 hw2.out
        go_wp2
        rw [rounds_succ]
        go_wp2_with fail
        refine (k2.out w2 hw2.out).mono ?_
        rintro e w3 ⟨rfl, hw3⟩
        replace hw3 := Lib.hid (hw2.out.trans hw3)
        go_wp2
        try rw [rounds_succ]
        try go_wp2
        go_ret
        exact ⟨rfl, hw3.out⟩

theorem see_bad {a b x y u v : Int} {xs : List Int} (h : ¬ ask2 a b xs.length x y u v = 0) : seeV a b xs x y u v = false := by
  unfold ask2 at h
  unfold seeV
  cases h1 : gridB a b xs.length
  · rfl
  · rw [h1, if_pos rfl] at h
    cases h2 : hasB a b x y && hasB a b u v
    · rfl
    · rw [h2] at h
      exact (h rfl).elim
theorem see_good {a b x y u v : Int} {xs : List Int} (h : ask2 a b xs.length x y u v = 0) : (gridB a b xs.length = true ∧ hasB a b x y = true ∧ hasB a b u v = true) ∧ seeV a b xs x y u v = routeB a b xs (line x y u v) := by
  unfold ask2 at h
  unfold seeV
  cases h1 : gridB a b xs.length
  · rw [h1] at h; cases h
  · rw [h1, if_pos rfl] at h
    cases h2 : hasB a b x y && hasB a b u v
    · rw [h2] at h; cases h
    · refine ⟨⟨rfl, ?_, ?_⟩, by simp⟩
      · rw [Bool.and_eq_true] at h2; exact h2.1
      · rw [Bool.and_eq_true] at h2; exact h2.2

set_option maxRecDepth 100000 in
set_option maxHeartbeats 1000000 in
theorem c_specSees (v : Value) (a b ax ay bx by' : Int) (xs : List Int) (w : World) (h : GdV w w.heap.size v a b xs) (hn : xs.length ≤ 1048576) (hax : In16 ax) (hay : In16 ay) (hbx : In16 bx) (hby : In16 by') :
    Calls Try.prog 30 #[v, .agg #[.int .i16 ax, .int .i16 ay], .agg #[.int .i16 bx, .int .i16 by']] w fun e w' => e = .returned (.tuple #[.bool (seeV a b xs ax ay bx by'), .int .i64 (ask2 a b xs.length ax ay bx by')]) ∧ Below w.heap.size w w' := by
  obtain ⟨A, c, rfl, h1⟩ := h.val
  have hst : Stays w ((((w.alloc (.cells #[.int .i64 a, .int .i64 b, .slice A xs.length c] 28)).alloc (.cells #[.int .i16 ax, .int .i16 ay] 32)).alloc (.cells #[.int .i16 bx, .int .i16 by'] 32)).alloc (.cells #[.int .i16 ax, .int .i16 ay, .int .i16 bx, .int .i16 by'] 32)) := by (repeat (first | exact Stays.refl _ | (with_reducible refine Stays.drewN ?_ _) | (with_reducible refine Stays.alloc ?_ _) | (with_reducible refine Stays.drew ?_) | (refine Stays.trans ?_ ‹Stays _ _›)))
  have u0 : ((((w.alloc (.cells #[.int .i64 a, .int .i64 b, .slice A xs.length c] 28)).alloc (.cells #[.int .i16 ax, .int .i16 ay] 32)).alloc (.cells #[.int .i16 bx, .int .i16 by'] 32)).alloc (.cells #[.int .i16 ax, .int .i16 ay, .int .i16 bx, .int .i16 by'] 32)).heap[w.heap.size]? = some (.cells #[.int .i64 a, .int .i64 b, .slice A xs.length c] 28 (0, 0)) := by (repeat (first | (refine heap_top _ _ _ ?_; simp; done) | (with_reducible refine heap_drawn _ _ _ ?_) | (with_reducible refine heap_under _ _ _ ?_ ?_; (simp <;> omega))))
  have u1 : ((((w.alloc (.cells #[.int .i64 a, .int .i64 b, .slice A xs.length c] 28)).alloc (.cells #[.int .i16 ax, .int .i16 ay] 32)).alloc (.cells #[.int .i16 bx, .int .i16 by'] 32)).alloc (.cells #[.int .i16 ax, .int .i16 ay, .int .i16 bx, .int .i16 by'] 32)).heap[w.heap.size + 1]? = some (.cells #[.int .i16 ax, .int .i16 ay] 32 (0, 0)) := by (repeat (first | (refine heap_top _ _ _ ?_; simp; done) | (with_reducible refine heap_drawn _ _ _ ?_) | (with_reducible refine heap_under _ _ _ ?_ ?_; (simp <;> omega))))
  have u2 : ((((w.alloc (.cells #[.int .i64 a, .int .i64 b, .slice A xs.length c] 28)).alloc (.cells #[.int .i16 ax, .int .i16 ay] 32)).alloc (.cells #[.int .i16 bx, .int .i16 by'] 32)).alloc (.cells #[.int .i16 ax, .int .i16 ay, .int .i16 bx, .int .i16 by'] 32)).heap[w.heap.size + 1 + 1]? = some (.cells #[.int .i16 bx, .int .i16 by'] 32 (0, 0)) := by (repeat (first | (refine heap_top _ _ _ ?_; simp; done) | (with_reducible refine heap_drawn _ _ _ ?_) | (with_reducible refine heap_under _ _ _ ?_ ?_; (simp <;> omega))))
  have u3 : ((((w.alloc (.cells #[.int .i64 a, .int .i64 b, .slice A xs.length c] 28)).alloc (.cells #[.int .i16 ax, .int .i16 ay] 32)).alloc (.cells #[.int .i16 bx, .int .i16 by'] 32)).alloc (.cells #[.int .i16 ax, .int .i16 ay, .int .i16 bx, .int .i16 by'] 32)).heap[w.heap.size + 1 + 1 + 1]? = some (.cells #[.int .i16 ax, .int .i16 ay, .int .i16 bx, .int .i16 by'] 32 (0, 0)) := by (repeat (first | (refine heap_top _ _ _ ?_; simp; done) | (with_reducible refine heap_drawn _ _ _ ?_) | (with_reducible refine heap_under _ _ _ ?_ ?_; (simp <;> omega))))
  have k0 := c_asked2 w.heap.size (w.heap.size + 1 + 1 + 1) a b ax ay bx by' A c xs.length _ u0 hn hax hay hbx hby fun w1 h => ⟨row_of h u3 0, row_of h u3 1, row_of h u3 2, row_of h u3 3⟩
  have HG := grid_at u0
  have HC : Hid (∀ w1, Stays ((((w.alloc (.cells #[.int .i64 a, .int .i64 b, .slice A xs.length c] 28)).alloc (.cells #[.int .i16 ax, .int .i16 ay] 32)).alloc (.cells #[.int .i16 bx, .int .i16 by'] 32)).alloc (.cells #[.int .i16 ax, .int .i16 ay, .int .i16 bx, .int .i16 by'] 32)) w1 → w1.cell? ⟨w.heap.size + 1, 0, none⟩ = some (.int .i16 ax) ∧ w1.cell? ⟨w.heap.size + 1, 1, none⟩ = some (.int .i16 ay) ∧ w1.cell? ⟨w.heap.size + 1 + 1, 0, none⟩ = some (.int .i16 bx) ∧ w1.cell? ⟨w.heap.size + 1 + 1, 1, none⟩ = some (.int .i16 by')) := Lib.hid fun w1 h => ⟨row_of h u1 0, row_of h u1 1, row_of h u2 0, row_of h u2 1⟩
  by_cases hz : ask2 a b xs.length ax ay bx by' = 0
  · obtain ⟨⟨hg, hha, hhb⟩, hv⟩ := see_good hz
    rw [hv]
    have kS := fun W (h : Stays _ W) => c_l07Sees w.heap.size a b ax ay bx by' A c xs W (HG.on h) ((h1.below (hst.trans h)).more (hst.trans h).size) hg hha hhb
    rw [hz] at k0 ⊢
    generalize routeB a b xs (line ax ay bx by') = RB at *
    replace k0 := Lib.hid k0
    replace kS := Lib.hid kS
    replace hst := Lib.hid hst
    clear HG h1 h u0 u1 u2 u3 hz hg hha hhb hv hax hay hbx hby
    go_enter Try.func30, Try.ntmps30
    go_wp2_with fail
    refine k0.out.mono ?_
    rintro e w1 ⟨rfl, hw1⟩
    replace hw1 := Lib.hid hw1
    obtain ⟨x0, x1, y0, y1⟩ := HC.out w1 hw1.out
    go_wp2_with fail
    refine (kS.out _ hw1.out).mono ?_
    rintro e w2 ⟨rfl, hw2⟩
    replace hw2 := Lib.hid (hst.out.trans (hw1.out.trans hw2))
    go_wp2
    go_ret2
    exact ⟨rfl, hw2.out⟩
  · rw [see_bad hz]
    generalize ask2 a b xs.length ax ay bx by' = code at *
    have hz' : (code == 0) = false := by simpa using hz
    have hz2 : (code != 0) = true := by rw [bne, hz']; rfl
    replace k0 := Lib.hid k0
    replace hst := Lib.hid hst
    clear HG h1 h u0 u1 u2 u3 HC hax hay hbx hby
    go_enter Try.func30, Try.ntmps30
    go_wp2_with fail
    refine k0.out.mono ?_
    rintro e w1 ⟨rfl, hw1⟩
    replace hw1 := Lib.hid (hst.out.trans hw1)
    go_wp2
    go_ret2
    exact ⟨rfl, hw1.out⟩

set_option maxRecDepth 100000 in
set_option maxHeartbeats 1000000 in
theorem c_implSees (A : Option Addr) (c : Nat) (a b ax ay bx by' : Int) (xs : List Int) (w : World) (h1 : Bs w w.heap.size A xs) (hc : xs.length ≤ c) (hn : xs.length ≤ 1048576) (hax : In16 ax) (hay : In16 ay) (hbx : In16 bx) (hby : In16 by') :
    Calls Try.prog 31 #[.agg #[.int .i64 a, .int .i64 b, .slice A xs.length c], .agg #[.int .i16 ax, .int .i16 ay], .agg #[.int .i16 bx, .int .i16 by']] w fun e w' => e = .returned (.tuple #[.bool (seeV a b xs ax ay bx by'), .int .i64 (ask2 a b xs.length ax ay bx by')]) ∧ Below w.heap.size w w' := by
  have hst : Stays w (((w.alloc (.cells #[.int .i64 a, .int .i64 b, .slice A xs.length c] 28)).alloc (.cells #[.int .i16 ax, .int .i16 ay] 32)).alloc (.cells #[.int .i16 bx, .int .i16 by'] 32)) := by (repeat (first | exact Stays.refl _ | (with_reducible refine Stays.drewN ?_ _) | (with_reducible refine Stays.alloc ?_ _) | (with_reducible refine Stays.drew ?_) | (refine Stays.trans ?_ ‹Stays _ _›)))
  have u0 : (((w.alloc (.cells #[.int .i64 a, .int .i64 b, .slice A xs.length c] 28)).alloc (.cells #[.int .i16 ax, .int .i16 ay] 32)).alloc (.cells #[.int .i16 bx, .int .i16 by'] 32)).heap[w.heap.size]? = some (.cells #[.int .i64 a, .int .i64 b, .slice A xs.length c] 28 (0, 0)) := by (repeat (first | (refine heap_top _ _ _ ?_; simp; done) | (with_reducible refine heap_drawn _ _ _ ?_) | (with_reducible refine heap_under _ _ _ ?_ ?_; (simp <;> omega))))
  have u1 : (((w.alloc (.cells #[.int .i64 a, .int .i64 b, .slice A xs.length c] 28)).alloc (.cells #[.int .i16 ax, .int .i16 ay] 32)).alloc (.cells #[.int .i16 bx, .int .i16 by'] 32)).heap[w.heap.size + 1]? = some (.cells #[.int .i16 ax, .int .i16 ay] 32 (0, 0)) := by (repeat (first | (refine heap_top _ _ _ ?_; simp; done) | (with_reducible refine heap_drawn _ _ _ ?_) | (with_reducible refine heap_under _ _ _ ?_ ?_; (simp <;> omega))))
  have u2 : (((w.alloc (.cells #[.int .i64 a, .int .i64 b, .slice A xs.length c] 28)).alloc (.cells #[.int .i16 ax, .int .i16 ay] 32)).alloc (.cells #[.int .i16 bx, .int .i16 by'] 32)).heap[w.heap.size + 1 + 1]? = some (.cells #[.int .i16 bx, .int .i16 by'] 32 (0, 0)) := by (repeat (first | (refine heap_top _ _ _ ?_; simp; done) | (with_reducible refine heap_drawn _ _ _ ?_) | (with_reducible refine heap_under _ _ _ ?_ ?_; (simp <;> omega))))
  have HC : Hid (∀ w1, Stays (((w.alloc (.cells #[.int .i64 a, .int .i64 b, .slice A xs.length c] 28)).alloc (.cells #[.int .i16 ax, .int .i16 ay] 32)).alloc (.cells #[.int .i16 bx, .int .i16 by'] 32)) w1 → (w1.cell? ⟨w.heap.size, 0, none⟩ = some (.int .i64 a) ∧ w1.cell? ⟨w.heap.size, 1, none⟩ = some (.int .i64 b) ∧ w1.cell? ⟨w.heap.size, 2, none⟩ = some (.slice A xs.length c)) ∧ (w1.cell? ⟨w.heap.size + 1, 0, none⟩ = some (.int .i16 ax) ∧ w1.cell? ⟨w.heap.size + 1, 1, none⟩ = some (.int .i16 ay) ∧ w1.cell? ⟨w.heap.size + 1 + 1, 0, none⟩ = some (.int .i16 bx) ∧ w1.cell? ⟨w.heap.size + 1 + 1, 1, none⟩ = some (.int .i16 by'))) := Lib.hid fun w1 h => ⟨⟨row_of h u0 0, row_of h u0 1, row_of h u0 2⟩, row_of h u1 0, row_of h u1 1, row_of h u2 0, row_of h u2 1⟩
  have k0 := c_implValidGrid (.agg #[.int .i64 a, .int .i64 b, .slice A xs.length c]) a b xs (((w.alloc (.cells #[.int .i64 a, .int .i64 b, .slice A xs.length c] 28)).alloc (.cells #[.int .i16 ax, .int .i16 ay] 32)).alloc (.cells #[.int .i16 bx, .int .i16 by'] 32)) ⟨A, c, rfl, (h1.below hst).more hst.size⟩ hn
  have ka := Lib.hid fun W => c_has a b ax ay A c xs.length W hax hay
  have kb := Lib.hid fun W => c_has a b bx by' A c xs.length W hbx hby
  have kS := fun W (h : Stays (((w.alloc (.cells #[.int .i64 a, .int .i64 b, .slice A xs.length c] 28)).alloc (.cells #[.int .i16 ax, .int .i16 ay] 32)).alloc (.cells #[.int .i16 bx, .int .i16 by'] 32)) W) (hg : gridB a b xs.length = true) (ha : hasB a b ax ay = true) (hb : hasB a b bx by' = true) => c_sees a b ax ay bx by' A c xs W ((h1.below (hst.trans h)).more (hst.trans h).size) hc hg ha hb
  unfold seeV ask2
  replace hst := Lib.hid hst
  clear u0 u1 u2 hax hay hbx hby h1
  generalize gridB a b xs.length = gB at *
  generalize hasB a b ax ay = qA at *
  generalize hasB a b bx by' = qB at *
  generalize routeB a b xs (line ax ay bx by') = RB at *
  cases gB with
  | false =>
    replace k0 := Lib.hid k0
    clear kS
    go_enter Try.func31, Try.ntmps31
    go_wp2_with (go_at_call 50; refine k0.out.mono ?_; rintro e w1 ⟨rfl, hw1⟩)
    go_ret2
    exact ⟨rfl, hst.out.trans hw1⟩
  | true =>
    replace k0 := Lib.hid k0
    cases qA with
    | false =>
      clear kS
      go_enter Try.func31, Try.ntmps31
      go_wp2_with fail
      refine k0.out.mono ?_
      rintro e w1 ⟨rfl, hw1⟩
      replace hw1 := Lib.hid (show Stays _ w1 from hw1)
      obtain ⟨⟨z0, z1, z2⟩, x0, x1, y0, y1⟩ := HC.out w1 hw1.out
      go_wp2_with fail
      refine (ka.out _).mono ?_
      rintro e w2 ⟨rfl, hw2⟩
      replace hw2 := Lib.hid (hst.out.trans (hw1.out.trans hw2))
      go_wp2
      go_ret2
      exact ⟨rfl, hw2.out⟩
    | true =>
      have kS2 := kS
      cases qB with
      | false =>
        clear kS kS2
        go_enter Try.func31, Try.ntmps31
        go_wp2_with fail
        refine k0.out.mono ?_
        rintro e w1 ⟨rfl, hw1⟩
        replace hw1 := Lib.hid (show Stays _ w1 from hw1)
        obtain ⟨⟨z0, z1, z2⟩, x0, x1, y0, y1⟩ := HC.out w1 hw1.out
        go_wp2_with fail
        refine (ka.out _).mono ?_
        rintro e w2 ⟨rfl, hw2⟩
        replace hw2 := Lib.hid (hw1.out.trans hw2)
        clear z0 z1 z2 x0 x1 y0 y1 hw1
        obtain ⟨⟨z0, z1, z2⟩, x0, x1, y0, y1⟩ := HC.out w2 hw2.out
        go_wp2_with fail
        refine (kb.out _).mono ?_
        rintro e w3 ⟨rfl, hw3⟩
        replace hw3 := Lib.hid (hst.out.trans (hw2.out.trans hw3))
        go_wp2
        go_ret2
        exact ⟨rfl, hw3.out⟩
      | true =>
        clear kS
        replace kS2 := Lib.hid fun W h => kS2 W h rfl rfl rfl
        go_enter Try.func31, Try.ntmps31
        go_wp2_with fail
        refine k0.out.mono ?_
        rintro e w1 ⟨rfl, hw1⟩
        replace hw1 := Lib.hid (show Stays _ w1 from hw1)
        obtain ⟨⟨z0, z1, z2⟩, x0, x1, y0, y1⟩ := HC.out w1 hw1.out
        go_wp2_with fail
        refine (ka.out _).mono ?_
        rintro e w2 ⟨rfl, hw2⟩
        replace hw2 := Lib.hid (hw1.out.trans hw2)
        clear z0 z1 z2 x0 x1 y0 y1 hw1
        obtain ⟨⟨z0, z1, z2⟩, x0, x1, y0, y1⟩ := HC.out w2 hw2.out
        go_wp2_with fail
        refine (kb.out _).mono ?_
        rintro e w3 ⟨rfl, hw3⟩
        replace hw3 := Lib.hid (hw2.out.trans hw3)
        clear z0 z1 z2 x0 x1 y0 y1 hw2
        obtain ⟨⟨z0, z1, z2⟩, x0, x1, y0, y1⟩ := HC.out w3 hw3.out
        go_wp2_with fail
        refine (kS2.out _ hw3.out).mono ?_
        rintro e w4 ⟨rfl, hw4⟩
        replace hw4 := Lib.hid (hst.out.trans (hw3.out.trans hw4))
        go_wp2
        go_ret2
        exact ⟨by simp, hw4.out⟩
end Go.Proofs.Yteidjmliepmlmaa
