/- Lists of int64: compared, marked, held, grown. No condition. -/
import Derived.Test.YtpccnejchbachaaTo
namespace Go.Proofs.Ytpccnejchbachaa
open Go Go.ChangeShapes Go.WideShapes Go.RowKit
set_option linter.unusedVariables false
set_option linter.unusedSimpArgs false

abbrev KI : List Kd := [.i .i64]
abbrev oneI (x : Int) : List NV := [NV.i x]
abbrev Is (w : World) (B : Nat) (A : Option Addr) (xs : List Int) : Prop := Rows KI 1 oneI w B A xs
abbrev LiesI (w : World) (g : Nat) (v : Value) (xs : List Int) : Prop := LiesR KI 1 oneI w g v xs

theorem i64_at {w : World} {p : Addr} {x : Int} (h : RowAt KI w p (oneI x)) : w.cell? p = some (.int .i64 x) := by
  obtain ⟨c0, ⟨hk, _⟩, hc⟩ := row1 rfl h
  have hk : c0 = .int .i64 x := hk
  subst hk
  exact hc

theorem Is.at_ {w : World} {B : Nat} {A : Option Addr} {xs : List Int} (h : Is w B A xs) {i : Nat} {x : Int} (hx : xs[i]? = some x) : ∃ ad, A = some ad ∧ ad.block < B ∧ w.cell? (ad.add i) = some (.int .i64 x) := by
  obtain ⟨ad, e, hlt, hr⟩ := h i x hx
  rw [Nat.mul_one] at hr
  exact ⟨ad, e, hlt, i64_at hr⟩

theorem GrowI.lies {B : Nat} {w : World} {v : Value} {xs : List Int} (h : GrowI B w v xs) : ∃ g, B ≤ g ∧ LiesI w g v xs := by
  obtain ⟨_, h2⟩ := h
  rcases h2 with ⟨rfl, h0⟩ | ⟨g, cap, cur, rfl, hb, hg, hn, hc, hs, ht⟩
  · have : xs = [] := List.eq_nil_of_length_eq_zero h0
    subst this
    exact ⟨B, Nat.le_refl _, none, 0, rfl, fun h => absurd rfl h⟩
  · refine ⟨g, hb, _, _, rfl, fun _ => ⟨rfl, (Array.getElem?_eq_some_iff.1 hg).1, fun j hj => ?_, fun i r hr => ?_⟩⟩
    · refine ⟨?_, frozen_of_row _ _ _ _ _ hg⟩
      rw [cell_of_row _ _ _ _ _ _ hg]
      have : 0 + j < cur.size := by rw [hs]; have := Nat.mul_le_mul_right 1 hn; omega
      rw [Array.getElem?_eq_getElem this]; rfl
    · refine ⟨[.int .i64 r], ⟨rfl, trivial⟩, fun j u hu => ?_⟩
      rw [cell_of_row _ _ _ _ _ _ hg]
      have hi := (List.getElem?_eq_some_iff.1 hr).1
      cases j with
      | succ j => simp at hu
      | zero =>
        have h1 : (i64L xs)[i]? = some (.int .i64 r) := by unfold i64L; rw [List.getElem?_map, hr]; rfl
        rw [← ht, List.getElem?_take_of_lt (by omega)] at h1
        cases hu
        simpa using h1

theorem LiesI.at_ {w : World} {g c : Nat} {A : Option Addr} {xs : List Int} (h : LiesI w g (.slice A xs.length c) xs) : 0 < xs.length → A = some ⟨g, 0, none⟩ := fun h0 => by
  obtain ⟨A', c', e, h⟩ := h
  cases e
  exact (h (fun e => by rw [e] at h0; simp at h0)).1

theorem LiesI.there {w : World} {g : Nat} {v : Value} {xs : List Int} (h : LiesI w g v xs) : w.there g 0 xs.length := by
  obtain ⟨A, c, e, h⟩ := h
  by_cases hx : xs = []
  · subst hx
    intro j hj
    simp at hj
  · have := (h hx).2.2.1
    rw [Nat.mul_one] at this
    exact this

set_option maxRecDepth 100000 in
set_option maxHeartbeats 400000 in
theorem c_eqInt64S (A A' : Option Addr) (c c' : Nat) (xs : List Int) (w : World) (h : Is w w.heap.size A xs) (h' : Is w w.heap.size A' xs) (hn : xs.length ≤ 1048576) :
    Calls Try.prog 10 #[.slice A xs.length c, .slice A' xs.length c'] w fun e w' => e = .returned (.bool true) ∧ Below w.heap.size w w' := by
  have H := Lib.hid h
  have H' := Lib.hid h'
  clear h h'
  go_enter Try.func10, Try.ntmps10
  go_wp2
  go_loopw [5] (fun i wr => ∃ k : Nat, k ≤ xs.length ∧ i = .int .i64 k ∧ Hid (Below w.heap.size w wr)) (fun i _ => xs.length - (intOf i).toNat)
  case atStart => exact ⟨0, Nat.zero_le _, rfl, Lib.hid (Below.refl _ _)⟩
  case round =>
    obtain ⟨k, hk, rfl, hb⟩ := hrel
    by_cases hlt : k < xs.length
    · obtain ⟨ad, rfl, _, hc⟩ := Is.at_ (H.out.below hb.out) (List.getElem?_eq_getElem hlt)
      obtain ⟨ad', rfl, _, hc'⟩ := Is.at_ (H'.out.below hb.out) (List.getElem?_eq_getElem hlt)
      generalize xs[k] = x at hc hc'
      have hlt' : (k : Int) < (xs.length : Int) := by omega
      go_wp2
      go_region
      go_wp2
      go_round
      case rel => exact ⟨k + 1, by omega, by go_num, Lib.hid hb.out.drew⟩
      case measure => simp [intOf]; omega
    · go_wp2
      go_ret
      exact ⟨rfl, hb.out⟩

/-- Integers that are told by their places. -/
structure MarkedI (w wr : World) (g n : Nat) (k0 : Int) (i : Nat) : Prop where
  there : wr.there g 0 n
  same : ∀ g', g' ≠ g → Same w wr g'
  below : ∀ B, B ≤ g → Below B w wr
  cells : ∀ j, j < i → wr.cell? ⟨g, j, none⟩ = some (.int .i64 (k0 + (j : Nat)))

theorem MarkedI.next {w wr : World} {g n i : Nat} {k0 : Int} (h : MarkedI w wr g n k0 i) (hi : i < n) : MarkedI w (wr.setCell ⟨g, i, none⟩ (.int .i64 (k0 + (i : Nat)))) g n k0 (i + 1) := by
  refine ⟨World.there_setCells h.there g i [_], fun g' hg => (h.same g' hg).trans (same_sets g g' i [_] _ hg), fun B hB => bel_sets hB [_] _ _ (h.below B hB), fun j hj => ?_⟩
  by_cases e : j = i
  · subst e
    have := World.rangeAt_setCells_same wr g j [.int .i64 (k0 + (j : Nat))] (there_part h.there _ _ (by show j + 1 ≤ _; omega))
    exact this 0 _ rfl
  · have hr : wr.rangeAt g j [.int .i64 (k0 + (j : Nat))] := fun m u hu => by
      cases m with
      | zero => cases hu; exact h.cells j (by omega)
      | succ m => simp at hu
    exact World.rangeAt_setCells_apart hr g i [_] (Or.inr (Or.inl (by show j + 1 ≤ i; omega))) 0 _ rfl

set_option maxRecDepth 100000 in
set_option maxHeartbeats 400000 in
theorem c_markI (A : Option Addr) (g c n : Nat) (k0 : Int) (w : World) (hA : 0 < n → A = some ⟨g, 0, none⟩) (ht : w.there g 0 n) (hn : n ≤ 1048576) (h0 : 0 ≤ k0 ∧ k0 ≤ 100) :
    Calls Try.prog 11 #[.slice A n c, .int .i64 k0] w fun e w' => e = .returned (.int .i64 (k0 + (n : Nat))) ∧ MarkedI w w' g n k0 n := by
  have HT := Lib.hid ht
  have HA := Lib.hid hA
  clear ht hA
  go_enter Try.func11, Try.ntmps11
  go_wp2
  go_loopw [1, 5] (fun kv iv wr => ∃ i : Nat, i ≤ n ∧ iv = .int .i64 i ∧ kv = .int .i64 (k0 + (i : Nat)) ∧ Hid (MarkedI w wr g n k0 i)) (fun _ iv _ => n - (intOf iv).toNat)
  case atStart => exact ⟨0, Nat.zero_le _, rfl, by simp, Lib.hid ⟨HT.out, fun g' _ => ⟨fun _ _ => rfl, fun _ _ => rfl, Nat.le_refl _⟩, fun B _ => Below.refl _ _, fun j hj => by omega⟩⟩
  case round =>
    obtain ⟨i, hi, rfl, rfl, hm⟩ := hrel
    by_cases hlt : i < n
    · have hlt' : (i : Int) < (n : Int) := by omega
      have hAe := HA.out (by omega)
      subst hAe
      obtain ⟨u0, hu0⟩ := Option.isSome_iff_exists.1 ((there_part hm.out.there i 1 (by omega)) 0 (by omega)).1
      have hf0 := ((there_part hm.out.there i 1 (by omega)) 0 (by omega)).2
      rw [Nat.add_zero] at hu0 hf0
      have hnx := Lib.hid (hm.out.next hlt)
      have hb : 0 ≤ k0 + (i : Int) ∧ k0 + (i : Int) ≤ 4194500 := by omega
      generalize hK : k0 + (i : Int) = K at hb hnx
      have hK := Lib.hid hK
      go_wp2
      go_round
      case rel => exact ⟨i + 1, by omega, by go_num, by rw [show k0 + ((i + 1 : Nat) : Int) = K + 1 from by rw [← hK.out]; omega], hnx⟩
      case measure => simp [intOf]; omega
    · have e : i = n := by omega
      subst e
      go_wp2
      go_ret
      exact ⟨rfl, hm.out⟩

set_option maxRecDepth 100000 in
set_option maxHeartbeats 400000 in
theorem c_heldI (A : Option Addr) (g c n : Nat) (k0 : Int) (w : World) (hA : 0 < n → A = some ⟨g, 0, none⟩) (hr : ∀ j, j < n → w.cell? ⟨g, j, none⟩ = some (.int .i64 (k0 + (j : Nat)))) (hn : n ≤ 1048576) (h0 : 0 ≤ k0 ∧ k0 ≤ 100) :
    Calls Try.prog 12 #[.slice A n c, .int .i64 k0] w fun e w' => e = .returned (.int .i64 (k0 + (n : Nat))) ∧ w = w' := by
  have HR := Lib.hid hr
  have HA := Lib.hid hA
  clear hr hA
  go_enter Try.func12, Try.ntmps12
  go_wp2
  go_loop [1, 5] (fun kv iv => ∃ i : Nat, i ≤ n ∧ iv = .int .i64 i ∧ kv = .int .i64 (k0 + (i : Nat))) (fun _ iv => n - (intOf iv).toNat)
  case atStart => exact ⟨0, Nat.zero_le _, rfl, by simp⟩
  case round =>
    obtain ⟨i, hi, rfl, rfl⟩ := hrel
    by_cases hlt : i < n
    · have hlt' : (i : Int) < (n : Int) := by omega
      have hAe := HA.out (by omega)
      subst hAe
      have hc := HR.out i hlt
      have hb : 0 ≤ k0 + (i : Int) ∧ k0 + (i : Int) ≤ 4194500 := by omega
      generalize hK : k0 + (i : Int) = K at hb hc
      have hK := Lib.hid hK
      go_wp2
      go_round
      case rel => exact ⟨i + 1, by omega, by go_num, by rw [show k0 + ((i + 1 : Nat) : Int) = K + 1 from by rw [← hK.out]; omega]⟩
      case measure => simp [intOf]; omega
    · have e : i = n := by omega
      subst e
      go_wp2
      go_ret
      exact ⟨rfl, rfl⟩

theorem LiesI.marked {w w' : World} {g g' n i : Nat} {k0 : Int} {v : Value} {xs : List Int} (h : LiesI w g v xs) (hm : MarkedI w w' g' n k0 i) (hne : xs ≠ [] → g ≠ g') : LiesI w' g v xs := by
  by_cases hx : xs = []
  · subst hx
    obtain ⟨A, c, e, _⟩ := h
    exact ⟨A, c, e, fun h => absurd rfl h⟩
  · exact LiesR.on h fun hlt => hm.same g (hne hx)

theorem MarkedI.on {w wr w' : World} {g n : Nat} {k0 : Int} (h : MarkedI w wr g n k0 n) (hb : Below wr.heap.size wr w') : ∀ j, j < n → w'.cell? ⟨g, j, none⟩ = some (.int .i64 (k0 + (j : Nat))) := fun j hj => by
  have hc := h.cells j hj
  have hlt : g < wr.heap.size := World.block_lt_of_cell? _ _ hc
  exact (hb.cell (p := ⟨g, j, none⟩) hlt).trans hc

end Go.Proofs.Ytpccnejchbachaa
