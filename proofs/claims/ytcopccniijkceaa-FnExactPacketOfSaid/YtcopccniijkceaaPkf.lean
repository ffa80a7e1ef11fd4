/- Lists of bytes: compared, marked, held. No condition. -/
import Derived.Test.YtcopccniijkceaaPkc
import Derived.Test.YtcopccniijkceaaLi
import Derived.Test.YtcopccniijkceaaLf
namespace Go.Proofs.Ytcopccniijkceaa
open Go Go.ChangeShapes Go.WideShapes Go.RowKit
set_option linter.unusedVariables false
set_option linter.unusedSimpArgs false

abbrev KB : List Kd := [.i .u8]
abbrev oneI (x : Int) : List NV := [NV.i x]
abbrev Bs (w : World) (B : Nat) (A : Option Addr) (xs : List Int) : Prop := Rows KB 1 oneI w B A xs
abbrev LiesB (w : World) (g : Nat) (v : Value) (xs : List Int) : Prop := LiesR KB 1 oneI w g v xs

theorem byte_at {w : World} {p : Addr} {x : Int} (h : RowAt KB w p (oneI x)) : w.cell? p = some (.int .u8 x) := by
  obtain ⟨c0, ⟨hk, _⟩, hc⟩ := row1 rfl h
  have hk : c0 = .int .u8 x := hk
  subst hk
  exact hc

theorem Bs.at_ {w : World} {B : Nat} {A : Option Addr} {xs : List Int} (h : Bs w B A xs) {i : Nat} {x : Int} (hx : xs[i]? = some x) : ∃ ad, A = some ad ∧ ad.block < B ∧ w.cell? (ad.add i) = some (.int .u8 x) := by
  obtain ⟨ad, e, hlt, hr⟩ := h i x hx
  rw [Nat.mul_one] at hr
  exact ⟨ad, e, hlt, byte_at hr⟩

set_option maxRecDepth 100000 in
set_option maxHeartbeats 400000 in
theorem c_eqByteS (A A' : Option Addr) (c c' : Nat) (xs : List Int) (w : World) (h : Bs w w.heap.size A xs) (h' : Bs w w.heap.size A' xs) (hn : xs.length ≤ 1048576) :
    Calls Try.prog 18 #[.slice A xs.length c, .slice A' xs.length c'] w fun e w' => e = .returned (.bool true) ∧ Below w.heap.size w w' := by
  have H := Lib.hid h
  have H' := Lib.hid h'
  clear h h'
  go_enter Try.func18, Try.ntmps18
  go_wp2
  go_loopw [5] (fun i wr => ∃ k : Nat, k ≤ xs.length ∧ i = .int .i64 k ∧ Hid (Below w.heap.size w wr)) (fun i _ => xs.length - (intOf i).toNat)
  case atStart => exact ⟨0, Nat.zero_le _, rfl, Lib.hid (Below.refl _ _)⟩
  case round =>
    obtain ⟨k, hk, rfl, hb⟩ := hrel
    by_cases hlt : k < xs.length
    · obtain ⟨ad, rfl, _, hc⟩ := Bs.at_ (H.out.below hb.out) (List.getElem?_eq_getElem hlt)
      obtain ⟨ad', rfl, _, hc'⟩ := Bs.at_ (H'.out.below hb.out) (List.getElem?_eq_getElem hlt)
      generalize xs[k] = x at hc hc'
      have hlt' : (k : Int) < (xs.length : Int) := by omega
      go_wp2
      go_region
      go_wp2
      go_round
      case rel => exact ⟨k + 1, by omega, by go_num, Lib.hid hb.out.drew⟩
      case measure => simp [intOf]; omega
    · go_wp2
      go_ret
      exact ⟨rfl, hb.out⟩

/-- Bytes that are told by their places. -/
structure MarkedB (w wr : World) (g n : Nat) (k0 : Int) (i : Nat) : Prop where
  there : wr.there g 0 n
  same : ∀ g', g' ≠ g → Same w wr g'
  below : ∀ B, B ≤ g → Below B w wr
  cells : ∀ j, j < i → wr.cell? ⟨g, j, none⟩ = some (.int .u8 (IntKind.u8.wrap (k0 + (j : Nat))))

theorem MarkedB.next {w wr : World} {g n i : Nat} {k0 : Int} (h : MarkedB w wr g n k0 i) (hi : i < n) : MarkedB w (wr.setCell ⟨g, i, none⟩ (.int .u8 (IntKind.u8.wrap (k0 + (i : Nat))))) g n k0 (i + 1) := by
  refine ⟨World.there_setCells h.there g i [_], fun g' hg => (h.same g' hg).trans (same_sets g g' i [_] _ hg), fun B hB => bel_sets hB [_] _ _ (h.below B hB), fun j hj => ?_⟩
  by_cases e : j = i
  · subst e
    have := World.rangeAt_setCells_same wr g j [.int .u8 (IntKind.u8.wrap (k0 + (j : Nat)))] (there_part h.there _ _ (by show j + 1 ≤ _; omega))
    exact this 0 _ rfl
  · have hr : wr.rangeAt g j [.int .u8 (IntKind.u8.wrap (k0 + (j : Nat)))] := fun m u hu => by
      cases m with
      | zero => cases hu; exact h.cells j (by omega)
      | succ m => simp at hu
    exact World.rangeAt_setCells_apart hr g i [_] (Or.inr (Or.inl (by show j + 1 ≤ i; omega))) 0 _ rfl

set_option maxRecDepth 100000 in
set_option maxHeartbeats 400000 in
theorem c_markB (A : Option Addr) (g c n : Nat) (k0 : Int) (w : World) (hA : 0 < n → A = some ⟨g, 0, none⟩) (ht : w.there g 0 n) (hn : n ≤ 1048576) (h0 : 0 ≤ k0 ∧ k0 ≤ 100) :
    Calls Try.prog 21 #[.slice A n c, .int .i64 k0] w fun e w' => e = .returned (.int .i64 (k0 + (n : Nat))) ∧ MarkedB w w' g n k0 n := by
  have HT := Lib.hid ht
  have HA := Lib.hid hA
  clear ht hA
  go_enter Try.func21, Try.ntmps21
  go_wp2
  go_loopw [1, 5] (fun kv iv wr => ∃ i : Nat, i ≤ n ∧ iv = .int .i64 i ∧ kv = .int .i64 (k0 + (i : Nat)) ∧ Hid (MarkedB w wr g n k0 i)) (fun _ iv _ => n - (intOf iv).toNat)
  case atStart => exact ⟨0, Nat.zero_le _, rfl, by simp, Lib.hid ⟨HT.out, fun g' _ => ⟨fun _ _ => rfl, fun _ _ => rfl, Nat.le_refl _⟩, fun B _ => Below.refl _ _, fun j hj => by omega⟩⟩
  case round =>
    obtain ⟨i, hi, rfl, rfl, hm⟩ := hrel
    by_cases hlt : i < n
    · have hlt' : (i : Int) < (n : Int) := by omega
      have hAe := HA.out (by omega)
      subst hAe
      obtain ⟨u0, hu0⟩ := Option.isSome_iff_exists.1 ((there_part hm.out.there i 1 (by omega)) 0 (by omega)).1
      have hf0 := ((there_part hm.out.there i 1 (by omega)) 0 (by omega)).2
      rw [Nat.add_zero] at hu0 hf0
      have hnx := Lib.hid (hm.out.next hlt)
      have hb : 0 ≤ k0 + (i : Int) ∧ k0 + (i : Int) ≤ 4194500 := by omega
      generalize hK : k0 + (i : Int) = K at hb hnx
      have hK := Lib.hid hK
      go_wp2
      go_round
      case rel => exact ⟨i + 1, by omega, by go_num, by rw [show k0 + ((i + 1 : Nat) : Int) = K + 1 from by rw [← hK.out]; omega], hnx⟩
      case measure => simp [intOf]; omega
    · have e : i = n := by omega
      subst e
      go_wp2
      go_ret
      exact ⟨rfl, hm.out⟩

set_option maxRecDepth 100000 in
set_option maxHeartbeats 400000 in
theorem c_heldB (A : Option Addr) (g c n : Nat) (k0 : Int) (w : World) (hA : 0 < n → A = some ⟨g, 0, none⟩) (hr : ∀ j, j < n → w.cell? ⟨g, j, none⟩ = some (.int .u8 (IntKind.u8.wrap (k0 + (j : Nat))))) (hn : n ≤ 1048576) (h0 : 0 ≤ k0 ∧ k0 ≤ 100) :
    Calls Try.prog 22 #[.slice A n c, .int .i64 k0] w fun e w' => e = .returned (.int .i64 (k0 + (n : Nat))) ∧ w = w' := by
  have HR := Lib.hid hr
  have HA := Lib.hid hA
  clear hr hA
  go_enter Try.func22, Try.ntmps22
  go_wp2
  go_loop [1, 5] (fun kv iv => ∃ i : Nat, i ≤ n ∧ iv = .int .i64 i ∧ kv = .int .i64 (k0 + (i : Nat))) (fun _ iv => n - (intOf iv).toNat)
  case atStart => exact ⟨0, Nat.zero_le _, rfl, by simp⟩
  case round =>
    obtain ⟨i, hi, rfl, rfl⟩ := hrel
    by_cases hlt : i < n
    · have hlt' : (i : Int) < (n : Int) := by omega
      have hAe := HA.out (by omega)
      subst hAe
      have hc := HR.out i hlt
      have hb : 0 ≤ k0 + (i : Int) ∧ k0 + (i : Int) ≤ 4194500 := by omega
      generalize hK : k0 + (i : Int) = K at hb hc
      have hK := Lib.hid hK
      go_wp2
      go_round
      case rel => exact ⟨i + 1, by omega, by go_num, by rw [show k0 + ((i + 1 : Nat) : Int) = K + 1 from by rw [← hK.out]; omega]⟩
      case measure => simp [intOf]; omega
    · have e : i = n := by omega
      subst e
      go_wp2
      go_ret
      exact ⟨rfl, rfl⟩

theorem LiesB.at_ {w : World} {g c : Nat} {A : Option Addr} {xs : List Int} (h : LiesB w g (.slice A xs.length c) xs) : 0 < xs.length → A = some ⟨g, 0, none⟩ := fun h0 => by
  obtain ⟨A', c', e, h⟩ := h
  cases e
  exact (h (fun e => by rw [e] at h0; simp at h0)).1

theorem LiesB.there {w : World} {g : Nat} {v : Value} {xs : List Int} (h : LiesB w g v xs) : w.there g 0 xs.length := by
  obtain ⟨A, c, e, h⟩ := h
  by_cases hx : xs = []
  · subst hx
    intro j hj
    simp at hj
  · have := (h hx).2.2.1
    rw [Nat.mul_one] at this
    exact this


theorem LiesB.other {w w' : World} {g : Nat} {v : Value} {xs : List Int} (h : LiesB w g v xs) (hm : xs ≠ [] → Same w w' g) : LiesB w' g v xs := by
  by_cases hx : xs = []
  · subst hx
    obtain ⟨A, c, e, _⟩ := h
    exact ⟨A, c, e, fun h => absurd rfl h⟩
  · exact LiesR.on h fun _ => hm hx
theorem LiesB.markedR {w w' : World} {g g' n i : Nat} {k0 : Int} {v : Value} {xs : List Int} (h : LiesB w g v xs) (hm : Marked w w' g' n k0 i) (hne : xs ≠ [] → g ≠ g') : LiesB w' g v xs := h.other fun hx => hm.same g (hne hx)
theorem LiesB.markedB {w w' : World} {g g' n i : Nat} {k0 : Int} {v : Value} {xs : List Int} (h : LiesB w g v xs) (hm : MarkedB w w' g' n k0 i) (hne : xs ≠ [] → g ≠ g') : LiesB w' g v xs := h.other fun hx => hm.same g (hne hx)
theorem MarkedB.on {w wr w' : World} {g n : Nat} {k0 : Int} (h : MarkedB w wr g n k0 n) (hb : Below wr.heap.size wr w') : ∀ j, j < n → w'.cell? ⟨g, j, none⟩ = some (.int .u8 (IntKind.u8.wrap (k0 + (j : Nat)))) := fun j hj => by
  have hc := h.cells j hj
  exact (hb.cell (p := ⟨g, j, none⟩) (World.block_lt_of_cell? _ _ hc)).trans hc
theorem OwnP.below {w wr : World} {v : Value} {l : List Int} (h : OwnP w v l wr) : Below w.heap.size w wr := h.st
theorem OwnP.lies {w wr : World} {v : Value} {l : List Int} (h : OwnP w v l wr) : ∃ g, w.heap.size ≤ g ∧ LiesB wr g v l := by
  rcases h.own.2 with ⟨e, h0⟩ | ⟨g, cap, cur, e, hb, hg, hn, hc, hs, ht⟩
  · have : l = [] := List.eq_nil_of_length_eq_zero h0
    subst this
    exact ⟨w.heap.size, Nat.le_refl _, none, 0, e, fun h => absurd rfl h⟩
  · refine ⟨g, hb, _, _, e, fun _ => ⟨rfl, in_heap hg, fun j hj => ⟨?_, frozen_of_row _ _ _ _ _ hg⟩, fun i r hr => ⟨[.int .u8 r], ⟨rfl, trivial⟩, fun j u hu => ?_⟩⟩⟩
    · rw [cell_of_row _ _ _ _ _ _ hg]
      have : 0 + j < cur.size := by rw [hs]; omega
      rw [Array.getElem?_eq_getElem this]; rfl
    · match j, hu with
      | 0, hu =>
        cases hu
        rw [cell_of_row _ _ _ _ _ _ hg, Nat.mul_one]
        have h1 : (bV l)[i]? = some (.int .u8 r) := by unfold bV; rw [List.getElem?_map, hr]; rfl
        have hi := (List.getElem?_eq_some_iff.1 hr).1
        rw [← ht, List.getElem?_take_of_lt (by omega)] at h1
        simpa using h1
      | j + 1, hu => simp at hu
theorem pkX_len (xs : List Rd) : (pkX xs).length ≤ 1048576 := by
  unfold pkX
  split
  · rename_i h
    unfold feedB' at h
    rw [Bool.and_eq_true, decide_eq_true_eq] at h
    unfold pk
    rw [List.length_append, pre_len xs xs.length (Nat.le_refl _)]
    show 4 + 10 * xs.length + 2 ≤ _
    omega
  · simp
end Go.Proofs.Ytcopccniijkceaa
