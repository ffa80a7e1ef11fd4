/- Lists of readings that are written into. No condition. -/
import Derived.Test.YtcopccniijkceaaLg
namespace Go.Proofs.Ytcopccniijkceaa
open Go Go.RowKit
set_option linter.unusedVariables false

/-- A list of readings in a block of its own, or an empty one. -/
def Lies (w : World) (g : Nat) (v : Value) (xs : List Rd) : Prop :=
  ∃ A c, v = .slice A xs.length c ∧ (xs ≠ [] → A = some ⟨g, 0, none⟩ ∧ g < w.heap.size ∧ w.there g 0 (xs.length * 4) ∧ ∀ i r, xs[i]? = some r → w.rangeAt g (i * 4) r.cells.toList)

theorem Lies.on {w w' : World} {g : Nat} {v : Value} {xs : List Rd} (h : Lies w g v xs) (hs : g < w.heap.size → Same w w' g) : Lies w' g v xs := by
  obtain ⟨A, c, e, h⟩ := h
  refine ⟨A, c, e, fun hx => ?_⟩
  obtain ⟨h1, h2, h3, h4⟩ := h hx
  have S := hs h2
  refine ⟨h1, Nat.lt_of_lt_of_le h2 S.size, fun j hj => ?_, fun i r hr j u hu => ?_⟩
  · rw [S.cell _ rfl, S.frozen _ rfl]; exact h3 j hj
  · rw [S.cell _ rfl]; exact h4 i r hr j u hu

theorem Lies.feed {w : World} {g : Nat} {v : Value} {xs : List Rd} (h : Lies w g v xs) : ∃ A c, v = .slice A xs.length c ∧ Feed w w.heap.size A xs := by
  obtain ⟨A, c, e, h⟩ := h
  refine ⟨A, c, e, fun i r hr => ?_⟩
  obtain ⟨rfl, h2, h3, h4⟩ := h (fun e => by rw [e] at hr; simp at hr)
  have hrow := h4 i r hr
  have e : (⟨g, 0, none⟩ : Addr).add (i * 4) = ⟨g, i * 4, none⟩ := by
    unfold Addr.add
    split
    · rename_i h0; rw [h0]
    · rw [Nat.zero_add]
  refine ⟨⟨g, 0, none⟩, rfl, h2, ?_, ?_, ?_, ?_⟩
  · rw [e]; exact hrow 0 _ rfl
  · rw [e]; exact hrow 1 _ rfl
  · rw [e]; exact hrow 2 _ rfl
  · rw [e]; exact hrow 3 _ rfl

theorem Copied.lies {w wr : World} {rs : List Rd} (h : Copied w wr rs rs.length) : Lies wr w.heap.size (.slice (some ⟨w.heap.size, 0, none⟩) rs.length rs.length) rs :=
  ⟨_, _, rfl, fun _ => ⟨rfl, h.lt, h.there, fun i r hr => h.rows i r (List.getElem?_eq_some_iff.1 hr).1 hr⟩⟩

theorem cells_at : ∀ {xs : List Rd} {i : Nat} {r : Rd}, xs[i]? = some r → ∀ j u, r.cells.toList[j]? = some u → (cellsOf xs)[i * 4 + j]? = some u
  | [], i, r, h, _, _, _ => by simp at h
  | x :: xs, 0, r, h, j, u, hu => by
    cases h
    show (x.cells.toList ++ cellsOf xs)[0 * 4 + j]? = _
    have hj : j < x.cells.toList.length := (List.getElem?_eq_some_iff.1 hu).1
    rw [Nat.zero_mul, Nat.zero_add, List.getElem?_append_left hj]
    exact hu
  | x :: xs, i + 1, r, h, j, u, hu => by
    show (x.cells.toList ++ cellsOf xs)[(i + 1) * 4 + j]? = _
    have hl : x.cells.toList.length = 4 := rfl
    rw [List.getElem?_append_right (by rw [hl]; omega), hl, show (i + 1) * 4 + j - 4 = i * 4 + j by omega]
    exact cells_at (by simpa using h) j u hu

theorem Grows.lies {w wr : World} {v : Value} {xs : List Rd} (h : Grows w wr v xs) : ∃ g, w.heap.size ≤ g ∧ Lies wr g v xs := by
  rcases h.own.2 with ⟨rfl, h0⟩ | ⟨g, cap, cur, rfl, hb, hg, hn, hc, hs, ht⟩
  · have : xs = [] := List.eq_nil_of_length_eq_zero h0
    subst this
    exact ⟨w.heap.size, Nat.le_refl _, none, 0, rfl, fun h => absurd rfl h⟩
  · refine ⟨g, hb, _, _, rfl, fun _ => ⟨rfl, (Array.getElem?_eq_some_iff.1 hg).1, fun j hj => ?_, fun i r hr j u hu => ?_⟩⟩
    · refine ⟨?_, frozen_of_row _ _ _ _ _ hg⟩
      rw [cell_of_row _ _ _ _ _ _ hg]
      have : 0 + j < cur.size := by rw [hs]; have := Nat.mul_le_mul_right 4 hn; omega
      rw [Array.getElem?_eq_getElem this]; rfl
    · rw [cell_of_row _ _ _ _ _ _ hg]
      have h1 := cells_at hr j u hu
      have hi := (List.getElem?_eq_some_iff.1 hr).1
      have hj : j < 4 := (List.getElem?_eq_some_iff.1 hu).1
      rw [← ht, List.getElem?_take_of_lt (by omega)] at h1
      simpa using h1

/-- What marks write. -/
def markRd (k : Int) : Rd := ⟨k, IntKind.i16.wrap (k + 1 + ((0 : Nat) : Int)), IntKind.i16.wrap (k + 1 + ((1 : Nat) : Int)), IntKind.i16.wrap (k + 1 + ((2 : Nat) : Int))⟩
def marks (k : Int) : Nat → List Rd
  | 0 => []
  | n + 1 => marks k n ++ [markRd (k + 4 * n)]
theorem marks_len (k : Int) : ∀ n, (marks k n).length = n
  | 0 => rfl
  | n + 1 => by simp [marks, marks_len k n]

/-- The first readings of a block are marked. -/
structure Marked (w wr : World) (g n : Nat) (k0 : Int) (i : Nat) : Prop where
  there : wr.there g 0 (n * 4)
  same : ∀ g', g' ≠ g → Same w wr g'
  below : ∀ B, B ≤ g → Below B w wr
  rows : ∀ j, j < i → wr.rangeAt g (j * 4) (markRd (k0 + 4 * (j : Nat))).cells.toList

theorem Marked.next {w wr : World} {g n i : Nat} {k0 : Int} (h : Marked w wr g n k0 i) (hi : i < n) : Marked w (wr.setCells g (i * 4) (markRd (k0 + 4 * (i : Nat))).cells.toList) g n k0 (i + 1) := by
  refine ⟨World.there_setCells h.there _ _ _, fun g' hg => (h.same g' hg).trans (same_sets g g' _ _ _ hg), fun B hB => bel_sets hB _ _ _ (h.below B hB), fun j hj => ?_⟩
  by_cases e : j = i
  · subst e
    exact World.rangeAt_setCells_same _ _ _ _ (there_part h.there _ _ (by show j * 4 + 4 ≤ _; omega))
  · refine World.rangeAt_setCells_apart (h.rows j (by omega)) _ _ _ (Or.inr (Or.inl ?_))
    show j * 4 + 4 ≤ i * 4
    omega

set_option maxRecDepth 100000 in
set_option maxHeartbeats 400000 in
theorem c_mark (A : Option Addr) (g c n : Nat) (k0 : Int) (w : World) (hA : 0 < n → A = some ⟨g, 0, none⟩) (ht : w.there g 0 (n * 4)) (hn : n ≤ 1048576) (h0 : 0 ≤ k0 ∧ k0 ≤ 100) :
    Calls Try.prog 20 #[.slice A n c, .int .i64 k0] w fun e w' => e = .returned (.int .i64 (k0 + 4 * (n : Nat))) ∧ Marked w w' g n k0 n := by
  have HT := Lib.hid ht
  have HA := Lib.hid hA
  clear ht hA
  go_enter Try.func20, Try.ntmps20
  go_wp2
  go_loopw [1, 5] (fun kv iv wr => ∃ i : Nat, i ≤ n ∧ iv = .int .i64 i ∧ kv = .int .i64 (k0 + 4 * (i : Nat)) ∧ Hid (Marked w wr g n k0 i)) (fun _ iv _ => n - (intOf iv).toNat)
  case atStart => exact ⟨0, Nat.zero_le _, rfl, by simp, Lib.hid ⟨HT.out, fun g' _ => ⟨fun _ _ => rfl, fun _ _ => rfl, Nat.le_refl _⟩, fun B _ => Below.refl _ _, fun j hj => by omega⟩⟩
  case round =>
    obtain ⟨i, hi, rfl, rfl, hm⟩ := hrel
    generalize wr = wo at hm ⊢
    by_cases hlt : i < n
    · have hlt' : (i : Int) < (n : Int) := by omega
      have hAe := HA.out (by omega)
      subst hAe
      obtain ⟨u0, hu0⟩ := Option.isSome_iff_exists.1 ((there_part hm.out.there (i * 4) 4 (by omega)) 0 (by omega)).1
      have hf0 := ((there_part hm.out.there (i * 4) 4 (by omega)) 0 (by omega)).2
      rw [Nat.add_zero] at hu0 hf0
      have hb : 0 ≤ k0 + 4 * (i : Int) ∧ k0 + 4 * (i : Int) ≤ 4194500 := by omega
      generalize hK : k0 + 4 * (i : Int) = K at hb
      have hK := Lib.hid hK
      go_wp2
      have hth := Lib.hid hm.out.there
      have hfin : Hid (Marked w (wo.setCells g (i * 4) (markRd K).cells.toList) g n k0 (i + 1)) := Lib.hid (by rw [← hK.out]; exact hm.out.next hlt)
      clear hu0 hf0
      go_loopw [1, 6] (fun kv jv w2 => ∃ j : Nat, j ≤ 3 ∧ jv = .int .i64 j ∧ kv = .int .i64 (K + 1 + (j : Nat)) ∧ Hid (w2 = wo.setCells g (i * 4) ((markRd K).cells.toList.take (j + 1)))) (fun _ jv _ => 3 - (intOf jv).toNat)
      case atStart => exact ⟨0, by omega, rfl, by simp, Lib.hid rfl⟩
      case round =>
        obtain ⟨j, hj, rfl, rfl, hw2⟩ := hrel
        by_cases hj3 : j < 3
        · have hj' : (j : Int) < 3 := by omega
          have hth2 : wr.there g 0 (n * 4) := by rw [hw2.out]; exact World.there_setCells hth.out _ _ _
          obtain ⟨u1, hu1⟩ := Option.isSome_iff_exists.1 ((there_part hth2 (i * 4 + 1 + j) 1 (by omega)) 0 (by omega)).1
          have hf1 := ((there_part hth2 (i * 4 + 1 + j) 1 (by omega)) 0 (by omega)).2
          rw [Nat.add_zero] at hu1 hf1
          clear hth2
          go_wp2
          go_round
          case rel =>
            refine ⟨j + 1, by omega, by go_num, by go_num, Lib.hid ?_⟩
            rw [hw2.out]
            rcases (show j = 0 ∨ j = 1 ∨ j = 2 from by omega) with rfl | rfl | rfl
            · exact set_snoc g _ _ _ _ _ rfl
            · exact set_snoc g _ _ _ _ _ rfl
            · exact set_snoc g _ _ _ _ _ rfl
          case measure => simp [intOf]; omega
        · have e : j = 3 := by omega
          subst e
          have hw3 : wr = wo.setCells g (i * 4) (markRd K).cells.toList := hw2.out
          subst hw3
          clear hth hm hw2
          go_wp2
          go_round
          case rel => exact ⟨i + 1, by omega, by go_num, by rw [← hK.out]; exact congrArg _ (by omega), hfin⟩
          case measure => simp [intOf]; omega
    · have e : i = n := by omega
      subst e
      go_wp2
      go_ret
      exact ⟨rfl, hm.out⟩

set_option maxRecDepth 100000 in
set_option maxHeartbeats 400000 in
theorem c_held (A : Option Addr) (g c n : Nat) (k0 : Int) (w : World) (hA : 0 < n → A = some ⟨g, 0, none⟩) (hr : ∀ j, j < n → w.rangeAt g (j * 4) (markRd (k0 + 4 * (j : Nat))).cells.toList) (hn : n ≤ 1048576) (h0 : 0 ≤ k0 ∧ k0 ≤ 100) :
    Calls Try.prog 26 #[.slice A n c, .int .i64 k0] w fun e w' => e = .returned (.int .i64 (k0 + 4 * (n : Nat))) ∧ w = w' := by
  have HR := Lib.hid hr
  have HA := Lib.hid hA
  clear hr hA
  go_enter Try.func26, Try.ntmps26
  go_wp2
  go_loop [1, 5] (fun kv iv => ∃ i : Nat, i ≤ n ∧ iv = .int .i64 i ∧ kv = .int .i64 (k0 + 4 * (i : Nat))) (fun _ iv => n - (intOf iv).toNat)
  case atStart => exact ⟨0, Nat.zero_le _, rfl, by simp⟩
  case round =>
    obtain ⟨i, hi, rfl, rfl⟩ := hrel
    by_cases hlt : i < n
    · have hlt' : (i : Int) < (n : Int) := by omega
      have hAe := HA.out (by omega)
      subst hAe
      have hrow := HR.out i hlt
      have hb : 0 ≤ k0 + 4 * (i : Int) ∧ k0 + 4 * (i : Int) ≤ 4194500 := by omega
      generalize hK : k0 + 4 * (i : Int) = K at hb hrow
      have hK := Lib.hid hK
      have g0 : w.cell? ⟨g, i * 4, none⟩ = some (.int .i64 K) := hrow 0 _ rfl
      have g1 : ∀ j : Nat, j < 3 → w.cell? ⟨g, i * 4 + 1 + j, none⟩ = some (.int .i16 (IntKind.i16.wrap (K + 1 + (j : Int)))) := fun j hj => by
        rcases (show j = 0 ∨ j = 1 ∨ j = 2 from by omega) with rfl | rfl | rfl
        · exact hrow 1 _ rfl
        · exact hrow 2 _ rfl
        · exact hrow 3 _ rfl
      have g1 := Lib.hid g1
      clear hrow
      go_wp2
      go_loop [1, 6] (fun kv jv => ∃ j : Nat, j ≤ 3 ∧ jv = .int .i64 j ∧ kv = .int .i64 (K + 1 + (j : Nat))) (fun _ jv => 3 - (intOf jv).toNat)
      case atStart => exact ⟨0, by omega, rfl, by simp⟩
      case round =>
        obtain ⟨j, hj, rfl, rfl⟩ := hrel
        by_cases hj3 : j < 3
        · have hj' : (j : Int) < 3 := by omega
          have g2 := g1.out j hj3
          go_wp2
          go_round
          case rel => exact ⟨j + 1, by omega, by go_num, by go_num⟩
          case measure => simp [intOf]; omega
        · have e : j = 3 := by omega
          subst e
          go_wp2
          go_round
          case rel => exact ⟨i + 1, by omega, by go_num, by rw [← hK.out]; exact congrArg _ (by omega)⟩
          case measure => simp [intOf]; omega
    · have e : i = n := by omega
      subst e
      go_wp2
      go_ret
      exact ⟨rfl, rfl⟩
end Go.Proofs.Ytcopccniijkceaa
