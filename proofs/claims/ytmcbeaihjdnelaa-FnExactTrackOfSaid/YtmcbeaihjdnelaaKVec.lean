/- Lists of Vec that are written into, and read again. No condition. -/
import Derived.Test.YtmcbeaihjdnelaaLz
namespace Go.Proofs.Ytmcbeaihjdnelaa
open Go Go.RowKit
set_option linter.unusedVariables false
set_option linter.unusedSimpArgs false

/-- What marks write. -/
def mrowVec (K : Int) : List Value := [.float .f32 (floatOfInt .f32 (K + ((0 : Nat) : Int))), .float .f32 (floatOfInt .f32 (K + ((1 : Nat) : Int))), .float .f32 (floatOfInt .f32 (K + ((2 : Nat) : Int)))]
theorem mlenVec (K : Int) : (mrowVec K).length = 3 := rfl

/-- The first elements of a block are marked. -/
structure MarkedVec (w wr : World) (g n : Nat) (k0 : Int) (i : Nat) : Prop where
  there : wr.there g 0 (n * 3)
  same : ∀ g', g' ≠ g → Same w wr g'
  below : ∀ B, B ≤ g → Below B w wr
  rows : ∀ j, j < i → wr.rangeAt g (j * 3) (mrowVec (k0 + 3 * (j : Nat)))

theorem MarkedVec.next {w wr : World} {g n i : Nat} {k0 : Int} (h : MarkedVec w wr g n k0 i) (hi : i < n) : MarkedVec w (wr.setCells g (i * 3) (mrowVec (k0 + 3 * (i : Nat)))) g n k0 (i + 1) := by
  refine ⟨World.there_setCells h.there _ _ _, fun g' hg => (h.same g' hg).trans (same_sets g g' _ _ _ hg), fun B hB => bel_sets hB _ _ _ (h.below B hB), fun j hj => ?_⟩
  by_cases e : j = i
  · subst e
    exact World.rangeAt_setCells_same _ _ _ _ (there_part h.there _ _ (by rw [mlenVec]; omega))
  · refine World.rangeAt_setCells_apart (h.rows j (by omega)) _ _ _ (Or.inr (Or.inl ?_))
    rw [mlenVec]
    omega

set_option maxRecDepth 100000 in
set_option maxHeartbeats 1000000 in
theorem c_markVecS (A : Option Addr) (g c n : Nat) (k0 : Int) (w : World) (hA : 0 < n → A = some ⟨g, 0, none⟩) (ht : w.there g 0 (n * 3)) (hn : n ≤ 1048576) (h0 : 0 ≤ k0 ∧ k0 ≤ 100) :
    Calls Try.prog 50 #[.slice A n c, .int .i64 k0] w fun e w' => e = .returned (.int .i64 (k0 + 3 * (n : Nat))) ∧ MarkedVec w w' g n k0 n := by
  have HT := Lib.hid ht
  have HA := Lib.hid hA
  clear ht hA
  go_enter Try.func50, Try.ntmps50
  go_wp2
  go_loopw [1, 5] (fun kv iv wr => ∃ i : Nat, i ≤ n ∧ iv = .int .i64 i ∧ kv = .int .i64 (k0 + 3 * (i : Nat)) ∧ Hid (MarkedVec w wr g n k0 i)) (fun _ iv _ => n - (intOf iv).toNat)
  case atStart => exact ⟨0, Nat.zero_le _, rfl, by simp, Lib.hid ⟨HT.out, fun g' _ => ⟨fun _ _ => rfl, fun _ _ => rfl, Nat.le_refl _⟩, fun B _ => Below.refl _ _, fun j hj => by omega⟩⟩
  case round =>
    obtain ⟨i, hi, rfl, rfl, hm⟩ := hrel
    generalize wr = wo at hm ⊢
    by_cases hlt : i < n
    · have hlt' : (i : Int) < (n : Int) := by omega
      have hAe := HA.out (by omega)
      subst hAe
      have hb : 0 ≤ k0 + 3 * (i : Int) ∧ k0 + 3 * (i : Int) ≤ 3145828 := by omega
      generalize hK : k0 + 3 * (i : Int) = K at hb
      replace hK := Lib.hid hK
      have hth := Lib.hid hm.out.there
      have hfin : Hid (MarkedVec w (wo.setCells g (i * 3) (mrowVec K)) g n k0 (i + 1)) := Lib.hid (by rw [← hK.out]; exact hm.out.next hlt)
      clear hm
      have hw0 : Hid (wo = wo.setCells g (i * 3) ((mrowVec K).take 0)) := Lib.hid rfl
      go_wp2
      go_loopw [1, 6] (fun kv jv w2 => ∃ j : Nat, j ≤ 3 ∧ jv = .int .i64 j ∧ kv = .int .i64 (K + (j : Nat)) ∧ Hid (w2 = wo.setCells g (i * 3) ((mrowVec K).take (j)))) (fun _ jv _ => 3 - (intOf jv).toNat)
      case atStart => exact ⟨0, by omega, rfl, by simp, hw0⟩
      case round =>
        obtain ⟨j, hj, rfl, rfl, hw1⟩ := hrel
        by_cases hj3 : j < 3
        · have hj' : (j : Int) < 3 := by omega
          have hth2 : wr.there g 0 (n * 3) := by rw [hw1.out]; exact World.there_setCells hth.out _ _ _
          obtain ⟨u1, hu1⟩ := Option.isSome_iff_exists.1 ((there_part hth2 (i * 3 + j) 1 (by omega)) 0 (by omega)).1
          have hf1 := ((there_part hth2 (i * 3 + j) 1 (by omega)) 0 (by omega)).2
          rw [Nat.add_zero] at hu1 hf1
          clear hth2
          go_wp2
          go_round
          case rel =>
            refine ⟨j + 1, by omega, by go_num, by go_num, Lib.hid ?_⟩
            rw [hw1.out]
            rcases (show j = 0 ∨ j = 1 ∨ j = 2 from by omega) with rfl | rfl | rfl
            · exact set_snoc g _ _ _ _ _ rfl
            · exact set_snoc g _ _ _ _ _ rfl
            · exact set_snoc g _ _ _ _ _ rfl
          case measure => simp [intOf]; omega
        · have e : j = 3 := by omega
          subst e
          have e3 : wo.setCells g (i * 3) (mrowVec K) = wr := by
            rw [hw1.out]
            rfl
          replace e3 := Lib.hid e3
          go_wp2_with fail

          go_round
          case rel =>
            refine ⟨i + 1, by omega, by go_num, by rw [← hK.out]; exact congrArg _ (by omega), ?_⟩
            rw [← e3.out]
            exact hfin
          case measure => simp [intOf]; omega
    · have e : i = n := by omega
      subst e
      go_wp2
      go_ret
      exact ⟨rfl, hm.out⟩

theorem nearest_selfVec (n : Int) : (FloatKind.f32.format.order (FloatKind.f32.nearest n) (FloatKind.f32.nearest n) == some Ordering.eq) = true := by
  have hn : (FloatKind.f32.decode (FloatKind.f32.nearest n)).isNaN = false := write_not_nan Ieee.single (d := .number (decide (n < 0)) n.natAbs 0) rfl
  have hn' : (Ieee.single.read (FloatKind.f32.nearest n)).isNaN = false := hn
  show (Ieee.single.order _ _ == _) = true
  unfold Ieee.Format.order
  cases e : Ieee.single.read (FloatKind.f32.nearest n) with
  | nan => rw [e] at hn'; cases hn'
  | infinity s =>
    show (some (compare s.toNat s.toNat) == _) = true
    rw [Nat.compare_eq_eq.2 rfl]; rfl
  | number s m i =>
    simp only [Ieee.Datum.order]
    rw [Int.compare_eq_eq.2 rfl]; rfl
theorem nearest_neVec (n : Int) : (FloatKind.f32.format.order (floatOfInt .f32 n) (floatOfInt .f32 n) != some Ordering.eq) = false := by
  show (FloatKind.f32.format.order (FloatKind.f32.nearest n) (FloatKind.f32.nearest n) != some Ordering.eq) = false
  rw [bne, nearest_selfVec]; rfl

set_option maxRecDepth 100000 in
set_option maxHeartbeats 1000000 in
theorem c_heldVecS (A : Option Addr) (g c n : Nat) (k0 : Int) (w : World) (hA : 0 < n → A = some ⟨g, 0, none⟩) (hr : ∀ j, j < n → w.rangeAt g (j * 3) (mrowVec (k0 + 3 * (j : Nat)))) (hn : n ≤ 1048576) (h0 : 0 ≤ k0 ∧ k0 ≤ 100) :
    Calls Try.prog 51 #[.slice A n c, .int .i64 k0] w fun e w' => e = .returned (.int .i64 (k0 + 3 * (n : Nat))) ∧ w = w' := by
  have HR := Lib.hid hr
  have HA := Lib.hid hA
  clear hr hA
  go_enter Try.func51, Try.ntmps51
  go_wp2
  go_loop [1, 5] (fun kv iv => ∃ i : Nat, i ≤ n ∧ iv = .int .i64 i ∧ kv = .int .i64 (k0 + 3 * (i : Nat))) (fun _ iv => n - (intOf iv).toNat)
  case atStart => exact ⟨0, Nat.zero_le _, rfl, by simp⟩
  case round =>
    obtain ⟨i, hi, rfl, rfl⟩ := hrel
    by_cases hlt : i < n
    · have hlt' : (i : Int) < (n : Int) := by omega
      have hAe := HA.out (by omega)
      subst hAe
      have hrow := HR.out i hlt
      have hb : 0 ≤ k0 + 3 * (i : Int) ∧ k0 + 3 * (i : Int) ≤ 3145828 := by omega
      generalize hK : k0 + 3 * (i : Int) = K at hb hrow
      replace hK := Lib.hid hK
      replace hrow := Lib.hid hrow
      have g1 : ∀ j : Nat, j < 3 → w.cell? ⟨g, i * 3 + j, none⟩ = some (.float .f32 (floatOfInt .f32 (K + (j : Int)))) := fun j hj => by
        rcases (show j = 0 ∨ j = 1 ∨ j = 2 from by omega) with rfl | rfl | rfl
        · exact hrow.out 0 _ rfl
        · exact hrow.out 1 _ rfl
        · exact hrow.out 2 _ rfl
      replace g1 := Lib.hid g1
      go_wp2
      go_loop [1, 6] (fun kv jv => ∃ j : Nat, j ≤ 3 ∧ jv = .int .i64 j ∧ kv = .int .i64 (K + (j : Nat))) (fun _ jv => 3 - (intOf jv).toNat)
      case atStart => exact ⟨0, by omega, rfl, by simp⟩
      case round =>
        obtain ⟨j, hj, rfl, rfl⟩ := hrel
        by_cases hj3 : j < 3
        · have hj' : (j : Int) < 3 := by omega
          have g9 := g1.out j hj3
          have nn := nearest_neVec (K + (j : Int))
          go_wp2
          go_round
          case rel => exact ⟨j + 1, by omega, by go_num, by go_num⟩
          case measure => simp [intOf]; omega
        · have e : j = 3 := by omega
          subst e
          go_wp2
          go_round
          case rel => exact ⟨i + 1, by omega, by go_num, by rw [← hK.out]; exact congrArg _ (by omega)⟩
          case measure => simp [intOf]; omega
    · have e : i = n := by omega
      subst e
      go_wp2
      go_ret
      exact ⟨rfl, rfl⟩
end Go.Proofs.Ytmcbeaihjdnelaa
