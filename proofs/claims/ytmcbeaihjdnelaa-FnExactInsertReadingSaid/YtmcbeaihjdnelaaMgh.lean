/- Feeds that are marked, from any number on. No condition. -/
import Derived.Test.YtmcbeaihjdnelaaMgf
import Derived.Test.YtmcbeaihjdnelaaLi
namespace Go.Proofs.Ytmcbeaihjdnelaa
open Go Go.RowKit
set_option linter.unusedVariables false
set_option linter.unusedSimpArgs false

set_option maxRecDepth 100000 in
set_option maxHeartbeats 4000000 in
theorem c_markM (A : Option Addr) (g c n : Nat) (k0 : Int) (w : World) (hA : 0 < n → A = some ⟨g, 0, none⟩) (ht : w.there g 0 (n * 4)) (hn : n ≤ 1048576) (h0 : 0 ≤ k0 ∧ k0 ≤ 10000000) :
    Calls Try.prog 39 #[.slice A n c, .int .i64 k0] w fun e w' => e = .returned (.int .i64 (k0 + 4 * (n : Nat))) ∧ Marked w w' g n k0 n := by
  have HT := Lib.hid ht
  have HA := Lib.hid hA
  clear ht hA
  go_enter Try.func39, Try.ntmps39
  go_wp2
  go_loopw [1, 5] (fun kv iv wr => ∃ i : Nat, i ≤ n ∧ iv = .int .i64 i ∧ kv = .int .i64 (k0 + 4 * (i : Nat)) ∧ Hid (Marked w wr g n k0 i)) (fun _ iv _ => n - (intOf iv).toNat)
  case atStart => exact ⟨0, Nat.zero_le _, rfl, by simp, Lib.hid ⟨HT.out, fun g' _ => ⟨fun _ _ => rfl, fun _ _ => rfl, Nat.le_refl _⟩, fun B _ => Below.refl _ _, fun j hj => by omega⟩⟩
  case round =>
    obtain ⟨i, hi, rfl, rfl, hm⟩ := hrel
    generalize wr = wo at hm ⊢
    by_cases hlt : i < n
    · have hlt' : (i : Int) < (n : Int) := by omega
      have hAe := HA.out (by omega)
      subst hAe
      obtain ⟨u0, hu0⟩ := Option.isSome_iff_exists.1 ((there_part hm.out.there (i * 4) 4 (by omega)) 0 (by omega)).1
      have hf0 := ((there_part hm.out.there (i * 4) 4 (by omega)) 0 (by omega)).2
      rw [Nat.add_zero] at hu0 hf0
      have hb : 0 ≤ k0 + 4 * (i : Int) ∧ k0 + 4 * (i : Int) ≤ 14194500 := by omega
      generalize hK : k0 + 4 * (i : Int) = K at hb
      have hK := Lib.hid hK
      go_wp2
      have hth := Lib.hid hm.out.there
      have hfin : Hid (Marked w (wo.setCells g (i * 4) (markRd K).cells.toList) g n k0 (i + 1)) := Lib.hid (by rw [← hK.out]; exact hm.out.next hlt)
      clear hu0 hf0
      go_loopw [1, 6] (fun kv jv w2 => ∃ j : Nat, j ≤ 3 ∧ jv = .int .i64 j ∧ kv = .int .i64 (K + 1 + (j : Nat)) ∧ Hid (w2 = wo.setCells g (i * 4) ((markRd K).cells.toList.take (j + 1)))) (fun _ jv _ => 3 - (intOf jv).toNat)
      case atStart => exact ⟨0, by omega, rfl, by simp, Lib.hid rfl⟩
      case round =>
        obtain ⟨j, hj, rfl, rfl, hw2⟩ := hrel
        by_cases hj3 : j < 3
        · have hj' : (j : Int) < 3 := by omega
          have hth2 : wr.there g 0 (n * 4) := by rw [hw2.out]; exact World.there_setCells hth.out _ _ _
          obtain ⟨u1, hu1⟩ := Option.isSome_iff_exists.1 ((there_part hth2 (i * 4 + 1 + j) 1 (by omega)) 0 (by omega)).1
          have hf1 := ((there_part hth2 (i * 4 + 1 + j) 1 (by omega)) 0 (by omega)).2
          rw [Nat.add_zero] at hu1 hf1
          clear hth2
          go_wp2
          go_round
          case rel =>
            refine ⟨j + 1, by omega, by go_num, by go_num, Lib.hid ?_⟩
            rw [hw2.out]
            rcases (show j = 0 ∨ j = 1 ∨ j = 2 from by omega) with rfl | rfl | rfl
            · exact set_snoc g _ _ _ _ _ rfl
            · exact set_snoc g _ _ _ _ _ rfl
            · exact set_snoc g _ _ _ _ _ rfl
          case measure => simp [intOf]; omega
        · have e : j = 3 := by omega
          subst e
          have hw3 : wr = wo.setCells g (i * 4) (markRd K).cells.toList := hw2.out
          subst hw3
          clear hth hm hw2
          go_wp2
          go_round
          case rel => exact ⟨i + 1, by omega, by go_num, by rw [← hK.out]; exact congrArg _ (by omega), hfin⟩
          case measure => simp [intOf]; omega
    · have e : i = n := by omega
      subst e
      go_wp2
      go_ret
      exact ⟨rfl, hm.out⟩


theorem mgX_len (xs ys : List Rd) : (mgX xs ys).length ≤ 1048576 := by
  unfold mgX
  split
  · split
    · omega
    · simp
  · simp
theorem inX_len (xs : List Rd) (r : Rd) : (inX xs r).length ≤ 1048576 := by
  unfold inX
  split
  · split
    · split
      · omega
      · simp
    · simp
  · simp
theorem FDone.grows {w w' : World} {code : Int} {ys : List Rd} {e : Ending} (h : FDone w code ys e w') : ∃ v, e = .returned (.tuple #[v, .int .i64 code]) ∧ Grows w w' v ys := by
  obtain ⟨v, he, h1, h2⟩ := h
  exact ⟨v, he, h2, h1⟩
theorem c_toReadingV (r : Rd) (w : World) : Calls Try.prog 37 #[.agg #[.int .i64 r.t, .int .i16 r.a, .int .i16 r.b, .int .i16 r.c]] w fun e w' => e = .returned (.agg #[.int .i64 r.t, .int .i16 r.a, .int .i16 r.b, .int .i16 r.c]) ∧ Stays w w' := c_toReading r w
end Go.Proofs.Ytmcbeaihjdnelaa
