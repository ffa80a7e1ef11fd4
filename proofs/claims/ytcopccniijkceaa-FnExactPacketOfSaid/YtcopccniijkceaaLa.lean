/- Feeds, as lists of rows of four cells; the smallest functions on times. -/
import Derived.Test.YtcopccniijkceaaLz
import Derived.ProofKit
import Derived.Deep.Quiet
import Derived.Deep.QuietTactic
import Derived.BigQuiet
import Derived.IntWalk
import Derived.Lib.Hide
namespace Go.Proofs.Ytcopccniijkceaa
open Go Go.RowKit
set_option linter.unusedVariables false

def okTime (t : Int) : Bool := decide (0 ≤ t) && decide (t ≤ 1000000000)

theorem c_l00In (n a b : Int) (w : World) : Calls Try.prog 97 #[.int .i64 n, .int .i64 a, .int .i64 b] w fun e w' => e = .returned (.bool (decide (a ≤ n ∧ n ≤ b))) ∧ w = w' := by
  go_enter Try.func97, Try.ntmps97
  by_cases h1 : a ≤ n
  · by_cases h2 : n ≤ b
    · go_wp2
      go_ret
      exact ⟨ret_b (by simp [h1, h2]), rfl⟩
    · go_wp2
      go_ret
      exact ⟨ret_b (by simp; omega), rfl⟩
  · go_wp2
    go_ret
    exact ⟨ret_b (by simp; omega), rfl⟩

theorem c_l04Time (t : Int) (w : World) : Calls Try.prog 99 #[.int .i64 t] w fun e w' => e = .returned (.bool (okTime t)) ∧ w = w' := by
  go_enter Try.func99, Try.ntmps99
  go_wp2_with (go_at_call 97; refine (c_l00In _ _ _ _).mono ?_; rintro e w' ⟨rfl, rfl⟩)
  go_ret
  exact ⟨rfl, rfl⟩

theorem c_isTime (t : Int) (w : World) : Calls Try.prog 103 #[.int .i64 t] w fun e w' => e = .returned (.bool (okTime t)) ∧ w = w' := by
  go_enter Try.func103, Try.ntmps103
  by_cases h1 : 0 ≤ t
  · by_cases h2 : t ≤ 1000000000
    · go_wp2
      go_ret
      exact ⟨ret_b (by simp [okTime, h1, h2]), rfl⟩
    · go_wp2
      go_ret
      exact ⟨ret_b (by simp [okTime]; omega), rfl⟩
  · go_wp2
    go_ret
    exact ⟨ret_b (by simp [okTime]; omega), rfl⟩

/-- A callee that draws nothing, met where something has been drawn before. -/
theorem met_again {P : Program} {f : FuncId} {args : Array Value} {w : World} {a n : Nat} {v : Value} (h : ∀ W, Calls P f args W fun e w' => e = .returned v ∧ W = w') :
    Calls P f args (w.drewN (a + n)) fun e w' => e = .returned v ∧ ∃ m, w' = w.drewN (a + m) :=
  (h _).mono fun _ _ ⟨he, hw⟩ => ⟨he, n, hw.symm⟩

/-- The times of a feed that lies in memory. -/
def Times (w : World) (A : Option Addr) (ts : List Int) : Prop := ∀ i t, ts[i]? = some t → ∃ ad, A = some ad ∧ w.cell? (ad.add (i * 4)) = some (.int .i64 t)

def good (ts : List Int) (j : Nat) : Prop := ∀ t, ts[j]? = some t → okTime t = true ∧ ∀ p, 0 < j → ts[j - 1]? = some p → p < t

open Classical in
noncomputable def feedOK (ts : List Int) : Bool := decide (∀ j, good ts j)
theorem feedOK_iff {ts : List Int} : feedOK ts = true ↔ ∀ j, good ts j := @decide_eq_true_iff _ (Classical.propDecidable _)

theorem drew_cell (w : World) (k : Nat) (p : Addr) : (w.drewN k).cell? p = w.cell? p := rfl

set_option maxHeartbeats 400000 in
theorem c_l04Feed (A : Option Addr) (c : Nat) (ts : List Int) (w : World) (h : Times w A ts) (hn : ts.length ≤ 1048576) :
    Calls Try.prog 58 #[.slice A ts.length c] w fun e w' => e = .returned (.bool (feedOK ts && decide (ts.length ≤ 256))) ∧ ∃ k, w' = w.drewN k := by
  have H := Lib.hid h
  clear h
  go_enter Try.func58, Try.ntmps58
  go_wp2
  go_loopw [3] (fun i wr => ∃ k m : Nat, k ≤ ts.length ∧ i = .int .i64 k ∧ wr = w.drewN m ∧ Hid (∀ j, j < k → good ts j)) (fun i _ => ts.length - (intOf i).toNat)
  case atStart => exact ⟨0, 0, Nat.zero_le _, rfl, rfl, Lib.hid fun j hj => by omega⟩
  case round =>
    obtain ⟨k, m, hk, rfl, rfl, hg⟩ := hrel
    by_cases hlt : k < ts.length
    · obtain ⟨ad, rfl, hc⟩ := H.out k ts[k] (List.getElem?_eq_getElem hlt)
      have hgd : good ts k ↔ okTime ts[k] = true ∧ ∀ p, 0 < k → ts[k - 1]? = some p → p < ts[k] := by
        unfold good
        rw [List.getElem?_eq_getElem hlt]
        exact ⟨fun h => h _ rfl, fun h t e => by cases e; exact h⟩
      have hgd := Lib.hid hgd
      generalize ts[k] = t at hc hgd
      have hlt' : (k : Int) < (ts.length : Int) := by omega
      have bad : ¬ good ts k → Ending.returned (.bool false) = .returned (.bool (feedOK ts && decide (ts.length ≤ 256))) := fun hb => by
        have : feedOK ts = false := Bool.eq_false_iff.2 fun h => hb (feedOK_iff.1 h k)
        rw [this]; rfl
      have bad := Lib.hid bad
      have next : good ts k → Hid (∀ j, j < k + 1 → good ts j) := fun hb => Lib.hid fun j hj => by
        by_cases e : j = k
        · subst e; exact hb
        · exact hg.out j (by omega)
      have next := Lib.hid next
      by_cases h0 : k = 0
      · subst h0
        have hc0 : w.cell? ad = some (.int .i64 t) := by
          have : ad.add (0 * 4) = ad := rfl
          rw [this] at hc; exact hc
        clear hc
        by_cases ht : okTime t = true
        · go_wp2
          go_quiet ((go_at_call 99; exact met_again (c_l04Time _)))
          go_wp2
          go_round
          case rel => exact ⟨1, m + nq, by omega, rfl, by go_simp, next.out (hgd.out.2 ⟨ht, fun p h => absurd h (by omega)⟩)⟩
          case measure => simp [intOf]; omega
        · go_wp2
          go_quiet ((go_at_call 99; exact met_again (c_l04Time _)))
          go_wp2
          go_ret
          exact ⟨bad.out fun h => ht (hgd.out.1 h).1, m + nq, by go_simp⟩
      · have hc0 : w.cell? (ad.add (k * 4)) = some (.int .i64 t) := hc
        obtain ⟨ad', hA, hp0⟩ := H.out (k - 1) ts[k - 1] (List.getElem?_eq_getElem (by omega))
        cases hA
        have hpe : ts[k - 1]? = some ts[k - 1] := List.getElem?_eq_getElem (by omega)
        have hp1 : w.cell? (ad.add ((k - 1) * 4)) = some (.int .i64 ts[k - 1]) := hp0
        generalize ts[k - 1] = p at hp0 hp1 hpe
        have hpe := Lib.hid hpe
        have hk1 : IntKind.i64.wrap ((k : Int) - 1) = ((k - 1 : Nat) : Int) := by rw [IntWalk.i64_in _ (by omega)]; omega
        have hk2 : ((k - 1 : Nat) : Int) < (ts.length : Int) := by omega
        have hk3 : decide (0 < k) = true := by simp; omega
        clear hp0 hc
        by_cases ht : okTime t = true
        · by_cases hpt : p < t
          · go_wp2
            go_quiet ((go_at_call 99; exact met_again (c_l04Time _)))
            go_wp2
            go_round
            case rel => exact ⟨k + 1, m + nq, by omega, by go_num, by go_simp, next.out (hgd.out.2 ⟨ht, fun p' _ h => by rw [hpe.out] at h; cases h; exact hpt⟩)⟩
            case measure => simp [intOf]; omega
          · go_wp2
            go_quiet ((go_at_call 99; exact met_again (c_l04Time _)))
            go_wp2
            go_ret
            exact ⟨bad.out fun h => absurd ((hgd.out.1 h).2 p (by omega) hpe.out) (by omega), m + nq, by go_simp⟩
        · go_wp2
          go_quiet ((go_at_call 99; exact met_again (c_l04Time _)))
          go_wp2
          go_ret
          exact ⟨bad.out fun h => ht (hgd.out.1 h).1, m + nq, by go_simp⟩
    · have hk' : k = ts.length := by omega
      have fin : feedOK ts = true := by
        refine feedOK_iff.2 fun j => ?_
        by_cases hj : j < k
        · exact hg.out j hj
        · intro t ht
          rw [List.getElem?_eq_none (by omega)] at ht
          cases ht
      have fin := Lib.hid fin
      clear hk'
      go_wp2
      go_ret
      exact ⟨ret_b (by rw [fin.out, Bool.true_and]; first | rfl | exact decide_eq_decide.2 (by omega)), m, rfl⟩
end Go.Proofs.Ytcopccniijkceaa
