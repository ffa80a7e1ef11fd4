/- Cells in order; the mark of a cell. No condition. -/
import Derived.Test.YtmcbeaihjdnelaaMiA
import Derived.Test.YtmcbeaihjdnelaaNb
namespace Go.Proofs.Ytmcbeaihjdnelaa
open Go Go.RowKit
set_option linter.unusedVariables false
set_option linter.unusedSimpArgs false

theorem cmp3_lt {x y z a b c : Int} : cmp3 x y z a b c < 0 ↔ x < a ∨ (x = a ∧ (y < b ∨ (y = b ∧ z < c))) := by
  unfold cmp3
  constructor
  · intro h
    split at h
    · left; assumption
    · split at h
      · omega
      · split at h
        · right; omega
        · split at h
          · omega
          · split at h
            · right; omega
            · split at h <;> omega
  · intro h
    rcases h with h | ⟨h1, h | ⟨h2, h⟩⟩
    · rw [if_pos h]; decide
    · rw [if_neg (by omega), if_neg (by omega), if_pos h]; decide
    · rw [if_neg (by omega), if_neg (by omega), if_neg (by omega), if_neg (by omega), if_pos h]; decide
theorem cmp3_zero {x y z a b c : Int} : cmp3 x y z a b c = 0 ↔ x = a ∧ y = b ∧ z = c := by
  constructor
  · intro h
    have h1 : ¬ cmp3 x y z a b c < 0 := by omega
    have h2 : ¬ cmp3 a b c x y z < 0 := by rw [cmp3_neg]; omega
    rw [cmp3_lt] at h1 h2
    omega
  · rintro ⟨rfl, rfl, rfl⟩
    unfold cmp3
    simp
theorem cmp3_trans {x y z a b c p q r : Int} (h1 : cmp3 x y z a b c < 0) (h2 : cmp3 a b c p q r < 0) : cmp3 x y z p q r < 0 := by
  rw [cmp3_lt] at h1 h2 ⊢
  omega

theorem c_mi1 (y : MkW) (px py pz : Int) (w : World) : Calls Try.prog 72 #[y.val, .agg #[.int .i32 px, .int .i32 py, .int .i32 pz]] w fun e w' => e = .returned (.int .i64 (cmp3 y.m.x y.m.y y.m.z px py pz)) ∧ Stays w w' := by
  obtain ⟨m, a, b, c, d⟩ := y
  have hc := Lib.hid fun W => c_placeCompare m.x m.y m.z px py pz W
  unfold MkW.val
  show Calls _ _ _ _ fun e w' => e = .returned (.int .i64 (cmp3 m.x m.y m.z px py pz)) ∧ Stays w w'
  generalize cmp3 m.x m.y m.z px py pz = r at hc ⊢
  go_enter Try.func72, Try.ntmps72
  go_wp2_with fail
  refine (hc.out _).mono ?_
  rintro e w' ⟨rfl, hb⟩
  go_wp2
  go_ret
  exact ⟨rfl, Stays.trans (by (repeat (first | exact Stays.refl _ | (with_reducible refine Stays.drewN ?_ _) | (with_reducible refine Stays.alloc ?_ _) | (with_reducible refine Stays.drew ?_) | (refine Stays.trans ?_ ‹Stays _ _›)))) hb⟩
end Go.Proofs.Ytmcbeaihjdnelaa
