/- Contracts: sizes of numbers, finite numbers and vectors, vectors that are the same. No condition. -/
import Derived.Laws.BitsAllLaws
import Derived.Test.YteidjmliepmlmaaA1
import Derived.Test.YteidjmliepmlmaaB1
import Derived.Test.YteidjmliepmlmaaSp
namespace Go.Proofs.Yteidjmliepmlmaa
open Go Go.RowKit
set_option linter.unusedVariables false

theorem c_l01Finite (a : Nat) (w : World) :
    Calls Try.prog 94 #[.float .f32 a] w fun en w' => en = .returned (.bool (finB (can .f32 a))) ∧ Stays w w' := by
  go_enter Try.func94, Try.ntmps94
  go_wp2_with ((with_reducible refine wpList_fop rfl _ _ _ _ _ rfl rfl _ _ _ rfl rfl ?_); intro r n hr)
  go_ret
  exact ⟨ret_b (sub_self_zero a r hr), by (repeat (first | exact Stays.refl _ | (with_reducible refine Stays.drewN ?_ _) | (with_reducible refine Stays.alloc ?_ _) | (with_reducible refine Stays.drew ?_) | (refine Stays.trans ?_ ‹Stays _ _›)))⟩

theorem read_bare (f : Ieee.Format) (b : Nat) : f.read (b % f.signWeight) = (match f.read b with | .number _ m p => .number false m p | .infinity _ => .infinity false | .nan _ t => .nan false t) := by
  have hlt : b % f.signWeight < f.signWeight := Nat.mod_lt _ (sw_pos f)
  have h0 := read_word f false hlt
  rw [word_false] at h0
  rw [h0]
  unfold Ieee.Format.read
  dsimp only
  split
  · rfl
  · split
    · rfl
    · split <;> rfl

theorem can_bare64 (b : Nat) : can .f64 (b % 2 ^ 63) = (can .f64 b).map (· % 2 ^ 63) := by
  have h := read_bare Ieee.double b
  have e : Ieee.double.signWeight = 2 ^ 63 := rfl
  rw [e] at h
  unfold can FloatKind.decode
  show (if (Ieee.double.read (b % 2 ^ 63)).isNaN = true then none else some (b % 2 ^ 63)) = Option.map _ (if (Ieee.double.read b).isNaN = true then none else some b)
  rw [h]
  cases Ieee.double.read b <;> rfl

theorem andNot_sign (b : Nat) (hb : b < 2 ^ 64) : bits .andNot .u64 (b : Int) 9223372036854775808 = ((b % 2 ^ 63 : Nat) : Int) := by
  have := u64_andNot_nat b 9223372036854775808 (by omega) (by omega)
  rw [show ((9223372036854775808 : Nat) : Int) = 9223372036854775808 from rfl] at this
  rw [this, show 18446744073709551615 - 9223372036854775808 = 2 ^ 63 - 1 from rfl, Nat.and_two_pow_sub_one_eq_mod]

theorem and_size (b : Nat) (hb : b < 2 ^ 32) : bits .and .u32 (b : Int) 2147483647 = ((b % 2 ^ 31 : Nat) : Int) := by
  have := u32_and_nat b 2147483647 (by omega) (by omega)
  rw [show ((2147483647 : Nat) : Int) = 2147483647 from rfl] at this
  rw [this, show (2147483647 : Nat) = 2 ^ 31 - 1 from rfl, Nat.and_two_pow_sub_one_eq_mod]

theorem c_Abs (b : Nat) (w : World) (hb : b < 2 ^ 64) :
    Calls Try.prog 102 #[.float .f64 b] w fun en w' => ∃ x, en = .returned (.float .f64 x) ∧ FIs .f64 x ((can .f64 b).map (· % 2 ^ 63)) ∧ Stays w w' := by
  have key := andNot_sign b hb
  have hk : FIs .f64 (b % 2 ^ 63) ((can .f64 b).map (· % 2 ^ 63)) := ⟨can_bare64 b, by show _ < 2 ^ 64; omega⟩
  clear hb
  go_enter Try.func102, Try.ntmps102
  go_wp2
  go_ret
  exact ⟨_, rfl, hk, by (repeat (first | exact Stays.refl _ | (with_reducible refine Stays.drewN ?_ _) | (with_reducible refine Stays.alloc ?_ _) | (with_reducible refine Stays.drew ?_) | (refine Stays.trans ?_ ‹Stays _ _›)))⟩

theorem fits_bare {a r y : Nat} (hr : FIs .f64 r ((can .f32 a).map wide)) (hy : FIs .f64 y ((can .f64 r).map (· % 2 ^ 63))) : (∀ c, can .f64 y = some c → fits c = true) ∧ (can .f64 y).map slim = (can .f32 a).map bare := by
  rw [hy.out, hr.out]
  have h32 := can32 a
  cases hn : (Ieee.single.read a).isNaN with
  | true =>
    rw [hn, if_pos rfl] at h32
    rw [h32]
    exact ⟨fun c h => (by cases h), rfl⟩
  | false =>
    rw [hn, if_neg (by decide)] at h32
    rw [h32]
    obtain ⟨h1, h2, h3⟩ := slim_bare_wide hn
    refine ⟨fun c h => ?_, ?_⟩
    · obtain rfl : wide a % 2 ^ 63 = c := by simpa using h
      unfold fits
      rw [h3, h1]
      cases e : Ieee.single.read a with
      | nan => rw [e] at hn; cases hn
      | infinity => rfl
      | number => rw [bare_read e]; rfl
    · simp [h1]

theorem c_sizeOf (a : Nat) (w : World) :
    Calls Try.prog 95 #[.float .f32 a] w fun en w' => ∃ x, en = .returned (.float .f32 x) ∧ FIs .f32 x ((can .f32 a).map bare) ∧ Stays w w' := by
  go_enter Try.func95, Try.ntmps95
  go_wp2_with (first | ((with_reducible refine wpList_widen rfl _ _ _ rfl _ rfl (some_of Try.underlying54) Try.underlying103 ?_); intro r n hr) | (go_at_call 102; refine (c_Abs _ _ hr.lt).mono ?_; rintro en w1 ⟨y, rfl, hy, hw1⟩) | ((with_reducible refine wpList_slim rfl _ _ _ rfl _ rfl (some_of Try.underlying103) Try.underlying54 ?_ ?_); rotate_right; intro r n hr))
  · go_ret
    exact ⟨_, rfl, hr.of_eq (fits_bare ‹FIs .f64 _ (Option.map wide _)› hy).2, by (repeat (first | exact Stays.refl _ | (with_reducible refine Stays.drewN ?_ _) | (with_reducible refine Stays.alloc ?_ _) | (with_reducible refine Stays.drew ?_) | (refine Stays.trans ?_ ‹Stays _ _›)))⟩
  · exact (fits_bare hr hy).1

theorem c_isFinite (a : Nat) (w : World) :
    Calls Try.prog 75 #[.float .f32 a] w fun en w' => en = .returned (.bool (finB (can .f32 a))) ∧ Stays w w' := by
  go_enter Try.func75, Try.ntmps75
  go_wp2_with (go_at_call 95; refine (c_sizeOf _ _).mono ?_; rintro en w1 ⟨y, rfl, hy, hw1⟩)
  go_ret
  exact ⟨ret_b (leq_max a y hy), by (repeat (first | exact Stays.refl _ | (with_reducible refine Stays.drewN ?_ _) | (with_reducible refine Stays.alloc ?_ _) | (with_reducible refine Stays.drew ?_) | (refine Stays.trans ?_ ‹Stays _ _›)))⟩

def finV (a b c : Nat) : Bool := finB (can .f32 a) && finB (can .f32 b) && finB (can .f32 c)
def r_IsFiniteVec (a b c : Nat) (v : Value) : Prop := v = .bool (finV a b c)

def sameV (a b c d e f : Nat) : Bool := same a d && same b e && same c f
def r_SameVec (a b c d e f : Nat) (v : Value) : Prop := v = .bool (sameV a b c d e f)

end Go.Proofs.Yteidjmliepmlmaa
