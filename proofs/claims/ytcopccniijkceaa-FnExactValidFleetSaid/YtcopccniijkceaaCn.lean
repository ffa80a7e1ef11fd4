/- Plain facts on wide numbers that are turned into 16 bits. No condition. -/
import Derived.Test.YtcopccniijkceaaAg
import Derived.Test.YtcopccniijkceaaYf
namespace Go.Proofs.Ytcopccniijkceaa
open Go Go.RowKit Ieee
set_option linter.unusedVariables false
set_option linter.unusedSimpArgs false

theorem num_self (k : FloatKind) {b : Nat} (h : (k.decode b).isNaN = false) : k.format.order b b = some .eq := by
  have h' : (k.format.read b).isNaN = false := h
  unfold Format.order
  cases e : k.format.read b with
  | nan => rw [e] at h'; cases h'
  | infinity s =>
    show some (compare s.toNat s.toNat) = _
    rw [Nat.compare_eq_eq.2 rfl]
  | number s m i =>
    simp only [Datum.order]
    rw [Int.compare_eq_eq.2 rfl]

theorem eq_self {k : FloatKind} {o : Option Nat} (h : ∃ r, o = can k r) : (ford k o o == some Ordering.eq) = o.isSome := by
  obtain ⟨r, rfl⟩ := h
  cases hn : (k.decode r).isNaN with
  | true => rw [can_nan hn]; rfl
  | false =>
    rw [can_num hn]
    show (k.format.order r r == some Ordering.eq) = true
    rw [num_self k hn]; rfl

theorem wide_num' {b : Nat} (h : (single.read b).isNaN = false) : (double.read (wide b)).isNaN = false := write_not_nan double h

theorem integralF_num {way : Toward} {b : Nat} (h : (double.read b).isNaN = false) : (double.read (integralF way b)).isNaN = false := write_not_nan double (integral_not_nan h)

theorem cut16_le (m : Nat) (i : Int) (K Q : Nat) (h : m * 2 ^ (i - min i (-(Q : Int))).toNat ≤ K * 2 ^ Q * 2 ^ (-(Q : Int) - min i (-(Q : Int))).toNat) : (m <<< i.toNat) >>> (-i).toNat ≤ K := by
  rw [Nat.shiftLeft_eq, Nat.shiftRight_eq_div_pow]
  by_cases hi : 0 ≤ i
  · obtain ⟨n, rfl⟩ := Int.eq_ofNat_of_zero_le hi
    rw [show min (n : Int) (-(Q : Int)) = -(Q : Int) by omega, show ((n : Int) - -(Q : Int)).toNat = n + Q by omega, show (-(Q : Int) - -(Q : Int)).toNat = 0 by omega, Nat.pow_zero, Nat.mul_one, Nat.pow_add, ← Nat.mul_assoc] at h
    rw [show (-(n : Int)).toNat = 0 by omega, Nat.pow_zero, Nat.div_one, Int.toNat_natCast]
    exact Nat.le_of_mul_le_mul_right h (Nat.two_pow_pos Q)
  · obtain ⟨a, rfl⟩ : ∃ a : Nat, i = -(a : Int) := ⟨(-i).toNat, by omega⟩
    rw [show (-(a : Int)).toNat = 0 by omega, Nat.pow_zero, Nat.mul_one, show (-(-(a : Int))).toNat = a by omega]
    refine Nat.div_le_of_le_mul ?_
    by_cases ha : a ≤ Q
    · rw [show min (-(a : Int)) (-(Q : Int)) = -(Q : Int) by omega, show (-(a : Int) - -(Q : Int)).toNat = Q - a by omega, show (-(Q : Int) - -(Q : Int)).toNat = 0 by omega, Nat.pow_zero, Nat.mul_one] at h
      have e : K * 2 ^ Q = 2 ^ a * K * 2 ^ (Q - a) := by
        rw [Nat.mul_comm (2 ^ a) K, Nat.mul_assoc, ← Nat.pow_add]
        congr 2; omega
      rw [e] at h
      exact Nat.le_of_mul_le_mul_right h (Nat.two_pow_pos _)
    · rw [show min (-(a : Int)) (-(Q : Int)) = -(a : Int) by omega, show (-(a : Int) - -(a : Int)).toNat = 0 by omega, show (-(Q : Int) - -(a : Int)).toNat = a - Q by omega, Nat.pow_zero, Nat.mul_one, Nat.mul_assoc, ← Nat.pow_add, show Q + (a - Q) = a by omega, Nat.mul_comm] at h
      exact h

theorem sg16_false (m u : Nat) : signed false m u = ((m * 2 ^ u : Nat) : Int) := by unfold signed; rw [Nat.shiftLeft_eq]; rfl
theorem sg16_true (m u : Nat) : signed true m u = -((m * 2 ^ u : Nat) : Int) := by unfold signed; rw [Nat.shiftLeft_eq]; rfl

abbrev hi16 : Nat := 4674736138332667904
abbrev lo16 : Nat := 13898108450065350656
theorem hi16_read : double.read hi16 = .number false (32767 * 2 ^ 38) (-((38 : Nat) : Int)) := by decide +kernel
theorem lo16_read : double.read lo16 = .number true (32768 * 2 ^ 37) (-((37 : Nat) : Int)) := by decide +kernel
theorem hi16_can : can .f64 hi16 = some hi16 := can_num (by show (double.read hi16).isNaN = false; rw [hi16_read]; rfl)
theorem lo16_can : can .f64 lo16 = some lo16 := can_num (by show (double.read lo16).isNaN = false; rw [lo16_read]; rfl)

theorem not_both16 {y : Nat} (hg : (ford .f64 (some y) (can .f64 hi16) == some Ordering.gt) = true) (hl : (ford .f64 (some y) (can .f64 lo16) == some Ordering.lt) = true) : False := by
  rw [hi16_can] at hg
  rw [lo16_can] at hl
  have hg : double.order y hi16 = some .gt := eq_of_beq hg
  have hl : double.order y lo16 = some .lt := eq_of_beq hl
  unfold Format.order at hg hl
  rw [hi16_read] at hg
  rw [lo16_read] at hl
  cases e : double.read y with
  | nan => rw [e] at hg; cases hg
  | infinity s => rw [e] at hg hl; cases s <;> cases hg <;> cases hl
  | number s m i =>
    rw [e] at hg hl
    simp only [Datum.order, Option.some.injEq] at hg hl
    have hg := Int.compare_eq_gt.1 hg
    have hl := Int.compare_eq_lt.1 hl
    rw [sg16_false] at hg
    rw [sg16_true] at hl
    cases s
    · rw [sg16_false] at hl; omega
    · rw [sg16_true] at hg; omega

theorem trunc16 {y : Nat} (hn : (double.read y).isNaN = false) (hg : (ford .f64 (some y) (can .f64 hi16) == some Ordering.gt) = false) (hl : (ford .f64 (some y) (can .f64 lo16) == some Ordering.lt) = false) :
    ∃ n, truncI .f64 (some y) = some n ∧ IntKind.i16.min ≤ n ∧ n ≤ IntKind.i16.max := by
  rw [hi16_can] at hg
  rw [lo16_can] at hl
  have hg : double.order y hi16 ≠ some .gt := fun e => by have : (double.order y hi16 == some Ordering.gt) = false := hg; rw [e] at this; cases this
  have hl : double.order y lo16 ≠ some .lt := fun e => by have : (double.order y lo16 == some Ordering.lt) = false := hl; rw [e] at this; cases this
  unfold Format.order at hg hl
  rw [hi16_read] at hg
  rw [lo16_read] at hl
  have emin : IntKind.i16.min = -32768 := by decide
  have emax : IntKind.i16.max = 32767 := by decide
  rw [emin, emax]
  show ∃ n, (double.read y).toInt .zero = some n ∧ _
  cases e : double.read y with
  | nan => rw [e] at hn; cases hn
  | infinity s => rw [e] at hg hl; cases s <;> first | exact absurd rfl hg | exact absurd rfl hl
  | number s m i =>
    rw [e] at hg hl
    simp only [Datum.order, ne_eq, Option.some.injEq] at hg hl
    have hg : ¬ (signed s m (i - min i (-((38 : Nat) : Int))).toNat > signed false (32767 * 2 ^ 38) (-((38 : Nat) : Int) - min i (-((38 : Nat) : Int))).toNat) := fun h => hg (Int.compare_eq_gt.2 h)
    have hl : ¬ (signed s m (i - min i (-((37 : Nat) : Int))).toNat < signed true (32768 * 2 ^ 37) (-((37 : Nat) : Int) - min i (-((37 : Nat) : Int))).toNat) := fun h => hl (Int.compare_eq_lt.2 h)
    rw [sg16_false (32767 * 2 ^ 38)] at hg
    rw [sg16_true (32768 * 2 ^ 37)] at hl
    refine ⟨signed s (Toward.zero.cut s (m <<< i.toNat) (-i).toNat) 0, rfl, ?_⟩
    have hc : Toward.zero.cut s (m <<< i.toNat) (-i).toNat = (m <<< i.toNat) >>> (-i).toNat := by
      generalize m <<< i.toNat = n
      generalize (-i).toNat = d
      show n / (1 <<< min d (n.log2 + 2)) + 0 = n >>> d
      rw [Nat.add_zero, Nat.shiftLeft_eq, Nat.one_mul, Nat.shiftRight_eq_div_pow]
      by_cases hd : d ≤ n.log2 + 2
      · rw [Nat.min_eq_left hd]
      · rw [Nat.min_eq_right (by omega)]
        have h1 : n < 2 ^ (n.log2 + 1) := Nat.lt_log2_self
        rw [Nat.div_eq_of_lt (Nat.lt_of_lt_of_le h1 (Nat.pow_le_pow_right (by decide) (by omega))), Nat.div_eq_of_lt (Nat.lt_of_lt_of_le h1 (Nat.pow_le_pow_right (by decide) (by omega)))]
    rw [hc]
    cases s
    · rw [sg16_false] at hg ⊢
      have := cut16_le m i 32767 38 (by omega)
      omega
    · rw [sg16_true] at hl ⊢
      have := cut16_le m i 32768 37 (by omega)
      omega
end Go.Proofs.Ytcopccniijkceaa
