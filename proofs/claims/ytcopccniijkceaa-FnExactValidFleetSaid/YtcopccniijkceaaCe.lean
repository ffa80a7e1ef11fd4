/- Plain facts on wide numbers that are turned into cells. No condition. -/
import Derived.Test.YtcopccniijkceaaCn
namespace Go.Proofs.Ytcopccniijkceaa
open Go Go.RowKit Ieee
set_option linter.unusedVariables false
set_option linter.unusedSimpArgs false

theorem read_abs_inf {c : Nat} {s : Bool} (e : double.read c = .infinity s) : double.read (c % 2 ^ 63) = .infinity false := by
  have e3 : double.signWeight = 2 ^ 63 := rfl
  have hlt : c % 2 ^ 63 < 2 ^ 63 := Nat.mod_lt _ (by decide)
  unfold Format.read at e ⊢
  dsimp only at e ⊢
  rw [e3] at e ⊢
  rw [Nat.mod_mod, Nat.div_eq_of_lt hlt]
  split at e
  · cases e
  · rename_i h
    rw [if_neg h]
    split at e
    · cases e
    · rename_i h2
      rw [if_neg h2]
      split at e
      · rename_i h3; rw [if_pos h3]; rfl
      · cases e

abbrev hiM : Nat := 4696837146684686336
abbrev loM : Nat := 13920209183539462144
theorem hiM_read : double.read hiM = .number false (1000000 * 2 ^ 33) (-((33 : Nat) : Int)) := by decide +kernel
theorem loM_read : double.read loM = .number true (1000000 * 2 ^ 33) (-((33 : Nat) : Int)) := by decide +kernel
theorem hiM_can : can .f64 hiM = some hiM := can_num (by show (double.read hiM).isNaN = false; rw [hiM_read]; rfl)
theorem loM_can : can .f64 loM = some loM := can_num (by show (double.read loM).isNaN = false; rw [loM_read]; rfl)

theorem cmp_gt (a b : Int) : (some (compare a b) == some Ordering.gt) = decide (b < a) := by
  rcases Int.lt_trichotomy a b with h | h | h
  · rw [Int.compare_eq_lt.2 h, decide_eq_false (by omega)]; rfl
  · rw [Int.compare_eq_eq.2 h, decide_eq_false (by omega)]; rfl
  · rw [Int.compare_eq_gt.2 h, decide_eq_true h]; rfl
theorem cmp_lt (a b : Int) : (some (compare a b) == some Ordering.lt) = decide (a < b) := by
  rcases Int.lt_trichotomy a b with h | h | h
  · rw [Int.compare_eq_lt.2 h, decide_eq_true h]; rfl
  · rw [Int.compare_eq_eq.2 h, decide_eq_false (by omega)]; rfl
  · rw [Int.compare_eq_gt.2 h, decide_eq_false (by omega)]; rfl
theorem cmp_eq (a b : Int) : (some (compare a b) == some Ordering.eq) = decide (a = b) := by
  rcases Int.lt_trichotomy a b with h | h | h
  · rw [Int.compare_eq_lt.2 h, decide_eq_false (by omega)]; rfl
  · rw [Int.compare_eq_eq.2 h, decide_eq_true h]; rfl
  · rw [Int.compare_eq_gt.2 h, decide_eq_false (by omega)]; rfl

def absGt (o : Option Nat) : Bool := ford .f64 (o.map (· % 2 ^ 63)) (can .f64 hiM) == some .gt
def geLo (o : Option Nat) : Bool := ford .f64 o (can .f64 loM) == some .gt || ford .f64 o (can .f64 loM) == some .eq
def leHi (o : Option Nat) : Bool := ford .f64 o (can .f64 hiM) == some .lt || ford .f64 o (can .f64 hiM) == some .eq

theorem absGt_iff {y : Nat} (hn : (double.read y).isNaN = false) : absGt (some y) = !(geLo (some y) && leHi (some y)) := by
  unfold absGt geLo leHi
  rw [hiM_can, loM_can]
  show (double.order (y % 2 ^ 63) hiM == some Ordering.gt) = !((double.order y loM == some Ordering.gt || double.order y loM == some Ordering.eq) && (double.order y hiM == some Ordering.lt || double.order y hiM == some Ordering.eq))
  unfold Format.order
  rw [hiM_read, loM_read]
  cases e : double.read y with
  | nan => rw [e] at hn; cases hn
  | infinity s =>
    rw [read_abs_inf e]
    cases s <;> rfl
  | number s m i =>
    rw [read_abs e]
    simp only [Datum.order]
    rw [cmp_gt, cmp_gt, cmp_eq, cmp_lt, cmp_eq]
    cases s
    · rw [sg16_false, sg16_false, sg16_true]
      generalize m * 2 ^ (i - min i (-((33 : Nat) : Int))).toNat = X
      generalize 1000000 * 2 ^ 33 * 2 ^ (-((33 : Nat) : Int) - min i (-((33 : Nat) : Int))).toNat = Z
      rw [Bool.eq_iff_iff]
      simp
      omega
    · rw [sg16_false, sg16_false, sg16_true, sg16_true]
      generalize m * 2 ^ (i - min i (-((33 : Nat) : Int))).toNat = X
      generalize 1000000 * 2 ^ 33 * 2 ^ (-((33 : Nat) : Int) - min i (-((33 : Nat) : Int))).toNat = Z
      rw [Bool.eq_iff_iff]
      simp
      omega

theorem truncM {y : Nat} (hn : (double.read y).isNaN = false) (hg : geLo (some y) = true) (hl : leHi (some y) = true) :
    ∃ n, truncI .f64 (some y) = some n ∧ IntKind.i32.min ≤ n ∧ n ≤ IntKind.i32.max := by
  unfold geLo at hg
  unfold leHi at hl
  rw [hiM_can] at hl
  rw [loM_can] at hg
  have hg : (double.order y loM == some Ordering.gt || double.order y loM == some Ordering.eq) = true := hg
  have hl : (double.order y hiM == some Ordering.lt || double.order y hiM == some Ordering.eq) = true := hl
  unfold Format.order at hg hl
  rw [hiM_read] at hl
  rw [loM_read] at hg
  have emin : IntKind.i32.min = -2147483648 := by decide
  have emax : IntKind.i32.max = 2147483647 := by decide
  rw [emin, emax]
  show ∃ n, (double.read y).toInt .zero = some n ∧ _
  cases e : double.read y with
  | nan => rw [e] at hn; cases hn
  | infinity s => rw [e] at hg hl; cases s <;> first | cases hg; done | cases hl
  | number s m i =>
    rw [e] at hg hl
    simp only [Datum.order] at hg hl
    rw [cmp_gt, cmp_eq, sg16_true] at hg
    rw [cmp_lt, cmp_eq, sg16_false] at hl
    simp only [Bool.or_eq_true, decide_eq_true_eq] at hg hl
    refine ⟨signed s (Toward.zero.cut s (m <<< i.toNat) (-i).toNat) 0, rfl, ?_⟩
    have hc : Toward.zero.cut s (m <<< i.toNat) (-i).toNat = (m <<< i.toNat) >>> (-i).toNat := by
      generalize m <<< i.toNat = n
      generalize (-i).toNat = d
      show n / (1 <<< min d (n.log2 + 2)) + 0 = n >>> d
      rw [Nat.add_zero, Nat.shiftLeft_eq, Nat.one_mul, Nat.shiftRight_eq_div_pow]
      by_cases hd : d ≤ n.log2 + 2
      · rw [Nat.min_eq_left hd]
      · rw [Nat.min_eq_right (by omega)]
        have h1 : n < 2 ^ (n.log2 + 1) := Nat.lt_log2_self
        rw [Nat.div_eq_of_lt (Nat.lt_of_lt_of_le h1 (Nat.pow_le_pow_right (by decide) (by omega))), Nat.div_eq_of_lt (Nat.lt_of_lt_of_le h1 (Nat.pow_le_pow_right (by decide) (by omega)))]
    rw [hc]
    cases s
    · rw [sg16_false] at hg hl ⊢
      have := cut16_le m i 1000000 33 (by omega)
      omega
    · rw [sg16_true] at hg hl ⊢
      have := cut16_le m i 1000000 33 (by omega)
      omega

/-- A finite number divided by one above 0 is a number. -/
theorem quo_num {a b : Option Nat} (ha : finB a = true) (hb : finB b = true) (hp : (ford .f32 b (can .f32 0) == some Ordering.gt) = true) (ka : ∃ k, a = can .f32 k) (kb : ∃ k, b = can .f32 k) : ∃ q, fop .quo .f32 a b = some q ∧ (single.read q).isNaN = false := by
  obtain ⟨x, s, m, p, rfl, hx⟩ := fin_parts ha ka
  obtain ⟨y, t, n, j, rfl, hy⟩ := fin_parts hb kb
  have h0 : can .f32 0 = some 0 := by kernel_rfl
  have r0 : single.read 0 = .number false 0 (-149) := by kernel_rfl
  rw [h0] at hp
  have hp : (single.order y 0 == some Ordering.gt) = true := hp
  unfold Format.order at hp
  rw [hy, r0] at hp
  simp only [Datum.order] at hp
  rw [cmp_gt] at hp
  have hp := of_decide_eq_true hp
  have hn0 : n ≠ 0 := by
    rintro rfl
    rw [sg16_false] at hp
    cases t
    · rw [sg16_false] at hp; omega
    · rw [sg16_true] at hp; omega
  have hq : ∃ q, single.div x y = some q := by
    unfold Format.div
    rw [hx, hy]
    unfold Datum.quotient
    dsimp only
    rw [if_neg hn0]
    exact ⟨_, rfl⟩
  obtain ⟨q, hq⟩ := hq
  exact ⟨q, hq, floatBits_not_nan (op := .quo) (k := .f32) hq⟩
end Go.Proofs.Ytcopccniijkceaa
