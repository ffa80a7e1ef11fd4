/- Marks that are held against each other: orders of words. No condition. -/
import Derived.Test.YtmcbeaihjdnelaaFz
import Derived.Test.YtmcbeaihjdnelaaMkA
namespace Go.Proofs.Ytmcbeaihjdnelaa
open Go Go.RowKit
set_option linter.unusedVariables false
set_option linter.unusedSimpArgs false

theorem ord_some {x y : Nat} (hx : (Ieee.single.read x).isNaN = false) (hy : (Ieee.single.read y).isNaN = false) : ∃ o, Ieee.single.order x y = some o ∧ Ieee.single.order y x = some o.swap := by
  unfold Ieee.Format.order
  cases hx' : Ieee.single.read x with
  | nan => rw [hx'] at hx; cases hx
  | infinity s =>
    cases hy' : Ieee.single.read y with
    | nan => rw [hy'] at hy; cases hy
    | infinity t => exact ⟨_, rfl, by cases s <;> cases t <;> rfl⟩
    | number t n q => exact ⟨_, rfl, by cases s <;> rfl⟩
  | number s m p =>
    cases hy' : Ieee.single.read y with
    | nan => rw [hy'] at hy; cases hy
    | infinity t => exact ⟨_, rfl, by cases t <;> rfl⟩
    | number t n q =>
      refine ⟨_, rfl, ?_⟩
      simp only [Ieee.Datum.order]
      rw [Int.min_comm q p]
      generalize Ieee.signed s m (p - min p q).toNat = X
      generalize Ieee.signed t n (q - min p q).toNat = Y
      rcases Int.lt_trichotomy X Y with h | h | h
      · rw [Int.compare_eq_lt.2 h, Int.compare_eq_gt.2 h]; rfl
      · rw [Int.compare_eq_eq.2 h, Int.compare_eq_eq.2 h.symm]; rfl
      · rw [Int.compare_eq_gt.2 h, Int.compare_eq_lt.2 h]; rfl

theorem fin_num {x : Nat} (h : finB (can .f32 x) = true) : ∃ s m p, Ieee.single.read x = .number s m p := by
  have hn : (FloatKind.f32.decode x).isNaN = false := by
    cases e : (FloatKind.f32.decode x).isNaN with
    | false => rfl
    | true => rw [can_nan e] at h; cases h
  rw [can_num hn] at h
  cases e : Ieee.single.read x with
  | nan => have hn' : (Ieee.single.read x).isNaN = false := hn; rw [e] at hn'; cases hn'
  | infinity s => simp [finB, e, Ieee.Datum.isInfinity] at h
  | number s m p => exact ⟨s, m, p, rfl⟩

theorem signed_ne {m n i j : Nat} (h : Ieee.signed false m i = Ieee.signed true n j) : m = 0 := by
  have h1 := signed_pos m i
  have h2 := signed_pos n j
  have h3 : Ieee.signed true n j = - Ieee.signed false n j := signed_not false n j
  have h4 := signed_abs false m i
  have h5 : Ieee.signed false m i = 0 := by omega
  rw [h5] at h4
  rcases Nat.mul_eq_zero.1 h4.symm with e | e
  · exact e
  · exact absurd e (Nat.ne_of_gt (Nat.two_pow_pos _))

theorem step_up {m n d : Nat} {q : Int} (hm : m < 2 ^ 24) (hn : n < 2 ^ 23 → q = -149) (hq : -149 < q) (hd : 0 < d) (h : m = n * 2 ^ d) : False := by
  have h1 : ¬ n < 2 ^ 23 := fun g => by have := hn g; omega
  have h2 : 2 ^ 1 ≤ 2 ^ d := Nat.pow_le_pow_right (by omega) hd
  have h3 : n * 2 ^ 1 ≤ n * 2 ^ d := Nat.mul_le_mul_left n h2
  have e1 : (2 : Nat) ^ 24 = 16777216 := by decide
  have e2 : (2 : Nat) ^ 23 = 8388608 := by decide
  have e3 : (2 : Nat) ^ 1 = 2 := by decide
  rw [e1] at hm
  rw [e2] at h1
  rw [e3] at h3
  omega

/-- Numbers that are equal have one word, or are noughts. -/
theorem ord_eq {x y : Nat} {s t : Bool} {m n : Nat} {p q : Int} (hx : Ieee.single.read x = .number s m p) (hy : Ieee.single.read y = .number t n q) (h : Ieee.single.order x y = some .eq) (lx : x < 4294967296) (ly : y < 4294967296) : x = y ∨ (x % 2 ^ 31 = 0 ∧ y % 2 ^ 31 = 0) := by
  obtain ⟨a1, a2, a3, a4, a5, a6⟩ := single_parts hx
  obtain ⟨b1, b2, b3, b4, b5, b6⟩ := single_parts hy
  unfold Ieee.Format.order at h
  rw [hx, hy] at h
  simp only [Ieee.Datum.order] at h
  have h' : Ieee.signed s m (p - min p q).toNat = Ieee.signed t n (q - min p q).toNat := Int.compare_eq_eq.1 (Option.some.inj h)
  have ea := signed_abs s m (p - min p q).toNat
  have eb := signed_abs t n (q - min p q).toNat
  rw [h', eb] at ea
  have p23 : (2 : Nat) ^ 23 = 8388608 := by decide
  have p24 : (2 : Nat) ^ 24 = 16777216 := by decide
  have p31 : (2 : Nat) ^ 31 = 2147483648 := by decide
  by_cases m0 : m = 0
  · right
    subst m0
    rw [Nat.zero_mul] at ea
    have n0 : n = 0 := by
      rcases Nat.mul_eq_zero.1 ea with e | e
      · exact e
      · exact absurd e (Nat.ne_of_gt (Nat.two_pow_pos _))
    subst n0
    have hp := a4 (by decide)
    have hq := b4 (by decide)
    subst hp hq
    exact ⟨a5.symm, b5.symm⟩
  · left
    have hst : s = t := by
      cases s <;> cases t
      · rfl
      · exact absurd (signed_ne h') m0
      · have hn := signed_ne h'.symm
        subst hn
        rw [Nat.zero_mul] at ea
        rcases Nat.mul_eq_zero.1 ea.symm with e | e
        · exact absurd e m0
        · exact absurd e (Nat.ne_of_gt (Nat.two_pow_pos _))
      · rfl
    have hmn : p = q ∧ m = n := by
      rcases Int.lt_trichotomy p q with g | g | g
      · exfalso
        have e1 : (p - min p q).toNat = 0 := by omega
        have e2 : (q - min p q).toNat = (q - p).toNat := by omega
        rw [e1, e2, Nat.pow_zero, Nat.mul_one] at ea
        exact step_up a3 b4 (by omega) (by omega) ea.symm
      · subst g
        have e1 : (p - min p p).toNat = 0 := by omega
        rw [e1, Nat.pow_zero, Nat.mul_one, Nat.mul_one] at ea
        exact ⟨rfl, ea.symm⟩
      · exfalso
        have e1 : (q - min p q).toNat = 0 := by omega
        have e2 : (p - min p q).toNat = (p - q).toNat := by omega
        rw [e1, e2, Nat.pow_zero, Nat.mul_one] at ea
        exact step_up b3 a4 (by omega) (by omega) ea
    obtain ⟨rfl, rfl⟩ := hmn
    have e5 : x % 2 ^ 31 = y % 2 ^ 31 := a5.symm.trans b5
    rw [a6] at hst
    rw [b6] at hst
    rw [p31] at e5 hst
    have hb : x / 2147483648 % 2 = y / 2147483648 % 2 := by
      have g1 : x / 2147483648 % 2 = 0 ∨ x / 2147483648 % 2 = 1 := by omega
      have g2 : y / 2147483648 % 2 = 0 ∨ y / 2147483648 % 2 = 1 := by omega
      rcases g1 with g1 | g1 <;> rcases g2 with g2 | g2 <;> rw [g1, g2] at hst ⊢ <;> first | rfl | (exfalso; revert hst; decide)
    omega

/-- The words of two numbers, held against each other. -/
structure OrdW (x y : Nat) (o : Ordering) : Prop where
  fx : finB (can .f32 x) = true
  fy : finB (can .f32 y) = true
  ord : FloatKind.f32.format.order x y = some o
  eq : o = .eq → x = y ∨ (x = 0 ∧ y = 2147483648) ∨ (x = 2147483648 ∧ y = 0)
theorem OrdW.of {x y : Nat} (hx : finB (can .f32 x) = true) (hy : finB (can .f32 y) = true) (lx : x < 4294967296) (ly : y < 4294967296) : ∃ o, OrdW x y o := by
  obtain ⟨s, m, p, ex⟩ := fin_num hx
  obtain ⟨t, n, q, ey⟩ := fin_num hy
  obtain ⟨o, ho, _⟩ := ord_some (x := x) (y := y) (by rw [ex]; rfl) (by rw [ey]; rfl)
  refine ⟨o, hx, hy, ho, fun e => ?_⟩
  subst e
  rcases ord_eq ex ey ho lx ly with g | ⟨g1, g2⟩
  · exact Or.inl g
  · have p31 : (2 : Nat) ^ 31 = 2147483648 := by decide
    rw [p31] at g1 g2
    omega
theorem fin_self {x : Nat} (h : finB (can .f32 x) = true) : (FloatKind.f32.format.order x x != some Ordering.eq) = false := by
  rw [neq_self]
  cases e : can .f32 x with
  | none => rw [e] at h; cases h
  | some b => rfl

def icmp (a b : Int) : Int := if a < b then -1 else if b < a then 1 else 0

theorem c_isNaN64 (a : Int) (w : World) : Calls Try.prog 121 #[.int .i64 a] w fun e w' => e = .returned (.bool false) ∧ w = w' := by
  have h : (a != a) = false := by simp
  go_enter Try.func121, Try.ntmps121
  go_wp2
  go_ret
  exact ⟨rfl, rfl⟩

theorem c_cmp64 (a b : Int) (w : World) : Calls Try.prog 88 #[.int .i64 a, .int .i64 b] w fun e w' => e = .returned (.int .i64 (icmp a b)) ∧ w = w' := by
  unfold icmp
  by_cases h1 : a < b
  · rw [if_pos h1]
    go_enter Try.func88, Try.ntmps88
    go_wp2_with (go_at_call 121; refine (c_isNaN64 _ _).mono ?_; rintro e w' ⟨rfl, rfl⟩)
    go_ret
    exact ⟨rfl, rfl⟩
  · rw [if_neg h1]
    by_cases h2 : b < a
    · rw [if_pos h2]
      go_enter Try.func88, Try.ntmps88
      go_wp2_with (go_at_call 121; refine (c_isNaN64 _ _).mono ?_; rintro e w' ⟨rfl, rfl⟩)
      go_ret
      exact ⟨rfl, rfl⟩
    · rw [if_neg h2]
      go_enter Try.func88, Try.ntmps88
      go_wp2_with (go_at_call 121; refine (c_isNaN64 _ _).mono ?_; rintro e w' ⟨rfl, rfl⟩)
      go_ret
      exact ⟨rfl, rfl⟩

theorem c_isNaNu (a : Int) (w : World) : Calls Try.prog 141 #[.int .u32 a] w fun e w' => e = .returned (.bool false) ∧ w = w' := by
  have h : (a != a) = false := by simp
  go_enter Try.func141, Try.ntmps141
  go_wp2
  go_ret
  exact ⟨rfl, rfl⟩

theorem c_cmpu (a b : Int) (w : World) : Calls Try.prog 138 #[.int .u32 a, .int .u32 b] w fun e w' => e = .returned (.int .i64 (icmp a b)) ∧ w = w' := by
  unfold icmp
  by_cases h1 : a < b
  · rw [if_pos h1]
    go_enter Try.func138, Try.ntmps138
    go_wp2_with (go_at_call 141; refine (c_isNaNu _ _).mono ?_; rintro e w' ⟨rfl, rfl⟩)
    go_ret
    exact ⟨rfl, rfl⟩
  · rw [if_neg h1]
    by_cases h2 : b < a
    · rw [if_pos h2]
      go_enter Try.func138, Try.ntmps138
      go_wp2_with (go_at_call 141; refine (c_isNaNu _ _).mono ?_; rintro e w' ⟨rfl, rfl⟩)
      go_ret
      exact ⟨rfl, rfl⟩
    · rw [if_neg h2]
      go_enter Try.func138, Try.ntmps138
      go_wp2_with (go_at_call 141; refine (c_isNaNu _ _).mono ?_; rintro e w' ⟨rfl, rfl⟩)
      go_ret
      exact ⟨rfl, rfl⟩


def wcmp : Ordering → Int
  | .lt => -1
  | .eq => 0
  | .gt => 1
def fcmp (o : Ordering) (x y : Nat) : Int := if o = .eq then icmp y x else wcmp o
def first3 (a b c : Int) : Int := if a = 0 then (if b = 0 then c else b) else a

theorem c_isNaNf (x : Nat) (w : World) (h : finB (can .f32 x) = true) : Calls Try.prog 137 #[.float .f32 x] w fun e w' => e = .returned (.bool false) ∧ w = w' := by
  have h1 := fin_self h
  go_enter Try.func137, Try.ntmps137
  go_wp2
  go_ret
  exact ⟨rfl, rfl⟩

theorem c_cmpf (x y : Nat) (o : Ordering) (w : World) (h : OrdW x y o) : Calls Try.prog 131 #[.float .f32 x, .float .f32 y] w fun e w' => e = .returned (.int .i64 (wcmp o)) ∧ w = w' := by
  have k1 := Lib.hid fun W => c_isNaNf x W h.fx
  have k2 := Lib.hid fun W => c_isNaNf y W h.fy
  have ho := h.ord
  clear h
  have hl : (FloatKind.f32.format.order x y == some Ordering.lt) = (o == .lt) := by rw [ho]; cases o <;> rfl
  have hg : (FloatKind.f32.format.order x y == some Ordering.gt) = (o == .gt) := by rw [ho]; cases o <;> rfl
  clear ho
  cases o
  all_goals
    simp only [show (Ordering.lt == Ordering.lt) = true from rfl, show (Ordering.lt == Ordering.gt) = false from rfl, show (Ordering.eq == Ordering.lt) = false from rfl, show (Ordering.eq == Ordering.gt) = false from rfl, show (Ordering.gt == Ordering.lt) = false from rfl, show (Ordering.gt == Ordering.gt) = true from rfl] at hl hg
    go_enter Try.func131, Try.ntmps131
    go_wp2_with fail
    refine (k1.out _).mono ?_
    rintro e w1 ⟨rfl, rfl⟩
    go_wp2_with fail
    refine (k2.out _).mono ?_
    rintro e w1 ⟨rfl, rfl⟩
    go_wp2
    go_ret
    exact ⟨rfl, rfl⟩

theorem c_cmpNum (x y : Nat) (o : Ordering) (w : World) (h : OrdW x y o) : Calls Try.prog 133 #[.float .f32 x, .float .f32 y] w fun e w' => e = .returned (.int .i64 (fcmp o x y)) ∧ w = w' := by
  have kf := Lib.hid fun W => c_cmpf x y o W h
  have ku := Lib.hid fun W => c_cmpu (y : Int) (x : Int) W
  have hn : (FloatKind.f32.format.order x y != some Ordering.eq) = (o != .eq) := by rw [h.ord]; cases o <;> rfl
  clear h
  unfold fcmp
  by_cases he : o = .eq
  · have hn' : (FloatKind.f32.format.order x y != some Ordering.eq) = false := by rw [hn, he]; rfl
    rw [if_pos he]
    clear hn he
    go_enter Try.func133, Try.ntmps133
    go_wp2_with fail
    refine (ku.out _).mono ?_
    rintro e w1 ⟨rfl, rfl⟩
    go_wp2
    go_ret
    exact ⟨rfl, rfl⟩
  · have hn' : (FloatKind.f32.format.order x y != some Ordering.eq) = true := by rw [hn]; cases o <;> first | rfl | exact absurd rfl he
    rw [if_neg he]
    clear hn he
    go_enter Try.func133, Try.ntmps133
    go_wp2_with fail
    refine (kf.out _).mono ?_
    rintro e w1 ⟨rfl, rfl⟩
    go_wp2
    go_ret
    exact ⟨rfl, rfl⟩
end Go.Proofs.Ytmcbeaihjdnelaa
