/- Orders of numbers, and the place of a number among those of a curve. No condition. -/
import Derived.Test.YtmcbeaihjdnelaaCuD
namespace Go.Proofs.Ytmcbeaihjdnelaa
open Go Go.RowKit
set_option linter.unusedVariables false
set_option linter.unusedSimpArgs false

theorem ord_some {x y : Nat} (hx : (Ieee.single.read x).isNaN = false) (hy : (Ieee.single.read y).isNaN = false) : ∃ o, Ieee.single.order x y = some o ∧ Ieee.single.order y x = some o.swap := by
  unfold Ieee.Format.order
  cases hx' : Ieee.single.read x with
  | nan => rw [hx'] at hx; cases hx
  | infinity s =>
    cases hy' : Ieee.single.read y with
    | nan => rw [hy'] at hy; cases hy
    | infinity t => exact ⟨_, rfl, by cases s <;> cases t <;> rfl⟩
    | number t n q => exact ⟨_, rfl, by cases s <;> rfl⟩
  | number s m p =>
    cases hy' : Ieee.single.read y with
    | nan => rw [hy'] at hy; cases hy
    | infinity t => exact ⟨_, rfl, by cases t <;> rfl⟩
    | number t n q =>
      refine ⟨_, rfl, ?_⟩
      simp only [Ieee.Datum.order]
      rw [Int.min_comm q p]
      generalize Ieee.signed s m (p - min p q).toNat = X
      generalize Ieee.signed t n (q - min p q).toNat = Y
      rcases Int.lt_trichotomy X Y with h | h | h
      · rw [Int.compare_eq_lt.2 h, Int.compare_eq_gt.2 h]; rfl
      · rw [Int.compare_eq_eq.2 h, Int.compare_eq_eq.2 h.symm]; rfl
      · rw [Int.compare_eq_gt.2 h, Int.compare_eq_lt.2 h]; rfl

theorem signed_up (s : Bool) (m k d : Nat) : Ieee.signed s m (k + d) = Ieee.signed s m k * ((2 ^ d : Nat) : Int) := by
  unfold Ieee.signed
  have e : m <<< (k + d) = (m <<< k) * 2 ^ d := by rw [Nat.shiftLeft_add, Nat.shiftLeft_eq (m <<< k) d]
  rw [e]
  cases s
  · simp
  · simp [Int.neg_mul]

theorem cmp_scale (s t : Bool) (m n : Nat) {p q c : Int} (h1 : c ≤ p) (h2 : c ≤ q) : compare (Ieee.signed s m (p - min p q).toNat) (Ieee.signed t n (q - min p q).toNat) = compare (Ieee.signed s m (p - c).toNat) (Ieee.signed t n (q - c).toNat) := by
  have e1 : (p - c).toNat = (p - min p q).toNat + (min p q - c).toNat := by omega
  have e2 : (q - c).toNat = (q - min p q).toNat + (min p q - c).toNat := by omega
  rw [e1, e2, signed_up, signed_up]
  generalize Ieee.signed s m (p - min p q).toNat = X
  generalize Ieee.signed t n (q - min p q).toNat = Y
  have hp : (0 : Int) < ((2 ^ (min p q - c).toNat : Nat) : Int) := by
    have := Nat.two_pow_pos (min p q - c).toNat
    omega
  generalize ((2 ^ (min p q - c).toNat : Nat) : Int) = D at hp
  rcases Int.lt_trichotomy X Y with h | h | h
  · rw [Int.compare_eq_lt.2 h, Int.compare_eq_lt.2 (Int.mul_lt_mul_of_pos_right h hp)]
  · rw [h, Int.compare_eq_eq.2 rfl, Int.compare_eq_eq.2 rfl]
  · rw [Int.compare_eq_gt.2 h, Int.compare_eq_gt.2 (Int.mul_lt_mul_of_pos_right h hp)]

theorem ord_trans {x y a : Nat} {s t : Bool} {m n : Nat} {p q : Int} (hx : Ieee.single.read x = .number s m p) (hy : Ieee.single.read y = .number t n q) (h1 : Ieee.single.order x y = some .lt) (h2 : Ieee.single.order y a = some .lt ∨ Ieee.single.order y a = some .eq) : Ieee.single.order x a = some .lt := by
  unfold Ieee.Format.order at h1 h2 ⊢
  rw [hx, hy] at h1
  rw [hy] at h2
  rw [hx]
  cases ha : Ieee.single.read a with
  | nan => rw [ha] at h2; rcases h2 with h | h <;> cases h
  | infinity u =>
    rw [ha] at h2
    cases u
    · rfl
    · rcases h2 with h | h <;> cases h
  | number u k r =>
    rw [ha] at h2
    simp only [Ieee.Datum.order] at h1 h2 ⊢
    have b1 : min p (min q r) ≤ p := by omega
    have b2 : min p (min q r) ≤ q := by omega
    have b3 : min p (min q r) ≤ r := by omega
    rw [cmp_scale s t m n b1 b2] at h1
    rw [cmp_scale t u n k b2 b3] at h2
    rw [cmp_scale s u m k b1 b3]
    generalize Ieee.signed s m (p - min p (min q r)).toNat = X at *
    generalize Ieee.signed t n (q - min p (min q r)).toNat = Y at *
    generalize Ieee.signed u k (r - min p (min q r)).toNat = Z at *
    have g1 := Int.compare_eq_lt.1 (Option.some.inj h1)
    have g2 : Y ≤ Z := by
      rcases h2 with h | h
      · exact Int.le_of_lt (Int.compare_eq_lt.1 (Option.some.inj h))
      · exact Int.le_of_eq (Int.compare_eq_eq.1 (Option.some.inj h))
    rw [Int.compare_eq_lt.2 (by omega)]

def gec (a p : Option Nat) : Bool := ford .f32 a p == some .gt || ford .f32 a p == some .eq
def selfc (a : Option Nat) : Bool := ford .f32 a a == some .eq
theorem gec_of (r q : Nat) : (FloatKind.f32.format.order r q == some Ordering.gt || FloatKind.f32.format.order r q == some Ordering.eq) = gec (can .f32 r) (can .f32 q) := by rw [order_can]; rfl
theorem selfc_of (r : Nat) : (FloatKind.f32.format.order r r == some Ordering.eq) = selfc (can .f32 r) := by rw [order_can]; rfl
theorem lec_word (r q : Nat) : lec (can .f32 r) (can .f32 q) = (Ieee.single.order r q == some Ordering.lt || Ieee.single.order r q == some Ordering.eq) := (lec_of r q).symm
theorem ltc_word (r q : Nat) : ltc (can .f32 r) (can .f32 q) = (Ieee.single.order r q == some Ordering.lt) := (ltc_of r q).symm
theorem gec_word (r q : Nat) : gec (can .f32 r) (can .f32 q) = (Ieee.single.order r q == some Ordering.gt || Ieee.single.order r q == some Ordering.eq) := (gec_of r q).symm

theorem self_num {a : Nat} (h : selfc (can .f32 a) = true) : (Ieee.single.read a).isNaN = false := by
  rw [← selfc_of] at h
  have h' : (Ieee.single.order a a == some Ordering.eq) = true := h
  unfold Ieee.Format.order at h'
  cases e : Ieee.single.read a with
  | nan => rw [e] at h'; cases h'
  | infinity s => rfl
  | number s m p => rfl

theorem fin_num {x : Nat} (h : finB (can .f32 x) = true) : ∃ s m p, Ieee.single.read x = .number s m p := by
  have hn : (FloatKind.f32.decode x).isNaN = false := by
    cases e : (FloatKind.f32.decode x).isNaN with
    | false => rfl
    | true => rw [can_nan e] at h; cases h
  rw [can_num hn] at h
  cases e : Ieee.single.read x with
  | nan => have hn' : (Ieee.single.read x).isNaN = false := hn; rw [e] at hn'; cases hn'
  | infinity s => simp [finB, e, Ieee.Datum.isInfinity] at h
  | number s m p => exact ⟨s, m, p, rfl⟩

/-- What is not at most another number is above it. -/
theorem le_turn {a x : Nat} (ha : selfc (can .f32 a) = true) (hx : finB (can .f32 x) = true) (h : lec (can .f32 a) (can .f32 x) = false) : lec (can .f32 x) (can .f32 a) = true := by
  obtain ⟨s, m, p, e⟩ := fin_num hx
  obtain ⟨o, h1, h2⟩ := ord_some (self_num ha) (by rw [e]; rfl : (Ieee.single.read x).isNaN = false)
  rw [lec_word, h1] at h
  rw [lec_word, h2]
  revert h
  cases o <;> decide
theorem ge_turn {a x : Nat} (ha : selfc (can .f32 a) = true) (hx : finB (can .f32 x) = true) (h : gec (can .f32 a) (can .f32 x) = false) : lec (can .f32 x) (can .f32 a) = false := by
  obtain ⟨s, m, p, e⟩ := fin_num hx
  obtain ⟨o, h1, h2⟩ := ord_some (self_num ha) (by rw [e]; rfl : (Ieee.single.read x).isNaN = false)
  rw [gec_word, h1] at h
  rw [lec_word, h2]
  revert h
  cases o <;> decide
theorem le_under {x y a : Nat} (hx : finB (can .f32 x) = true) (hy : finB (can .f32 y) = true) (h1 : ltc (can .f32 x) (can .f32 y) = true) (h2 : lec (can .f32 y) (can .f32 a) = true) : lec (can .f32 x) (can .f32 a) = true := by
  obtain ⟨s, m, p, ex⟩ := fin_num hx
  obtain ⟨t, n, q, ey⟩ := fin_num hy
  rw [ltc_word] at h1
  rw [lec_word] at h2 ⊢
  rw [ord_trans ex ey (by simpa using h1) (by simpa using h2)]
  rfl

def cat (us : List (List NV)) (i : Nat) : Option Nat := flt (us.getD i [])
theorem cat_of {us : List (List NV)} {i : Nat} {r : List NV} (h : us[i]? = some r) : cat us i = flt r := by
  unfold cat
  rw [List.getD_eq_getElem?_getD, h]; rfl

def CorI (us : List (List NV)) (o : Option Nat) (i : Nat) : Prop := i + 1 < us.length ∧ (∀ j, 1 ≤ j → j ≤ i → lec (cat us j) o = true) ∧ lec (cat us (i + 1)) o = false
theorem CorI.one {us : List (List NV)} {o : Option Nat} {i j : Nat} (h : CorI us o i) (h' : CorI us o j) : i = j := by
  rcases Nat.lt_trichotomy i j with g | g | g
  · have := h'.2.1 (i + 1) (by omega) (by omega); rw [h.2.2] at this; cases this
  · exact g
  · have := h.2.1 (j + 1) (by omega) (by omega); rw [h'.2.2] at this; cases this
noncomputable def corI (us : List (List NV)) (o : Option Nat) : Nat := @dite _ (∃ i, CorI us o i) (Classical.propDecidable _) (fun h => Classical.choose h) (fun _ => 0)
theorem corI_eq {us : List (List NV)} {o : Option Nat} {i : Nat} (h : CorI us o i) : corI us o = i := by
  unfold corI
  rw [dif_pos ⟨i, h⟩]
  exact (Classical.choose_spec (⟨i, h⟩ : ∃ i, CorI us o i)).one h

def betw (a b s : Option Nat) : Option Nat := fop .add .f32 a (fop .mul .f32 (fop .sub .f32 b a) s)
def share (o x y : Option Nat) : Option Nat := fop .quo .f32 (fop .sub .f32 o x) (fop .sub .f32 y x)
noncomputable def crX (us vs : List (List NV)) (o : Option Nat) (i : Nat) : Option Nat := betw (cat vs i) (cat vs (i + 1)) (share o (cat us i) (cat us (i + 1)))
noncomputable def crV (us vs : List (List NV)) (o : Option Nat) : Option Nat :=
  if curveB us vs then (if selfc o then (if lec o (cat us 0) then cat vs 0 else if gec o (cat us (us.length - 1)) then cat vs (us.length - 1) else crX us vs o (corI us o)) else can .f32 0) else can .f32 0
noncomputable def crC (us vs : List (List NV)) (o : Option Nat) : Int := if curveB us vs then (if selfc o then 0 else 2) else 1

theorem cu_fin {us vs : List (List NV)} (h : curveB us vs = true) {j : Nat} (hj : j < us.length) : finB (cat us j) = true := by
  have := ((curveB_iff.1 h).2 j).1 us[j] (List.getElem?_eq_getElem hj)
  rw [cat_of (List.getElem?_eq_getElem hj)]
  exact this
theorem cu_up {us vs : List (List NV)} (h : curveB us vs = true) {j : Nat} (hj : j + 1 < us.length) : ltc (cat us j) (cat us (j + 1)) = true := by
  have := ((curveB_iff.1 h).2 (j + 1)).2.2 us[j + 1] (us[j]'(by omega)) (by omega) (List.getElem?_eq_getElem hj) (by show us[j]? = _; exact List.getElem?_eq_getElem (by omega))
  rw [cat_of (List.getElem?_eq_getElem hj), cat_of (List.getElem?_eq_getElem (show j < us.length by omega))]
  exact this
/-- Numbers below one that is not above another are not above it. -/
theorem cu_mono {us vs : List (List NV)} (h : curveB us vs = true) (hw : ∀ j, j < us.length → ∃ b, cat us j = can .f32 b) {q : Nat} : ∀ d a, a + d < us.length → lec (cat us (a + d)) (can .f32 q) = true → lec (cat us a) (can .f32 q) = true
  | 0, a, _, h2 => h2
  | d + 1, a, hd, h2 => by
    refine cu_mono h hw d a (by omega) ?_
    obtain ⟨x, ex⟩ := hw (a + d) (by omega)
    obtain ⟨y, ey⟩ := hw (a + d + 1) (by omega)
    have f1 := cu_fin h (show a + d < us.length by omega)
    have f2 := cu_fin h (show a + d + 1 < us.length by omega)
    have f3 := cu_up h (show a + d + 1 < us.length by omega)
    rw [show a + (d + 1) = a + d + 1 by omega] at h2
    rw [ex] at f1 f3 ⊢
    rw [ey] at f2 f3 h2
    exact le_under f1 f2 f3 h2

/-- What a search finds. -/
def Parts (cf : Nat → Int) (n i : Nat) : Prop := i ≤ n ∧ (∀ t, t < i → cf t < 0) ∧ (∀ t, i ≤ t → t < n → 0 ≤ cf t)
end Go.Proofs.Ytmcbeaihjdnelaa
