/- Plain facts on narrow and wide words: what is narrow is kept when it is made wide, and comes back; sizes; finite numbers. No condition. -/
import Derived.Test.YtcopccniijkceaaFp
namespace Go.Proofs.Ytcopccniijkceaa
open Go Ieee

theorem shl_eq (n d : Nat) : n <<< d = n * 2 ^ d := Nat.shiftLeft_eq n d

theorem log2_shl (n d : Nat) (h : n ≠ 0) : (n * 2 ^ d).log2 = n.log2 + d := by
  have hp : 0 < 2 ^ d := Nat.two_pow_pos d
  have h2 : n * 2 ^ d ≠ 0 := Nat.mul_ne_zero h (by omega)
  rw [Nat.log2_eq_iff h2]
  have l1 := Nat.log2_self_le h
  have l2 := Nat.lt_log2_self (n := n)
  constructor
  · rw [Nat.pow_add]; exact Nat.mul_le_mul_right _ l1
  · rw [show n.log2 + d + 1 = (n.log2 + 1) + d by omega, Nat.pow_add]
    exact Nat.mul_lt_mul_of_pos_right l2 hp

theorem cut_exact (way : Toward) (neg : Bool) (n d : Nat) (h : n ≠ 0) : way.cut neg (n * 2 ^ d) d = n := by
  have hp : 0 < 2 ^ d := Nat.two_pow_pos d
  unfold Toward.cut
  rw [log2_shl n d h, show min d (n.log2 + d + 2) = d by omega, shl_eq, Nat.one_mul]
  simp only [Nat.mul_div_cancel _ hp, Nat.mul_mod_left]
  have e1 : ¬ (2 ^ d < 2 * 0) := by omega
  have e2 : (2 ^ d == 2 * 0) = false := by simp
  cases way <;> simp

theorem cut_zero (way : Toward) (neg : Bool) (n : Nat) (h : n ≠ 0) : way.cut neg n 0 = n := by
  have := cut_exact way neg n 0 h
  simpa using this

/-- A number that the format has: its word. 'm' fits, and its last place is not below the least one. -/
theorem nearest_exact (f : Format) (neg : Bool) (m : Nat) (p : Int) (hm : m ≠ 0) (hL : m.log2 ≤ f.fractionBits) (hp : f.leastPlace ≤ p)
    (hc : m.log2 = f.fractionBits ∨ p = f.leastPlace)
    (hr : (p - f.leastPlace).toNat * f.binade + m ≤ f.infRung) (d : Nat) :
    f.nearest neg (m * 2 ^ d) (p - d) = f.word neg ((p - f.leastPlace).toNat * f.binade + m) := by
  have hp2 : 0 < 2 ^ d := Nat.two_pow_pos d
  have h2 : m * 2 ^ d ≠ 0 := Nat.mul_ne_zero hm (by omega)
  unfold Format.nearest
  rw [if_neg h2]
  dsimp only
  rw [log2_shl m d hm]
  have hlast : max (p - (d : Int) + ((m.log2 + d : Nat) : Int) - (f.fractionBits : Int)) f.leastPlace = p := by
    have : p - (d : Int) + ((m.log2 + d : Nat) : Int) - (f.fractionBits : Int) = p + (m.log2 : Int) - f.fractionBits := by omega
    rw [this]
    rcases hc with h | h
    · rw [h]; omega
    · omega
  rw [hlast]
  have e1 : (p - (d : Int) - p).toNat = 0 := by omega
  have e2 : (p - (p - (d : Int))).toNat = d := by omega
  rw [e1, e2, shl_eq, Nat.pow_zero, Nat.mul_one, cut_exact _ _ _ _ hm, Nat.min_eq_left hr]

/-- What a finite word stands for. -/
theorem read_parts (f : Format) (he : 1 ≤ f.exponentBits) {b : Nat} {s : Bool} {m : Nat} {p : Int} (h : f.read b = .number s m p) :
    f.leastPlace ≤ p ∧ m < 2 * f.binade ∧ (m < f.binade → p = f.leastPlace) ∧ (p - f.leastPlace).toNat * f.binade + m = b % f.signWeight ∧ b % f.signWeight < f.infRung ∧ s = (b / f.signWeight % 2 == 1) := by
  unfold Format.read at h
  dsimp only at h
  have hb : 0 < f.binade := Nat.two_pow_pos _
  split at h
  · rename_i hlt
    cases h
    refine ⟨Int.le_refl _, by omega, fun _ => rfl, by simp, ?_, rfl⟩
    have := binade_le_inf f he
    omega
  · split at h
    · rename_i hge hlt
      cases h
      have hm := Nat.mod_lt (b % f.signWeight) hb
      have hdiv : 1 ≤ b % f.signWeight / f.binade := (Nat.one_le_div_iff hb).2 (by omega)
      refine ⟨by omega, by omega, fun h => by omega, ?_, hlt, rfl⟩
      have e : (f.leastPlace + ((b % f.signWeight / f.binade - 1 : Nat) : Int) - f.leastPlace).toNat = b % f.signWeight / f.binade - 1 := by omega
      rw [e]
      have := Nat.div_add_mod (b % f.signWeight) f.binade
      have e2 : (b % f.signWeight / f.binade - 1) * f.binade = (b % f.signWeight / f.binade) * f.binade - f.binade := by rw [Nat.sub_mul, Nat.one_mul]
      have e3 : f.binade ≤ (b % f.signWeight / f.binade) * f.binade := Nat.le_mul_of_pos_left _ hdiv
      rw [Nat.mul_comm] at this
      omega
    · split at h <;> cases h

/-! ### Narrow made wide, and back -/

def wide (b : Nat) : Nat := double.write (single.read b)
def slim (b : Nat) : Nat := single.write (double.read b)

theorem single_parts {b : Nat} {s : Bool} {m : Nat} {p : Int} (h : single.read b = .number s m p) :
    -149 ≤ p ∧ p ≤ 104 ∧ m < 2 ^ 24 ∧ (m < 2 ^ 23 → p = -149) ∧ (p + 149).toNat * 2 ^ 23 + m = b % 2 ^ 31 ∧ s = (b / 2 ^ 31 % 2 == 1) := by
  obtain ⟨h1, h2, h3, h4, h5, h6⟩ := read_parts single (by decide) h
  have e1 : single.leastPlace = -149 := by decide
  have e2 : single.binade = 2 ^ 23 := rfl
  have e3 : single.signWeight = 2 ^ 31 := rfl
  have e4 : single.infRung = 2139095040 := rfl
  rw [e1] at h1 h3 h4
  rw [e2] at h2 h3 h4
  rw [e3] at h4 h5 h6
  rw [e4] at h5
  have e5 : (p - -149) = p + 149 := by omega
  rw [e5] at h4
  refine ⟨h1, ?_, by omega, h3, h4, h6⟩
  omega

theorem wide_zero {b : Nat} {s : Bool} {p : Int} (h : single.read b = .number s 0 p) : wide b = double.word s 0 := by
  unfold wide
  rw [h]
  rfl

/-- The wide word of a narrow number that is not nought: the same number. -/
theorem wide_num {b : Nat} {s : Bool} {m : Nat} {p : Int} (h : single.read b = .number s m p) (hm : m ≠ 0) :
    double.read (wide b) = .number s (m * 2 ^ (52 - m.log2)) (p - (52 - m.log2 : Nat)) ∧ wide b = double.word s ((p + m.log2 + 1022).toNat * 2 ^ 52 + m * 2 ^ (52 - m.log2)) := by
  obtain ⟨h1, h2, h3, _, _, _⟩ := single_parts h
  have hL : m.log2 < 24 := (Nat.log2_lt hm).2 h3
  have e1 : double.leastPlace = -1074 := by decide
  have e2 : double.binade = 2 ^ 52 := rfl
  have e3 : double.signWeight = 2 ^ 63 := rfl
  have e4 : double.infRung = 2047 * 2 ^ 52 := rfl
  have ef : double.fractionBits = 52 := rfl
  have hd : 2 ^ (52 - m.log2) ≠ 0 := Nat.ne_of_gt (Nat.two_pow_pos _)
  have hm2 : m * 2 ^ (52 - m.log2) ≠ 0 := Nat.mul_ne_zero hm hd
  have hlog : (m * 2 ^ (52 - m.log2)).log2 = 52 := by rw [log2_shl _ _ hm]; omega
  have b1 : 2 ^ 52 ≤ m * 2 ^ (52 - m.log2) := by have := Nat.log2_self_le hm2; rwa [hlog] at this
  have b2 : m * 2 ^ (52 - m.log2) < 2 ^ 53 := by have := Nat.lt_log2_self (n := m * 2 ^ (52 - m.log2)); rwa [hlog] at this
  have hw : wide b = double.word s ((p + m.log2 + 1022).toNat * 2 ^ 52 + m * 2 ^ (52 - m.log2)) := by
    unfold wide
    rw [h]
    show double.nearest s m p = _
    have := nearest_exact double s (m * 2 ^ (52 - m.log2)) (p - (52 - m.log2 : Nat)) hm2 (by rw [hlog, ef]; exact Nat.le_refl _) (by rw [e1]; omega) (Or.inl (by rw [hlog, ef])) (by rw [e1, e2, e4]; omega) 0
    -- the number itself, with its digits moved up
    have key : double.nearest s m p = double.word s ((p - (52 - m.log2 : Nat) - double.leastPlace).toNat * double.binade + m * 2 ^ (52 - m.log2)) := by
      unfold Format.nearest
      rw [if_neg hm]
      dsimp only
      have hlast : max (p + (m.log2 : Int) - (double.fractionBits : Int)) double.leastPlace = p - (52 - m.log2 : Nat) := by
        rw [ef, e1]; omega
      rw [hlast]
      have x1 : (p - (p - ((52 - m.log2 : Nat) : Int))).toNat = 52 - m.log2 := by omega
      have x2 : (p - ((52 - m.log2 : Nat) : Int) - p).toNat = 0 := by omega
      rw [x1, x2, shl_eq, cut_zero _ _ _ hm2, Nat.min_eq_left]
      rw [e1, e2, e4]; omega
    rw [key, e1, e2]
    congr 4
    omega
  refine ⟨?_, hw⟩
  rw [hw, read_word _ _ (by rw [e3]; omega), if_neg (by rw [e2]; omega), if_pos (by rw [e4]; omega)]
  rw [e1, e2]
  have y1 : ((p + m.log2 + 1022).toNat * 2 ^ 52 + m * 2 ^ (52 - m.log2)) % 2 ^ 52 = m * 2 ^ (52 - m.log2) - 2 ^ 52 := by omega
  have y2 : ((p + m.log2 + 1022).toNat * 2 ^ 52 + m * 2 ^ (52 - m.log2)) / 2 ^ 52 = (p + m.log2 + 1022).toNat + 1 := by omega
  rw [y1, y2]
  simp only [Datum.number.injEq]
  exact ⟨trivial, by omega, by omega⟩

theorem log2_small {m : Nat} (h : m < 2 ^ 24) (h0 : m ≠ 0) : m.log2 ≤ 23 := by
  have := (Nat.log2_lt h0).2 h
  omega

/-- A narrow number written narrow, with any sign and whatever digits are moved: its rung. -/
theorem slim_num {b : Nat} {s : Bool} {m : Nat} {p : Int} (h : single.read b = .number s m p) (hm : m ≠ 0) (t : Bool) (d : Nat) :
    single.nearest t (m * 2 ^ d) (p - d) = single.word t (b % 2 ^ 31) := by
  obtain ⟨h1, h2, h3, h4, h5, _⟩ := single_parts h
  obtain ⟨_, _, _, _, hi, _⟩ := read_parts single (by decide) h
  have e1 : single.leastPlace = -149 := by decide
  have e2 : single.binade = 2 ^ 23 := rfl
  have e3 : single.signWeight = 2 ^ 31 := rfl
  have ef : single.fractionBits = 23 := rfl
  have hL := log2_small h3 hm
  have e5 : (p - -149) = p + 149 := by omega
  have := nearest_exact single t m p hm (by rw [ef]; exact hL) (by rw [e1]; exact h1)
    (by
      rw [ef, e1]
      by_cases hlt : m < 2 ^ 23
      · exact Or.inr (h4 hlt)
      · left
        have : 23 ≤ m.log2 := (Nat.le_log2 hm).2 (by omega)
        omega)
    (by rw [e1, e2, e5, h5]; rw [e3] at hi; omega) d
  rw [this, e1, e2, e5, h5]

/-- The size of a number: its word without the sign. -/
def bare (b : Nat) : Nat := b % 2 ^ 31

theorem word_false (f : Format) (r : Nat) : f.word false r = r := by simp [Format.word]

/-- Made wide, stripped of its sign, and made narrow again: stripped of its sign. -/
theorem slim_bare_wide {b : Nat} (hn : (single.read b).isNaN = false) : slim (wide b % 2 ^ 63) = bare b ∧ ((double.read (wide b % 2 ^ 63)).isNaN = false) ∧
    ((double.read (wide b % 2 ^ 63)).isInfinity = (single.read b).isInfinity) := by
  have e3 : double.signWeight = 2 ^ 63 := rfl
  cases h : single.read b with
  | nan s t => rw [h] at hn; cases hn
  | infinity s =>
    have hw : wide b % 2 ^ 63 = double.infRung := by
      unfold wide
      rw [h]
      cases s <;> decide
    have hr : double.read double.infRung = .infinity false := by decide
    have hbb : bare b = single.infRung := by
      unfold Format.read at h
      dsimp only at h
      split at h
      · cases h
      · split at h
        · cases h
        · split at h
          · rename_i hh; exact hh
          · cases h
    unfold slim
    rw [hw, hr, hbb]
    exact ⟨rfl, rfl, rfl⟩
  | number s m p =>
    by_cases hm : m = 0
    · subst hm
      have hw : wide b % 2 ^ 63 = 0 := by
        rw [wide_zero h]
        cases s <;> decide
      have hbb : bare b = 0 := by
        obtain ⟨h1, h2, h3, h4, h5, _⟩ := single_parts h
        have := h4 (by omega)
        unfold bare
        rw [← h5, this]; rfl
      rw [hw, hbb]
      exact ⟨by decide, by decide, (by decide : (double.read 0).isInfinity = false).trans rfl⟩
    · obtain ⟨hr, hw⟩ := wide_num h hm
      obtain ⟨h1, h2, h3, _, _, _⟩ := single_parts h
      have hL := log2_small h3 hm
      have hm2 : m * 2 ^ (52 - m.log2) ≠ 0 := Nat.mul_ne_zero hm (Nat.ne_of_gt (Nat.two_pow_pos _))
      have hlog : (m * 2 ^ (52 - m.log2)).log2 = 52 := by rw [log2_shl _ _ hm]; omega
      have b2 : m * 2 ^ (52 - m.log2) < 2 ^ 53 := by have := Nat.lt_log2_self (n := m * 2 ^ (52 - m.log2)); rwa [hlog] at this
      have b1 : 2 ^ 52 ≤ m * 2 ^ (52 - m.log2) := by have := Nat.log2_self_le hm2; rwa [hlog] at this
      have hw2 : wide b % 2 ^ 63 = double.word false ((p + m.log2 + 1022).toNat * 2 ^ 52 + m * 2 ^ (52 - m.log2)) := by
        rw [hw, word_false]
        unfold Format.word
        rw [e3]
        cases s <;> simp only [if_true, Bool.false_eq_true, if_false] <;> omega
      have hr2 : double.read (wide b % 2 ^ 63) = .number false (m * 2 ^ (52 - m.log2)) (p - (52 - m.log2 : Nat)) := by
        have e1 : double.leastPlace = -1074 := by decide
        have e2 : double.binade = 2 ^ 52 := rfl
        have e4 : double.infRung = 2047 * 2 ^ 52 := rfl
        rw [hw2, read_word _ _ (by rw [e3]; omega), if_neg (by rw [e2]; omega), if_pos (by rw [e4]; omega)]
        rw [e1, e2]
        have y1 : ((p + m.log2 + 1022).toNat * 2 ^ 52 + m * 2 ^ (52 - m.log2)) % 2 ^ 52 = m * 2 ^ (52 - m.log2) - 2 ^ 52 := by omega
        have y2 : ((p + m.log2 + 1022).toNat * 2 ^ 52 + m * 2 ^ (52 - m.log2)) / 2 ^ 52 = (p + m.log2 + 1022).toNat + 1 := by omega
        rw [y1, y2]
        simp only [Datum.number.injEq]
        exact ⟨trivial, by omega, by omega⟩
      unfold slim
      rw [hr2]
      refine ⟨?_, rfl, rfl⟩
      show single.nearest false _ _ = _
      rw [slim_num h hm false, word_false]
      rfl

theorem wide_not_inf {b : Nat} {s : Bool} {m : Nat} {p : Int} (h : single.read b = .number s m p) : (double.read (wide b)).isInfinity = false := by
  by_cases hm : m = 0
  · subst hm
    rw [wide_zero h]
    cases s <;> decide
  · rw [(wide_num h hm).1]; rfl

/-! ### Finite numbers -/

/-- A number, neither infinite nor a NaN. -/
def finB : Option Nat → Bool
  | some b => !(single.read b).isInfinity
  | none => false

theorem can32 (b : Nat) : can .f32 b = if (single.read b).isNaN then none else some b := rfl

theorem sub_self_zero (b r : Nat) (h : FIs .f32 r (fop .sub .f32 (can .f32 b) (can .f32 b))) : (FloatKind.f32.format.order r 0 == some Ordering.eq) = finB (can .f32 b) := by
  rw [order_can, h.out]
  rw [can32]
  cases e : single.read b with
  | nan s t => rfl
  | infinity s =>
    have : fop .sub .f32 (some b) (some b) = none := by
      show (((single.read b).sum (single.read b).opposite).map single.write) = none
      rw [e]
      cases s <;> rfl
    simp only [Datum.isNaN, Bool.false_eq_true, if_false, this, finB, e, Datum.isInfinity]
    rfl
  | number s m p =>
    have : fop .sub .f32 (some b) (some b) = some 0 := by
      show (((single.read b).sum (single.read b).opposite).map single.write) = some 0
      rw [e]
      simp only [Datum.opposite, Datum.sum, Int.min_self, Int.sub_self, Int.toNat_zero, Option.map_some]
      have hz : signed s m 0 + signed (!s) m 0 = 0 := by
        cases s <;> simp [signed] <;> omega
      rw [hz]
      cases s <;> rfl
    simp only [Datum.isNaN, Bool.false_eq_true, if_false, this, finB, e, Datum.isInfinity]
    decide

theorem bare_read {b : Nat} {s : Bool} {m : Nat} {p : Int} (e : single.read b = .number s m p) : single.read (bare b) = .number false m p := by
  unfold bare
  have e3 : single.signWeight = 2 ^ 31 := rfl
  have hlt : b % 2 ^ 31 < 2 ^ 31 := Nat.mod_lt _ (by decide)
  have h0 := read_word single false (rung := b % 2 ^ 31) (by rw [e3]; exact hlt)
  rw [word_false] at h0
  rw [h0]
  unfold Format.read at e
  dsimp only at e
  rw [e3] at e
  split at e
  · rename_i h1
    rw [if_pos h1]
    cases e; rfl
  · rename_i h1
    rw [if_neg h1]
    split at e
    · rename_i h2
      rw [if_pos h2]
      cases e; rfl
    · split at e <;> cases e

theorem bare_read_inf {b : Nat} {s : Bool} (e : single.read b = .infinity s) : single.read (bare b) = .infinity false := by
  unfold bare
  have e3 : single.signWeight = 2 ^ 31 := rfl
  have hlt : b % 2 ^ 31 < 2 ^ 31 := Nat.mod_lt _ (by decide)
  have h0 := read_word single false (rung := b % 2 ^ 31) (by rw [e3]; exact hlt)
  rw [word_false] at h0
  rw [h0]
  unfold Format.read at e
  dsimp only at e
  rw [e3] at e
  split at e
  · cases e
  · rename_i h1
    rw [if_neg h1]
    split at e
    · cases e
    · rename_i h2
      rw [if_neg h2]
      split at e
      · rename_i h3
        rw [if_pos h3]
      · cases e

theorem bare_read_nan {b : Nat} (e : (single.read b).isNaN = true) : (single.read (bare b)).isNaN = true := by
  unfold bare
  have e3 : single.signWeight = 2 ^ 31 := rfl
  have hlt : b % 2 ^ 31 < 2 ^ 31 := Nat.mod_lt _ (by decide)
  have h0 := read_word single false (rung := b % 2 ^ 31) (by rw [e3]; exact hlt)
  rw [word_false] at h0
  rw [h0]
  unfold Format.read at e
  dsimp only at e
  rw [e3] at e
  split at e
  · cases e
  · rename_i h1
    rw [if_neg h1]
    split at e
    · cases e
    · rename_i h2
      rw [if_neg h2]
      split at e
      · cases e
      · rename_i h3
        rw [if_neg h3]; rfl

theorem can_bare (b : Nat) : can .f32 (bare b) = (can .f32 b).map bare := by
  rw [can32, can32]
  cases e : single.read b with
  | nan s t => rw [if_pos (bare_read_nan (by rw [e]; rfl))]; rfl
  | infinity s => rw [bare_read_inf e]; rfl
  | number s m p => rw [bare_read e]; rfl

/-- No more than the greatest number in size: finite. -/
theorem leq_max (b r : Nat) (h : FIs .f32 r ((can .f32 b).map bare)) :
    (FloatKind.f32.format.order r 2139095039 == some Ordering.lt || FloatKind.f32.format.order r 2139095039 == some Ordering.eq) = finB (can .f32 b) := by
  rw [order_can, h.out, can32]
  have hmax : single.read 2139095039 = .number false 16777215 104 := by decide
  have hcm : can .f32 2139095039 = some 2139095039 := by rw [can32, hmax]; rfl
  rw [hcm]
  cases e : single.read b with
  | nan s t => rfl
  | infinity s =>
    simp only [Datum.isNaN, Bool.false_eq_true, if_false, Option.map_some, finB, e, Datum.isInfinity]
    show ((single.read (bare b)).order (single.read 2139095039) == some Ordering.lt || (single.read (bare b)).order (single.read 2139095039) == some Ordering.eq) = false
    rw [bare_read_inf e, hmax]; rfl
  | number s m p =>
    obtain ⟨h1, h2, h3, _, _, _⟩ := single_parts e
    simp only [Datum.isNaN, Bool.false_eq_true, if_false, Option.map_some, finB, e, Datum.isInfinity]
    show ((single.read (bare b)).order (single.read 2139095039) == some Ordering.lt || (single.read (bare b)).order (single.read 2139095039) == some Ordering.eq) = true
    rw [bare_read e, hmax]
    simp only [Datum.order]
    have hmin : min p 104 = p := by omega
    rw [hmin, Int.sub_self]
    have hle : signed false m (0 : Int).toNat ≤ signed false 16777215 (104 - p).toNat := by
      simp only [signed, Bool.false_eq_true, if_false, shl_eq]
      have : 0 < 2 ^ (104 - p).toNat := Nat.two_pow_pos _
      have h4 : 16777215 ≤ 16777215 * 2 ^ (104 - p).toNat := Nat.le_mul_of_pos_right _ this
      simp only [Int.toNat_zero, Nat.pow_zero, Nat.mul_one]
      omega
    rcases Int.lt_or_eq_of_le hle with hlt | heq
    · have : compare (signed false m (0 : Int).toNat) (signed false 16777215 (104 - p).toNat) = .lt := Int.compare_eq_lt.2 hlt
      rw [this]; rfl
    · rw [heq]; simp

end Go.Proofs.Ytcopccniijkceaa
