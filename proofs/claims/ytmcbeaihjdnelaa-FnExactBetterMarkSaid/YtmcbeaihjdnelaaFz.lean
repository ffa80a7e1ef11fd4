/- Floats: nought taken away or added; squares whatever the sign; what is not negative. No condition. -/
import Derived.Test.YtmcbeaihjdnelaaAg
import Derived.Test.YtmcbeaihjdnelaaB10
namespace Go.Proofs.Ytmcbeaihjdnelaa
open Go Go.RowKit Ieee
set_option linter.unusedVariables false
set_option linter.unusedSimpArgs false

/-- A number's size, rounded: the sign stands apart. -/
theorem nearest_form (f : Format) (mag : Nat) (place : Int) : ∃ R, R ≤ f.infRung ∧ ∀ s, f.nearest s mag place = f.word s R := by
  by_cases h : mag = 0
  · exact ⟨0, Nat.zero_le _, fun s => by unfold Format.nearest; rw [if_pos h]⟩
  · exact ⟨min ((max (place + mag.log2 - f.fractionBits) f.leastPlace - f.leastPlace).toNat * f.binade + Toward.even.cut false (mag <<< (place - max (place + mag.log2 - f.fractionBits) f.leastPlace).toNat) (max (place + mag.log2 - f.fractionBits) f.leastPlace - place).toNat) f.infRung, Nat.min_le_right _ _, fun s => by unfold Format.nearest; rw [if_neg h]; rfl⟩

theorem write_form (f : Format) (d : Datum) (h : d.isNaN = false) : ∃ R, R ≤ f.infRung ∧ f.write d = f.word d.neg R := by
  cases d with
  | number s m p => obtain ⟨R, h1, h2⟩ := nearest_form f m p; exact ⟨R, h1, h2 s⟩
  | infinity s => exact ⟨f.infRung, Nat.le_refl _, rfl⟩
  | nan s t => cases h

theorem neg_small (f : Format) {b : Nat} (h : b < f.signWeight) : (f.read b).neg = false := by
  unfold Format.read
  have e : (b / f.signWeight % 2 == 1) = false := by rw [Nat.div_eq_of_lt h]; rfl
  dsimp only
  rw [e]
  split
  · rfl
  · split
    · rfl
    · split <;> rfl

theorem write_small (f : Format) (d : Datum) (h : d.neg = false) (hi : f.infRung + f.binade ≤ f.signWeight) : f.write d < f.signWeight := by
  have hl := f.infRung_lt
  cases d with
  | number s m p =>
    obtain ⟨R, h1, h2⟩ := nearest_form f m p
    show f.nearest s m p < _
    rw [h2, show s = false from h, word_false]
    omega
  | infinity s =>
    show f.word s f.infRung < _
    rw [show s = false from h, word_false]
    exact hl
  | nan s t =>
    show f.word s (f.infRung + t % f.binade) < _
    rw [show s = false from h, word_false]
    have := Nat.mod_lt t (show 0 < f.binade from Nat.two_pow_pos _)
    omega

theorem product_word (f : Format) (s : Bool) {R : Nat} (h : R ≤ f.infRung) : (f.read (f.word s R)).product (f.read (f.word s R)) = (f.read (f.word false R)).product (f.read (f.word false R)) := by
  have := f.infRung_lt
  rw [read_word f s (by omega), read_word f false (by omega)]
  split
  · simp [Datum.product]
  · split
    · simp [Datum.product]
    · split
      · simp [Datum.product]
      · rfl

theorem signed_not (s : Bool) (m k : Nat) : signed (!s) m k = - signed s m k := by
  unfold signed
  cases s <;> simp

theorem sub_swap (f : Format) (x y : Nat) : (f.sub x y = none ∧ f.sub y x = none) ∨ ∃ R s t, R ≤ f.infRung ∧ f.sub x y = some (f.word s R) ∧ f.sub y x = some (f.word t R) := by
  unfold Format.sub
  generalize f.read x = a
  generalize f.read y = b
  cases a with
  | nan s t => exact Or.inl ⟨rfl, by cases b <;> rfl⟩
  | infinity s =>
    cases b with
    | nan => exact Or.inl ⟨rfl, rfl⟩
    | infinity t =>
      cases s <;> cases t
      · exact Or.inl ⟨rfl, rfl⟩
      · exact Or.inr ⟨_, _, _, Nat.le_refl _, rfl, rfl⟩
      · exact Or.inr ⟨_, _, _, Nat.le_refl _, rfl, rfl⟩
      · exact Or.inl ⟨rfl, rfl⟩
    | number t n j => exact Or.inr ⟨_, _, _, Nat.le_refl _, rfl, rfl⟩
  | number s m i =>
    cases b with
    | nan => exact Or.inl ⟨rfl, rfl⟩
    | infinity t => exact Or.inr ⟨_, _, _, Nat.le_refl _, rfl, rfl⟩
    | number t n j =>
      have e : signed t n (j - min j i).toNat + signed (!s) m (i - min j i).toNat = -(signed s m (i - min i j).toNat + signed (!t) n (j - min i j).toNat) := by
        rw [Int.min_comm j i, signed_not, signed_not]
        omega
      obtain ⟨R, h1, h2⟩ := nearest_form f (signed s m (i - min i j).toNat + signed (!t) n (j - min i j).toNat).natAbs (min i j)
      have hw : ∀ q : Bool, f.nearest q (signed t n (j - min j i).toNat + signed (!s) m (i - min j i).toNat).natAbs (min j i) = f.word q R := fun q => by
        rw [e, Int.natAbs_neg, Int.min_comm j i]
        exact h2 q
      exact Or.inr ⟨R, _, _, h1, congrArg some (h2 _), congrArg some (hw _)⟩

theorem sq_swap (a b : Option Nat) : fop .mul .f32 (fop .sub .f32 a b) (fop .sub .f32 a b) = fop .mul .f32 (fop .sub .f32 b a) (fop .sub .f32 b a) := by
  cases a with
  | none =>
    simp only [fop_none_left, fop_none_right]
  | some x =>
    cases b with
    | none =>
      simp only [fop_none_left, fop_none_right]
    | some y =>
      have e1 : fop .sub .f32 (some x) (some y) = single.sub x y := rfl
      have e2 : fop .sub .f32 (some y) (some x) = single.sub y x := rfl
      rw [e1, e2]
      rcases sub_swap single x y with ⟨h1, h2⟩ | ⟨R, s, t, hR, h1, h2⟩
      · rw [h1, h2]
      · rw [h1, h2]
        show ((single.read _).product (single.read _)).map single.write = ((single.read _).product (single.read _)).map single.write
        rw [product_word single s hR, product_word single t hR]

/-! ### What is not negative -/

def PosW (o : Option Nat) : Prop := ∀ b, o = some b → b < 2147483648

theorem prod_sign {d r : Datum} (h : d.product d = some r) : r.neg = false := by
  cases d <;> simp [Datum.product] at h
  all_goals (subst h; rfl)

theorem pos_sq (x : Option Nat) : PosW (fop .mul .f32 x x) := by
  intro b hb
  cases x with
  | none => cases hb
  | some a =>
    have hb : ((single.read a).product (single.read a)).map single.write = some b := hb
    obtain ⟨d, hd, rfl⟩ := Option.map_eq_some_iff.1 hb
    exact write_small single d (prod_sign hd) (by decide)

theorem signed_pos (m k : Nat) : 0 ≤ signed false m k := by
  unfold signed
  rw [if_neg (by decide)]
  exact Int.natCast_nonneg _

theorem sum_sign {c d r : Datum} (h : c.sum d = some r) (hc : c.neg = false) (hd : d.neg = false) : r.neg = false := by
  cases c with
  | nan => cases h
  | infinity s =>
    cases d with
    | nan => cases h
    | infinity t =>
      simp only [Datum.sum] at h
      split at h
      · cases h; exact hc
      · cases h
    | number => cases h; exact hc
  | number s m i =>
    cases d with
    | nan => cases h
    | infinity t => cases h; exact hd
    | number t n j =>
      cases h
      have hs : s = false := hc
      have ht : t = false := hd
      subst hs ht
      have g1 := signed_pos m (i - min i j).toNat
      have g2 := signed_pos n (j - min i j).toNat
      show (if _ then (false && false) else decide (_ < (0 : Int))) = false
      split
      · rfl
      · exact decide_eq_false (by omega)

theorem pos_add {x y : Option Nat} (hx : PosW x) (hy : PosW y) : PosW (fop .add .f32 x y) := by
  intro b hb
  cases x with
  | none => cases hb
  | some a =>
    cases y with
    | none => cases hb
    | some c =>
      have hb : ((single.read a).sum (single.read c)).map single.write = some b := hb
      obtain ⟨d, hd, rfl⟩ := Option.map_eq_some_iff.1 hb
      exact write_small single d (sum_sign hd (neg_small single (hx a rfl)) (neg_small single (hy c rfl))) (by decide)

theorem root_sign {n : Nat} {d r : Datum} (h : d.root n = some r) (hd : d.neg = false) : r.neg = false := by
  cases d <;> simp only [Datum.root] at h
  · split at h
    · cases h; exact hd
    · split at h
      · cases h
      · cases h; rfl
  · split at h
    · cases h
    · cases h; exact hd
  · cases h

theorem pos_root {x : Option Nat} (hx : PosW x) : PosW (froot x) := by
  intro b hb
  cases x with
  | none => cases hb
  | some a =>
    unfold froot fsqrt at hb
    obtain ⟨c, hc, rfl⟩ := Option.map_eq_some_iff.1 hb
    have hc : ((double.read (wide a)).root (double.fractionBits + 2)).map double.write = some c := hc
    obtain ⟨d, hd, rfl⟩ := Option.map_eq_some_iff.1 hc
    have h1 : wide a < double.signWeight := write_small double _ (neg_small single (hx a rfl)) (by decide)
    have h2 : double.write d < double.signWeight := write_small double _ (root_sign hd (neg_small double h1)) (by decide)
    exact write_small single _ (neg_small double h2) (by decide)

def isZ (d : Option Nat) : Bool := ford .f32 d (can .f32 0) == some .eq
def gtZ (d : Option Nat) : Bool := ford .f32 d (can .f32 0) == some .gt
def leO (o d : Option Nat) : Bool := ford .f32 o d == some .lt || ford .f32 o d == some .eq
def ltO (o d : Option Nat) : Bool := ford .f32 o d == some .lt

theorem zero_read : single.read 0 = .number false 0 (-149) := by decide
theorem can_zero : can .f32 0 = some 0 := by rw [can32, zero_read]; rfl

theorem pos_split {o : Option Nat} (h : PosW o) : (gtZ o = true ∧ isZ o = false) ∨ (gtZ o = false ∧ isZ o = true ∧ o = some 0) ∨ (gtZ o = false ∧ isZ o = false ∧ ∀ z, leO z o = false) := by
  unfold gtZ isZ
  cases o with
  | none => exact Or.inr (Or.inr ⟨rfl, rfl, fun z => by unfold leO ford; cases z <;> rfl⟩)
  | some b =>
    have hb := h b rfl
    have hn := neg_small single (show b < single.signWeight from hb)
    rw [can_zero]
    have e : ford .f32 (some b) (some 0) = (single.read b).order (single.read 0) := rfl
    rw [e, zero_read]
    cases hr : single.read b with
    | nan s t =>
      refine Or.inr (Or.inr ⟨rfl, rfl, fun z => ?_⟩)
      unfold leO
      cases z with
      | none => rfl
      | some z =>
        have e : ford .f32 (some z) (some b) = (single.read z).order (single.read b) := rfl
        rw [e, hr]
        cases single.read z <;> rfl
    | infinity s =>
      rw [hr] at hn
      have hs : s = false := hn
      subst hs
      exact Or.inl ⟨rfl, rfl⟩
    | number s m p =>
      rw [hr] at hn
      have hs : s = false := hn
      subst hs
      simp only [Datum.order]
      have hz : signed false 0 (-149 - min p (-149)).toNat = 0 := by simp [signed]
      rw [hz]
      have hsg : signed false m (p - min p (-149)).toNat = ((m * 2 ^ (p - min p (-149)).toNat : Nat) : Int) := by
        unfold signed
        rw [if_neg (by decide), shl_eq]
      rw [hsg]
      by_cases hm : m = 0
      · subst hm
        refine Or.inr (Or.inl ⟨?_, ?_, ?_⟩)
        · rw [Nat.zero_mul]; rfl
        · rw [Nat.zero_mul]; rfl
        · obtain ⟨h1, h2, h3, h4, h5, _⟩ := single_parts hr
          have := h4 (by omega)
          congr 1
          omega
      · left
        have hp : 0 < m * 2 ^ (p - min p (-149)).toNat := Nat.mul_pos (by omega) (Nat.two_pow_pos _)
        have hc : compare ((m * 2 ^ (p - min p (-149)).toNat : Nat) : Int) 0 = .gt := Int.compare_eq_gt.2 (by omega)
        rw [hc]
        exact ⟨rfl, rfl⟩

/-- The word that a narrow word's meaning is written as. -/
theorem word_back {b : Nat} (hb : b < 4294967296) : single.word (b / 2 ^ 31 % 2 == 1) (b % 2 ^ 31) = b := by
  unfold Format.word
  have e3 : single.signWeight = 2147483648 := rfl
  rw [e3]
  have h : b / 2 ^ 31 % 2 = 0 ∨ b / 2 ^ 31 % 2 = 1 := by omega
  rcases h with h | h
  · rw [h, if_neg (by decide)]; omega
  · rw [h, if_pos (by decide)]; omega

theorem signed_zero (s : Bool) (k : Nat) : signed s 0 k = 0 := by cases s <;> simp [signed]

theorem inf_parts {b : Nat} {s : Bool} (h : single.read b = .infinity s) : b % 2 ^ 31 = single.infRung ∧ s = (b / 2 ^ 31 % 2 == 1) := by
  unfold Format.read at h
  dsimp only at h
  split at h
  · cases h
  · split at h
    · cases h
    · split at h
      · rename_i h1 h2 h3
        cases h
        exact ⟨h3, rfl⟩
      · cases h

/-- A number and a nought, added. -/
theorem sum_zero {b : Nat} {s t : Bool} {m : Nat} {p : Int} (hb : b < 4294967296) (h : single.read b = .number s m p) (hz : m = 0 → (s && t) = s) :
    ((Datum.number s m p).sum (.number t 0 (-149))).map single.write = some b := by
  obtain ⟨h1, h2, h3, h4, h5, h6⟩ := single_parts h
  have hmin : min p (-149) = -149 := by omega
  simp only [Datum.sum, Option.map_some]
  rw [hmin, signed_zero, Int.add_zero]
  congr 1
  show single.nearest _ _ _ = _
  by_cases hm : m = 0
  · subst hm
    rw [signed_zero, if_pos rfl, hz rfl]
    show single.nearest s 0 (-149) = b
    unfold Format.nearest
    rw [if_pos rfl]
    have hp := h4 (by omega)
    have e := word_back hb
    have e0 : b % 2 ^ 31 = 0 := by rw [← h5, hp]; rfl
    rw [e0, ← h6] at e
    exact e
  · have hk : (-149 : Int) = p - ((p - -149).toNat : Nat) := by omega
    have ha := signed_abs s m (p - -149).toNat
    have hne : signed s m (p - -149).toNat ≠ 0 := by
      intro e
      rw [e] at ha
      rcases Nat.mul_eq_zero.1 ha.symm with e | e
      · exact hm e
      · exact absurd e (Nat.ne_of_gt (Nat.two_pow_pos _))
    have hs : decide (signed s m (p - -149).toNat < 0) = s := by
      have hp : 0 < m * 2 ^ (p - -149).toNat := Nat.mul_pos (by omega) (Nat.two_pow_pos _)
      unfold signed
      rw [shl_eq]
      cases s
      · rw [if_neg (by decide)]; exact decide_eq_false (by omega)
      · rw [if_pos rfl]; exact decide_eq_true (by omega)
    rw [if_neg hne, hs, ha]
    have := slim_num h hm s (p - -149).toNat
    rw [← hk] at this
    rw [this, h6]
    exact word_back hb

theorem write_inf {b : Nat} {s : Bool} (hb : b < 4294967296) (h : single.read b = .infinity s) : single.write (.infinity s) = b := by
  obtain ⟨h1, h2⟩ := inf_parts h
  show single.word s single.infRung = b
  rw [← h1, h2]
  exact word_back hb

theorem sub_zero32 {x : Nat} (hx : x < 2 ^ 32) : fop .sub .f32 (can .f32 x) (some 0) = can .f32 x := by
  cases hn : (single.read x).isNaN with
  | true => rw [can_nan (k := .f32) hn]; rfl
  | false =>
    rw [can_num (k := .f32) hn]
    show ((single.read x).sum (single.read 0).opposite).map single.write = some x
    rw [zero_read]
    cases h : single.read x with
    | nan => rw [h] at hn; cases hn
    | infinity s => exact congrArg some (write_inf hx h)
    | number s m p => exact sum_zero hx h fun _ => by cases s <;> rfl

/-- Nought, and a number above nought. -/
theorem zero_add32 {x : Nat} (hx : x < 2 ^ 32) (hp : gtZ (can .f32 x) = true) : fop .add .f32 (can .f32 0) (can .f32 x) = can .f32 x := by
  cases hn : (single.read x).isNaN with
  | true => rw [can_nan (k := .f32) hn, fop_none_right]
  | false =>
    rw [can_num (k := .f32) hn, can_zero]
    rw [can_num (k := .f32) hn] at hp
    show ((single.read 0).sum (single.read x)).map single.write = some x
    rw [zero_read]
    cases h : single.read x with
    | nan => rw [h] at hn; cases hn
    | infinity s => exact congrArg some (write_inf hx h)
    | number s m p =>
      have hm : m ≠ 0 := by
        intro e
        subst e
        unfold gtZ at hp
        rw [can_zero] at hp
        have e : ford .f32 (some x) (some 0) = (single.read x).order (single.read 0) := rfl
        rw [e, zero_read, h] at hp
        simp only [Datum.order, signed_zero] at hp
        exact absurd hp (by decide)
      have := sum_zero (t := false) hx h fun e => absurd e hm
      rw [← this]
      simp only [Datum.sum]
      rw [Int.min_comm p (-149), Int.add_comm (signed s m _), Bool.and_comm s false]
end Go.Proofs.Ytmcbeaihjdnelaa
