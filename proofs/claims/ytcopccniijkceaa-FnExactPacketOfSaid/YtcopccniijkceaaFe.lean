/- Plain facts on the sizes of rounded numbers: how far rounding may lead up, square roots, what fits a narrow number. No condition. -/
import Derived.Test.YtcopccniijkceaaFw
namespace Go.Proofs.Ytcopccniijkceaa
open Go Ieee

theorem more_le (b : Bool) : b.toNat ≤ 1 := by cases b <;> decide

theorem pow_le {a b : Nat} (h : a ≤ b) : 2 ^ a ≤ 2 ^ b := Nat.pow_le_pow_right (by omega) h

/-- What is kept of the digits is at most twice a binade. -/
theorem kept_le (f : Format) (neg : Bool) (mag : Nat) (place last : Int) (hm : mag ≠ 0) (hl : place + mag.log2 - f.fractionBits ≤ last) :
    Toward.even.cut neg (mag <<< (place - last).toNat) (last - place).toNat ≤ 2 * f.binade := by
  have hb : 2 * f.binade = 2 ^ (f.fractionBits + 1) := by unfold Format.binade; rw [Nat.pow_succ]; omega
  rw [hb]
  have hlt : mag < 2 ^ (mag.log2 + 1) := Nat.lt_log2_self
  by_cases h : last ≤ place
  · have e : (last - place).toNat = 0 := by omega
    have h2 : mag * 2 ^ (place - last).toNat ≠ 0 := Nat.mul_ne_zero hm (Nat.ne_of_gt (Nat.two_pow_pos _))
    rw [e, shl_eq, cut_zero _ _ _ h2]
    have h3 := Nat.lt_log2_self (n := mag * 2 ^ (place - last).toNat)
    rw [log2_shl _ _ hm] at h3
    have h4 : 2 ^ (mag.log2 + (place - last).toNat + 1) ≤ 2 ^ (f.fractionBits + 1) := pow_le (by omega)
    omega
  · have e : (place - last).toNat = 0 := by omega
    rw [e, Nat.shiftLeft_zero]
    unfold Toward.cut
    dsimp only
    rw [shl_eq, Nat.one_mul]
    have hmore := more_le (decide (2 ^ min (last - place).toNat (mag.log2 + 2) < 2 * (mag % 2 ^ min (last - place).toNat (mag.log2 + 2))) || 2 ^ min (last - place).toNat (mag.log2 + 2) == 2 * (mag % 2 ^ min (last - place).toNat (mag.log2 + 2)) && mag / 2 ^ min (last - place).toNat (mag.log2 + 2) % 2 == 1)
    have hdiv : mag / 2 ^ min (last - place).toNat (mag.log2 + 2) + 1 ≤ 2 ^ (f.fractionBits + 1) := by
      by_cases hd : (last - place).toNat ≤ mag.log2
      · rw [show min (last - place).toNat (mag.log2 + 2) = (last - place).toNat by omega]
        have h5 : mag / 2 ^ (last - place).toNat < 2 ^ (mag.log2 + 1 - (last - place).toNat) := by
          rw [Nat.div_lt_iff_lt_mul (Nat.two_pow_pos _), ← Nat.pow_add]
          rw [show mag.log2 + 1 - (last - place).toNat + (last - place).toNat = mag.log2 + 1 by omega]
          exact hlt
        have h6 : 2 ^ (mag.log2 + 1 - (last - place).toNat) ≤ 2 ^ (f.fractionBits + 1) := pow_le (by omega)
        omega
      · have h5 : 2 ^ (mag.log2 + 1) ≤ 2 ^ min (last - place).toNat (mag.log2 + 2) := pow_le (by omega)
        rw [Nat.div_eq_of_lt (by omega)]
        have : 0 < 2 ^ (f.fractionBits + 1) := Nat.two_pow_pos _
        omega
    omega

/-- Finite, and below twice two to the E in size. -/
def Small (E : Int) : Datum → Prop
  | .number _ m p => m ≠ 0 → p + m.log2 ≤ E
  | _ => False

theorem nearest_rung (f : Format) (neg : Bool) (mag : Nat) (place : Int) (hm : mag ≠ 0) :
    ∃ r, f.nearest neg mag place = f.word neg r ∧ r ≤ f.infRung ∧ r ≤ ((max (place + mag.log2 - f.fractionBits) f.leastPlace) - f.leastPlace).toNat * f.binade + 2 * f.binade := by
  unfold Format.nearest
  rw [if_neg hm]
  dsimp only
  refine ⟨_, rfl, Nat.min_le_right _ _, ?_⟩
  have := kept_le f neg mag place (max (place + mag.log2 - f.fractionBits) f.leastPlace) hm (by omega)
  refine Nat.le_trans (Nat.min_le_left _ _) ?_
  omega

theorem word_small (f : Format) (neg : Bool) (r X : Nat) (hi : r < f.infRung) (hr : r ≤ X * f.binade + 2 * f.binade) : Small (f.leastPlace + X + 1 + f.fractionBits) (f.read (f.word neg r)) := by
  have hb : 0 < f.binade := Nat.two_pow_pos _
  have := f.infRung_lt
  rw [read_word f neg (by omega)]
  split
  · rename_i h
    intro hm
    have h2 : r < 2 ^ f.fractionBits := h
    have := (Nat.log2_lt hm).2 h2
    omega
  · rename_i h
    intro hm
    have hd : r / f.binade ≤ X + 2 := by
      have h3 : r ≤ (X + 2) * f.binade := by rw [Nat.add_mul]; exact hr
      calc r / f.binade ≤ (X + 2) * f.binade / f.binade := Nat.div_le_div_right h3
        _ = X + 2 := Nat.mul_div_cancel _ hb
    have hlt : f.binade + r % f.binade < 2 ^ (f.fractionBits + 1) := by
      have := Nat.mod_lt r hb
      have e : 2 ^ (f.fractionBits + 1) = 2 * f.binade := by unfold Format.binade; rw [Nat.pow_succ]; omega
      omega
    have := (Nat.log2_lt hm).2 hlt
    omega

/-- Rounding leads at most one binade up. -/
theorem nearest_small64 (neg : Bool) (mag : Nat) (place : Int) {E : Int} (h : mag ≠ 0 → place + mag.log2 ≤ E) (h1 : -1022 ≤ E) (h2 : E ≤ 1000) : Small (E + 1) (double.read (double.nearest neg mag place)) := by
  have e1 : double.leastPlace = -1074 := by decide
  have e2 : double.binade = 2 ^ 52 := rfl
  have e4 : double.infRung = 2047 * 2 ^ 52 := rfl
  have ef : double.fractionBits = 52 := rfl
  by_cases hm : mag = 0
  · subst hm
    have : double.nearest neg 0 place = double.word neg 0 := rfl
    rw [this]
    cases neg <;> exact fun h => absurd rfl h
  · obtain ⟨r, hr, hi, hb⟩ := nearest_rung double neg mag place hm
    have hE := h hm
    rw [hr]
    rw [e1, ef] at hb
    have hX : r ≤ (E - 52 + 1074).toNat * double.binade + 2 * double.binade := Nat.le_trans hb (Nat.add_le_add_right (Nat.mul_le_mul_right _ (by omega)) _)
    rw [e2] at hb
    have hlt : r < double.infRung := by rw [e4]; omega
    have := word_small double neg r (E - 52 + 1074).toNat hlt hX
    rw [e1, ef] at this
    have e5 : (-1074 : Int) + ((E - 52 + 1074).toNat : Int) + 1 + ((52 : Nat) : Int) = E + 1 := by omega
    rwa [e5] at this

theorem fits_small {c : Nat} (h : Small 100 (double.read c)) : fits c = true := by
  unfold fits slim
  cases e : double.read c with
  | nan => rw [e] at h; cases h
  | infinity => rfl
  | number s m p =>
    rw [e] at h
    have h' : m ≠ 0 → p + m.log2 ≤ 100 := h
    show ((Datum.number s m p).isInfinity || !(single.read (single.nearest s m p)).isInfinity) = true
    have e1 : single.leastPlace = -149 := by decide
    have e2 : single.binade = 2 ^ 23 := rfl
    have e4 : single.infRung = 255 * 2 ^ 23 := rfl
    have ef : single.fractionBits = 23 := rfl
    by_cases hm : m = 0
    · subst hm
      have : single.nearest s 0 p = single.word s 0 := rfl
      rw [this]
      have h0 : (single.read (single.word s 0)).isInfinity = false := by cases s <;> decide
      rw [h0]; rfl
    · obtain ⟨r, hr, hi, hb⟩ := nearest_rung single s m p hm
      have hE := h' hm
      rw [hr]
      rw [e1, ef] at hb
      have hX : r ≤ 226 * single.binade + 2 * single.binade := Nat.le_trans hb (Nat.add_le_add_right (Nat.mul_le_mul_right _ (by omega)) _)
      rw [e2] at hb
      have hlt : r < single.infRung := by rw [e4]; omega
      have := word_small single s r _ hlt hX
      cases e6 : single.read (single.word s r) with
      | number => rfl
      | nan => rw [e6] at this; cases this
      | infinity => rw [e6] at this; cases this

/-! ### Square roots -/

theorem rootFrom_sq (n : Nat) : ∀ (todo root : Nat), root * root ≤ n → Datum.rootFrom n todo root * Datum.rootFrom n todo root ≤ n
  | 0, root, h => h
  | todo + 1, root, h => by
    unfold Datum.rootFrom
    dsimp only
    split
    · rename_i h2; exact rootFrom_sq n todo _ h2
    · exact rootFrom_sq n todo root h

theorem sqrt_small {x r : Nat} (hx : Small 128 (double.read x)) (h : double.sqrt x = some r) : Small 100 (double.read r) := by
  unfold Format.sqrt at h
  cases e : double.read x with
  | nan => rw [e] at hx; cases hx
  | infinity => rw [e] at hx; cases hx
  | number s m i =>
    rw [e] at h hx
    have hx' : m ≠ 0 → i + m.log2 ≤ 128 := hx
    obtain ⟨p1, p2, _⟩ := read_parts double (by decide) e
    have ef : double.fractionBits = 52 := rfl
    have e2 : double.binade = 2 ^ 52 := rfl
    have e1 : double.leastPlace = -1074 := by decide
    simp only [Datum.root] at h
    by_cases hm : m = 0
    · subst hm
      simp only [if_true, Option.map_some] at h
      obtain rfl := Option.some.inj h
      show Small 100 (double.read (double.nearest s 0 i))
      have : double.nearest s 0 i = double.word s 0 := rfl
      rw [this]
      cases s <;> exact fun h => absurd rfl h
    · rw [if_neg hm] at h
      cases s with
      | true => simp at h
      | false =>
        simp only [Bool.false_eq_true, if_false, Option.map_some] at h
        obtain rfl := Option.some.inj h
        rw [ef]
        have hE := hx' hm
        have hL : m.log2 ≤ 52 := by
          have : m < 2 ^ 53 := by rw [e2] at p2; omega
          have := (Nat.log2_lt hm).2 this
          omega
        generalize hmo : 2 * (52 + 2) - m.log2 + ((i - ((2 * (52 + 2) - m.log2 : Nat) : Int)) % 2).toNat = more
        have hmore : (108 - m.log2 : Nat) ≤ more ∧ more ≤ 109 - m.log2 := by omega
        generalize hn : m <<< more = n
        have hnlog : n.log2 ≤ 109 := by rw [← hn, shl_eq, log2_shl _ _ hm]; omega
        have hnlt : n < 2 ^ 110 := Nat.lt_of_lt_of_le Nat.lt_log2_self (pow_le (by omega))
        generalize hw : Datum.rootFrom n (n.log2 / 2 + 1) 0 = whole
        have hsq : whole * whole ≤ n := by rw [← hw]; exact rootFrom_sq n _ 0 (by omega)
        have hwl : whole < 2 ^ 55 := by
          apply Nat.lt_of_not_le
          intro hc
          have := Nat.mul_le_mul hc hc
          omega
        have hmag : 2 * whole + (whole * whole != n).toNat < 2 ^ 56 := by
          have := more_le (whole * whole != n)
          omega
        show Small 100 (double.read (double.nearest false (2 * whole + (whole * whole != n).toNat) ((i - more) / 2 - 1)))
        have key := nearest_small64 false (2 * whole + (whole * whole != n).toNat) ((i - more) / 2 - 1) (E := 99) (fun h0 => by
          have := (Nat.log2_lt h0).2 hmag
          omega) (by omega) (by omega)
        exact key

theorem wide_small {b : Nat} {s : Bool} {m : Nat} {p : Int} (h : single.read b = .number s m p) : Small 128 (double.read (wide b)) := by
  by_cases hm : m = 0
  · subst hm
    rw [wide_zero h]
    cases s <;> exact fun h => absurd rfl h
  · obtain ⟨h1, h2, h3, _, _, _⟩ := single_parts h
    have hL := log2_small h3 hm
    rw [(wide_num h hm).1]
    intro _
    rw [log2_shl _ _ hm]
    omega

end Go.Proofs.Ytcopccniijkceaa
