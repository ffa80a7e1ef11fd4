/- Plain facts on an angle without whole turns: signs, the nearest integer, differences of numbers of one sign, what fits just above the greatest narrow number. No condition. -/
import Derived.Test.YtejljfejajckoaaAg
namespace Go.Proofs.Ytejljfejajckoaa
open Go Go.RowKit Ieee
set_option linter.unusedVariables false
set_option linter.unusedSimpArgs false

/-- A number with this sign, at most M * 2 ^ P in size. -/
def SAbs (s : Bool) (M : Nat) (P : Int) (d : Datum) : Prop := ∃ m p, d = .number s m p ∧ LeV m p M P

theorem nearest_sign {s t : Bool} {mag m : Nat} {place p : Int} (e : double.read (double.nearest s mag place) = .number t m p) : t = s := by
  have hr : ∃ r, double.nearest s mag place = double.word s r ∧ r ≤ double.infRung := by
    unfold Format.nearest
    dsimp only
    split
    · exact ⟨0, rfl, Nat.zero_le _⟩
    · exact ⟨_, rfl, Nat.min_le_right ..⟩
  obtain ⟨r, hr, hle⟩ := hr
  rw [hr, read_word double s (Nat.lt_of_le_of_lt hle double.infRung_lt)] at e
  split at e
  · cases e; rfl
  · split at e
    · cases e; rfl
    · split at e <;> cases e

theorem nearest_sabs (s : Bool) (mag : Nat) (place : Int) {M : Nat} {P : Int} (h : LeV mag place M P) (ho : okB M P = true) : SAbs s M P (double.read (double.nearest s mag place)) := by
  obtain ⟨h1, h2, h3⟩ := okB_ok ho
  have ha := nearest_le s mag place h h1 h2 h3
  cases e : double.read (double.nearest s mag place) with
  | nan => rw [e] at ha; exact ha.elim
  | infinity => rw [e] at ha; exact ha.elim
  | number t m p =>
    rw [e] at ha
    have hs : t = s := nearest_sign e
    subst hs
    exact ⟨m, p, rfl, ha⟩

theorem div_sabs {s : Bool} {x y r M N K : Nat} {P Q R : Int} (hx : SAbs s M P (double.read x)) (hy : SAbs false N Q (double.read y)) (hge : GeB N Q (double.read y)) (h : double.div x y = some r)
    (hk : LeV (M * (2 ^ 54 + 1)) P (K * N * 2 ^ 54) (R + Q)) (ho : okB K R = true) : SAbs s K R (double.read r) := by
  obtain ⟨m, i, ex, hm⟩ := hx
  obtain ⟨n, j, ey, hn⟩ := hy
  have ha := div_abs (show AbsLe M P (double.read x) by rw [ex]; exact hm) hge h hk ho
  have hn0 : n ≠ 0 := by rw [ey] at hge; exact hge.1
  unfold Format.div at h
  rw [ex, ey] at h
  simp only [Datum.quotient, if_neg hn0, Option.map_some] at h
  obtain rfl := Option.some.inj h
  obtain ⟨h1, h2, h3⟩ := okB_ok ho
  generalize 2 * (m <<< (double.fractionBits + 2 + n.log2 - m.log2) / n) + (m <<< (double.fractionBits + 2 + n.log2 - m.log2) % n != 0).toNat = mag at ha ⊢
  generalize i - j - ((double.fractionBits + 2 + n.log2 - m.log2 : Nat) : Int) - 1 = place at ha ⊢
  have hw : double.write (.number (s ^^ false) mag place) = double.nearest s mag place := by rw [Bool.xor_false]; rfl
  rw [hw] at ha ⊢
  cases e : double.read (double.nearest s mag place) with
  | nan => rw [e] at ha; exact ha.elim
  | infinity => rw [e] at ha; exact ha.elim
  | number t m' p' =>
    rw [e] at ha
    obtain rfl := nearest_sign e
    exact ⟨m', p', rfl, ha⟩

theorem round_sabs {s : Bool} {x M : Nat} {P : Int} (hx : SAbs s M P (double.read x)) (hP : 0 ≤ P) (ho : okB M P = true) : SAbs s M P (double.read (integralF .even x)) := by
  obtain ⟨m, i, ex, hm⟩ := hx
  unfold integralF
  rw [ex]
  show SAbs s M P (double.read (double.nearest s (Toward.even.cut s (m <<< i.toNat) (-i).toNat) 0))
  refine nearest_sabs s _ 0 ?_ ho
  by_cases hi : 0 ≤ i
  · rw [show (-i).toNat = 0 by omega, shl_eq]
    by_cases hm0 : m = 0
    · subst hm0
      have : Toward.even.cut s (0 * 2 ^ i.toNat) 0 = 0 := by rw [Nat.zero_mul]; cases s <;> decide
      rw [this]
      exact LeV.zero _ _ _
    · rw [cut_zero _ _ _ (Nat.mul_ne_zero hm0 (Nat.ne_of_gt (Nat.two_pow_pos _)))]
      refine LeV.trans ?_ hm
      refine LeV.of 0 (Int.le_refl _) hi ?_
      unfold sc
      simp
  · rw [show i.toNat = 0 by omega, Nat.shiftLeft_zero]
    refine LeV.of 0 (Int.le_refl _) hP ?_
    unfold sc
    simp only [Int.sub_zero, Int.toNat_zero, Nat.pow_zero, Nat.mul_one]
    refine cut_le s m _ _ ?_
    have h3 := hm.at i (Int.le_refl _) (by omega)
    unfold sc at h3
    rw [Int.sub_self] at h3
    simp only [Int.toNat_zero, Nat.pow_zero, Nat.mul_one] at h3
    rw [Nat.mul_assoc, ← Nat.pow_add, show P.toNat + (-i).toNat = (P - i).toNat by omega]
    exact h3

theorem mul_sabs {s : Bool} {x y r M N K : Nat} {P Q R : Int} (hx : SAbs false M P (double.read x)) (hy : SAbs s N Q (double.read y)) (h : double.mul x y = some r)
    (hk : LeV (M * N) (P + Q) K R) (ho : okB K R = true) : SAbs s K R (double.read r) := by
  obtain ⟨m, i, ex, hm⟩ := hx
  obtain ⟨n, j, ey, hn⟩ := hy
  unfold Format.mul at h
  rw [ex, ey] at h
  simp only [Datum.product, Option.map_some] at h
  obtain rfl := Option.some.inj h
  have hw : double.write (.number (false ^^ s) (m * n) (i + j)) = double.nearest s (m * n) (i + j) := by rw [Bool.false_xor]; rfl
  rw [hw]
  refine nearest_sabs s _ _ (LeV.trans ?_ hk) ho
  refine LeV.of (min i P + min j Q) (by omega) (by omega) ?_
  rw [sc_mul m n i j _ _ (by omega) (by omega), sc_mul M N P Q _ _ (by omega) (by omega)]
  exact Nat.mul_le_mul (LeV.at hm _ (by omega) (by omega)) (LeV.at hn _ (by omega) (by omega))

/-- The difference of two numbers of one sign. -/
theorem sub_sabs {s : Bool} {x y M : Nat} {P : Int} (hx : SAbs s M P (double.read x)) (hy : SAbs s M P (double.read y)) (ho : okB M P = true) : ∃ r, double.sub x y = some r ∧ AbsLe M P (double.read r) := by
  obtain ⟨m, i, ex, hm⟩ := hx
  obtain ⟨n, j, ey, hn⟩ := hy
  obtain ⟨h1, h2, h3⟩ := okB_ok ho
  unfold Format.sub
  rw [ex, ey]
  refine ⟨_, rfl, ?_⟩
  refine nearest_le _ _ _ ?_ h1 h2 h3
  refine LeV.of (min (min i j) P) (by omega) (by omega) ?_
  have ha : sc m i (min (min i j) P) ≤ sc M P (min (min i j) P) := LeV.at hm _ (by omega) (by omega)
  have hb : sc n j (min (min i j) P) ≤ sc M P (min (min i j) P) := LeV.at hn _ (by omega) (by omega)
  have f1 : sc m i (min (min i j) P) = sc m i (min i j) * 2 ^ (min i j - min (min i j) P).toNat := sc_down (by omega) (by omega)
  have f2 : sc n j (min (min i j) P) = sc n j (min i j) * 2 ^ (min i j - min (min i j) P).toNat := sc_down (by omega) (by omega)
  rw [f1] at ha
  rw [f2] at hb
  have e1 : signed s m (i - min i j).toNat = if s then -((sc m i (min i j) : Nat) : Int) else ((sc m i (min i j) : Nat) : Int) := by unfold signed sc; rw [shl_eq]
  have e2 : signed (!s) n (j - min i j).toNat = if !s then -((sc n j (min i j) : Nat) : Int) else ((sc n j (min i j) : Nat) : Int) := by unfold signed sc; rw [shl_eq]
  rw [e1, e2]
  generalize sc m i (min i j) = a at ha
  generalize sc n j (min i j) = b at hb
  generalize sc M P (min (min i j) P) = q at ha hb ⊢
  unfold sc
  generalize 2 ^ (min i j - min (min i j) P).toNat = w at ha hb
  have hle : ((if s = true then -(a : Int) else (a : Int)) + (if (!s) = true then -(b : Int) else (b : Int))).natAbs ≤ max a b := by
    cases s <;> simp <;> omega
  refine Nat.le_trans (Nat.mul_le_mul_right w hle) ?_
  rcases Nat.le_total a b with hab | hab
  · rw [Nat.max_eq_right hab]; exact hb
  · rw [Nat.max_eq_left hab]; exact ha

/-- A quarter beyond is cut. -/
theorem cut_three (s : Bool) (m d : Nat) (h : 4 * m ≤ (2 ^ 26 - 3) * 2 ^ d) : Toward.even.cut s m d ≤ 2 ^ 24 - 1 := by
  unfold Toward.cut
  dsimp only
  rw [shl_eq, Nat.one_mul]
  by_cases hd : d ≤ m.log2 + 2
  · rw [show min d (m.log2 + 2) = d by omega]
    have hp : 0 < 2 ^ d := Nat.two_pow_pos _
    have hdm := Nat.div_add_mod m (2 ^ d)
    have hmore := more_le (decide (2 ^ d < 2 * (m % 2 ^ d)) || 2 ^ d == 2 * (m % 2 ^ d) && m / 2 ^ d % 2 == 1)
    generalize 2 ^ d = g at *
    generalize m / g = low at *
    generalize m % g = rest at *
    have hlow : low ≤ 2 ^ 24 - 1 := by
      apply Nat.le_of_not_lt
      intro hc
      have : g * 2 ^ 24 ≤ g * low := Nat.mul_le_mul_left g (by omega)
      omega
    by_cases hl : low ≤ 2 ^ 24 - 2
    · omega
    · have hl2 : low = 2 ^ 24 - 1 := by omega
      have e1 : decide (g < 2 * rest) = false := by
        rw [hl2] at hdm
        exact decide_eq_false (by omega)
      have e2 : (g == 2 * rest) = false := by
        rw [hl2] at hdm
        simp
        omega
      rw [e1, e2]
      simp
      omega
  · rw [show min d (m.log2 + 2) = m.log2 + 2 by omega]
    have h1 := Nat.lt_log2_self (n := m)
    have h2 : m < 2 ^ (m.log2 + 2) := Nat.lt_of_lt_of_le h1 (pow_le (by omega))
    have hmore := more_le (decide (2 ^ (m.log2 + 2) < 2 * (m % 2 ^ (m.log2 + 2))) || 2 ^ (m.log2 + 2) == 2 * (m % 2 ^ (m.log2 + 2)) && m / 2 ^ (m.log2 + 2) % 2 == 1)
    rw [Nat.div_eq_of_lt h2] at *
    omega

/-- What is below the half beyond the greatest narrow number fits. -/
theorem fits_near {c : Nat} {M : Nat} {P : Int} (h : AbsLe M P (double.read c)) (hM : LeV M P (2 ^ 26 - 3) 102) : fits c = true := by
  have h := h.trans hM
  unfold fits slim
  cases e : double.read c with
  | nan => rw [e] at h; exact h.elim
  | infinity => rfl
  | number s m p =>
    rw [e] at h
    have h : LeV m p (2 ^ 26 - 3) 102 := h
    show ((Datum.number s m p).isInfinity || !(single.read (single.nearest s m p)).isInfinity) = true
    have e1 : single.leastPlace = -149 := by decide
    have e2 : single.binade = 2 ^ 23 := rfl
    have e4 : single.infRung = 255 * 2 ^ 23 := rfl
    have ef : single.fractionBits = 23 := rfl
    by_cases hm : m = 0
    · subst hm
      have : single.nearest s 0 p = single.word s 0 := rfl
      rw [this]
      have h0 : (single.read (single.word s 0)).isInfinity = false := by cases s <;> decide
      rw [h0]; rfl
    · have hlt : ∃ r, single.nearest s m p = single.word s r ∧ r < single.infRung := by
        unfold Format.nearest
        rw [if_neg hm]
        dsimp only
        refine ⟨_, rfl, ?_⟩
        rw [e1, ef, e2, e4]
        have hkl := kept_le single s m p (max (p + m.log2 - 23) (-149)) hm (by rw [ef]; omega)
        rw [e2] at hkl
        have h127 : p + (m.log2 : Int) ≤ 127 := by
          have h3 := h.at (min p 102) (by omega) (by omega)
          unfold sc at h3
          have h4 : 2 ^ (m.log2 + (p - min p 102).toNat) ≤ m * 2 ^ (p - min p 102).toNat := by
            rw [Nat.pow_add]; exact Nat.mul_le_mul_right _ (Nat.log2_self_le hm)
          have h5 : (2 ^ 26 - 3) * 2 ^ (102 - min p 102).toNat < 2 ^ (26 + (102 - min p 102).toNat) := by
            rw [Nat.pow_add]; exact Nat.mul_lt_mul_of_pos_right (by decide) (Nat.two_pow_pos _)
          have h6 : 2 ^ (m.log2 + (p - min p 102).toNat) < 2 ^ (26 + (102 - min p 102).toNat) := by omega
          have h7 := (Nat.pow_lt_pow_iff_right (by omega : 1 < 2)).1 h6
          omega
        refine Nat.lt_of_le_of_lt (Nat.min_le_left _ _) ?_
        by_cases hl : max (p + (m.log2 : Int) - ((23 : Nat) : Int)) (-149) ≤ 103
        · have : (max (p + (m.log2 : Int) - ((23 : Nat) : Int)) (-149) - -149).toNat ≤ 252 := by omega
          have h8 := Nat.mul_le_mul_right (2 ^ 23) this
          have hkl' : Toward.even.cut s (m <<< (p - max (p + (m.log2 : Int) - ((23 : Nat) : Int)) (-149)).toNat) (max (p + (m.log2 : Int) - ((23 : Nat) : Int)) (-149) - p).toNat ≤ 2 * 2 ^ 23 := hkl
          omega
        · have hl4 : max (p + (m.log2 : Int) - ((23 : Nat) : Int)) (-149) = 104 := by omega
          rw [hl4]
          have hk : Toward.even.cut s (m <<< (p - 104).toNat) (104 - p).toNat ≤ 2 ^ 24 - 1 := by
            by_cases hp : 104 ≤ p
            · rw [show (104 - p).toNat = 0 by omega, shl_eq, cut_zero _ _ _ (Nat.mul_ne_zero hm (Nat.ne_of_gt (Nat.two_pow_pos _)))]
              have h3 := h.at 102 (by omega) (Int.le_refl _)
              unfold sc at h3
              rw [Int.sub_self, show (p - 102).toNat = (p - 104).toNat + 2 by omega, Nat.pow_add, ← Nat.mul_assoc] at h3
              simp only [Int.toNat_zero, Nat.pow_zero, Nat.mul_one] at h3
              omega
            · rw [show (p - 104).toNat = 0 by omega, Nat.shiftLeft_zero]
              have h3 := h.at (min p 102) (by omega) (by omega)
              exact cut_three s m (104 - p).toNat (by
                have h9 := h.at (min p 102) (by omega) (by omega)
                unfold sc at h9
                have hq : 4 * m ≤ (2 ^ 26 - 3) * 2 ^ (104 - p).toNat := by
                  have h10 := Nat.mul_le_mul_right (2 ^ (min p 102 - (p - 2)).toNat) h9
                  rw [Nat.mul_assoc, ← Nat.pow_add, Nat.mul_assoc, ← Nat.pow_add] at h10
                  rw [show (p - min p 102).toNat + (min p 102 - (p - 2)).toNat = 2 by omega, show (102 - min p 102).toNat + (min p 102 - (p - 2)).toNat = (104 - p).toNat by omega] at h10
                  omega
                exact hq)
          have h253 : ((104 : Int) - -149).toNat = 253 := by decide
          rw [h253]
          omega
      obtain ⟨r, hr, hlt⟩ := hlt
      rw [hr, read_word single s (Nat.lt_trans hlt single.infRung_lt)]
      split
      · rfl
      · first | rfl | (rw [if_pos hlt]; rfl)

theorem wide_sabs {b : Nat} {s : Bool} {m : Nat} {p : Int} (h : single.read b = .number s m p) : SAbs s (2 ^ 24 - 1) 104 (double.read (wide b)) := by
  obtain ⟨h1, h2, h3, _, _, _⟩ := single_parts h
  by_cases hm : m = 0
  · subst hm
    rw [wide_zero h]
    cases s
    · exact ⟨0, -1074, by decide, LeV.zero _ _ _⟩
    · exact ⟨0, -1074, by decide, LeV.zero _ _ _⟩
  · refine ⟨_, _, (wide_num h hm).1, ?_⟩
    refine LeV.trans (M := m) (P := p) ?_ ?_
    · refine LeV.of (p - ((52 - m.log2 : Nat) : Int)) (by omega) (by omega) ?_
      unfold sc
      rw [Int.sub_self]
      simp only [Int.toNat_zero, Nat.pow_zero, Nat.mul_one]
      refine Nat.mul_le_mul_left m (pow_le ?_)
      omega
    · refine LeV.of p (Int.le_refl _) h2 ?_
      unfold sc
      rw [Int.sub_self]
      simp only [Int.toNat_zero, Nat.pow_zero, Nat.mul_one]
      have : 0 < 2 ^ (104 - p).toNat := Nat.two_pow_pos _
      have h4 : 2 ^ 24 - 1 ≤ (2 ^ 24 - 1) * 2 ^ (104 - p).toNat := Nat.le_mul_of_pos_right _ this
      omega

def twoPi : Nat := 4618760256179416344
theorem twoPi_read : double.read twoPi = .number false 7074237752028440 (-50) := by decide

/-- What is taken off an angle leaves what fits. -/
theorem wrap_fits {b : Nat} {s : Bool} {m : Nat} {p : Int} (h : single.read b = .number s m p) {q n pr : Nat} (hq : double.div (wide b) twoPi = some q) (hn : integralF .even q = n) (hp : double.mul twoPi n = some pr) :
    ∃ r, double.sub (wide b) pr = some r ∧ fits r = true := by
  have hw := wide_sabs h
  have hc : SAbs false 7074237752028440 (-50) (double.read twoPi) := ⟨_, _, twoPi_read, LeV.refl _ _⟩
  have hg : GeB 7074237752028440 (-50) (double.read twoPi) := by rw [twoPi_read]; exact ⟨by decide, LeV.refl _ _⟩
  have h1 := div_sabs hw hc hg hq (K := 2867080398720012) (R := 74) (levB_ok (by decide)) (by decide)
  have h2 := round_sabs h1 (by decide) (by decide)
  rw [hn] at h2
  have h3 := mul_sabs hc h2 hp (K := 4503599358935044) (R := 76) (levB_ok (by decide)) (by decide)
  have hw2 : SAbs s 4503599358935044 76 (double.read (wide b)) := by
    obtain ⟨m', p', e, hl⟩ := hw
    exact ⟨m', p', e, hl.trans (levB_ok (by decide))⟩
  obtain ⟨r, hr, ha⟩ := sub_sabs hw2 h3 (by decide)
  exact ⟨r, hr, fits_near ha (levB_ok (by decide))⟩

/-- Each step gives a number. -/
theorem wrap_steps {b : Nat} {s : Bool} {m : Nat} {p : Int} (h : single.read b = .number s m p) : ∃ q pr, double.div (wide b) twoPi = some q ∧ double.mul twoPi (integralF .even q) = some pr := by
  have hw := wide_sabs h
  have hc : SAbs false 7074237752028440 (-50) (double.read twoPi) := ⟨_, _, twoPi_read, LeV.refl _ _⟩
  have hg : GeB 7074237752028440 (-50) (double.read twoPi) := by rw [twoPi_read]; exact ⟨by decide, LeV.refl _ _⟩
  obtain ⟨m', p', e, hl⟩ := hw
  have hq : ∃ q, double.div (wide b) twoPi = some q := by
    unfold Format.div
    rw [e, twoPi_read]
    exact ⟨_, rfl⟩
  obtain ⟨q, hq⟩ := hq
  have h1 := div_sabs ⟨m', p', e, hl⟩ hc hg hq (K := 2867080398720012) (R := 74) (levB_ok (by decide)) (by decide)
  obtain ⟨m2, p2, e2, _⟩ := round_sabs h1 (by decide) (by decide)
  refine ⟨q, ?_⟩
  have : ∃ pr, double.mul twoPi (integralF .even q) = some pr := by
    unfold Format.mul
    rw [e2, twoPi_read]
    exact ⟨_, rfl⟩
  obtain ⟨pr, hp⟩ := this
  exact ⟨pr, hq, hp⟩

/-- Not less than -Pi and greater than Pi at once. -/
theorem not_both (o : Option Nat) (h1 : (ford .f32 o (can .f32 3226013659) == some Ordering.lt) = true) (h2 : (ford .f32 o (can .f32 1078530011) == some Ordering.gt) = true) : False := by
  have r1 : single.read 3226013659 = .number true 13176795 (-22) := by decide
  have r2 : single.read 1078530011 = .number false 13176795 (-22) := by decide
  have c1 : can .f32 3226013659 = some 3226013659 := by rw [can32, r1]; rfl
  have c2 : can .f32 1078530011 = some 1078530011 := by rw [can32, r2]; rfl
  rw [c1] at h1
  rw [c2] at h2
  cases o with
  | none => cases h1
  | some b =>
    have h1 : (single.order b 3226013659 == some Ordering.lt) = true := h1
    have h2 : (single.order b 1078530011 == some Ordering.gt) = true := h2
    unfold Format.order at h1 h2
    rw [r1] at h1
    rw [r2] at h2
    cases e : single.read b with
    | nan => rw [e] at h1; cases h1
    | infinity s => rw [e] at h1 h2; cases s <;> first | (cases h1; done) | cases h2
    | number s m p =>
      rw [e] at h1 h2
      simp only [Datum.order] at h1 h2
      have l1 := Int.compare_eq_lt.1 (Option.some.inj (eq_of_beq h1))
      have l2 := Int.compare_eq_gt.1 (Option.some.inj (eq_of_beq h2))
      have p1 : signed true 13176795 (-22 - min p (-22)).toNat = -((13176795 * 2 ^ (-22 - min p (-22)).toNat : Nat) : Int) := by unfold signed; rw [shl_eq]; rfl
      have p2 : signed false 13176795 (-22 - min p (-22)).toNat = ((13176795 * 2 ^ (-22 - min p (-22)).toNat : Nat) : Int) := by unfold signed; rw [shl_eq]; rfl
      rw [p1] at l1
      rw [p2] at l2
      omega
end Go.Proofs.Ytejljfejajckoaa
