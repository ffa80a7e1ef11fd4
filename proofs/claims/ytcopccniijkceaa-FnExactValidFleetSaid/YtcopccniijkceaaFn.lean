/- Plain facts on sizes of wide numbers: bounds of sums, products, quotients; the rest above the greatest integer below; what fits a narrow number. No condition. -/
import Derived.Test.YtcopccniijkceaaFm
namespace Go.Proofs.Ytcopccniijkceaa
open Go Ieee
set_option linter.unusedVariables false
set_option linter.unusedSimpArgs false

/-- A bound that rounding keeps. -/
def okB (M : Nat) (P : Int) : Bool := Nat.blt M (2 ^ 53) && (decide (-1074 ≤ P) && decide (P + M.log2 < 1000))
theorem okB_ok {M : Nat} {P : Int} (h : okB M P = true) : M < 2 ^ 53 ∧ -1074 ≤ P ∧ P + M.log2 < 1000 := by
  simp only [okB, Bool.and_eq_true, decide_eq_true_eq] at h
  exact ⟨by simpa using h.1, h.2.1, h.2.2⟩

theorem signed_abs (s : Bool) (m k : Nat) : (signed s m k).natAbs = m * 2 ^ k := by
  unfold signed
  rw [shl_eq]
  split
  · rw [Int.natAbs_neg]; exact Int.natAbs_natCast _
  · exact Int.natAbs_natCast _

theorem opp_abs {M : Nat} {P : Int} {d : Datum} (h : AbsLe M P d) : AbsLe M P d.opposite := by cases d <;> exact h

/-- A sum of two bounds. -/
theorem sum_abs {x y d : Datum} {M N : Nat} {P Q : Int} (hx : AbsLe M P x) (hy : AbsLe N Q y) (h : x.sum y = some d) :
    ∃ s m p, d = .number s m p ∧ LeV m p (sc M P (min P Q) + sc N Q (min P Q)) (min P Q) := by
  cases x with
  | nan => exact hx.elim
  | infinity => exact hx.elim
  | number s m i =>
  cases y with
  | nan => exact hy.elim
  | infinity => exact hy.elim
  | number t n j =>
    simp only [Datum.sum, Option.some.injEq] at h
    subst h
    refine ⟨_, _, _, rfl, ?_⟩
    have hc1 : min (min i j) (min P Q) ≤ min i j := by omega
    have hc2 : min (min i j) (min P Q) ≤ min P Q := by omega
    refine LeV.of (min (min i j) (min P Q)) hc1 hc2 ?_
    have ha : sc m i (min (min i j) (min P Q)) ≤ sc M P (min (min i j) (min P Q)) := LeV.at hx _ (by omega) (by omega)
    have hb : sc n j (min (min i j) (min P Q)) ≤ sc N Q (min (min i j) (min P Q)) := LeV.at hy _ (by omega) (by omega)
    have hs : (signed s m (i - min i j).toNat + signed t n (j - min i j).toNat).natAbs ≤ sc m i (min i j) + sc n j (min i j) := by
      have := Int.natAbs_add_le (signed s m (i - min i j).toNat) (signed t n (j - min i j).toNat)
      rw [signed_abs, signed_abs] at this
      exact this
    have e1 : sc m i (min (min i j) (min P Q)) = sc m i (min i j) * 2 ^ (min i j - min (min i j) (min P Q)).toNat := sc_down (by omega) hc1
    have e2 : sc n j (min (min i j) (min P Q)) = sc n j (min i j) * 2 ^ (min i j - min (min i j) (min P Q)).toNat := sc_down (by omega) hc1
    have e3 : sc M P (min (min i j) (min P Q)) = sc M P (min P Q) * 2 ^ (min P Q - min (min i j) (min P Q)).toNat := sc_down (by omega) hc2
    have e4 : sc N Q (min (min i j) (min P Q)) = sc N Q (min P Q) * 2 ^ (min P Q - min (min i j) (min P Q)).toNat := sc_down (by omega) hc2
    calc sc (signed s m (i - min i j).toNat + signed t n (j - min i j).toNat).natAbs (min i j) (min (min i j) (min P Q))
        ≤ (sc m i (min i j) + sc n j (min i j)) * 2 ^ (min i j - min (min i j) (min P Q)).toNat := Nat.mul_le_mul_right _ hs
      _ = sc m i (min (min i j) (min P Q)) + sc n j (min (min i j) (min P Q)) := by rw [e1, e2, Nat.add_mul]
      _ ≤ sc M P (min (min i j) (min P Q)) + sc N Q (min (min i j) (min P Q)) := Nat.add_le_add ha hb
      _ = (sc M P (min P Q) + sc N Q (min P Q)) * 2 ^ (min P Q - min (min i j) (min P Q)).toNat := by rw [e3, e4, Nat.add_mul]

theorem add_abs {x y r M N K : Nat} {P Q R : Int} (hx : AbsLe M P (double.read x)) (hy : AbsLe N Q (double.read y)) (h : double.add x y = some r)
    (hk : LeV (sc M P (min P Q) + sc N Q (min P Q)) (min P Q) K R) (ho : okB K R = true) : AbsLe K R (double.read r) := by
  unfold Format.add at h
  cases hd : (double.read x).sum (double.read y) with
  | none => rw [hd] at h; cases h
  | some d =>
    rw [hd] at h
    obtain ⟨s, m, p, rfl, hm⟩ := sum_abs hx hy hd
    obtain rfl := Option.some.inj h
    obtain ⟨h1, h2, h3⟩ := okB_ok ho
    exact nearest_le s m p (hm.trans hk) h1 h2 h3

theorem sub_abs {x y r M N K : Nat} {P Q R : Int} (hx : AbsLe M P (double.read x)) (hy : AbsLe N Q (double.read y)) (h : double.sub x y = some r)
    (hk : LeV (sc M P (min P Q) + sc N Q (min P Q)) (min P Q) K R) (ho : okB K R = true) : AbsLe K R (double.read r) := by
  unfold Format.sub at h
  cases hd : (double.read x).sum (double.read y).opposite with
  | none => rw [hd] at h; cases h
  | some d =>
    rw [hd] at h
    obtain ⟨s, m, p, rfl, hm⟩ := sum_abs hx (opp_abs hy) hd
    obtain rfl := Option.some.inj h
    obtain ⟨h1, h2, h3⟩ := okB_ok ho
    exact nearest_le s m p (hm.trans hk) h1 h2 h3

theorem sc_mul (m n : Nat) (i j c1 c2 : Int) (h1 : c1 ≤ i) (h2 : c2 ≤ j) : sc (m * n) (i + j) (c1 + c2) = sc m i c1 * sc n j c2 := by
  unfold sc
  have e : (i + j - (c1 + c2)).toNat = (i - c1).toNat + (j - c2).toNat := by omega
  rw [e, Nat.pow_add]
  simp only [Nat.mul_assoc, Nat.mul_comm, Nat.mul_left_comm]

theorem mul_abs {x y r M N K : Nat} {P Q R : Int} (hx : AbsLe M P (double.read x)) (hy : AbsLe N Q (double.read y)) (h : double.mul x y = some r)
    (hk : LeV (M * N) (P + Q) K R) (ho : okB K R = true) : AbsLe K R (double.read r) := by
  unfold Format.mul at h
  cases ex : double.read x with
  | nan => rw [ex] at hx; exact hx.elim
  | infinity => rw [ex] at hx; exact hx.elim
  | number s m i =>
  cases ey : double.read y with
  | nan => rw [ey] at hy; exact hy.elim
  | infinity => rw [ey] at hy; exact hy.elim
  | number t n j =>
    rw [ex] at hx h
    rw [ey] at hy h
    obtain rfl := Option.some.inj h
    obtain ⟨h1, h2, h3⟩ := okB_ok ho
    refine nearest_le _ (m * n) (i + j) (LeV.trans ?_ hk) h1 h2 h3
    refine LeV.of (min i P + min j Q) (by omega) (by omega) ?_
    rw [sc_mul m n i j _ _ (by omega) (by omega), sc_mul M N P Q _ _ (by omega) (by omega)]
    exact Nat.mul_le_mul (LeV.at hx _ (by omega) (by omega)) (LeV.at hy _ (by omega) (by omega))

/-- Not zero, and at least M * 2 ^ P in size; or infinite. -/
def GeB (M : Nat) (P : Int) : Datum → Prop
  | .number _ m p => m ≠ 0 ∧ LeV M P m p
  | .infinity _ => True
  | _ => False

theorem div_key {mag n D : Nat} (B : Nat) (h : mag * n ≤ 2 * D + n) (h2 : n * B ≤ 2 * D) : mag * n * B ≤ 2 * D * (B + 1) := by
  have b1 : mag * n * B ≤ (2 * D + n) * B := Nat.mul_le_mul_right _ h
  rw [Nat.add_mul] at b1
  rw [Nat.mul_add, Nat.mul_one]
  omega
theorem div_two (n : Nat) : n * 2 ^ 54 = 2 * (n * 2 ^ 53) := by
  rw [show 2 ^ 54 = 2 ^ 53 * 2 from rfl, ← Nat.mul_assoc, Nat.mul_comm]
theorem div_rows (m more B : Nat) : 2 * (m * 2 ^ more) * B = m * B * 2 ^ (more + 1) := by
  rw [Nat.pow_succ 2 more]
  simp only [Nat.mul_assoc, Nat.mul_comm, Nat.mul_left_comm]

theorem div_abs {x y r M N K : Nat} {P Q R : Int} (hx : AbsLe M P (double.read x)) (hy : GeB N Q (double.read y)) (h : double.div x y = some r)
    (hk : LeV (M * (2 ^ 54 + 1)) P (K * N * 2 ^ 54) (R + Q)) (ho : okB K R = true) : AbsLe K R (double.read r) := by
  unfold Format.div at h
  obtain ⟨h1, h2, h3⟩ := okB_ok ho
  cases ex : double.read x with
  | nan => rw [ex] at hx; exact hx.elim
  | infinity => rw [ex] at hx; exact hx.elim
  | number s m i =>
  cases ey : double.read y with
  | nan => rw [ey] at hy; exact hy.elim
  | infinity t =>
    rw [ex, ey] at h
    obtain rfl := Option.some.inj h
    have : double.write (.number (s ^^ t) 0 0) = double.word (s ^^ t) 0 := rfl
    rw [this]
    cases (s ^^ t) <;> exact LeV.zero _ _ _
  | number t n j =>
    obtain ⟨p1, p2, _⟩ := read_parts double (by decide) ex
    obtain ⟨q1, q2, _⟩ := read_parts double (by decide) ey
    have e2 : double.binade = 2 ^ 52 := rfl
    have ef : double.fractionBits = 52 := rfl
    rw [ex] at hx h
    rw [ey] at hy h
    obtain ⟨hn, hy⟩ := hy
    have hx : LeV m i M P := hx
    simp only [Datum.quotient, if_neg hn, Option.map_some] at h
    obtain rfl := Option.some.inj h
    rw [ef]
    by_cases hm : m = 0
    · subst hm
      have e0 : 2 * (0 <<< (52 + 2 + n.log2 - Nat.log2 0) / n) + (0 <<< (52 + 2 + n.log2 - Nat.log2 0) % n != 0).toNat = 0 := by simp
      rw [e0]
      have : double.write (.number (s ^^ t) 0 (i - j - ((52 + 2 + n.log2 - Nat.log2 0 : Nat) : Int) - 1)) = double.word (s ^^ t) 0 := rfl
      rw [this]
      cases (s ^^ t) <;> exact LeV.zero _ _ _
    · have hL : m.log2 ≤ 52 := by
        have : m < 2 ^ 53 := by rw [e2] at p2; omega
        have := (Nat.log2_lt hm).2 this
        omega
      refine nearest_le _ _ _ ?_ h1 h2 h3
      generalize hmo : 52 + 2 + n.log2 - m.log2 = more
      have hmore : more + m.log2 = 54 + n.log2 := by omega
      rw [shl_eq]
      generalize hD : m * 2 ^ more = D
      have hDge : 2 ^ (54 + n.log2) ≤ D := by
        rw [← hD, ← hmore, Nat.add_comm more, Nat.pow_add]
        exact Nat.mul_le_mul_right _ (Nat.log2_self_le hm)
      have hnl : n < 2 ^ (n.log2 + 1) := Nat.lt_log2_self
      have hn53 : n * 2 ^ 53 ≤ D := by
        refine Nat.le_trans ?_ hDge
        have : n * 2 ^ 53 ≤ 2 ^ (n.log2 + 1) * 2 ^ 53 := Nat.mul_le_mul_right _ (by omega)
        rw [← Nat.pow_add, show n.log2 + 1 + 53 = 54 + n.log2 by omega] at this
        exact this
      have hbit := more_le (D % n != 0)
      have hdm := Nat.div_add_mod D n
      generalize hmag : 2 * (D / n) + (D % n != 0).toNat = mag
      have hmn : mag * n ≤ 2 * D + n := by
        rw [← hmag, Nat.add_mul]
        have a1 : 2 * (D / n) * n ≤ 2 * D := by rw [Nat.mul_assoc]; have := Nat.div_mul_le_self D n; omega
        have a2 : (D % n != 0).toNat * n ≤ 1 * n := Nat.mul_le_mul_right _ hbit
        omega
      have key : mag * n * 2 ^ 54 ≤ 2 * D * (2 ^ 54 + 1) := div_key (2 ^ 54) hmn (Nat.le_trans (Nat.le_of_eq (div_two n)) (Nat.mul_le_mul_left 2 hn53))
      -- all at one base
      have hmk : LeV (mag * n * 2 ^ 54) (i - j - (more : Int) - 1 + j) (m * (2 ^ 54 + 1)) i := by
        refine LeV.of (i - j - (more : Int) - 1 + j) (Int.le_refl _) (by omega) ?_
        unfold sc
        rw [Int.sub_self, show (i - (i - j - (more : Int) - 1 + j)).toNat = more + 1 by omega]
        simp only [Int.toNat_zero, Nat.pow_zero, Nat.mul_one]
        refine Nat.le_trans key (Nat.le_of_eq ?_)
        rw [← hD]
        exact div_rows m more (2 ^ 54 + 1)
      have hmM : LeV (m * (2 ^ 54 + 1)) i (M * (2 ^ 54 + 1)) P := by
        refine LeV.of (min i P) (by omega) (by omega) ?_
        have := Nat.mul_le_mul_right (2 ^ 54 + 1) (LeV.at hx (min i P) (by omega) (by omega))
        unfold sc at this ⊢
        rw [Nat.mul_right_comm, Nat.mul_right_comm M]
        exact this
      have hall := (hmk.trans hmM).trans hk
      have hNn : LeV (K * N * 2 ^ 54) (R + Q) (K * n * 2 ^ 54) (R + j) := by
        refine LeV.of (R + min Q j) (by omega) (by omega) ?_
        have := Nat.mul_le_mul_left (K * 2 ^ 54) (LeV.at hy (min Q j) (by omega) (by omega))
        unfold sc at this ⊢
        rw [show (R + Q - (R + min Q j)).toNat = (Q - min Q j).toNat by omega, show (R + j - (R + min Q j)).toNat = (j - min Q j).toNat by omega]
        have c1 : K * N * 2 ^ 54 * 2 ^ (Q - min Q j).toNat = K * 2 ^ 54 * (N * 2 ^ (Q - min Q j).toNat) := by simp only [Nat.mul_assoc, Nat.mul_comm, Nat.mul_left_comm]
        have c2 : K * n * 2 ^ 54 * 2 ^ (j - min Q j).toNat = K * 2 ^ 54 * (n * 2 ^ (j - min Q j).toNat) := by simp only [Nat.mul_assoc, Nat.mul_comm, Nat.mul_left_comm]
        rw [c1, c2]
        exact this
      have hfin := hall.trans hNn
      generalize hpl : i - j - (more : Int) - 1 = place at hfin ⊢
      refine LeV.of (min place R) (by omega) (by omega) ?_
      have h5 := hfin.at (min place R + j) (by omega) (by omega)
      unfold sc at h5 ⊢
      rw [show (place + j - (min place R + j)).toNat = (place - min place R).toNat by omega, show (R + j - (min place R + j)).toNat = (R - min place R).toNat by omega] at h5
      have c1 : mag * n * 2 ^ 54 * 2 ^ (place - min place R).toNat = mag * 2 ^ (place - min place R).toNat * (n * 2 ^ 54) := by simp only [Nat.mul_assoc, Nat.mul_comm, Nat.mul_left_comm]
      have c2 : K * n * 2 ^ 54 * 2 ^ (R - min place R).toNat = K * 2 ^ (R - min place R).toNat * (n * 2 ^ 54) := by simp only [Nat.mul_assoc, Nat.mul_comm, Nat.mul_left_comm]
      rw [c1, c2] at h5
      exact Nat.le_of_mul_le_mul_right h5 (Nat.mul_pos (Nat.pos_of_ne_zero hn) (Nat.two_pow_pos _))

/-! ### Not less than 0 -/

def NonNeg : Datum → Prop
  | .number s m _ => s = true → m = 0
  | .infinity s => s = false
  | _ => False

theorem word_nonneg (f : Format) {rung : Nat} (h : rung ≤ f.infRung) : NonNeg (f.read (f.word false rung)) := by
  rw [read_word f false (Nat.lt_of_le_of_lt h f.infRung_lt)]
  split
  · exact fun h => by cases h
  · split
    · exact fun h => by cases h
    · split
      · rfl
      · rename_i h1 h2 h3
        exact absurd (Nat.le_antisymm h (Nat.le_of_not_lt h2)) h3

theorem nearest_nonneg (f : Format) (mag : Nat) (place : Int) : NonNeg (f.read (f.nearest false mag place)) := by
  unfold Format.nearest
  dsimp only
  split
  · exact word_nonneg f (Nat.zero_le _)
  · exact word_nonneg f (Nat.min_le_right ..)

theorem sqrt_nonneg {x r : Nat} (h : double.sqrt x = some r) : NonNeg (double.read r) := by
  unfold Format.sqrt at h
  cases e : double.read x with
  | nan => rw [e] at h; cases h
  | infinity s =>
    rw [e] at h
    cases s with
    | true => cases h
    | false =>
      obtain rfl := Option.some.inj h
      have : double.read (double.write (.infinity false)) = .infinity false := by decide
      rw [this]
      rfl
  | number s m i =>
    rw [e] at h
    simp only [Datum.root] at h
    by_cases hm : m = 0
    · subst hm
      simp only [if_true, Option.map_some] at h
      obtain rfl := Option.some.inj h
      have : double.write (.number s 0 i) = double.word s 0 := rfl
      rw [this]
      cases s <;> exact fun _ => rfl
    · rw [if_neg hm] at h
      cases s with
      | true => simp at h
      | false =>
        simp only [Bool.false_eq_true, if_false, Option.map_some] at h
        obtain rfl := Option.some.inj h
        exact nearest_nonneg _ _ _

/-- Rounding keeps being at least 1. -/
theorem nearest_one {mag : Nat} {place : Int} (h : LeV 1 0 mag place) : GeB 1 0 (double.read (double.nearest false mag place)) := by
  have e1 : double.leastPlace = -1074 := by decide
  have e2 : double.binade = 2 ^ 52 := rfl
  have hm : mag ≠ 0 := by
    intro e
    subst e
    unfold LeV sc at h
    rw [Nat.zero_mul] at h
    have : 0 < 1 * 2 ^ (0 - min 0 place).toNat := Nat.mul_pos (by omega) (Nat.two_pow_pos _)
    omega
  have h0 : 0 ≤ place + (mag.log2 : Int) := by
    have h3 := h.at (min 0 place) (by omega) (by omega)
    unfold sc at h3
    have h4 : mag * 2 ^ (place - min 0 place).toNat < 2 ^ (mag.log2 + 1 + (place - min 0 place).toNat) := by
      rw [Nat.pow_add]; exact Nat.mul_lt_mul_of_pos_right Nat.lt_log2_self (Nat.two_pow_pos _)
    have h5 : 2 ^ (0 - min 0 place).toNat < 2 ^ (mag.log2 + 1 + (place - min 0 place).toNat) := by omega
    have h6 := (Nat.pow_lt_pow_iff_right (by omega : 1 < 2)).1 h5
    omega
  obtain ⟨kept, last, hl, hk, hk0, hn, _, _⟩ := nearest_kept false mag place hm
  have hl2 : last = place + mag.log2 - 52 := by omega
  have hk52 : 2 ^ 52 ≤ kept := by
    apply Nat.le_of_not_lt
    intro hc
    have := hk0 hc
    omega
  rw [hn]
  by_cases hlt : (last + 1074).toNat * double.binade + kept < double.infRung
  · rw [Nat.min_eq_left (Nat.le_of_lt hlt)]
    obtain ⟨m, p, hr, h1, h2⟩ := word_val double false (last + 1074).toNat kept (by rw [e2]; exact hk) (fun hc => by rw [e2] at hc; omega) hlt
    rw [hr]
    have e5 : double.leastPlace + ((last + 1074).toNat : Int) = last := by rw [e1]; omega
    rw [e5] at h2
    have hone : LeV 1 0 kept last := by
      refine LeV.of (min 0 last) (by omega) (by omega) ?_
      unfold sc
      rw [Nat.one_mul]
      calc 2 ^ (0 - min 0 last).toNat ≤ 2 ^ (52 + (last - min 0 last).toNat) := pow_le (by omega)
        _ = 2 ^ 52 * 2 ^ (last - min 0 last).toNat := Nat.pow_add _ _ _
        _ ≤ kept * 2 ^ (last - min 0 last).toNat := Nat.mul_le_mul_right _ hk52
    have h3 := hone.trans h2
    refine ⟨?_, h3⟩
    intro e
    subst e
    unfold LeV sc at h3
    rw [Nat.zero_mul] at h3
    have : 0 < 1 * 2 ^ (0 - min 0 p).toNat := Nat.mul_pos (by omega) (Nat.two_pow_pos _)
    omega
  · rw [Nat.min_eq_right (by omega)]
    have : double.read (double.word false double.infRung) = .infinity false := by decide
    rw [this]
    trivial

def oneF64 : Nat := 4607182418800017408

/-- One and something not less than 0 is at least 1. -/
theorem one_add {y r : Nat} (hy : NonNeg (double.read y)) (h : double.add oneF64 y = some r) : GeB 1 0 (double.read r) := by
  unfold Format.add at h
  have e1 : double.read oneF64 = .number false (2 ^ 52) (-52) := by decide
  rw [e1] at h
  cases ey : double.read y with
  | nan => rw [ey] at hy; exact hy.elim
  | infinity t =>
    rw [ey] at h hy
    obtain rfl : t = false := hy
    obtain rfl := Option.some.inj h
    have : double.read (double.write (.infinity false)) = .infinity false := by decide
    rw [this]
    trivial
  | number t n j =>
    rw [ey] at h hy
    have hy : t = true → n = 0 := hy
    simp only [Datum.sum, Option.map_some] at h
    obtain rfl := Option.some.inj h
    have hb : signed t n (j - min (-52) j).toNat = ((n * 2 ^ (j - min (-52) j).toNat : Nat) : Int) := by
      unfold signed
      rw [shl_eq]
      split
      · rename_i ht
        have := hy ht
        subst this
        simp
      · rfl
    have ha : signed false (2 ^ 52) (-52 - min (-52) j).toNat = ((2 ^ 52 * 2 ^ (-52 - min (-52) j).toNat : Nat) : Int) := by
      unfold signed
      rw [shl_eq]
      simp
    rw [ha, hb]
    have hpos : 0 < 2 ^ 52 * 2 ^ (-52 - min (-52) j).toNat := Nat.mul_pos (by decide) (Nat.two_pow_pos _)
    generalize hA : 2 ^ 52 * 2 ^ (-52 - min (-52) j).toNat = A at hpos
    generalize hB : n * 2 ^ (j - min (-52) j).toNat = B
    have hne : ((A : Int) + (B : Int)) ≠ 0 := by omega
    have hlt : ¬ ((A : Int) + (B : Int) < 0) := by omega
    rw [if_neg hne]
    have hd : decide ((A : Int) + (B : Int) < 0) = false := decide_eq_false hlt
    rw [hd]
    refine nearest_one ?_
    have hab : ((A : Int) + (B : Int)).natAbs = A + B := by omega
    rw [hab]
    refine LeV.of (min (-52) j) (by omega) (by omega) ?_
    unfold sc
    rw [Int.sub_self]
    simp only [Int.toNat_zero, Nat.pow_zero, Nat.mul_one, Nat.one_mul]
    have : 2 ^ (0 - min (-52) j).toNat = A := by
      rw [← hA, ← Nat.pow_add]
      congr 1
      omega
    omega

/-! ### The greatest integer below -/

def floorF (b : Nat) : Nat := double.write ((double.read b).integral .down)

theorem cut_down_near (s : Bool) (m d : Nat) : m ≤ (Toward.down.cut s m d + 1) * 2 ^ d ∧ Toward.down.cut s m d * 2 ^ d ≤ m + 2 ^ d ∧ (d ≠ 0 → Toward.down.cut s m d ≤ m / 2 + 1) := by
  unfold Toward.cut
  dsimp only
  rw [shl_eq, Nat.one_mul]
  have hmore := more_le (s && m % 2 ^ min d (m.log2 + 2) != 0)
  by_cases hd : d ≤ m.log2 + 2
  · rw [show min d (m.log2 + 2) = d by omega] at hmore ⊢
    have hp : 0 < 2 ^ d := Nat.two_pow_pos _
    have hdm := Nat.div_add_mod m (2 ^ d)
    have hmod := Nat.mod_lt m hp
    have hc : 2 ^ d * (m / 2 ^ d) = m / 2 ^ d * 2 ^ d := Nat.mul_comm _ _
    refine ⟨?_, ?_, ?_⟩
    · have : (m / 2 ^ d + 1) * 2 ^ d ≤ (m / 2 ^ d + (s && m % 2 ^ d != 0).toNat + 1) * 2 ^ d := Nat.mul_le_mul_right _ (by omega)
      rw [Nat.add_mul, Nat.one_mul] at this
      omega
    · have : (m / 2 ^ d + (s && m % 2 ^ d != 0).toNat) * 2 ^ d ≤ (m / 2 ^ d + 1) * 2 ^ d := Nat.mul_le_mul_right _ (by omega)
      rw [Nat.add_mul _ 1, Nat.one_mul] at this
      omega
    · intro h0
      have h2 : 2 ^ 1 ≤ 2 ^ d := pow_le (by omega)
      have : m / 2 ^ d ≤ m / 2 := Nat.div_le_div_left (by omega) (by omega)
      omega
  · rw [show min d (m.log2 + 2) = m.log2 + 2 by omega] at hmore ⊢
    have h1 := Nat.lt_log2_self (n := m)
    have h2 : m < 2 ^ (m.log2 + 2) := Nat.lt_of_lt_of_le h1 (pow_le (by omega))
    have h3 : 2 ^ (m.log2 + 2) ≤ 2 ^ d := pow_le (by omega)
    rw [Nat.div_eq_of_lt h2, Nat.zero_add] at *
    refine ⟨?_, ?_, fun _ => by omega⟩
    · have : 1 * 2 ^ d ≤ ((s && m % 2 ^ (m.log2 + 2) != 0).toNat + 1) * 2 ^ d := Nat.mul_le_mul_right _ (by omega)
      omega
    · have : (s && m % 2 ^ (m.log2 + 2) != 0).toNat * 2 ^ d ≤ 1 * 2 ^ d := Nat.mul_le_mul_right _ (by omega)
      omega

/-- A whole number that the format has is written as it is. -/
theorem nearest_whole (s : Bool) (k : Nat) (hk : k ≤ 2 ^ 52) : ∃ m p, double.read (double.nearest s k 0) = .number s m p ∧ LeV m p k 0 ∧ LeV k 0 m p := by
  have e1 : double.leastPlace = -1074 := by decide
  have e2 : double.binade = 2 ^ 52 := rfl
  have e4 : double.infRung = 2047 * 2 ^ 52 := rfl
  by_cases h0 : k = 0
  · subst h0
    have : double.nearest s 0 0 = double.word s 0 := rfl
    rw [this]
    cases s
    · exact ⟨0, -1074, by decide, LeV.zero _ _ _, LeV.zero _ _ _⟩
    · exact ⟨0, -1074, by decide, LeV.zero _ _ _, LeV.zero _ _ _⟩
  · obtain ⟨kept, last, hl, hkk, hk0, hn, ha, _⟩ := nearest_kept s k 0 h0
    have hlog : k.log2 ≤ 52 := by
      have : k < 2 ^ 53 := by omega
      have := (Nat.log2_lt h0).2 this
      omega
    have hl0 : last ≤ 0 := by omega
    have hke := ha hl0
    have hlt : (last + 1074).toNat * double.binade + kept < double.infRung := by
      rw [e2, e4]
      have : (last + 1074).toNat * 2 ^ 52 ≤ 1074 * 2 ^ 52 := Nat.mul_le_mul_right _ (by omega)
      omega
    rw [hn, Nat.min_eq_left (Nat.le_of_lt hlt)]
    obtain ⟨m, p, hr, h1, h2⟩ := word_val double s (last + 1074).toNat kept (by rw [e2]; exact hkk) (fun hc => by rw [hk0 (by rw [e2] at hc; exact hc)]; rfl) hlt
    have e5 : double.leastPlace + ((last + 1074).toNat : Int) = last := by rw [e1]; omega
    rw [e5] at h1 h2
    have hsc : sc kept last last = sc k 0 last := by
      unfold sc
      rw [Int.sub_self, hke]
      simp
    exact ⟨m, p, hr, h1.trans (LeV.of last (Int.le_refl _) hl0 (Nat.le_of_eq hsc)), LeV.trans (LeV.of last hl0 (Int.le_refl _) (Nat.le_of_eq hsc.symm)) h2⟩

theorem diff_abs (s : Bool) (a b c : Nat) (h1 : a ≤ b + c) (h2 : b ≤ a + c) : ((if s then -(a : Int) else (a : Int)) + (if !s then -(b : Int) else (b : Int))).natAbs ≤ c := by
  cases s <;> simp <;> omega

theorem floor_near {x r : Nat} (h : double.sub x (floorF x) = some r) : AbsLe 1 0 (double.read r) := by
  have e1 : double.leastPlace = -1074 := by decide
  have e2 : double.binade = 2 ^ 52 := rfl
  unfold Format.sub at h
  unfold floorF at h
  cases ex : double.read x with
  | nan => rw [ex] at h; cases h
  | infinity s =>
    rw [ex] at h
    cases s <;> cases h
  | number s m p =>
    obtain ⟨p1, p2, p3, p4, p5, p6⟩ := read_parts double (by decide) ex
    rw [ex] at h
    rw [e1] at p1 p3 p4
    rw [e2] at p2 p3 p4
    have hi : (Datum.number s m p).integral .down = .number s (Toward.down.cut s (m <<< p.toNat) (-p).toNat) 0 := rfl
    rw [hi] at h
    have hw : double.write (.number s (Toward.down.cut s (m <<< p.toNat) (-p).toNat) 0) = double.nearest s (Toward.down.cut s (m <<< p.toNat) (-p).toNat) 0 := rfl
    rw [hw] at h
    -- what the whole number stands for
    have main : ∃ m' p', double.read (double.nearest s (Toward.down.cut s (m <<< p.toNat) (-p).toNat) 0) = .number s m' p' ∧
        (∀ c, c ≤ p → c ≤ p' → c ≤ 0 → sc m p c ≤ sc m' p' c + sc 1 0 c ∧ sc m' p' c ≤ sc m p c + sc 1 0 c) := by
      by_cases hp : 0 ≤ p
      · by_cases hm : m = 0
        · exfalso
          subst hm
          have := p3 (by omega)
          omega
        · have hcut : Toward.down.cut s (m <<< p.toNat) (-p).toNat = m * 2 ^ p.toNat := by
            rw [show (-p).toNat = 0 by omega, shl_eq, cut_zero _ _ _ (Nat.mul_ne_zero hm (Nat.ne_of_gt (Nat.two_pow_pos _)))]
          rw [hcut]
          have hm52 : 2 ^ 52 ≤ m := by
            apply Nat.le_of_not_lt
            intro hc
            have := p3 hc
            omega
          have hlog : m.log2 = 52 := by
            have a1 := log2_le_of_mul hm hm52
            have a2 := (Nat.log2_lt hm).2 (show m < 2 ^ 53 by omega)
            omega
          have hex := nearest_exact double s m p hm (by rw [hlog]; exact Nat.le_refl 52) (by rw [e1]; omega) (Or.inl (by rw [hlog]; rfl)) (by rw [e1, e2]; omega) p.toNat
          rw [show p - ((p.toNat : Nat) : Int) = 0 by omega] at hex
          rw [hex]
          have hxw : double.word s ((p - double.leastPlace).toNat * double.binade + m) = double.word s (x % double.signWeight) := by
            rw [e1, e2, p4]
          rw [hxw]
          have hread : double.read (double.word s (x % double.signWeight)) = .number s m p := by
            have hsw : 0 < double.signWeight := Nat.two_pow_pos _
            have hr1 := read_word double s (rung := x % double.signWeight) (Nat.mod_lt _ hsw)
            rw [hr1, ← ex]
            subst p6
            rfl
          exact ⟨m, p, hread, fun c h1 h2 h3 => ⟨Nat.le_add_right _ _, Nat.le_add_right _ _⟩⟩
      · have hp' : p.toNat = 0 := by omega
        rw [hp', Nat.shiftLeft_zero]
        obtain ⟨c1, c2, c3⟩ := cut_down_near s m (-p).toNat
        generalize Toward.down.cut s m (-p).toNat = k at c1 c2 c3
        obtain ⟨m', p', hr, h1, h2⟩ := nearest_whole s k (by have := c3 (by omega); omega)
        refine ⟨m', p', hr, fun c hc1 hc2 hc3 => ?_⟩
        have a1 := h1.at c hc2 hc3
        have a2 := h2.at c hc3 hc2
        have b1 : sc m p c ≤ sc k 0 c + sc 1 0 c := by
          have : sc m p c ≤ (k + 1) * 2 ^ (-p).toNat * 2 ^ (p - c).toNat := Nat.mul_le_mul_right _ c1
          rw [Nat.mul_assoc, ← Nat.pow_add, show (-p).toNat + (p - c).toNat = (0 - c).toNat by omega, Nat.add_mul] at this
          exact this
        have b2 : sc k 0 c ≤ sc m p c + sc 1 0 c := by
          have : k * 2 ^ (-p).toNat * 2 ^ (p - c).toNat ≤ (m + 2 ^ (-p).toNat) * 2 ^ (p - c).toNat := Nat.mul_le_mul_right _ c2
          rw [Nat.mul_assoc, ← Nat.pow_add, show (-p).toNat + (p - c).toNat = (0 - c).toNat by omega, Nat.add_mul, ← Nat.pow_add, show (-p).toNat + (p - c).toNat = (0 - c).toNat by omega] at this
          unfold sc
          omega
        omega
    obtain ⟨m', p', hr, hd⟩ := main
    rw [hr] at h
    simp only [Datum.opposite, Datum.sum, Option.map_some] at h
    obtain rfl := Option.some.inj h
    refine nearest_le _ _ _ ?_ (by decide) (by decide) (by decide)
    obtain ⟨d1, d2⟩ := hd (min (min p p') 0) (by omega) (by omega) (by omega)
    refine LeV.of (min (min p p') 0) (by omega) (by omega) ?_
    have es : ∀ (t : Bool) (n : Nat) (q : Int), signed t n (q - min p p').toNat = if t then -((sc n q (min p p') : Nat) : Int) else ((sc n q (min p p') : Nat) : Int) := by
      intro t n q
      unfold signed sc
      rw [shl_eq]
    rw [es, es]
    have hpow : 0 < 2 ^ (min p p' - min (min p p') 0).toNat := Nat.two_pow_pos _
    have f1 : sc m p (min (min p p') 0) = sc m p (min p p') * 2 ^ (min p p' - min (min p p') 0).toNat := sc_down (by omega) (by omega)
    have f2 : sc m' p' (min (min p p') 0) = sc m' p' (min p p') * 2 ^ (min p p' - min (min p p') 0).toNat := sc_down (by omega) (by omega)
    rw [f1, f2] at d1 d2
    generalize sc m p (min p p') = a at d1 d2
    generalize sc m' p' (min p p') = b at d1 d2
    generalize sc 1 0 (min (min p p') 0) = q at d1 d2 ⊢
    unfold sc
    generalize 2 ^ (min p p' - min (min p p') 0).toNat = w at d1 d2 hpow
    -- |±a ∓ b| * w ≤ q
    rcases Nat.le_total a b with hab | hab
    · have hz : ((if s = true then -(a : Int) else (a : Int)) + (if (!s) = true then -(b : Int) else (b : Int))).natAbs = b - a := by
        cases s <;> simp <;> omega
      rw [hz, Nat.sub_mul]
      omega
    · have hz : ((if s = true then -(a : Int) else (a : Int)) + (if (!s) = true then -(b : Int) else (b : Int))).natAbs = a - b := by
        cases s <;> simp <;> omega
      rw [hz, Nat.sub_mul]
      omega

/-- What is at most 2 ^ 126 fits. -/
theorem fits_abs {c : Nat} {M : Nat} {P : Int} (h : AbsLe M P (double.read c)) (hM : P + M.log2 ≤ 100) : fits c = true := by
  refine fits_small ?_
  cases e : double.read c with
  | nan => rw [e] at h; exact h.elim
  | infinity => rw [e] at h; exact h.elim
  | number s m p =>
    rw [e] at h
    have h : LeV m p M P := h
    intro hm
    have h3 := h.at (min p P) (by omega) (by omega)
    unfold sc at h3
    have h4 : 2 ^ (m.log2 + (p - min p P).toNat) ≤ m * 2 ^ (p - min p P).toNat := by
      rw [Nat.pow_add]; exact Nat.mul_le_mul_right _ (Nat.log2_self_le hm)
    have h5 : M * 2 ^ (P - min p P).toNat < 2 ^ (M.log2 + 1 + (P - min p P).toNat) := by
      rw [Nat.pow_add]; exact Nat.mul_lt_mul_of_pos_right Nat.lt_log2_self (Nat.two_pow_pos _)
    have h6 : 2 ^ (m.log2 + (p - min p P).toNat) < 2 ^ (M.log2 + 1 + (P - min p P).toNat) := by omega
    have h7 := (Nat.pow_lt_pow_iff_right (by omega : 1 < 2)).1 h6
    omega

end Go.Proofs.Ytcopccniijkceaa
