/- Plain facts on sizes of wide numbers: rounding keeps bounds that the format has; sums, products, quotients; the rest above the greatest integer below; what fits a narrow number. No condition. -/
import Derived.Test.YtcopccniijkceaaFe
namespace Go.Proofs.Ytcopccniijkceaa
open Go Ieee
set_option linter.unusedVariables false

def sc (m : Nat) (p c : Int) : Nat := m * 2 ^ (p - c).toNat

theorem sc_down {m : Nat} {p c c' : Int} (h : c ≤ p) (h' : c' ≤ c) : sc m p c' = sc m p c * 2 ^ (c - c').toNat := by
  unfold sc
  rw [Nat.mul_assoc, ← Nat.pow_add]
  congr 2
  omega

/-- m * 2 ^ p is at most M * 2 ^ P. -/
def LeV (m : Nat) (p : Int) (M : Nat) (P : Int) : Prop := sc m p (min p P) ≤ sc M P (min p P)

theorem LeV.at {m M : Nat} {p P : Int} (h : LeV m p M P) (c : Int) (h1 : c ≤ p) (h2 : c ≤ P) : sc m p c ≤ sc M P c := by
  rw [sc_down (m := m) (c := min p P) (by omega) (by omega), sc_down (m := M) (c := min p P) (by omega) (by omega)]
  exact Nat.mul_le_mul_right _ h

theorem LeV.of {m M : Nat} {p P : Int} (c : Int) (h1 : c ≤ p) (h2 : c ≤ P) (h : sc m p c ≤ sc M P c) : LeV m p M P := by
  rw [sc_down (m := m) (c := min p P) (by omega) (by omega), sc_down (m := M) (c := min p P) (by omega) (by omega)] at h
  exact Nat.le_of_mul_le_mul_right h (Nat.two_pow_pos _)

theorem LeV.trans {m M N : Nat} {p P Q : Int} (h : LeV m p M P) (k : LeV M P N Q) : LeV m p N Q :=
  LeV.of (min p (min P Q)) (by omega) (by omega) (Nat.le_trans (h.at _ (by omega) (by omega)) (k.at _ (by omega) (by omega)))

theorem LeV.refl (m : Nat) (p : Int) : LeV m p m p := Nat.le_refl _
theorem LeV.zero (p : Int) (M : Nat) (P : Int) : LeV 0 p M P := by unfold LeV sc; rw [Nat.zero_mul]; exact Nat.zero_le _

/-- Finite, and at most M * 2 ^ P in size. -/
def AbsLe (M : Nat) (P : Int) : Datum → Prop
  | .number _ m p => LeV m p M P
  | _ => False

theorem AbsLe.trans {M N : Nat} {P Q : Int} {d : Datum} (h : AbsLe M P d) (k : LeV M P N Q) : AbsLe N Q d := by
  cases d with
  | number s m p => exact LeV.trans h k
  | infinity => exact h
  | nan => exact h

/-- The word of what is kept stands for it. -/
theorem word_val (f : Format) (neg : Bool) (X kept : Nat) (hk : kept ≤ 2 * f.binade) (hk0 : kept < f.binade → X = 0) (hi : X * f.binade + kept < f.infRung) :
    ∃ m p, f.read (f.word neg (X * f.binade + kept)) = .number neg m p ∧ LeV m p kept (f.leastPlace + X) ∧ LeV kept (f.leastPlace + X) m p := by
  have hb : 0 < f.binade := Nat.two_pow_pos _
  have hlt := f.infRung_lt
  rw [read_word f neg (by omega)]
  by_cases h1 : kept < f.binade
  · obtain rfl := hk0 h1
    rw [if_pos (by omega)]
    refine ⟨_, _, rfl, ?_, ?_⟩
    · rw [Nat.zero_mul, Nat.zero_add]; simpa using LeV.refl kept f.leastPlace
    · rw [Nat.zero_mul, Nat.zero_add]; simpa using LeV.refl kept f.leastPlace
  · have h1' : f.binade ≤ kept := by omega
    have hge : f.binade ≤ X * f.binade + kept := by omega
    rw [if_neg (by omega), if_pos hi]
    by_cases h2 : kept < 2 * f.binade
    · have e1 : (X * f.binade + kept) / f.binade = X + 1 := by
        rw [Nat.mul_comm, Nat.mul_add_div hb]
        congr 1
        exact Nat.div_eq_of_lt_le (by omega) (by omega)
      have e2 : (X * f.binade + kept) % f.binade = kept - f.binade := by
        rw [Nat.mul_comm, Nat.mul_add_mod, Nat.mod_eq_sub_mod h1', Nat.mod_eq_of_lt (by omega)]
      rw [e1, e2]
      have e3 : f.binade + (kept - f.binade) = kept := by omega
      have e4 : ((X + 1 - 1 : Nat) : Int) = X := by omega
      rw [e3, e4]
      exact ⟨_, _, rfl, LeV.refl _ _, LeV.refl _ _⟩
    · have hkk : kept = 2 * f.binade := by omega
      have e1 : (X * f.binade + kept) / f.binade = X + 2 := by
        rw [hkk, ← Nat.add_mul]; exact Nat.mul_div_cancel _ hb
      have e2 : (X * f.binade + kept) % f.binade = 0 := by
        rw [hkk, ← Nat.add_mul]; exact Nat.mul_mod_left _ _
      rw [e1, e2]
      have e4 : ((X + 2 - 1 : Nat) : Int) = X + 1 := by omega
      rw [e4, Nat.add_zero]
      have key : sc f.binade (f.leastPlace + (X + 1)) (f.leastPlace + X) = sc kept (f.leastPlace + X) (f.leastPlace + X) := by
        unfold sc
        rw [hkk, show (f.leastPlace + ((X : Int) + 1) - (f.leastPlace + X)).toNat = 1 by omega, Int.sub_self]
        simp; omega
      exact ⟨_, _, rfl, LeV.of (f.leastPlace + X) (by omega) (by omega) (Nat.le_of_eq key), LeV.of (f.leastPlace + X) (by omega) (by omega) (Nat.le_of_eq key.symm)⟩

/-- What is kept, by the place where the digits end. -/
theorem cut_le (neg : Bool) (mag d N : Nat) (h : mag ≤ N * 2 ^ d) : Toward.even.cut neg mag d ≤ N := by
  unfold Toward.cut
  dsimp only
  rw [shl_eq, Nat.one_mul]
  by_cases hd : d ≤ mag.log2 + 2
  · rw [show min d (mag.log2 + 2) = d by omega]
    have hp : 0 < 2 ^ d := Nat.two_pow_pos _
    have hdm := Nat.div_add_mod mag (2 ^ d)
    have hmore := more_le (decide (2 ^ d < 2 * (mag % 2 ^ d)) || 2 ^ d == 2 * (mag % 2 ^ d) && mag / 2 ^ d % 2 == 1)
    by_cases hr : mag % 2 ^ d = 0
    · have e : (decide (2 ^ d < 2 * (mag % 2 ^ d)) || 2 ^ d == 2 * (mag % 2 ^ d) && mag / 2 ^ d % 2 == 1) = false := by
        rw [hr]
        simp
      rw [e]
      have h3 : 2 ^ d * (mag / 2 ^ d) ≤ 2 ^ d * N := by rw [Nat.mul_comm (2 ^ d) N]; omega
      have := Nat.le_of_mul_le_mul_left h3 hp
      simpa using this
    · have h3 : 2 ^ d * (mag / 2 ^ d) < 2 ^ d * N := by rw [Nat.mul_comm (2 ^ d) N]; omega
      have := Nat.lt_of_mul_lt_mul_left h3
      omega
  · rw [show min d (mag.log2 + 2) = mag.log2 + 2 by omega]
    have h1 := Nat.lt_log2_self (n := mag)
    have e0 : 2 ^ (mag.log2 + 2) = 2 * 2 ^ (mag.log2 + 1) := by rw [Nat.pow_succ 2 (mag.log2 + 1)]; omega
    have h2 : mag < 2 ^ (mag.log2 + 2) := by omega
    rw [Nat.div_eq_of_lt h2, Nat.mod_eq_of_lt h2]
    have e1 : decide (2 ^ (mag.log2 + 2) < 2 * mag) = false := by rw [e0]; exact decide_eq_false (by omega)
    have e2 : (2 ^ (mag.log2 + 2) == 2 * mag) = false := by rw [e0]; simp; omega
    rw [e1, e2]
    simp

theorem log2_le_of_mul {a : Nat} {k : Nat} (h0 : a ≠ 0) (h : 2 ^ k ≤ a) : k ≤ a.log2 := by
  apply Nat.le_of_not_lt
  intro hc
  have := (Nat.log2_lt h0).1 hc
  omega

/-- What rounding to nearest leaves, as what is kept and where. -/
theorem nearest_kept (neg : Bool) (mag : Nat) (place : Int) (hm : mag ≠ 0) :
    ∃ kept : Nat, ∃ last : Int, last = max (place + mag.log2 - 52) (-1074) ∧ kept ≤ 2 * 2 ^ 52 ∧ (kept < 2 ^ 52 → last = -1074) ∧
      double.nearest neg mag place = double.word neg (min ((last + 1074).toNat * double.binade + kept) double.infRung) ∧
      (last ≤ place → kept = mag * 2 ^ (place - last).toNat) ∧ (place < last → kept = Toward.even.cut neg mag (last - place).toNat) := by
  have e1 : double.leastPlace = -1074 := by decide
  have ef : double.fractionBits = 52 := rfl
  have hkl := kept_le double neg mag place (max (place + mag.log2 - 52) (-1074)) hm (by rw [ef]; omega)
  have A : ∀ last : Int, last = max (place + mag.log2 - 52) (-1074) → last ≤ place → Toward.even.cut neg (mag <<< (place - last).toNat) (last - place).toNat = mag * 2 ^ (place - last).toNat := by
    intro last _ hle
    have : (last - place).toNat = 0 := by omega
    rw [this, shl_eq, cut_zero _ _ _ (Nat.mul_ne_zero hm (Nat.ne_of_gt (Nat.two_pow_pos _)))]
  have B : ∀ last : Int, last = max (place + mag.log2 - 52) (-1074) → place < last → Toward.even.cut neg (mag <<< (place - last).toNat) (last - place).toNat = Toward.even.cut neg mag (last - place).toNat := by
    intro last _ hlt
    have : (place - last).toNat = 0 := by omega
    rw [this, Nat.shiftLeft_zero]
  refine ⟨Toward.even.cut neg (mag <<< (place - max (place + mag.log2 - 52) (-1074)).toNat) (max (place + mag.log2 - 52) (-1074) - place).toNat, _, rfl, hkl, ?_, ?_, A _ rfl, B _ rfl⟩
  · intro hlt
    apply Classical.byContradiction
    intro hne
    have hl : max (place + (mag.log2 : Int) - 52) (-1074) = place + mag.log2 - 52 := by omega
    have h52 : 2 ^ 52 ≤ Toward.even.cut neg (mag <<< (place - max (place + mag.log2 - 52) (-1074)).toNat) (max (place + mag.log2 - 52) (-1074) - place).toNat := by
      rw [hl]
      have hself := Nat.log2_self_le hm
      by_cases hc : place + (mag.log2 : Int) - 52 ≤ place
      · rw [A _ hl.symm hc]
        calc 2 ^ 52 = 2 ^ mag.log2 * 2 ^ (place - (place + (mag.log2 : Int) - 52)).toNat := by rw [← Nat.pow_add]; congr 1; omega
          _ ≤ mag * 2 ^ (place - (place + (mag.log2 : Int) - 52)).toNat := Nat.mul_le_mul_right _ hself
      · rw [B _ hl.symm (by omega)]
        unfold Toward.cut
        dsimp only
        rw [shl_eq, Nat.one_mul, show min (place + (mag.log2 : Int) - 52 - place).toNat (mag.log2 + 2) = mag.log2 - 52 by omega]
        have : 2 ^ 52 ≤ mag / 2 ^ (mag.log2 - 52) := by
          rw [Nat.le_div_iff_mul_le (Nat.two_pow_pos _), ← Nat.pow_add, show 52 + (mag.log2 - 52) = mag.log2 by omega]
          exact hself
        omega
    omega
  · unfold Format.nearest
    rw [if_neg hm]
    dsimp only
    rw [e1, ef]
    rw [show (max (place + (mag.log2 : Int) - ((52 : Nat) : Int)) (-1074) - -1074).toNat = (max (place + (mag.log2 : Int) - 52) (-1074) + 1074).toNat by omega]
    rfl

/-- Rounding keeps a bound that the format has. -/
theorem nearest_le (neg : Bool) (mag : Nat) (place : Int) {M : Nat} {P : Int} (h : LeV mag place M P) (hM : M < 2 ^ 53) (hP : -1074 ≤ P) (hS : P + M.log2 < 1000) :
    AbsLe M P (double.read (double.nearest neg mag place)) := by
  have e1 : double.leastPlace = -1074 := by decide
  have e2 : double.binade = 2 ^ 52 := rfl
  have e4 : double.infRung = 2047 * 2 ^ 52 := rfl
  by_cases hm : mag = 0
  · subst hm
    have : double.nearest neg 0 place = double.word neg 0 := rfl
    rw [this]
    cases neg <;> exact LeV.zero _ _ _
  · obtain ⟨kept, last, hlast, hk, hk0, hn, ha, hb⟩ := nearest_kept neg mag place hm
    have hM0 : M ≠ 0 := by
      intro e
      subst e
      have := h
      unfold LeV sc at this
      rw [Nat.zero_mul] at this
      have h3 : 0 < mag * 2 ^ (place - min place P).toNat := Nat.mul_pos (Nat.pos_of_ne_zero hm) (Nat.two_pow_pos _)
      omega
    have hA : LeV kept last M P := by
      by_cases hc : last ≤ place
      · refine LeV.trans (LeV.of last (Int.le_refl _) hc ?_) h
        rw [ha hc]
        unfold sc
        rw [Int.sub_self]
        simp
      · have hc : place < last := by omega
        have hPl : last ≤ P := by
          apply Classical.byContradiction
          intro hno
          have hl2 : last = place + mag.log2 - 52 := by omega
          have h3 := h.at (min place P) (by omega) (by omega)
          unfold sc at h3
          have h4 : 2 ^ (mag.log2 + (place - min place P).toNat) ≤ mag * 2 ^ (place - min place P).toNat := by
            rw [Nat.pow_add]; exact Nat.mul_le_mul_right _ (Nat.log2_self_le hm)
          have h5 : M * 2 ^ (P - min place P).toNat < 2 ^ (53 + (P - min place P).toNat) := by
            rw [Nat.pow_add]; exact Nat.mul_lt_mul_of_pos_right hM (Nat.two_pow_pos _)
          have h6 : 2 ^ (mag.log2 + (place - min place P).toNat) < 2 ^ (53 + (P - min place P).toNat) := by omega
          have h7 := (Nat.pow_lt_pow_iff_right (by omega : 1 < 2)).1 h6
          omega
        have h3 := h.at place (Int.le_refl _) (by omega)
        unfold sc at h3
        rw [Int.sub_self] at h3
        simp only [Int.toNat_zero, Nat.pow_zero, Nat.mul_one] at h3
        refine LeV.of last (Int.le_refl _) hPl ?_
        unfold sc
        rw [Int.sub_self, hb hc]
        simp only [Int.toNat_zero, Nat.pow_zero, Nat.mul_one]
        refine cut_le neg mag _ _ ?_
        rw [Nat.mul_assoc, ← Nat.pow_add, show (P - last).toNat + (last - place).toNat = (P - place).toNat by omega]
        exact h3
    have hX : kept < 2 ^ 52 ∨ last ≤ 947 := by
      by_cases hc : kept < 2 ^ 52
      · exact Or.inl hc
      · refine Or.inr ?_
        have h3 := hA.at (min last P) (by omega) (by omega)
        unfold sc at h3
        have h4 : 2 ^ (52 + (last - min last P).toNat) ≤ kept * 2 ^ (last - min last P).toNat := by
          rw [Nat.pow_add]; exact Nat.mul_le_mul_right _ (by omega)
        have h5 : M * 2 ^ (P - min last P).toNat < 2 ^ (M.log2 + 1 + (P - min last P).toNat) := by
          rw [Nat.pow_add]; exact Nat.mul_lt_mul_of_pos_right Nat.lt_log2_self (Nat.two_pow_pos _)
        have h6 : 2 ^ (52 + (last - min last P).toNat) < 2 ^ (M.log2 + 1 + (P - min last P).toNat) := by omega
        have h7 := (Nat.pow_lt_pow_iff_right (by omega : 1 < 2)).1 h6
        omega
    have hlt : (last + 1074).toNat * double.binade + kept < double.infRung := by
      rw [e2, e4]
      rcases hX with hc | hc
      · rw [hk0 hc]; omega
      · have : (last + 1074).toNat * 2 ^ 52 ≤ 2021 * 2 ^ 52 := Nat.mul_le_mul_right _ (by omega)
        omega
    rw [hn, Nat.min_eq_left (Nat.le_of_lt hlt)]
    obtain ⟨m, p, hr, h1, h2⟩ := word_val double neg (last + 1074).toNat kept (by rw [e2]; exact hk) (fun hc => by rw [hk0 (by rw [e2] at hc; exact hc)]; rfl) hlt
    rw [hr]
    have e5 : double.leastPlace + ((last + 1074).toNat : Int) = last := by rw [e1]; omega
    rw [e5] at h1
    exact LeV.trans h1 hA

end Go.Proofs.Ytcopccniijkceaa
