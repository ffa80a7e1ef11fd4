/- Plain facts on angles' arguments: sizes made wide, zeros, order, the quotient of the lesser and the greater one. No condition. -/
import Derived.Test.YtcopccniijkceaaYb
import Derived.Test.YtcopccniijkceaaYf
namespace Go.Proofs.Ytcopccniijkceaa
open Go Go.RowKit Ieee
set_option linter.unusedVariables false
set_option linter.unusedSimpArgs false

theorem fin_parts {y : Option Nat} (h : finB y = true) (hy : ∃ k, y = can .f32 k) : ∃ b s m p, y = some b ∧ single.read b = .number s m p := by
  obtain ⟨k, rfl⟩ := hy
  cases hn : (FloatKind.f32.decode k).isNaN with
  | true => rw [can_nan hn] at h; cases h
  | false =>
    rw [can_num hn] at h ⊢
    have hn' : (single.read k).isNaN = false := hn
    cases e : single.read k with
    | nan => rw [e] at hn'; cases hn'
    | infinity s => simp [finB, e, Datum.isInfinity] at h
    | number s m p => exact ⟨k, s, m, p, rfl, e⟩

theorem read_abs {c : Nat} {s : Bool} {m : Nat} {p : Int} (e : double.read c = .number s m p) : double.read (c % 2 ^ 63) = .number false m p := by
  have e3 : double.signWeight = 2 ^ 63 := rfl
  have hlt : c % 2 ^ 63 < 2 ^ 63 := Nat.mod_lt _ (by decide)
  unfold Format.read at e ⊢
  dsimp only at e ⊢
  rw [e3] at e ⊢
  rw [Nat.mod_mod, Nat.div_eq_of_lt hlt]
  split at e
  · rename_i h; rw [if_pos h]; cases e; rfl
  · rename_i h
    rw [if_neg h]
    split at e
    · rename_i h2; rw [if_pos h2]; cases e; rfl
    · split at e <;> cases e

theorem abs_wide {b : Nat} {s : Bool} {m : Nat} {p : Int} (h : single.read b = .number s m p) : ∃ m' p', double.read (wide b % 2 ^ 63) = .number false m' p' ∧ (m' = 0 ↔ m = 0) := by
  by_cases hm : m = 0
  · subst hm
    rw [wide_zero h]
    cases s
    · exact ⟨0, -1074, by decide, by simp⟩
    · exact ⟨0, -1074, by decide, by simp⟩
  · have hw := (wide_num h hm).1
    refine ⟨_, _, read_abs hw, ?_⟩
    constructor
    · intro e
      rcases Nat.mul_eq_zero.1 e with e | e
      · exact absurd e hm
      · exact absurd e (Nat.ne_of_gt (Nat.two_pow_pos _))
    · intro e; exact absurd e hm

theorem eq_zero32 {b : Nat} {s : Bool} {m : Nat} {p : Int} (h : single.read b = .number s m p) : (ford .f32 (some b) (can .f32 0) == some Ordering.eq) = decide (m = 0) := by
  have h0 : single.read 0 = .number false 0 (-149) := by decide
  have hc : can .f32 0 = some 0 := by rw [can32, h0]; rfl
  rw [hc]
  show (single.order b 0 == some Ordering.eq) = _
  unfold Format.order
  rw [h, h0]
  simp only [Datum.order]
  have hz : signed false 0 (-149 - min p (-149)).toNat = 0 := by simp [signed]
  rw [hz]
  by_cases hm : m = 0
  · subst hm
    have : signed s 0 (p - min p (-149)).toNat = 0 := by cases s <;> simp [signed]
    rw [this]
    simp
  · have hne : signed s m (p - min p (-149)).toNat ≠ 0 := by
      intro e
      have := congrArg Int.natAbs e
      rw [signed_abs] at this
      rcases Nat.mul_eq_zero.1 this with e | e
      · exact hm e
      · exact absurd e (Nat.ne_of_gt (Nat.two_pow_pos _))
    have hc : compare (signed s m (p - min p (-149)).toNat) 0 ≠ .eq := fun e => hne (Int.compare_eq_eq.1 e)
    have hd : decide (m = 0) = false := decide_eq_false hm
    rw [hd]
    cases hcc : compare (signed s m (p - min p (-149)).toNat) 0 <;> first | rfl | exact absurd hcc hc

theorem eq_zero64 {b : Nat} {s : Bool} {m : Nat} {p : Int} (h : double.read b = .number s m p) : (ford .f64 (some b) (can .f64 0) == some Ordering.eq) = decide (m = 0) := by
  have h0 : double.read 0 = .number false 0 (-1074) := by decide
  have hc : can .f64 0 = some 0 := can_num (by show (double.read 0).isNaN = false; rw [h0]; rfl)
  rw [hc]
  show (double.order b 0 == some Ordering.eq) = _
  unfold Format.order
  rw [h, h0]
  simp only [Datum.order]
  have hz : signed false 0 (-1074 - min p (-1074)).toNat = 0 := by simp [signed]
  rw [hz]
  by_cases hm : m = 0
  · subst hm
    have : signed s 0 (p - min p (-1074)).toNat = 0 := by cases s <;> simp [signed]
    rw [this]
    simp
  · have hne : signed s m (p - min p (-1074)).toNat ≠ 0 := by
      intro e
      have := congrArg Int.natAbs e
      rw [signed_abs] at this
      rcases Nat.mul_eq_zero.1 this with e | e
      · exact hm e
      · exact absurd e (Nat.ne_of_gt (Nat.two_pow_pos _))
    have hc : compare (signed s m (p - min p (-1074)).toNat) 0 ≠ .eq := fun e => hne (Int.compare_eq_eq.1 e)
    have hd : decide (m = 0) = false := decide_eq_false hm
    rw [hd]
    cases hcc : compare (signed s m (p - min p (-1074)).toNat) 0 <;> first | rfl | exact absurd hcc hc

instance (m M : Nat) (p P : Int) : Decidable (LeV m p M P) := by unfold LeV; infer_instance

theorem gt64 {c d m n : Nat} {p q : Int} (hc : double.read c = .number false m p) (hd : double.read d = .number false n q) : (ford .f64 (some c) (some d) == some Ordering.gt) = !decide (LeV m p n q) := by
  show (double.order c d == some Ordering.gt) = _
  unfold Format.order
  rw [hc, hd]
  simp only [Datum.order]
  have e1 : signed false m (p - min p q).toNat = ((sc m p (min p q) : Nat) : Int) := by unfold signed sc; rw [shl_eq]; rfl
  have e2 : signed false n (q - min p q).toNat = ((sc n q (min p q) : Nat) : Int) := by unfold signed sc; rw [shl_eq]; rfl
  rw [e1, e2]
  unfold LeV
  by_cases h : sc m p (min p q) ≤ sc n q (min p q)
  · rw [decide_eq_true h]
    have : compare ((sc m p (min p q) : Nat) : Int) ((sc n q (min p q) : Nat) : Int) ≠ .gt := fun e => by
      have := Int.compare_eq_gt.1 e
      omega
    cases hcc : compare ((sc m p (min p q) : Nat) : Int) ((sc n q (min p q) : Nat) : Int) <;> first | rfl | exact absurd hcc this
  · rw [decide_eq_false h]
    have : compare ((sc m p (min p q) : Nat) : Int) ((sc n q (min p q) : Nat) : Int) = .gt := Int.compare_eq_gt.2 (by omega)
    rw [this]; rfl

/-- The quotient of the lesser and the greater one. -/
theorem quo_le {c d m n r : Nat} {p q : Int} (hc : double.read c = .number false m p) (hd : double.read d = .number false n q) (h : LeV m p n q) (hr : double.div c d = some r) : AbsLe 2 0 (double.read r) := by
  by_cases hn : n = 0
  · subst hn
    have hm : m = 0 := by
      unfold LeV sc at h
      rw [Nat.zero_mul] at h
      rcases Nat.mul_eq_zero.1 (Nat.le_zero.1 h) with e | e
      · exact e
      · exact absurd e (Nat.ne_of_gt (Nat.two_pow_pos _))
    subst hm
    unfold Format.div at hr
    rw [hc, hd] at hr
    simp [Datum.quotient] at hr
  · refine div_abs (M := n) (P := q) (N := n) (Q := q) (by rw [hc]; exact h) (by rw [hd]; exact ⟨hn, LeV.refl _ _⟩) hr ?_ (by decide)
    rw [show (0 : Int) + q = q by omega]
    refine LeV.of q (Int.le_refl _) (Int.le_refl _) ?_
    unfold sc
    rw [Int.sub_self]
    simp only [Int.toNat_zero, Nat.pow_zero, Nat.mul_one]
    rw [Nat.mul_comm 2 n, Nat.mul_assoc]
    exact Nat.mul_le_mul_left n (by decide)

/-- A node that lies among the nodes stands for what it says. -/
theorem node_of {Φ : Syms} {T : List Df} {ins : List NV} (hw : wfT (withIds T) [] = true) {d : Df} (h : memD d T = true) : envI Φ T ins d.id = d.sem Φ (envI Φ T ins) := envI_ok hw ins d (memD_mem h)

theorem input_of {Φ : Syms} {T : List Df} {ins : List NV} (n : Nat) (h : n < 1000) : envI Φ T ins n = ins.getD n (.i 0) := envT_ins Φ (insOf ins) T n h
end Go.Proofs.Ytcopccniijkceaa
