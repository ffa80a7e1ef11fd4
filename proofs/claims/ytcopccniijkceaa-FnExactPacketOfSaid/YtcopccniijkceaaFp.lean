/- Plain facts on IEEE words and on what the model gives for float operations: 'can' forgets which NaN a NaN is; each operation on words is a function of what 'can' leaves. No condition. -/
import Derived.Laws.FloatArith
import Derived.Laws.FloatBits
namespace Go.Proofs.Ytcopccniijkceaa
open Go

/-! ### Words and what they stand for -/

theorem sw_pos (f : Ieee.Format) : 0 < f.signWeight := Nat.two_pow_pos _

theorem read_word (f : Ieee.Format) (neg : Bool) {rung : Nat} (h : rung < f.signWeight) :
    f.read (f.word neg rung) = (if rung < f.binade then .number neg rung f.leastPlace
      else if rung < f.infRung then .number neg (f.binade + rung % f.binade) (f.leastPlace + (rung / f.binade - 1 : Nat))
      else if rung = f.infRung then .infinity neg else .nan neg (rung - f.infRung)) := by
  have hp := sw_pos f
  unfold Ieee.Format.read Ieee.Format.word
  cases neg
  · simp [Nat.div_eq_of_lt h, Nat.mod_eq_of_lt h]
  · have h1 : (f.signWeight + rung) / f.signWeight = 1 := by
      rw [Nat.add_comm, Nat.add_div_right _ hp, Nat.div_eq_of_lt h]
    have h2 : (f.signWeight + rung) % f.signWeight = rung := by
      rw [Nat.add_mod_left, Nat.mod_eq_of_lt h]
    simp [h1, h2]

theorem word_le_not_nan (f : Ieee.Format) (neg : Bool) {rung : Nat} (h : rung ≤ f.infRung) : (f.read (f.word neg rung)).isNaN = false := by
  have := f.infRung_lt
  rw [read_word f neg (by omega)]
  split
  · rfl
  · split
    · rfl
    · split
      · rfl
      · omega

theorem binade_le_inf (f : Ieee.Format) (h : 1 ≤ f.exponentBits) : f.binade ≤ f.infRung := by
  unfold Ieee.Format.infRung
  have : 2 ≤ 2 ^ f.exponentBits := by
    calc 2 = 2 ^ 1 := rfl
      _ ≤ 2 ^ f.exponentBits := Nat.pow_le_pow_right (by omega) h
  exact Nat.le_mul_of_pos_left _ (by omega)

theorem nearest_not_nan (f : Ieee.Format) (neg : Bool) (mag : Nat) (place : Int) : (f.read (f.nearest neg mag place)).isNaN = false := by
  unfold Ieee.Format.nearest
  dsimp only
  split
  · exact word_le_not_nan f neg (Nat.zero_le _)
  · exact word_le_not_nan f neg (Nat.min_le_right ..)

theorem write_not_nan (f : Ieee.Format) {d : Ieee.Datum} (h : d.isNaN = false) : (f.read (f.write d)).isNaN = false := by
  cases d with
  | number neg mag place => exact nearest_not_nan f neg mag place
  | infinity neg => exact word_le_not_nan f neg (Nat.le_refl _)
  | nan => cases h

theorem sum_not_nan {x y d : Ieee.Datum} (h : x.sum y = some d) : d.isNaN = false := by
  cases x <;> cases y <;> simp [Ieee.Datum.sum] at h
  all_goals first | (subst h; rfl) | (obtain ⟨_, rfl⟩ := h; rfl)

theorem product_not_nan {x y d : Ieee.Datum} (h : x.product y = some d) : d.isNaN = false := by
  cases x <;> cases y <;> simp [Ieee.Datum.product] at h
  all_goals first | (subst h; rfl) | (obtain ⟨_, rfl⟩ := h; rfl)

theorem quotient_not_nan {n : Nat} {x y d : Ieee.Datum} (h : Ieee.Datum.quotient n x y = some d) : d.isNaN = false := by
  cases x <;> cases y <;> simp [Ieee.Datum.quotient] at h
  all_goals first | (subst h; rfl) | skip
  split at h
  · split at h
    · cases h
    · cases h; rfl
  · cases h; rfl

theorem root_not_nan {n : Nat} {x d : Ieee.Datum} (h : Ieee.Datum.root n x = some d) : d.isNaN = false := by
  cases x <;> simp only [Ieee.Datum.root] at h
  · split at h
    · cases h; rfl
    · split at h
      · cases h
      · cases h; rfl
  · split at h
    · cases h
    · cases h; rfl
  · cases h

/-! ### 'can': a word, but for which NaN it is -/

def can (k : FloatKind) (b : Nat) : Option Nat := if (k.decode b).isNaN then none else some b

theorem can_nan {k : FloatKind} {b : Nat} (h : (k.decode b).isNaN = true) : can k b = none := by simp [can, h]
theorem can_num {k : FloatKind} {b : Nat} (h : (k.decode b).isNaN = false) : can k b = some b := by simp [can, h]
theorem can_some {k : FloatKind} {b c : Nat} (h : can k b = some c) : c = b ∧ (k.decode b).isNaN = false := by
  unfold can at h
  split at h
  · cases h
  · rename_i hn
    exact ⟨(Option.some.inj h).symm, by simpa using hn⟩

theorem floatBits_not_nan {op : BinOp} {k : FloatKind} {x y r : Nat} (h : floatBits op k x y = some r) : (k.decode r).isNaN = false := by
  unfold floatBits at h
  split at h
  · simp only [Ieee.Format.add, Option.map_eq_some_iff] at h
    obtain ⟨d, hd, rfl⟩ := h
    exact write_not_nan _ (sum_not_nan hd)
  · simp only [Ieee.Format.sub, Option.map_eq_some_iff] at h
    obtain ⟨d, hd, rfl⟩ := h
    exact write_not_nan _ (sum_not_nan hd)
  · simp only [Ieee.Format.mul, Option.map_eq_some_iff] at h
    obtain ⟨d, hd, rfl⟩ := h
    exact write_not_nan _ (product_not_nan hd)
  · simp only [Ieee.Format.div, Option.map_eq_some_iff] at h
    obtain ⟨d, hd, rfl⟩ := h
    exact write_not_nan _ (quotient_not_nan hd)
  · cases h

theorem floatBits_nan_left {op : BinOp} {k : FloatKind} {x y : Nat} (h : (k.decode x).isNaN = true) : floatBits op k x y = none := by
  unfold FloatKind.decode at h
  unfold floatBits Ieee.Format.add Ieee.Format.sub Ieee.Format.mul Ieee.Format.div
  cases e : k.format.read x with
  | nan s t => cases op <;> simp [Ieee.Datum.sum, Ieee.Datum.product, Ieee.Datum.quotient]
  | number => rw [e] at h; cases h
  | infinity => rw [e] at h; cases h

theorem floatBits_nan_right {op : BinOp} {k : FloatKind} {x y : Nat} (h : (k.decode y).isNaN = true) : floatBits op k x y = none := by
  unfold FloatKind.decode at h
  unfold floatBits Ieee.Format.add Ieee.Format.sub Ieee.Format.mul Ieee.Format.div
  cases e : k.format.read y with
  | nan s t => cases hx : k.format.read x <;> cases op <;> simp [Ieee.Datum.sum, Ieee.Datum.product, Ieee.Datum.quotient, Ieee.Datum.opposite]
  | number => rw [e] at h; cases h
  | infinity => rw [e] at h; cases h

/-- An operation on words that may be NaNs: 'none' is a NaN. -/
def fop (op : BinOp) (k : FloatKind) (x y : Option Nat) : Option Nat := x.bind fun a => y.bind fun b => floatBits op k a b

theorem fop_can (op : BinOp) (k : FloatKind) (x y : Nat) : floatBits op k x y = fop op k (can k x) (can k y) := by
  unfold fop
  cases hx : (k.decode x).isNaN
  · cases hy : (k.decode y).isNaN
    · rw [can_num hx, can_num hy]; rfl
    · rw [can_num hx, can_nan hy, floatBits_nan_right hy]; rfl
  · rw [can_nan hx, floatBits_nan_left hx]; rfl

theorem fop_none_left (op : BinOp) (k : FloatKind) (y : Option Nat) : fop op k none y = none := rfl
theorem fop_none_right (op : BinOp) (k : FloatKind) (x : Option Nat) : fop op k x none = none := by cases x <;> rfl

/-- What a NaN of the tape's is. -/
theorem cut_is_nan (k : FloatKind) (x y t : Nat) : (k.decode (Question.cut (.nanBits k x y) t)).isNaN = true := by
  have hm : t % 2 = 0 ∨ t % 2 = 1 := by omega
  cases k
  · have h2 : t / 2 % (2 ^ 23 - 1) < 2 ^ 23 - 1 := Nat.mod_lt _ (by decide)
    have e : Question.cut (.nanBits .f32 x y) t = Ieee.single.word (t % 2 == 1) (0x7f800000 + 1 + t / 2 % (2 ^ 23 - 1)) := by
      show (t % 2) * 2 ^ 31 + 0x7f800000 + 1 + (t / 2) % (2 ^ 23 - 1) = _
      have hs : Ieee.single.signWeight = 2 ^ 31 := rfl
      unfold Ieee.Format.word
      rcases hm with h | h <;> simp [h, hs] <;> omega
    have hs : Ieee.single.signWeight = 2147483648 := rfl
    have hi : Ieee.single.infRung = 2139095040 := rfl
    have hb : Ieee.single.binade = 8388608 := rfl
    rw [e]
    unfold FloatKind.decode FloatKind.format
    simp only
    rw [read_word _ _ (by rw [hs]; omega), if_neg (by rw [hb]; omega), if_neg (by rw [hi]; omega), if_neg (by rw [hi]; omega)]
    rfl
  · have h2 : t / 2 % (2 ^ 52 - 1) < 2 ^ 52 - 1 := Nat.mod_lt _ (by decide)
    have e : Question.cut (.nanBits .f64 x y) t = Ieee.double.word (t % 2 == 1) (0x7ff0000000000000 + 1 + t / 2 % (2 ^ 52 - 1)) := by
      show (t % 2) * 2 ^ 63 + 0x7ff0000000000000 + 1 + (t / 2) % (2 ^ 52 - 1) = _
      have hs : Ieee.double.signWeight = 2 ^ 63 := rfl
      unfold Ieee.Format.word
      rcases hm with h | h <;> simp [h, hs] <;> omega
    have hs : Ieee.double.signWeight = 9223372036854775808 := rfl
    have hi : Ieee.double.infRung = 9218868437227405312 := rfl
    have hb : Ieee.double.binade = 4503599627370496 := rfl
    rw [e]
    unfold FloatKind.decode FloatKind.format
    simp only
    rw [read_word _ _ (by rw [hs]; omega), if_neg (by rw [hb]; omega), if_neg (by rw [hi]; omega), if_neg (by rw [hi]; omega)]
    rfl

theorem cut_lt (k : FloatKind) (x y t : Nat) : Question.cut (.nanBits k x y) t < 2 ^ k.format.width := by
  have hm : t % 2 = 0 ∨ t % 2 = 1 := by omega
  cases k
  · have h2 : t / 2 % (2 ^ 23 - 1) < 2 ^ 23 - 1 := Nat.mod_lt _ (by decide)
    show (t % 2) * 2 ^ 31 + 0x7f800000 + 1 + (t / 2) % (2 ^ 23 - 1) < 2 ^ 32
    rcases hm with h | h <;> rw [h] <;> omega
  · have h2 : t / 2 % (2 ^ 52 - 1) < 2 ^ 52 - 1 := Nat.mod_lt _ (by decide)
    show (t % 2) * 2 ^ 63 + 0x7ff0000000000000 + 1 + (t / 2) % (2 ^ 52 - 1) < 2 ^ 64
    rcases hm with h | h <;> rw [h] <;> omega

/-- What a float is known to be: its word, but for a NaN's; and that it fits. -/
def FIs (k : FloatKind) (r : Nat) (e : Option Nat) : Prop := can k r = e ∧ r < 2 ^ k.format.width

theorem FIs.out {k : FloatKind} {r : Nat} {e : Option Nat} (h : FIs k r e) : can k r = e := h.1
theorem FIs.lt {k : FloatKind} {r : Nat} {e : Option Nat} (h : FIs k r e) : r < 2 ^ k.format.width := h.2
theorem FIs.self {k : FloatKind} {r : Nat} (h : r < 2 ^ k.format.width) : FIs k r (can k r) := ⟨rfl, h⟩
theorem FIs.of_eq {k : FloatKind} {r : Nat} {e e' : Option Nat} (h : FIs k r e) (he : e = e') : FIs k r e' := he ▸ h
theorem FIs.num {k : FloatKind} {r b : Nat} (h : FIs k r (some b)) : r = b := (can_some h.1).1.symm

/-! ### Order -/

def ford (k : FloatKind) (x y : Option Nat) : Option Ordering := x.bind fun a => y.bind fun b => k.format.order a b

theorem order_can (k : FloatKind) (x y : Nat) : k.format.order x y = ford k (can k x) (can k y) := by
  unfold ford
  cases hx : (k.decode x).isNaN
  · cases hy : (k.decode y).isNaN
    · rw [can_num hx, can_num hy]; rfl
    · rw [can_num hx, can_nan hy]
      unfold FloatKind.decode at hy
      unfold Ieee.Format.order
      cases e : k.format.read y with
      | nan s t => cases hx' : k.format.read x <;> simp [Ieee.Datum.order]
      | number => rw [e] at hy; cases hy
      | infinity => rw [e] at hy; cases hy
  · rw [can_nan hx]
    unfold FloatKind.decode at hx
    unfold Ieee.Format.order
    cases e : k.format.read x with
    | nan s t => simp [Ieee.Datum.order]
    | number => rw [e] at hx; cases hx
    | infinity => rw [e] at hx; cases hx

theorem order_self {k : FloatKind} {x : Nat} (h : (k.decode x).isNaN = false) : k.format.order x x = some .eq := by
  unfold FloatKind.decode at h
  unfold Ieee.Format.order
  cases e : k.format.read x with
  | nan s t => rw [e] at h; cases h
  | number s m i => simp [Ieee.Datum.order]
  | infinity s => simp [Ieee.Datum.order]

theorem order_self_nan {k : FloatKind} {x : Nat} (h : (k.decode x).isNaN = true) : k.format.order x x = none := by
  rw [order_can, can_nan h]; rfl

/-- 'x != x' says whether x is a NaN. -/
theorem neq_self (k : FloatKind) (x : Nat) : (k.format.order x x != some .eq) = (can k x).isNone := by
  cases hx : (k.decode x).isNaN
  · rw [order_self hx, can_num hx]; rfl
  · rw [order_self_nan hx, can_nan hx]; rfl

theorem some_of {α : Type} {o : Option α} {x : α} (h : o = some x) : o.isSome = true := by rw [h]; rfl

end Go.Proofs.Ytcopccniijkceaa
