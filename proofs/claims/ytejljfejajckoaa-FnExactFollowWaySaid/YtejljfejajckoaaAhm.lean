/- Floats: nought taken away or added; squares whatever the sign; what is not negative. Ways: whether points are one, on both sides; squares and lengths. Ways: how long they are, on both sides, and the law. The point that lies ahead on a way, as the document tells it. The point that lies ahead on a way, both sides. No condition. -/
import Derived.Test.YtejljfejajckoaaAg
import Derived.Test.YtejljfejajckoaaB10
import Derived.Test.YtejljfejajckoaaGFloat32A2
import Derived.Test.YtejljfejajckoaaGv
import Derived.Test.YtejljfejajckoaaLa
import Derived.Test.YtejljfejajckoaaB3
import Derived.Test.YtejljfejajckoaaOSqu
import Derived.Deep.RegionHeld
namespace Go.Proofs.Ytejljfejajckoaa
open Go Go.RowKit Ieee
set_option linter.unusedVariables false
set_option linter.unusedSimpArgs false

/-- A number's size, rounded: the sign stands apart. -/
theorem nearest_form (f : Format) (mag : Nat) (place : Int) : ∃ R, R ≤ f.infRung ∧ ∀ s, f.nearest s mag place = f.word s R := by
  by_cases h : mag = 0
  · exact ⟨0, Nat.zero_le _, fun s => by unfold Format.nearest; rw [if_pos h]⟩
  · exact ⟨min ((max (place + mag.log2 - f.fractionBits) f.leastPlace - f.leastPlace).toNat * f.binade + Toward.even.cut false (mag <<< (place - max (place + mag.log2 - f.fractionBits) f.leastPlace).toNat) (max (place + mag.log2 - f.fractionBits) f.leastPlace - place).toNat) f.infRung, Nat.min_le_right _ _, fun s => by unfold Format.nearest; rw [if_neg h]; rfl⟩

theorem write_form (f : Format) (d : Datum) (h : d.isNaN = false) : ∃ R, R ≤ f.infRung ∧ f.write d = f.word d.neg R := by
  cases d with
  | number s m p => obtain ⟨R, h1, h2⟩ := nearest_form f m p; exact ⟨R, h1, h2 s⟩
  | infinity s => exact ⟨f.infRung, Nat.le_refl _, rfl⟩
  | nan s t => cases h

theorem neg_small (f : Format) {b : Nat} (h : b < f.signWeight) : (f.read b).neg = false := by
  unfold Format.read
  have e : (b / f.signWeight % 2 == 1) = false := by rw [Nat.div_eq_of_lt h]; rfl
  dsimp only
  rw [e]
  split
  · rfl
  · split
    · rfl
    · split <;> rfl

theorem write_small (f : Format) (d : Datum) (h : d.neg = false) (hi : f.infRung + f.binade ≤ f.signWeight) : f.write d < f.signWeight := by
  have hl := f.infRung_lt
  cases d with
  | number s m p =>
    obtain ⟨R, h1, h2⟩ := nearest_form f m p
    show f.nearest s m p < _
    rw [h2, show s = false from h, word_false]
    omega
  | infinity s =>
    show f.word s f.infRung < _
    rw [show s = false from h, word_false]
    exact hl
  | nan s t =>
    show f.word s (f.infRung + t % f.binade) < _
    rw [show s = false from h, word_false]
    have := Nat.mod_lt t (show 0 < f.binade from Nat.two_pow_pos _)
    omega

theorem product_word (f : Format) (s : Bool) {R : Nat} (h : R ≤ f.infRung) : (f.read (f.word s R)).product (f.read (f.word s R)) = (f.read (f.word false R)).product (f.read (f.word false R)) := by
  have := f.infRung_lt
  rw [read_word f s (by omega), read_word f false (by omega)]
  split
  · simp [Datum.product]
  · split
    · simp [Datum.product]
    · split
      · simp [Datum.product]
      · rfl

theorem signed_not (s : Bool) (m k : Nat) : signed (!s) m k = - signed s m k := by
  unfold signed
  cases s <;> simp

theorem sub_swap (f : Format) (x y : Nat) : (f.sub x y = none ∧ f.sub y x = none) ∨ ∃ R s t, R ≤ f.infRung ∧ f.sub x y = some (f.word s R) ∧ f.sub y x = some (f.word t R) := by
  unfold Format.sub
  generalize f.read x = a
  generalize f.read y = b
  cases a with
  | nan s t => exact Or.inl ⟨rfl, by cases b <;> rfl⟩
  | infinity s =>
    cases b with
    | nan => exact Or.inl ⟨rfl, rfl⟩
    | infinity t =>
      cases s <;> cases t
      · exact Or.inl ⟨rfl, rfl⟩
      · exact Or.inr ⟨_, _, _, Nat.le_refl _, rfl, rfl⟩
      · exact Or.inr ⟨_, _, _, Nat.le_refl _, rfl, rfl⟩
      · exact Or.inl ⟨rfl, rfl⟩
    | number t n j => exact Or.inr ⟨_, _, _, Nat.le_refl _, rfl, rfl⟩
  | number s m i =>
    cases b with
    | nan => exact Or.inl ⟨rfl, rfl⟩
    | infinity t => exact Or.inr ⟨_, _, _, Nat.le_refl _, rfl, rfl⟩
    | number t n j =>
      have e : signed t n (j - min j i).toNat + signed (!s) m (i - min j i).toNat = -(signed s m (i - min i j).toNat + signed (!t) n (j - min i j).toNat) := by
        rw [Int.min_comm j i, signed_not, signed_not]
        omega
      obtain ⟨R, h1, h2⟩ := nearest_form f (signed s m (i - min i j).toNat + signed (!t) n (j - min i j).toNat).natAbs (min i j)
      have hw : ∀ q : Bool, f.nearest q (signed t n (j - min j i).toNat + signed (!s) m (i - min j i).toNat).natAbs (min j i) = f.word q R := fun q => by
        rw [e, Int.natAbs_neg, Int.min_comm j i]
        exact h2 q
      exact Or.inr ⟨R, _, _, h1, congrArg some (h2 _), congrArg some (hw _)⟩

theorem sq_swap (a b : Option Nat) : fop .mul .f32 (fop .sub .f32 a b) (fop .sub .f32 a b) = fop .mul .f32 (fop .sub .f32 b a) (fop .sub .f32 b a) := by
  cases a with
  | none =>
    simp only [fop_none_left, fop_none_right]
  | some x =>
    cases b with
    | none =>
      simp only [fop_none_left, fop_none_right]
    | some y =>
      have e1 : fop .sub .f32 (some x) (some y) = single.sub x y := rfl
      have e2 : fop .sub .f32 (some y) (some x) = single.sub y x := rfl
      rw [e1, e2]
      rcases sub_swap single x y with ⟨h1, h2⟩ | ⟨R, s, t, hR, h1, h2⟩
      · rw [h1, h2]
      · rw [h1, h2]
        show ((single.read _).product (single.read _)).map single.write = ((single.read _).product (single.read _)).map single.write
        rw [product_word single s hR, product_word single t hR]

/-! ### What is not negative -/

def PosW (o : Option Nat) : Prop := ∀ b, o = some b → b < 2147483648

theorem prod_sign {d r : Datum} (h : d.product d = some r) : r.neg = false := by
  cases d <;> simp [Datum.product] at h
  all_goals (subst h; rfl)

theorem pos_sq (x : Option Nat) : PosW (fop .mul .f32 x x) := by
  intro b hb
  cases x with
  | none => cases hb
  | some a =>
    have hb : ((single.read a).product (single.read a)).map single.write = some b := hb
    obtain ⟨d, hd, rfl⟩ := Option.map_eq_some_iff.1 hb
    exact write_small single d (prod_sign hd) (by decide)

theorem signed_pos (m k : Nat) : 0 ≤ signed false m k := by
  unfold signed
  rw [if_neg (by decide)]
  exact Int.natCast_nonneg _

theorem sum_sign {c d r : Datum} (h : c.sum d = some r) (hc : c.neg = false) (hd : d.neg = false) : r.neg = false := by
  cases c with
  | nan => cases h
  | infinity s =>
    cases d with
    | nan => cases h
    | infinity t =>
      simp only [Datum.sum] at h
      split at h
      · cases h; exact hc
      · cases h
    | number => cases h; exact hc
  | number s m i =>
    cases d with
    | nan => cases h
    | infinity t => cases h; exact hd
    | number t n j =>
      cases h
      have hs : s = false := hc
      have ht : t = false := hd
      subst hs ht
      have g1 := signed_pos m (i - min i j).toNat
      have g2 := signed_pos n (j - min i j).toNat
      show (if _ then (false && false) else decide (_ < (0 : Int))) = false
      split
      · rfl
      · exact decide_eq_false (by omega)

theorem pos_add {x y : Option Nat} (hx : PosW x) (hy : PosW y) : PosW (fop .add .f32 x y) := by
  intro b hb
  cases x with
  | none => cases hb
  | some a =>
    cases y with
    | none => cases hb
    | some c =>
      have hb : ((single.read a).sum (single.read c)).map single.write = some b := hb
      obtain ⟨d, hd, rfl⟩ := Option.map_eq_some_iff.1 hb
      exact write_small single d (sum_sign hd (neg_small single (hx a rfl)) (neg_small single (hy c rfl))) (by decide)

theorem root_sign {n : Nat} {d r : Datum} (h : d.root n = some r) (hd : d.neg = false) : r.neg = false := by
  cases d <;> simp only [Datum.root] at h
  · split at h
    · cases h; exact hd
    · split at h
      · cases h
      · cases h; rfl
  · split at h
    · cases h
    · cases h; exact hd
  · cases h

theorem pos_root {x : Option Nat} (hx : PosW x) : PosW (froot x) := by
  intro b hb
  cases x with
  | none => cases hb
  | some a =>
    unfold froot fsqrt at hb
    obtain ⟨c, hc, rfl⟩ := Option.map_eq_some_iff.1 hb
    have hc : ((double.read (wide a)).root (double.fractionBits + 2)).map double.write = some c := hc
    obtain ⟨d, hd, rfl⟩ := Option.map_eq_some_iff.1 hc
    have h1 : wide a < double.signWeight := write_small double _ (neg_small single (hx a rfl)) (by decide)
    have h2 : double.write d < double.signWeight := write_small double _ (root_sign hd (neg_small double h1)) (by decide)
    exact write_small single _ (neg_small double h2) (by decide)

def isZ (d : Option Nat) : Bool := ford .f32 d (can .f32 0) == some .eq
def gtZ (d : Option Nat) : Bool := ford .f32 d (can .f32 0) == some .gt
def leO (o d : Option Nat) : Bool := ford .f32 o d == some .lt || ford .f32 o d == some .eq
def ltO (o d : Option Nat) : Bool := ford .f32 o d == some .lt

theorem zero_read : single.read 0 = .number false 0 (-149) := by decide
theorem can_zero : can .f32 0 = some 0 := by rw [can32, zero_read]; rfl

theorem pos_split {o : Option Nat} (h : PosW o) : (gtZ o = true ∧ isZ o = false) ∨ (gtZ o = false ∧ isZ o = true ∧ o = some 0) ∨ (gtZ o = false ∧ isZ o = false ∧ ∀ z, leO z o = false) := by
  unfold gtZ isZ
  cases o with
  | none => exact Or.inr (Or.inr ⟨rfl, rfl, fun z => by unfold leO ford; cases z <;> rfl⟩)
  | some b =>
    have hb := h b rfl
    have hn := neg_small single (show b < single.signWeight from hb)
    rw [can_zero]
    have e : ford .f32 (some b) (some 0) = (single.read b).order (single.read 0) := rfl
    rw [e, zero_read]
    cases hr : single.read b with
    | nan s t =>
      refine Or.inr (Or.inr ⟨rfl, rfl, fun z => ?_⟩)
      unfold leO
      cases z with
      | none => rfl
      | some z =>
        have e : ford .f32 (some z) (some b) = (single.read z).order (single.read b) := rfl
        rw [e, hr]
        cases single.read z <;> rfl
    | infinity s =>
      rw [hr] at hn
      have hs : s = false := hn
      subst hs
      exact Or.inl ⟨rfl, rfl⟩
    | number s m p =>
      rw [hr] at hn
      have hs : s = false := hn
      subst hs
      simp only [Datum.order]
      have hz : signed false 0 (-149 - min p (-149)).toNat = 0 := by simp [signed]
      rw [hz]
      have hsg : signed false m (p - min p (-149)).toNat = ((m * 2 ^ (p - min p (-149)).toNat : Nat) : Int) := by
        unfold signed
        rw [if_neg (by decide), shl_eq]
      rw [hsg]
      by_cases hm : m = 0
      · subst hm
        refine Or.inr (Or.inl ⟨?_, ?_, ?_⟩)
        · rw [Nat.zero_mul]; rfl
        · rw [Nat.zero_mul]; rfl
        · obtain ⟨h1, h2, h3, h4, h5, _⟩ := single_parts hr
          have := h4 (by omega)
          congr 1
          omega
      · left
        have hp : 0 < m * 2 ^ (p - min p (-149)).toNat := Nat.mul_pos (by omega) (Nat.two_pow_pos _)
        have hc : compare ((m * 2 ^ (p - min p (-149)).toNat : Nat) : Int) 0 = .gt := Int.compare_eq_gt.2 (by omega)
        rw [hc]
        exact ⟨rfl, rfl⟩

/-- The word that a narrow word's meaning is written as. -/
theorem word_back {b : Nat} (hb : b < 4294967296) : single.word (b / 2 ^ 31 % 2 == 1) (b % 2 ^ 31) = b := by
  unfold Format.word
  have e3 : single.signWeight = 2147483648 := rfl
  rw [e3]
  have h : b / 2 ^ 31 % 2 = 0 ∨ b / 2 ^ 31 % 2 = 1 := by omega
  rcases h with h | h
  · rw [h, if_neg (by decide)]; omega
  · rw [h, if_pos (by decide)]; omega

theorem signed_zero (s : Bool) (k : Nat) : signed s 0 k = 0 := by cases s <;> simp [signed]

theorem inf_parts {b : Nat} {s : Bool} (h : single.read b = .infinity s) : b % 2 ^ 31 = single.infRung ∧ s = (b / 2 ^ 31 % 2 == 1) := by
  unfold Format.read at h
  dsimp only at h
  split at h
  · cases h
  · split at h
    · cases h
    · split at h
      · rename_i h1 h2 h3
        cases h
        exact ⟨h3, rfl⟩
      · cases h

/-- A number and a nought, added. -/
theorem sum_zero {b : Nat} {s t : Bool} {m : Nat} {p : Int} (hb : b < 4294967296) (h : single.read b = .number s m p) (hz : m = 0 → (s && t) = s) :
    ((Datum.number s m p).sum (.number t 0 (-149))).map single.write = some b := by
  obtain ⟨h1, h2, h3, h4, h5, h6⟩ := single_parts h
  have hmin : min p (-149) = -149 := by omega
  simp only [Datum.sum, Option.map_some]
  rw [hmin, signed_zero, Int.add_zero]
  congr 1
  show single.nearest _ _ _ = _
  by_cases hm : m = 0
  · subst hm
    rw [signed_zero, if_pos rfl, hz rfl]
    show single.nearest s 0 (-149) = b
    unfold Format.nearest
    rw [if_pos rfl]
    have hp := h4 (by omega)
    have e := word_back hb
    have e0 : b % 2 ^ 31 = 0 := by rw [← h5, hp]; rfl
    rw [e0, ← h6] at e
    exact e
  · have hk : (-149 : Int) = p - ((p - -149).toNat : Nat) := by omega
    have ha := signed_abs s m (p - -149).toNat
    have hne : signed s m (p - -149).toNat ≠ 0 := by
      intro e
      rw [e] at ha
      rcases Nat.mul_eq_zero.1 ha.symm with e | e
      · exact hm e
      · exact absurd e (Nat.ne_of_gt (Nat.two_pow_pos _))
    have hs : decide (signed s m (p - -149).toNat < 0) = s := by
      have hp : 0 < m * 2 ^ (p - -149).toNat := Nat.mul_pos (by omega) (Nat.two_pow_pos _)
      unfold signed
      rw [shl_eq]
      cases s
      · rw [if_neg (by decide)]; exact decide_eq_false (by omega)
      · rw [if_pos rfl]; exact decide_eq_true (by omega)
    rw [if_neg hne, hs, ha]
    have := slim_num h hm s (p - -149).toNat
    rw [← hk] at this
    rw [this, h6]
    exact word_back hb

theorem write_inf {b : Nat} {s : Bool} (hb : b < 4294967296) (h : single.read b = .infinity s) : single.write (.infinity s) = b := by
  obtain ⟨h1, h2⟩ := inf_parts h
  show single.word s single.infRung = b
  rw [← h1, h2]
  exact word_back hb

theorem sub_zero32 {x : Nat} (hx : x < 2 ^ 32) : fop .sub .f32 (can .f32 x) (some 0) = can .f32 x := by
  cases hn : (single.read x).isNaN with
  | true => rw [can_nan (k := .f32) hn]; rfl
  | false =>
    rw [can_num (k := .f32) hn]
    show ((single.read x).sum (single.read 0).opposite).map single.write = some x
    rw [zero_read]
    cases h : single.read x with
    | nan => rw [h] at hn; cases hn
    | infinity s => exact congrArg some (write_inf hx h)
    | number s m p => exact sum_zero hx h fun _ => by cases s <;> rfl

/-- Nought, and a number above nought. -/
theorem zero_add32 {x : Nat} (hx : x < 2 ^ 32) (hp : gtZ (can .f32 x) = true) : fop .add .f32 (can .f32 0) (can .f32 x) = can .f32 x := by
  cases hn : (single.read x).isNaN with
  | true => rw [can_nan (k := .f32) hn, fop_none_right]
  | false =>
    rw [can_num (k := .f32) hn, can_zero]
    rw [can_num (k := .f32) hn] at hp
    show ((single.read 0).sum (single.read x)).map single.write = some x
    rw [zero_read]
    cases h : single.read x with
    | nan => rw [h] at hn; cases hn
    | infinity s => exact congrArg some (write_inf hx h)
    | number s m p =>
      have hm : m ≠ 0 := by
        intro e
        subst e
        unfold gtZ at hp
        rw [can_zero] at hp
        have e : ford .f32 (some x) (some 0) = (single.read x).order (single.read 0) := rfl
        rw [e, zero_read, h] at hp
        simp only [Datum.order, signed_zero] at hp
        exact absurd hp (by decide)
      have := sum_zero (t := false) hx h fun e => absurd e hm
      rw [← this]
      simp only [Datum.sum]
      rw [Int.min_comm p (-149), Int.add_comm (signed s m _), Bool.and_comm s false]

end Go.Proofs.Ytejljfejajckoaa

namespace Go.Proofs.Ytejljfejajckoaa
open Go Go.RowKit
set_option linter.unusedVariables false
set_option linter.unusedSimpArgs false

section
variable {P : Program} {ops : Array Oper} {W : World} {S : FuncId → Array Value → Value → Prop} {A : List (Tmp × Array Value × TypeId)}

/-- A call of which it is known what it may give. -/
theorem soft_callW {fid : FuncId} {A0 : Array Value} {V : Value → Prop} {Q : Act → Prop} {a : Act} {o : Oper} {rest : List Oper} (hwa : Region.wanted o (yielded ops a.tmps) = true) (hA : (A.all fun e => o.dst != some e.1) = true)
    (h : ∀ w, Stays W w → (execOp a.eval o).run P w = .ok (.enter fid A0) w)
    (hc : ∀ w, Stays W w → Calls P fid A0 w fun e w' => ∃ v, e = .returned v ∧ V v ∧ Stays w w')
    (hS : ∀ v, V v → S fid A0 v) (hu : ∀ v, S fid A0 v → V v)
    (hK : ∀ v, V v → wpSoft P ops W S A Q rest (a.put o.dst v)) : wpSoft P ops W S A Q (o :: rest) a := by
  refine ⟨fun _ w hw => ?_, not_listed hA a, ?_, fun u hu' => ?_⟩
  · rw [h w hw]
    exact ⟨rfl, (hc w hw).mono fun e w' ⟨v, he, hv, hs⟩ => ⟨v, he, hS v hv, hs⟩⟩
  · obtain ⟨_, _, _, ⟨v, _, hv, _⟩, _⟩ := hc W (Stays.refl W) []
    exact ⟨v, Or.inl ⟨hwa, W, Stays.refl W, by rw [h W (Stays.refl W)]; exact hS v hv⟩⟩
  · rcases hu' with ⟨_, w, hw, hu'⟩ | ⟨hn, _⟩
    · rw [h w hw] at hu'
      exact hK u (hu u hu')
    · rw [hwa] at hn; cases hn
end

abbrev KPt : List Kd := KFloat32A2

theorem pt_cells {cs : List Value} {r : List NV} (h : KMs KPt cs r) : ∃ x y, cs = [.float .f32 x, .float .f32 y] ∧ FIs .f32 x (r.getD 0 (.i 0)).gf ∧ FIs .f32 y (r.getD 1 (.i 0)).gf := by
  have hr := KMs_rlen h
  have hl := KMs_len h
  match cs, r, hl, hr, h with
  | [_, _], [n0, n1], _, _, ⟨⟨x, hx, hfx⟩, ⟨y, hy, hfy⟩, _⟩ =>
    subst hx hy
    exact ⟨x, y, rfl, hfx, hfy⟩

def finP (r : List NV) : Bool := finB (r.getD 0 (.i 0)).gf && finB (r.getD 1 (.i 0)).gf
def goodP (xs : List (List NV)) (j : Nat) : Prop := ∀ r, xs[j]? = some r → finP r = true

open Classical in
noncomputable def wayB (xs : List (List NV)) : Bool := decide (∀ j, goodP xs j) && decide (1 ≤ xs.length ∧ xs.length ≤ 600)

theorem wayB_bad {xs : List (List NV)} {k : Nat} (h : ¬ goodP xs k) : wayB xs = false := by
  unfold wayB
  rw [@decide_eq_false _ (Classical.propDecidable _) fun g => h (g k)]
  rfl
theorem wayB_len {xs : List (List NV)} (h : ¬ (1 ≤ xs.length ∧ xs.length ≤ 600)) : wayB xs = false := by
  unfold wayB
  rw [decide_eq_false h, Bool.and_false]
theorem wayB_end {xs : List (List NV)} {k : Nat} (hk : xs.length ≤ k) (h : ∀ j, j < k → goodP xs j) : wayB xs = decide (1 ≤ xs.length ∧ xs.length ≤ 600) := by
  unfold wayB
  rw [@decide_eq_true _ (Classical.propDecidable _) fun j => ?_, Bool.true_and]
  by_cases hj : j < k
  · exact h j hj
  · intro m hm
    rw [List.getElem?_eq_none (by omega)] at hm
    cases hm

theorem goodP_next {xs : List (List NV)} {k : Nat} (h : ∀ j, j < k → goodP xs j) (hk : goodP xs k) : ∀ j, j < k + 1 → goodP xs j := fun j hj => by
  by_cases e : j = k
  · subst e; exact hk
  · exact h j (by omega)

theorem goodP_at {xs : List (List NV)} {k : Nat} {r : List NV} (h : xs[k]? = some r) : goodP xs k ↔ finP r = true := by
  unfold goodP
  rw [h]
  exact ⟨fun g => g _ rfl, fun g m e => by cases e; exact g⟩

set_option maxRecDepth 100000 in
set_option maxHeartbeats 1000000 in
theorem c_l07Way (A : Option Addr) (c : Nat) (xs : List (List NV)) (w : World) (h : Ls KPt 2 w w.heap.size A xs) (hn : xs.length ≤ 1048576) :
    Calls Try.prog 132 #[.slice A xs.length c] w fun e w' => e = .returned (.bool (wayB xs)) ∧ Below w.heap.size w w' := by
  have H := Lib.hid h
  clear h
  go_enter Try.func132, Try.ntmps132
  go_wp2
  go_loopw [3] (fun i wr => ∃ k : Nat, k ≤ xs.length ∧ i = .int .i64 k ∧ Hid (Below w.heap.size w wr) ∧ Hid (∀ j, j < k → goodP xs j)) (fun i _ => xs.length - (intOf i).toNat)
  case atStart => exact ⟨0, Nat.zero_le _, rfl, Lib.hid (Below.refl _ _), Lib.hid fun j hj => by omega⟩
  case round =>
    obtain ⟨k, hk, rfl, hb, hgd⟩ := hrel
    by_cases hlt : k < xs.length
    · obtain ⟨ad, rfl, hbl, hrow⟩ := (H.out.below hb.out) k xs[k] (List.getElem?_eq_getElem hlt)
      have hrk := List.getElem?_eq_getElem hlt
      generalize xs[k] = r at hrow hrk
      obtain ⟨c0, c1, hK, g0, g1⟩ := row2 rfl hrow
      obtain ⟨x, y, e, hx, hy⟩ := pt_cells hK
      cases e
      have hlt' : (k : Int) < (xs.length : Int) := by omega
      have hfp : finP r = (finB (can .f32 x) && finB (can .f32 y)) := by unfold finP; rw [hx.out, hy.out]
      have hgk := goodP_at hrk
      rw [hfp] at hgk
      have hg1 : ∀ w', Stays wr w' → w'.cell? ⟨(ad.add (k * 2)).block, (ad.add (k * 2)).off + 1, none⟩ = some (.float .f32 y) := fun w' hs => (Below.cell (p := ⟨(ad.add (k * 2)).block, (ad.add (k * 2)).off + 1, none⟩) hs (by show (ad.add (k * 2)).block < _; rw [block_add]; exact Nat.lt_of_lt_of_le hbl hb.out.size)).trans g1
      replace hg1 := Lib.hid hg1
      have k0 := Lib.hid fun W => c_l01Finite x W
      have k1 := Lib.hid fun W => c_l01Finite y W
      clear hfp hK hrow hx hy hrk
      cases hx0 : finB (can .f32 x) with
      | false =>
        have bd := Lib.hid (wayB_bad (k := k) fun h => by have := hgk.1 h; rw [hx0] at this; cases this)
        rw [hx0] at k0
        clear hgk hx0
        go_wp2_with (go_at_call 81; refine (k0.out _).mono ?_; rintro e w1 ⟨rfl, hw1⟩)
        go_ret
        exact ⟨ret_b (by rw [bd.out]), hb.out.trans (hw1.mono hb.out.size)⟩
      | true =>
        rw [hx0] at k0
        cases hy0 : finB (can .f32 y) with
        | false =>
          have bd := Lib.hid (wayB_bad (k := k) fun h => by have := hgk.1 h; rw [hx0, hy0] at this; cases this)
          rw [hy0] at k1
          clear hgk hx0 hy0
          go_wp2_with fail
          refine (k0.out _).mono ?_
          rintro e w1 ⟨rfl, hw1⟩
          have q1 := hg1.out _ hw1
          replace hw1 := Lib.hid hw1
          go_wp2_with fail
          refine (k1.out _).mono ?_
          rintro e w2 ⟨rfl, hw2⟩
          go_wp2
          go_ret
          exact ⟨ret_b (by rw [bd.out]), hb.out.trans ((hw1.out.trans hw2).mono hb.out.size)⟩
        | true =>
          have nx := Lib.hid (goodP_next hgd.out (hgk.2 (by rw [hx0, hy0]; rfl)))
          rw [hy0] at k1
          clear hgk hx0 hy0
          go_wp2_with fail
          refine (k0.out _).mono ?_
          rintro e w1 ⟨rfl, hw1⟩
          have q1 := hg1.out _ hw1
          replace hw1 := Lib.hid hw1
          go_wp2_with fail
          refine (k1.out _).mono ?_
          rintro e w2 ⟨rfl, hw2⟩
          replace hw2 := Lib.hid (hb.out.trans ((hw1.out.trans hw2).mono hb.out.size))
          go_wp2
          go_round
          case rel => exact ⟨k + 1, by omega, by go_num, hw2, nx⟩
          case measure => simp [intOf]; omega
    · have fin := Lib.hid (wayB_end (by omega) hgd.out)
      have kI := Lib.hid fun W => c_l00In xs.length 1 600 W
      go_wp2_with (go_at_call 123; refine (kI.out _).mono ?_; rintro e w1 ⟨rfl, rfl⟩)
      go_ret
      exact ⟨ret_b (by rw [fin.out, ← Bool.decide_and]; exact decide_eq_decide.2 (by omega)), hb.out⟩

set_option maxRecDepth 100000 in
set_option maxHeartbeats 1000000 in
theorem c_areFinite2 (g x y : Nat) (w : World) (h : ∀ w1, Stays w w1 → w1.cell? ⟨g, 0, none⟩ = some (.float .f32 x) ∧ w1.cell? ⟨g, 1, none⟩ = some (.float .f32 y)) :
    Calls Try.prog 62 #[.slice (some ⟨g, 0, none⟩) 2 2] w fun e w' => e = .returned (.bool (finB (can .f32 x) && finB (can .f32 y))) ∧ Stays w w' := by
  have H := Lib.hid h
  have k0 := Lib.hid fun W => c_isFinite x W
  have k1 := Lib.hid fun W => c_isFinite y W
  clear h
  obtain ⟨q0, q1⟩ := H.out w (Stays.refl w)
  cases hx0 : finB (can .f32 x) with
  | false =>
    rw [hx0] at k0
    clear hx0
    go_enter Try.func62, Try.ntmps62
    go_wp2
    refine wp_loop_rounds 1 ?_
    rw [rounds_succ]
    go_wp2_with (go_at_call 86; refine (k0.out _).mono ?_; rintro e w1 ⟨rfl, hw1⟩)
    go_ret
    exact ⟨rfl, hw1⟩
  | true =>
    rw [hx0] at k0
    clear hx0
    generalize finB (can .f32 y) = b at k1 ⊢
    cases b
    all_goals
      go_enter Try.func62, Try.ntmps62
      go_wp2
      refine wp_loop_rounds 3 ?_
      rw [rounds_succ]
      go_wp2_with fail
      refine (k0.out _).mono ?_
      rintro e w1 ⟨rfl, hw1⟩
      clear q0 q1
      obtain ⟨q0, q1⟩ := H.out w1 hw1
      replace hw1 := Lib.hid hw1
      go_wp2
      rw [rounds_succ]
      go_wp2_with fail
      refine (k1.out _).mono ?_
      rintro e w2 ⟨rfl, hw2⟩
      replace hw2 := Lib.hid (hw1.out.trans hw2)
      go_wp2
      try rw [rounds_succ]
      try go_wp2
      go_ret
      exact ⟨rfl, hw2.out⟩

set_option maxRecDepth 100000 in
set_option maxHeartbeats 1000000 in
theorem c_isWay (A : Option Addr) (c : Nat) (xs : List (List NV)) (w : World) (h : Ls KPt 2 w w.heap.size A xs) (hn : xs.length ≤ 1048576) :
    Calls Try.prog 74 #[.slice A xs.length c] w fun e w' => e = .returned (.bool (wayB xs)) ∧ Below w.heap.size w w' := by
  have H := Lib.hid h
  clear h
  by_cases h0 : xs.length = 0
  · have h0' : ((xs.length : Nat) : Int) = 0 := by omega
    have bd := Lib.hid (wayB_len (xs := xs) (by omega))
    go_enter Try.func74, Try.ntmps74
    go_wp2
    go_ret
    exact ⟨ret_b (by rw [bd.out]), Below.refl _ _⟩
  · have h0' : ¬ ((xs.length : Nat) : Int) = 0 := by omega
    by_cases h600 : xs.length ≤ 600
    · have h600' : ((xs.length : Nat) : Int) ≤ 600 := by omega
      have h600'' : ¬ ((xs.length : Nat) : Int) > 600 := by omega
      go_enter Try.func74, Try.ntmps74
      go_wp2
      go_loopw [15] (fun i wr => ∃ k : Nat, k ≤ xs.length ∧ i = .int .i64 k ∧ Hid (Below w.heap.size w wr) ∧ Hid (∀ j, j < k → goodP xs j)) (fun i _ => xs.length - (intOf i).toNat)
      case atStart => exact ⟨0, Nat.zero_le _, rfl, Lib.hid (Below.refl _ _), Lib.hid fun j hj => by omega⟩
      case round =>
        obtain ⟨k, hk, rfl, hb, hgd⟩ := hrel
        by_cases hlt : k < xs.length
        · obtain ⟨ad, rfl, hbl, hrow⟩ := (H.out.below hb.out) k xs[k] (List.getElem?_eq_getElem hlt)
          have hrk := List.getElem?_eq_getElem hlt
          generalize xs[k] = r at hrow hrk
          obtain ⟨c0, c1, hK, g0, g1⟩ := row2 rfl hrow
          obtain ⟨x, y, e, hx, hy⟩ := pt_cells hK
          cases e
          have hlt' : (k : Int) < (xs.length : Int) := by omega
          have hfp : finP r = (finB (can .f32 x) && finB (can .f32 y)) := by unfold finP; rw [hx.out, hy.out]
          have hgk := goodP_at hrk
          rw [hfp] at hgk
          have hbx := heap_alloc_new wr (.cells #[.float .f32 x, .float .f32 y] 26)
          have hsx : Hid (Stays wr (wr.alloc (.cells #[.float .f32 x, .float .f32 y] 26))) := Lib.hid (by (repeat (first | exact Stays.refl _ | (with_reducible refine Stays.drewN ?_ _) | (with_reducible refine Stays.alloc ?_ _) | (with_reducible refine Stays.drew ?_) | (refine Stays.trans ?_ ‹Stays _ _›))))
          have kA := c_areFinite2 wr.heap.size x y (wr.alloc (.cells #[.float .f32 x, .float .f32 y] 26)) fun w1 h => ⟨row_of h hbx 0, row_of h hbx 1⟩
          have nx : Hid ((finB (can .f32 x) && finB (can .f32 y)) = true → Hid (∀ j, j < k + 1 → goodP xs j)) := Lib.hid fun h => Lib.hid (goodP_next hgd.out (hgk.2 h))
          have bd : Hid ((finB (can .f32 x) && finB (can .f32 y)) = false → wayB xs = false) := Lib.hid fun h => wayB_bad (k := k) fun g => by have := hgk.1 g; rw [h] at this; cases this
          generalize (finB (can .f32 x) && finB (can .f32 y)) = bb at kA nx bd
          replace kA := Lib.hid kA
          clear hfp hK hrow hx hy hrk hgk hbx
          cases bb with
          | false =>
            replace bd := Lib.hid (bd.out rfl)
            go_wp2_with (go_at_call 62; refine kA.out.mono ?_; rintro e w1 ⟨rfl, hw1⟩)
            go_ret
            exact ⟨ret_b (by rw [bd.out]), hb.out.trans ((hsx.out.trans hw1).mono hb.out.size)⟩
          | true =>
            replace nx := nx.out rfl
            go_wp2_with (go_at_call 62; refine kA.out.mono ?_; rintro e w1 ⟨rfl, hw1⟩; replace hw1 := Lib.hid (hb.out.trans ((hsx.out.trans hw1).mono hb.out.size)))
            go_roundw
            case rel => exact ⟨k + 1, by omega, by go_num, hw1, nx⟩
            case measure => simp [intOf]; omega
        · have fin := Lib.hid (wayB_end (by omega) hgd.out)
          go_wp2
          go_ret
          exact ⟨ret_b (by rw [fin.out, decide_eq_true (by omega)]), hb.out⟩
    · have h600' : ¬ ((xs.length : Nat) : Int) ≤ 600 := by omega
      have bd := Lib.hid (wayB_len (xs := xs) (by omega))
      go_enter Try.func74, Try.ntmps74
      go_wp2
      go_ret
      exact ⟨ret_b (by rw [bd.out]), Below.refl _ _⟩

end Go.Proofs.Ytejljfejajckoaa

namespace Go.Proofs.Ytejljfejajckoaa
open Go Go.RowKit
set_option linter.unusedVariables false
set_option linter.unusedSimpArgs false

noncomputable def squO (p q : List NV) : Option Nat := (oSqu.Φ (10 * 64 + 0) (canK KPt p ++ canK KPt q)).gf
noncomputable def lenTo (ps : List (List NV)) : Nat → Option Nat
  | 0 => can .f32 0
  | k + 1 => fop .add .f32 (lenTo ps k) (froot (squO (ps.getD k []) (ps.getD (k + 1) [])))

theorem lenTo_next {ps : List (List NV)} {k : Nat} {p q : List NV} (hp : ps[k]? = some p) (hq : ps[k + 1]? = some q) : lenTo ps (k + 1) = fop .add .f32 (lenTo ps k) (froot (squO p q)) := by
  show fop .add .f32 (lenTo ps k) (froot (squO (ps.getD k []) (ps.getD (k + 1) []))) = _
  rw [List.getD_eq_getElem?_getD, List.getD_eq_getElem?_getD, hp, hq]; rfl

theorem calls_pair {P : Program} {Φ : Syms} {e : Opq} {K : List Kd} (h : OpqOK P Φ e) (h0 : e.ext = 0) (h1 : e.same = false) (ha : e.args = [.agg K, .agg K]) (hr : e.res = .p (.one (.f .f32))) (u1 u2 : Value) (p q : List NV) (w : World) (hp : ShM (.agg K) u1 p) (hq : ShM (.agg K) u2 q) :
    Calls P e.f #[u1, u2] w fun en w' => ∃ v, en = .returned v ∧ (∃ x, v = .float .f32 x ∧ FIs .f32 x (Φ (e.sym * 64 + 0) (canK K p ++ canK K q)).gf) ∧ Stays w w' := by
  have := opq_symR h h0 h1 #[u1, u2] (canK K p ++ canK K q) w (by rw [ha]; exact ⟨_, _, rfl, (ShM_can hp).1, _, [], by simp, (ShM_can hq).1, rfl⟩)
  refine this.mono ?_
  rintro en w' ⟨v', rfl, hm, hs⟩
  rw [hr] at hm
  obtain ⟨n, hn, x, hx, hf⟩ := hm
  cases hn
  exact ⟨v', rfl, ⟨x, hx, hf⟩, hs⟩

theorem c_l07Square (u1 u2 : Value) (p q : List NV) (h1 : ShM (.agg KPt) u1 p) (h2 : ShM (.agg KPt) u2 q) (w : World) : Calls Try.prog 133 #[u1, u2] w fun e w' => ∃ v, e = .returned v ∧ (∃ x, v = .float .f32 x ∧ FIs .f32 x (squO p q)) ∧ Stays w w' :=
  calls_pair oSqu.okS rfl rfl rfl rfl u1 u2 p q w h1 h2
theorem c_squareBetween (u1 u2 : Value) (p q : List NV) (h1 : ShM (.agg KPt) u1 p) (h2 : ShM (.agg KPt) u2 q) (w : World) : Calls Try.prog 78 #[u1, u2] w fun e w' => ∃ v, e = .returned v ∧ (∃ x, v = .float .f32 x ∧ FIs .f32 x (squO p q)) ∧ Stays w w' :=
  calls_pair oSqu.okI rfl rfl rfl rfl u1 u2 p q w h1 h2

/-- What a square and its root may be. -/
def rootS (f1 f2 : FuncId) (A0 : Array Value) (o : Option Nat) (f : FuncId) (args : Array Value) (v : Value) : Prop :=
  (f = f1 → args = A0 → ∃ x, v = .float .f32 x ∧ FIs .f32 x o) ∧ (f = f2 → ∀ y, args = #[.float .f32 y] → FIs .f32 y o → ∃ x, v = .float .f32 x ∧ FIs .f32 x (froot o))

theorem rootS_1 {f1 f2 : FuncId} {A0 : Array Value} {o : Option Nat} (hne : f1 ≠ f2) {v : Value} : rootS f1 f2 A0 o f1 A0 v ↔ ∃ x, v = .float .f32 x ∧ FIs .f32 x o :=
  ⟨fun h => h.1 rfl rfl, fun h => ⟨fun _ _ => h, fun e => absurd e hne⟩⟩
theorem rootS_2 {f1 f2 : FuncId} {A0 : Array Value} {o : Option Nat} (hne : f1 ≠ f2) {y : Nat} (hy : FIs .f32 y o) {v : Value} : rootS f1 f2 A0 o f2 #[.float .f32 y] v ↔ ∃ x, v = .float .f32 x ∧ FIs .f32 x (froot o) :=
  ⟨fun h => h.2 rfl y rfl hy, fun h => ⟨fun e => absurd e.symm hne, fun _ z e hz => h⟩⟩

theorem c_l01RootO (y : Nat) (o : Option Nat) (hy : FIs .f32 y o) (w : World) : Calls Try.prog 134 #[.float .f32 y] w fun e w' => ∃ v, e = .returned v ∧ (∃ x, v = .float .f32 x ∧ FIs .f32 x (froot o)) ∧ Stays w w' := by
  have := c_l01Root y w
  unfold r_root at this
  rw [hy.out] at this
  exact this
theorem c_rootOfO (y : Nat) (o : Option Nat) (hy : FIs .f32 y o) (w : World) : Calls Try.prog 77 #[.float .f32 y] w fun e w' => ∃ v, e = .returned v ∧ (∃ x, v = .float .f32 x ∧ FIs .f32 x (froot o)) ∧ Stays w w' := by
  have := c_rootOf y w
  unfold r_root at this
  rw [hy.out] at this
  exact this

def LenAs (w : World) (o : Option Nat) (code : Int) (e : Ending) (w' : World) : Prop := ∃ x, e = .returned (.tuple #[.float .f32 x, .int .i64 code]) ∧ FIs .f32 x o ∧ Below w.heap.size w w'
noncomputable def lenVal (ps : List (List NV)) : Option Nat := if wayB ps = true then lenTo ps (ps.length - 1) else can .f32 0
noncomputable def lenCode (ps : List (List NV)) : Int := if wayB ps = true then 0 else 2

theorem wayB_pos {xs : List (List NV)} (h : wayB xs = true) : 1 ≤ xs.length ∧ xs.length ≤ 600 := by
  unfold wayB at h
  rw [Bool.and_eq_true] at h
  exact of_decide_eq_true h.2

theorem slice_tail {ad : Addr} {n c : Nat} (h1 : 1 ≤ n) (hc : n ≤ c) : ∃ A', (∀ w, (Instr.slice 43 (.slice (some ad) n c) (some (.int .i64 1)) none none).run Try.prog w = .ok (.slice A' (n - 1) (c - 1)) w) ∧ (1 < n → A' = some (ad.add 2)) := by
  have hsz : ∀ w : World, (sizeOf (Try.prog.elem 43)).run Try.prog w = .ok 2 w := fun w => by kernel_rfl
  have hel : Try.prog.elem 43 = 26 := by kernel_rfl
  refine ⟨if c = 1 then some ad else some (ad.add 2), fun w => ?_, fun h => if_neg (by omega)⟩
  rw [run_slice_l w 43 (some ad) n c (by rw [hel]; exact Try.underlying43) .i64 1 (by decide) (by omega), hsz]
  by_cases h : c = 1
  · subst h; rfl
  · simp [Result.andThen, sliced, h]

end Go.Proofs.Ytejljfejajckoaa

namespace Go.Proofs.Ytejljfejajckoaa
open Go Go.ChangeShapes Go.WideShapes Go.RowKit
set_option linter.unusedVariables false
set_option linter.unusedSimpArgs false

theorem end_gd {P : Program} {fn : Func} {R : Ending → World → Prop} {a : Act} {w : World} {p u : Tmp} {ty t : TypeId} {g : Nat} {cs : Array Value} {d : TypeDesc}
    (h : fn.results = #[.cell p ty, .tmp u]) (hp : a.tmps.getD p undef = .pointer (some ⟨g, 0, none⟩)) (hf : a.defers = [])
    (hu : P.underlying ty = some d) (hd : (match d with | .struct _ | .array _ _ => true | _ => false) = true)
    (hg : w.heap[g]? = some (.cells cs t (0, 0))) (hi : (P.info? ty).map (·.size) = some cs.size) (hR : R (.returned (.tuple #[.agg cs, a.tmps.getD u undef])) w) : bodyPost P fn R .ret a w := by
  refine bodyPost_ret ?_ hf hR
  rw [results_cell_tmp h, hp]
  simp [asAddr, run_loadVar_row w g t ty cs (0, 0) d hg hu hd hi, Result.andThen]

def gx (r : List NV) : Option Nat := (r.getD 0 (.i 0)).gf
def gy (r : List NV) : Option Nat := (r.getD 1 (.i 0)).gf
def sq4 (px py qx qy : Option Nat) : Option Nat := fop .add .f32 (fop .mul .f32 (fop .sub .f32 qx px) (fop .sub .f32 qx px)) (fop .mul .f32 (fop .sub .f32 qy py) (fop .sub .f32 qy py))
theorem sq4_swap (a b c d : Option Nat) : sq4 a b c d = sq4 c d a b := by
  unfold sq4
  rw [sq_swap c a, sq_swap d b]
theorem sq4_pos (a b c d : Option Nat) : PosW (froot (sq4 a b c d)) := pos_root (pos_add (pos_sq _) (pos_sq _))
set_option maxRecDepth 100000 in
theorem squO_eq (a b c d : Option Nat) : squO [.f a, .f b] [.f c, .f d] = sq4 a b c d := by kernel_rfl

def btw (a b q : Option Nat) : Option Nat := fop .add .f32 a (fop .mul .f32 (fop .sub .f32 b a) q)
def dst (p q : List NV) : Option Nat := froot (sq4 (gx p) (gy p) (gx q) (gy q))
/-- The nearest of the first points. -/
def nearK (ax ay : Option Nat) (xs : List (List NV)) : Nat → Nat
  | 0 => 0
  | k + 1 => if ltO (sq4 ax ay (gx (xs.getD k [])) (gy (xs.getD k []))) (sq4 ax ay (gx (xs.getD (nearK ax ay xs k) [])) (gy (xs.getD (nearK ax ay xs k) []))) then k else nearK ax ay xs k
theorem nearK_lt (ax ay : Option Nat) (xs : List (List NV)) (n : Nat) : ∀ k, k ≤ n → 0 < n → nearK ax ay xs k < n
  | 0, _, h => h
  | k + 1, h, h0 => by
    show (if _ then k else nearK ax ay xs k) < n
    split
    · omega
    · exact nearK_lt ax ay xs n k (by omega) h0
theorem nearK_one (ax ay : Option Nat) (xs : List (List NV)) : nearK ax ay xs 1 = 0 := by
  show (if _ then 0 else 0) = 0
  split <;> rfl
theorem nearK_next {ax ay : Option Nat} {xs : List (List NV)} {k n : Nat} {p q : List NV} (hp : xs[k]? = some p) (hn : nearK ax ay xs k = n) (hq : xs[n]? = some q) : nearK ax ay xs (k + 1) = if ltO (sq4 ax ay (gx p) (gy p)) (sq4 ax ay (gx q) (gy q)) then k else n := by
  show (if ltO (sq4 ax ay (gx (xs.getD k [])) (gy (xs.getD k []))) (sq4 ax ay (gx (xs.getD (nearK ax ay xs k) [])) (gy (xs.getD (nearK ax ay xs k) []))) then k else nearK ax ay xs k) = _
  rw [hn, List.getD_eq_getElem?_getD, List.getD_eq_getElem?_getD, hp, hq]; rfl

/-- From a point on, so far ahead. -/
def aheadL (o : Option Nat) : List (List NV) → List NV
  | [] => []
  | [p] => p
  | p :: q :: l => if isZ (dst p q) then aheadL o (q :: l) else if leO o (dst p q) then [.f (btw (gx p) (gx q) (fop .quo .f32 o (dst p q))), .f (btw (gy p) (gy q) (fop .quo .f32 o (dst p q)))] else aheadL (fop .sub .f32 o (dst p q)) (q :: l)
theorem drop_at {α : Type} {xs : List α} {k : Nat} {p : α} (h : xs[k]? = some p) : xs.drop k = p :: xs.drop (k + 1) := by
  obtain ⟨hk, rfl⟩ := List.getElem?_eq_some_iff.1 h
  exact List.drop_eq_getElem_cons hk
theorem ahead_next {o : Option Nat} {xs : List (List NV)} {k : Nat} {p q : List NV} (hp : xs[k]? = some p) (hq : xs[k + 1]? = some q) : aheadL o (xs.drop k) = if isZ (dst p q) then aheadL o (xs.drop (k + 1)) else if leO o (dst p q) then [.f (btw (gx p) (gx q) (fop .quo .f32 o (dst p q))), .f (btw (gy p) (gy q) (fop .quo .f32 o (dst p q)))] else aheadL (fop .sub .f32 o (dst p q)) (xs.drop (k + 1)) := by
  rw [drop_at hp, drop_at hq]
  rfl
theorem ahead_last {o : Option Nat} {xs : List (List NV)} {k : Nat} {p : List NV} (hp : xs[k]? = some p) (hk : xs.length = k + 1) : aheadL o (xs.drop k) = p := by
  rw [drop_at hp, List.drop_eq_nil_of_le (by omega)]
  rfl
noncomputable def aheadX (ax ay o : Option Nat) (xs : List (List NV)) : List NV := aheadL o (xs.drop (nearK ax ay xs xs.length))

/-! ### Calls in regions that draw -/

def sqC (F : FuncId) (f : FuncId) (args : Array Value) (v : Value) : Prop := f = F → ∀ a b c d, args = #[.agg #[.float .f32 a, .float .f32 b], .agg #[.float .f32 c, .float .f32 d]] → ∃ x, v = .float .f32 x ∧ FIs .f32 x (sq4 (can .f32 a) (can .f32 b) (can .f32 c) (can .f32 d))
theorem sqC_iff {F : FuncId} {a b c d : Nat} {v : Value} : sqC F F #[.agg #[.float .f32 a, .float .f32 b], .agg #[.float .f32 c, .float .f32 d]] v ↔ ∃ x, v = .float .f32 x ∧ FIs .f32 x (sq4 (can .f32 a) (can .f32 b) (can .f32 c) (can .f32 d)) :=
  ⟨fun h => h rfl _ _ _ _ rfl, fun h _ a' b' c' d' e => by cases e; exact h⟩
def sqrC (F G : FuncId) (f : FuncId) (args : Array Value) (v : Value) : Prop := sqC F f args v ∧ (f = G → ∀ y, args = #[.float .f32 y] → ∃ x, v = .float .f32 x ∧ FIs .f32 x (froot (can .f32 y)))
theorem sqrC_1 {F G : FuncId} (hne : F ≠ G) {a b c d : Nat} {v : Value} : sqrC F G F #[.agg #[.float .f32 a, .float .f32 b], .agg #[.float .f32 c, .float .f32 d]] v ↔ ∃ x, v = .float .f32 x ∧ FIs .f32 x (sq4 (can .f32 a) (can .f32 b) (can .f32 c) (can .f32 d)) :=
  ⟨fun h => sqC_iff.1 h.1, fun h => ⟨sqC_iff.2 h, fun e => absurd e hne⟩⟩
theorem sqrC_2 {F G : FuncId} (hne : F ≠ G) {y : Nat} {v : Value} : sqrC F G G #[.float .f32 y] v ↔ ∃ x, v = .float .f32 x ∧ FIs .f32 x (froot (can .f32 y)) :=
  ⟨fun h => h.2 rfl y rfl, fun h => ⟨fun e => absurd e.symm hne, fun _ z e => by cases e; exact h⟩⟩
def btC (F : FuncId) (f : FuncId) (args : Array Value) (v : Value) : Prop := f = F → ∀ a b q, args = #[.float .f32 a, .float .f32 b, .float .f32 q] → ∃ x, v = .float .f32 x ∧ FIs .f32 x (btw (can .f32 a) (can .f32 b) (can .f32 q))
theorem btC_iff {F : FuncId} {a b q : Nat} {v : Value} : btC F F #[.float .f32 a, .float .f32 b, .float .f32 q] v ↔ ∃ x, v = .float .f32 x ∧ FIs .f32 x (btw (can .f32 a) (can .f32 b) (can .f32 q)) :=
  ⟨fun h => h rfl _ _ _ rfl, fun h _ a' b' q' e => by cases e; exact h⟩

theorem c_sqE (a b c d : Nat) (ha : a < 2 ^ 32) (hb : b < 2 ^ 32) (hc : c < 2 ^ 32) (hd : d < 2 ^ 32) (w : World) :
    Calls Try.prog 133 #[.agg #[.float .f32 a, .float .f32 b], .agg #[.float .f32 c, .float .f32 d]] w fun e w' => ∃ v, e = .returned v ∧ (∃ x, v = .float .f32 x ∧ FIs .f32 x (sq4 (can .f32 a) (can .f32 b) (can .f32 c) (can .f32 d))) ∧ Stays w w' := by
  have := c_l07Square (.agg #[.float .f32 a, .float .f32 b]) (.agg #[.float .f32 c, .float .f32 d]) [.f (can .f32 a), .f (can .f32 b)] [.f (can .f32 c), .f (can .f32 d)] ⟨_, rfl, ⟨a, rfl, FIs.self ha⟩, ⟨b, rfl, FIs.self hb⟩, trivial⟩ ⟨_, rfl, ⟨c, rfl, FIs.self hc⟩, ⟨d, rfl, FIs.self hd⟩, trivial⟩ w
  rw [squO_eq] at this
  exact this
theorem c_sqI (a b c d : Nat) (ha : a < 2 ^ 32) (hb : b < 2 ^ 32) (hc : c < 2 ^ 32) (hd : d < 2 ^ 32) (w : World) :
    Calls Try.prog 78 #[.agg #[.float .f32 a, .float .f32 b], .agg #[.float .f32 c, .float .f32 d]] w fun e w' => ∃ v, e = .returned v ∧ (∃ x, v = .float .f32 x ∧ FIs .f32 x (sq4 (can .f32 a) (can .f32 b) (can .f32 c) (can .f32 d))) ∧ Stays w w' := by
  have := c_squareBetween (.agg #[.float .f32 a, .float .f32 b]) (.agg #[.float .f32 c, .float .f32 d]) [.f (can .f32 a), .f (can .f32 b)] [.f (can .f32 c), .f (can .f32 d)] ⟨_, rfl, ⟨a, rfl, FIs.self ha⟩, ⟨b, rfl, FIs.self hb⟩, trivial⟩ ⟨_, rfl, ⟨c, rfl, FIs.self hc⟩, ⟨d, rfl, FIs.self hd⟩, trivial⟩ w
  rw [squO_eq] at this
  exact this

theorem lt_of (r q : Nat) : (FloatKind.f32.format.order r q == some Ordering.lt) = ltO (can .f32 r) (can .f32 q) := by rw [order_can]; rfl
theorem le_of (r q : Nat) : (FloatKind.f32.format.order r q == some Ordering.lt || FloatKind.f32.format.order r q == some Ordering.eq) = leO (can .f32 r) (can .f32 q) := by rw [order_can]; rfl
theorem z_of (q : Nat) : (FloatKind.f32.format.order q 0 == some Ordering.eq) = isZ (can .f32 q) := by rw [order_can]; rfl
theorem gz_of (q : Nat) : (FloatKind.f32.format.order q 0 == some Ordering.gt) = gtZ (can .f32 q) := by rw [order_can]; rfl

/-- A point, its words in memory. -/
structure PtAt (W : World) (ad : Addr) (r : List NV) (x y : Nat) : Prop where
  h0 : ∀ W', Stays W W' → W'.cell? ad = some (.float .f32 x)
  h1 : ∀ W', Stays W W' → W'.cell? ⟨ad.block, ad.off + 1, none⟩ = some (.float .f32 y)
  fx : FIs .f32 x (gx r)
  fy : FIs .f32 y (gy r)
theorem pt_at {B : Nat} {W : World} {ad : Addr} {xs : List (List NV)} {k : Nat} {r : List NV} (hB : B ≤ W.heap.size) (h : Ls KPt 2 W B (some ad) xs) (hk : xs[k]? = some r) : ∃ x y, PtAt W (ad.add (k * 2)) r x y := by
  obtain ⟨ad', e, hbl, hrow⟩ := h k r hk
  cases e
  obtain ⟨c0, c1, hK, g0, g1⟩ := row2 rfl hrow
  obtain ⟨x, y, e, hx, hy⟩ := pt_cells hK
  cases e
  have hb : (ad.add (k * 2)).block < W.heap.size := by rw [block_add]; omega
  exact ⟨x, y, fun W' hW => (hW.cell (p := ad.add (k * 2)) hb).trans g0, fun W' hW => (hW.cell (p := ⟨(ad.add (k * 2)).block, (ad.add (k * 2)).off + 1, none⟩) hb).trans g1, hx, hy⟩

/-! ### The document's side -/

def PtIs (w : World) (r : List NV) (e : Ending) (w' : World) : Prop := ∃ x y, e = .returned (.agg #[.float .f32 x, .float .f32 y]) ∧ FIs .f32 x (gx r) ∧ FIs .f32 y (gy r) ∧ Stays w w'

set_option maxRecDepth 100000 in
set_option maxHeartbeats 2000000 in
theorem c_l07Ahead (A : Option Addr) (c : Nat) (xs : List (List NV)) (ax ay o0 : Nat) (w : World) (h : Ls KPt 2 w w.heap.size A xs) (hn : xs.length ≤ 1048576) (hpos : 1 ≤ xs.length) (hax : ax < 2 ^ 32) (hay : ay < 2 ^ 32) (ho : o0 < 2 ^ 32) :
    Calls Try.prog 73 #[.slice A xs.length c, .agg #[.float .f32 ax, .float .f32 ay], .float .f32 o0] w (PtIs w (aheadX (can .f32 ax) (can .f32 ay) (can .f32 o0) xs)) := by
  obtain ⟨ad, rfl, hbl0, _⟩ := h 0 xs[0] (List.getElem?_eq_getElem (by omega))
  have hst : Stays w ((w.alloc (.cells #[.float .f32 ax, .float .f32 ay] 26)).alloc (.cells #[.float .f32 0, .float .f32 0] 26)) := by (repeat (first | exact Stays.refl _ | (with_reducible refine Stays.drewN ?_ _) | (with_reducible refine Stays.alloc ?_ _) | (with_reducible refine Stays.drew ?_) | (refine Stays.trans ?_ ‹Stays _ _›)))
  have u0 : ((w.alloc (.cells #[.float .f32 ax, .float .f32 ay] 26)).alloc (.cells #[.float .f32 0, .float .f32 0] 26)).heap[w.heap.size]? = some (.cells #[.float .f32 ax, .float .f32 ay] 26 (0, 0)) := by (repeat (first | (refine heap_top _ _ _ ?_; simp; done) | (with_reducible refine heap_drawn _ _ _ ?_) | (with_reducible refine heap_under _ _ _ ?_ ?_; (simp <;> omega))))
  have u1 : ((w.alloc (.cells #[.float .f32 ax, .float .f32 ay] 26)).alloc (.cells #[.float .f32 0, .float .f32 0] 26)).heap[w.heap.size + 1]? = some (.cells #[.float .f32 0, .float .f32 0] 26 (0, 0)) := by (repeat (first | (refine heap_top _ _ _ ?_; simp; done) | (with_reducible refine heap_drawn _ _ _ ?_) | (with_reducible refine heap_under _ _ _ ?_ ?_; (simp <;> omega))))
  have HW : Hid (∀ W, Stays ((w.alloc (.cells #[.float .f32 ax, .float .f32 ay] 26)).alloc (.cells #[.float .f32 0, .float .f32 0] 26)) W → (W.cell? ⟨w.heap.size, 0, none⟩ = some (.float .f32 ax) ∧ W.cell? ⟨w.heap.size, 1, none⟩ = some (.float .f32 ay)) ∧ Stays w W ∧ W.heap[w.heap.size + 1]? = some (.cells #[.float .f32 0, .float .f32 0] 26 (0, 0))) := Lib.hid fun W hW => ⟨⟨row_of hW u0 0, row_of hW u0 1⟩, hst.trans hW, (Below.block hW _ (in_heap u1)).trans u1⟩
  have H : Hid (∀ W, Stays ((w.alloc (.cells #[.float .f32 ax, .float .f32 ay] 26)).alloc (.cells #[.float .f32 0, .float .f32 0] 26)) W → ∀ k r, xs[k]? = some r → ∃ x y, PtAt W (ad.add (k * 2)) r x y) := Lib.hid fun W hW k r hk => pt_at (Nat.le_trans hst.size hW.size) (h.below (hst.trans hW)) hk
  have kS := Lib.hid fun a b c d ha hb hc hd W => c_sqE a b c d ha hb hc hd W
  generalize hcx : can .f32 ax = cx
  generalize hcy : can .f32 ay = cy
  generalize hres : aheadX cx cy (can .f32 o0) xs = res
  have hlim := nearK_lt cx cy xs xs.length
  replace hres := Lib.hid hres
  replace hcx := Lib.hid hcx
  replace hcy := Lib.hid hcy
  replace hlim := Lib.hid hlim
  clear u0 u1 h hst hbl0
  go_enter Try.func73, Try.ntmps73
  go_wp2
  generalize ((w.alloc (.cells #[.float .f32 ax, .float .f32 ay] 26)).alloc (.cells #[.float .f32 0, .float .f32 0] 26)) = W0 at HW H ⊢
  go_loopw [7, 8] (fun bv iv wr => ∃ (k n : Nat), 1 ≤ k ∧ k ≤ xs.length ∧ iv = .int .i64 k ∧ bv = .int .i64 n ∧ Hid (nearK cx cy xs k = n) ∧ Hid (Stays W0 wr)) (fun _ iv _ => xs.length - (intOf iv).toNat)
  case atStart => exact ⟨1, 0, Nat.le_refl _, hpos, rfl, rfl, Lib.hid (nearK_one _ _ _), Lib.hid (Stays.refl _)⟩
  case round =>
    obtain ⟨k, n, hk1, hk, rfl, rfl, hnr, hb⟩ := hrel
    have hnl : n < xs.length := by have := hlim.out k hk hpos; rw [hnr.out] at this; exact this
    by_cases hlt : k < xs.length
    · have hlt' : (k : Int) < (xs.length : Int) := by omega
      have hnl' : (n : Int) < (xs.length : Int) := by omega
      have hk9 : IntKind.i64.wrap ((k : Int) + 1) = (k : Int) + 1 := IntWalk.i64_in _ (by omega)
      have nx := nearK_next (List.getElem?_eq_getElem hlt) hnr.out (List.getElem?_eq_getElem hnl)
      obtain ⟨px, py, hp⟩ := H.out wr hb.out k xs[k] (List.getElem?_eq_getElem hlt)
      obtain ⟨qx, qy, hq⟩ := H.out wr hb.out n xs[n] (List.getElem?_eq_getElem hnl)
      generalize xs[k] = p at hp nx
      generalize xs[n] = q at hq nx
      rw [← hp.fx.out, ← hp.fy.out, ← hq.fx.out, ← hq.fy.out, ← hcx.out, ← hcy.out] at nx
      have hcells : ∀ W, Stays wr W → (W.cell? ⟨w.heap.size, 0, none⟩ = some (.float .f32 ax) ∧ W.cell? ⟨w.heap.size, 1, none⟩ = some (.float .f32 ay)) ∧ (W.cell? (ad.add (k * 2)) = some (.float .f32 px) ∧ W.cell? ⟨(ad.add (k * 2)).block, (ad.add (k * 2)).off + 1, none⟩ = some (.float .f32 py)) ∧ (W.cell? (ad.add (n * 2)) = some (.float .f32 qx) ∧ W.cell? ⟨(ad.add (n * 2)).block, (ad.add (n * 2)).off + 1, none⟩ = some (.float .f32 qy)) := fun W hW => ⟨(HW.out W (hb.out.trans hW)).1, ⟨hp.h0 W hW, hp.h1 W hW⟩, ⟨hq.h0 W hW, hq.h1 W hW⟩⟩
      have kP := kS.out ax ay px py hax hay hp.fx.lt hp.fy.lt
      have kQ := kS.out ax ay qx qy hax hay hq.fx.lt hq.fy.lt
      replace kP := Lib.hid kP
      replace kQ := Lib.hid kQ
      replace nx := Lib.hid nx
      clear hp hq hnr
      go_wp2_with fail
      refine wp_region_soft_tail 12 (Stays.refl _) (sqC 133) [] (by kernel_rfl) (by kernel_rfl) (fun _ h => by cases h) ?_
      simp only [List.take_succ_cons, List.take_zero, List.drop_succ_cons, List.drop_zero]
      repeat ((with_reducible apply soft_detG); (case hwa => rfl); (case hA => rfl); (case h => (intro w1 hw1; have hc := hcells w1 hw1; go_simp; exact rfl)); go_simp)
      refine soft_callW (by rfl) rfl ?h (fun w2 _ => kP.out w2) (fun v hv => sqC_iff.2 hv) (fun v hv => sqC_iff.1 hv) ?_
      case h => (intro w1 hw1; have hc := hcells w1 hw1; go_simp; try exact ⟨rfl, rfl⟩)
      rintro v ⟨y, rfl, hy⟩
      go_simp
      repeat ((with_reducible apply soft_detG); (case hwa => rfl); (case hA => rfl); (case h => (intro w1 hw1; have hc := hcells w1 hw1; go_simp; exact rfl)); go_simp)
      refine soft_callW (by rfl) rfl ?h (fun w2 _ => kQ.out w2) (fun v hv => sqC_iff.2 hv) (fun v hv => sqC_iff.1 hv) ?_
      case h => (intro w1 hw1; have hc := hcells w1 hw1; go_simp; try exact ⟨rfl, rfl⟩)
      rintro v ⟨z, rfl, hz⟩
      go_simp
      repeat ((with_reducible apply soft_detG); (case hwa => rfl); (case hA => rfl); (case h => (intro w1 hw1; have hc := hcells w1 hw1; go_simp; exact rfl)); go_simp)
      refine soft_nil ?_
      rintro w2 ⟨hw2, _⟩
      have nx' := nx.out
      rw [← hy.out, ← hz.out, ← lt_of, hcx.out, hcy.out] at nx'
      replace hw2 := Lib.hid (hb.out.trans hw2)
      clear hcells nx
      cases hvl : (FloatKind.f32.format.order y z == some Ordering.lt) with
      | false =>
        rw [hvl, if_neg (by decide)] at nx'
        have nx := Lib.hid nx'
        clear nx' hy hz
        go_wp2
        go_roundw
        case rel => exact ⟨k + 1, n, by omega, by omega, by go_num, rfl, nx, hw2⟩
        case measure => simp [intOf]; omega
      | true =>
        rw [hvl, if_pos rfl] at nx'
        have nx := Lib.hid nx'
        clear nx' hy hz
        go_wp2
        go_roundw
        case rel => exact ⟨k + 1, k, by omega, by omega, by go_num, rfl, nx, hw2⟩
        case measure => simp [intOf]; omega
    · have ek : k = xs.length := by omega
      subst ek
      have hr2 := hres.out
      unfold aheadX at hr2
      rw [hnr.out] at hr2
      replace hr2 := Lib.hid hr2
      have hfo := Lib.hid (FIs.self (k := .f32) ho)
      clear hlt hnr hlim hres hk1 hk
      go_wp2
      go_loopw [2, 9] (fun ov iv wr => ∃ (k x : Nat) (o : Option Nat), k + 1 ≤ xs.length ∧ iv = .int .i64 k ∧ ov = .float .f32 x ∧ Hid (FIs .f32 x o) ∧ Hid (aheadL o (xs.drop k) = res) ∧ Hid (Stays W0 wr)) (fun _ iv _ => xs.length - (intOf iv).toNat)
      case atStart => exact ⟨n, o0, _, hnl, rfl, rfl, hfo, hr2, hb⟩
      case round =>
        obtain ⟨k, x, o, hk, rfl, rfl, hx, hrs, hb2⟩ := hrel
        by_cases hlt : k + 1 < xs.length
        · have hlt' : (k : Int) + 1 < (xs.length : Int) := by omega
          have hlt0 : (k : Int) < (xs.length : Int) := by omega
          have hk9 : IntKind.i64.wrap ((k : Int) + 1) = (k : Int) + 1 := IntWalk.i64_in _ (by omega)
          have hk8 : ((k : Int) + 1).toNat = k + 1 := by omega
          have nx := ahead_next (o := o) (List.getElem?_eq_getElem (show k < xs.length by omega)) (List.getElem?_eq_getElem hlt)
          rw [hrs.out] at nx
          obtain ⟨px, py, hp⟩ := H.out wr hb2.out k (xs[k]'(by omega)) (List.getElem?_eq_getElem (by omega))
          obtain ⟨qx, qy, hq⟩ := H.out wr hb2.out (k + 1) xs[k + 1] (List.getElem?_eq_getElem hlt)
          generalize xs[k]'(by omega) = p at hp nx
          generalize xs[k + 1] = q at hq nx
          have hd : dst p q = froot (sq4 (can .f32 px) (can .f32 py) (can .f32 qx) (can .f32 qy)) := by
            unfold dst
            rw [hp.fx.out, hp.fy.out, hq.fx.out, hq.fy.out]
          rw [hd, ← hp.fx.out, ← hp.fy.out, ← hq.fx.out, ← hq.fy.out] at nx
          have hcells : ∀ W, Stays wr W → (W.cell? (ad.add (k * 2)) = some (.float .f32 px) ∧ W.cell? ⟨(ad.add (k * 2)).block, (ad.add (k * 2)).off + 1, none⟩ = some (.float .f32 py)) ∧ (W.cell? (ad.add ((k + 1) * 2)) = some (.float .f32 qx) ∧ W.cell? ⟨(ad.add ((k + 1) * 2)).block, (ad.add ((k + 1) * 2)).off + 1, none⟩ = some (.float .f32 qy)) := fun W hW => ⟨⟨hp.h0 W hW, hp.h1 W hW⟩, ⟨hq.h0 W hW, hq.h1 W hW⟩⟩
          have kP := kS.out px py qx qy hp.fx.lt hp.fy.lt hq.fx.lt hq.fy.lt
          replace kP := Lib.hid kP
          replace nx := Lib.hid nx
          have hcl := Lib.hid hcells
          clear hp hq hd
          go_wp2_with fail
          refine wp_region_soft_tail 11 (Stays.refl _) (sqrC 133 134) [] (by kernel_rfl) (by kernel_rfl) (fun _ h => by cases h) ?_
          simp only [List.take_succ_cons, List.take_zero, List.drop_succ_cons, List.drop_zero]
          repeat ((with_reducible apply soft_detG); (case hwa => rfl); (case hA => rfl); (case h => (intro w1 hw1; have hc := hcells w1 hw1; go_simp; exact rfl)); go_simp)
          refine soft_callW (by rfl) rfl ?h (fun w2 _ => kP.out w2) (fun v hv => (sqrC_1 (by decide)).2 hv) (fun v hv => (sqrC_1 (by decide)).1 hv) ?_
          case h => (intro w1 hw1; have hc := hcells w1 hw1; go_simp; try exact ⟨rfl, rfl⟩)
          rintro v ⟨y, rfl, hy⟩
          go_simp
          repeat ((with_reducible apply soft_detG); (case hwa => rfl); (case hA => rfl); (case h => (intro w1 hw1; have hc := hcells w1 hw1; go_simp; exact rfl)); go_simp)
          refine soft_callW (by rfl) rfl ?h (fun w2 _ => c_l01RootO y _ (FIs.self hy.lt) w2) (fun v hv => (sqrC_2 (by decide)).2 hv) (fun v hv => (sqrC_2 (by decide)).1 hv) ?_
          case h => (intro w1 hw1; go_simp; try exact ⟨rfl, rfl⟩)
          rintro v ⟨z, rfl, hz⟩
          go_simp
          repeat ((with_reducible apply soft_detG); (case hwa => rfl); (case hA => rfl); (case h => (intro w1 hw1; have hc := hcells w1 hw1; go_simp; exact rfl)); go_simp)
          refine soft_nil ?_
          rintro w2 ⟨hw2, _⟩
          have nx' := nx.out
          have hz' := Lib.hid hz
          rw [← hy.out, ← hz.out] at nx'
          clear hcells nx
          have hcells2 := Lib.hid fun W (hW : Stays w2 W) => hcl.out W (hw2.trans hW)
          replace hw2 := Lib.hid (hb2.out.trans hw2)
          clear hcl
          cases hvz : (FloatKind.f32.format.order z 0 == some Ordering.eq) with
          | true =>
            rw [← z_of, hvz, if_pos rfl] at nx'
            have nx := Lib.hid nx'.symm
            clear nx' hy hz hcells2
            go_wp2
            go_roundw
            case rel => exact ⟨k + 1, x, o, by omega, by go_num, rfl, hx, nx, hw2⟩
            case measure => simp [intOf]; omega
          | false =>
            rw [← z_of, hvz, if_neg (by decide), ← hx.out.out, ← le_of] at nx'
            cases hvl : (FloatKind.f32.format.order x z == some Ordering.lt || FloatKind.f32.format.order x z == some Ordering.eq) with
            | false =>
              rw [hvl, if_neg (by decide)] at nx'
              have nx := Lib.hid nx'.symm
              clear nx' hy hz hcells2
              go_wp2_with ((with_reducible refine wpList_fop rfl _ _ _ _ _ rfl rfl _ _ _ rfl rfl ?_); intro r n hr)
              have hr' := Lib.hid hr
              clear hr
              go_roundw
              case rel => exact ⟨k + 1, r, _, by omega, by go_num, rfl, hr', nx, Lib.hid (hw2.out.drewN _)⟩
              case measure => simp [intOf]; omega
            | true =>
              rw [hvl, if_pos rfl] at nx'
              have nx := Lib.hid nx'
              clear nx' hy hz
              go_wp2_with ((with_reducible refine wpList_fop rfl _ _ _ _ _ rfl rfl _ _ _ rfl rfl ?_); intro r n hr)
              have hq' := Lib.hid hr
              clear hr
              have hw2d := Lib.hid (hw2.out.drewN n)
              have hcl := Lib.hid fun W (hW : Stays (w2.drewN n) W) => hcells2.out W (((Stays.refl w2).drewN n).trans hW)
              clear hcells2 hw2
              generalize (w2.drewN n) = w3 at hw2d hcl ⊢
              have hcells := hcl.out
              refine wp_region_soft_tail 20 (Stays.refl _) (fun _ _ _ => False) [] (by kernel_rfl) (by kernel_rfl) (fun _ h => by cases h) ?_
              simp only [List.take_succ_cons, List.take_zero, List.drop_succ_cons, List.drop_zero]
              repeat ((with_reducible apply soft_detG); (case hwa => rfl); (case hA => rfl); (case h => (intro w1 hw1; have hc := hcells w1 hw1; go_simp; exact rfl)); go_simp)
              ((with_reducible refine soft_fop rfl ?hA _ _ _ _ _ rfl rfl _ _ _ rfl rfl ?_); (case hA => rfl); intro r1 hr1; go_simp)
              repeat ((with_reducible apply soft_detG); (case hwa => rfl); (case hA => rfl); (case h => (intro w1 hw1; have hc := hcells w1 hw1; go_simp; exact rfl)); go_simp)
              ((with_reducible refine soft_fop rfl ?hA _ _ _ _ _ rfl rfl _ _ _ rfl rfl ?_); (case hA => rfl); intro r2 hr2; go_simp)
              repeat ((with_reducible apply soft_detG); (case hwa => rfl); (case hA => rfl); (case h => (intro w1 hw1; have hc := hcells w1 hw1; go_simp; exact rfl)); go_simp)
              ((with_reducible refine soft_fop rfl ?hA _ _ _ _ _ rfl rfl _ _ _ rfl rfl ?_); (case hA => rfl); intro r3 hr3; go_simp)
              repeat ((with_reducible apply soft_detG); (case hwa => rfl); (case hA => rfl); (case h => (intro w1 hw1; have hc := hcells w1 hw1; go_simp; exact rfl)); go_simp)
              refine soft_nil ?_
              rintro w4 ⟨hw4, _⟩
              have hX := Lib.hid (show FIs .f32 r3 (gx res) from hr3.of_eq (by rw [nx.out]; show _ = btw _ _ _; unfold btw; rw [hr2.out, hr1.out, hq'.out.out]))
              clear hr1 hr2 hr3 hcells
              have hcells := fun W (hW : Stays w4 W) => hcl.out W (hw4.trans hW)
              replace hw4 := Lib.hid (hw2d.out.trans hw4)
              clear hcl
              go_wp2_with fail
              refine wp_region_soft_tail 20 (Stays.refl _) (fun _ _ _ => False) [] (by kernel_rfl) (by kernel_rfl) (fun _ h => by cases h) ?_
              simp only [List.take_succ_cons, List.take_zero, List.drop_succ_cons, List.drop_zero]
              repeat ((with_reducible apply soft_detG); (case hwa => rfl); (case hA => rfl); (case h => (intro w1 hw1; have hc := hcells w1 hw1; go_simp; exact rfl)); go_simp)
              ((with_reducible refine soft_fop rfl ?hA _ _ _ _ _ rfl rfl _ _ _ rfl rfl ?_); (case hA => rfl); intro r4 hr4; go_simp)
              repeat ((with_reducible apply soft_detG); (case hwa => rfl); (case hA => rfl); (case h => (intro w1 hw1; have hc := hcells w1 hw1; go_simp; exact rfl)); go_simp)
              ((with_reducible refine soft_fop rfl ?hA _ _ _ _ _ rfl rfl _ _ _ rfl rfl ?_); (case hA => rfl); intro r5 hr5; go_simp)
              repeat ((with_reducible apply soft_detG); (case hwa => rfl); (case hA => rfl); (case h => (intro w1 hw1; have hc := hcells w1 hw1; go_simp; exact rfl)); go_simp)
              ((with_reducible refine soft_fop rfl ?hA _ _ _ _ _ rfl rfl _ _ _ rfl rfl ?_); (case hA => rfl); intro r6 hr6; go_simp)
              repeat ((with_reducible apply soft_detG); (case hwa => rfl); (case hA => rfl); (case h => (intro w1 hw1; have hc := hcells w1 hw1; go_simp; exact rfl)); go_simp)
              refine soft_nil ?_
              rintro w5 ⟨hw5, _⟩
              have hY := Lib.hid (show FIs .f32 r6 (gy res) from hr6.of_eq (by rw [nx.out]; show _ = btw _ _ _; unfold btw; rw [hr5.out, hr4.out, hq'.out.out]))
              clear hr4 hr5 hr6 hcells
              obtain ⟨_, hst, hres⟩ := HW.out w5 (hw4.out.trans hw5)
              clear hw5
              go_wp2_with ((refine wpList_store_row rfl _ _ _ rfl _ _ _ rfl rfl hres ?hi ?ho ?h1 ?hB hst ?_); (case hi => kernel_rfl); (case ho => rfl); (case h1 => first | rfl | simp [Value.oneCell']); (case hB => first | omega | (simp <;> omega)); intro w2 hw2 hq2 _ _)
              apply end_agg rfl rfl rfl Try.underlying26 rfl (t := 26)
              case hg => exact hq2
              case hi => kernel_rfl
              case hR => exact ⟨_, _, rfl, hX.out, hY.out, hw2⟩
        · have ek : xs.length = k + 1 := by omega
          have ek' : (k : Int) + 1 = (xs.length : Int) := by omega
          have hlt0 : (k : Int) < (xs.length : Int) := by omega
          have hlt1 : ¬ (k : Int) + 1 < (xs.length : Int) := by omega
          have hk9 : IntKind.i64.wrap ((k : Int) + 1) = (k : Int) + 1 := IntWalk.i64_in _ (by omega)
          have hk8 : IntKind.i64.wrap ((xs.length : Int) - 1) = (k : Int) := by rw [IntWalk.i64_in _ (by omega)]; omega
          have nx := ahead_last (o := o) (List.getElem?_eq_getElem (show k < xs.length by omega)) ek
          rw [hrs.out] at nx
          obtain ⟨px, py, hp⟩ := H.out wr hb2.out k (xs[k]'(by omega)) (List.getElem?_eq_getElem (by omega))
          rw [← nx] at hp
          have hX := Lib.hid hp.fx
          have hY := Lib.hid hp.fy
          have p0 := hp.h0 wr (Stays.refl _)
          have p1 := hp.h1 wr (Stays.refl _)
          obtain ⟨_, hst, hres⟩ := HW.out wr hb2.out
          replace ek := Lib.hid ek
          clear nx hp ek'
          go_wp2_with ((refine wpList_store_row rfl _ _ _ rfl _ _ _ rfl rfl hres ?hi ?ho ?h1 ?hB hst ?_); (case hi => kernel_rfl); (case ho => rfl); (case h1 => first | rfl | simp [Value.oneCell']); (case hB => first | omega | (simp <;> omega)); intro w2 hw2 hq2 _ _)
          apply end_agg rfl rfl rfl Try.underlying26 rfl (t := 26)
          case hg => exact hq2
          case hi => kernel_rfl
          case hR => exact ⟨_, _, rfl, hX.out, hY.out, hw2⟩

end Go.Proofs.Ytejljfejajckoaa

namespace Go.Proofs.Ytejljfejajckoaa
open Go Go.ChangeShapes Go.WideShapes Go.RowKit
set_option linter.unusedVariables false
set_option linter.unusedSimpArgs false

theorem ge_of (q : Nat) : (FloatKind.f32.format.order q 0 == some Ordering.gt || FloatKind.f32.format.order q 0 == some Ordering.eq) = (gtZ (can .f32 q) || isZ (can .f32 q)) := by rw [order_can]; rfl
def amtB (o : Option Nat) : Bool := finB o && (gtZ o || isZ o)
noncomputable def folB (ax ay o : Option Nat) (xs : List (List NV)) : Bool := (wayB xs && (finB ax && finB ay)) && amtB o
def zeroR : List NV := [.f (can .f32 0), .f (can .f32 0)]
noncomputable def ahC (ax ay o : Option Nat) (xs : List (List NV)) : Int := if folB ax ay o xs then 0 else 2
noncomputable def ahX (ax ay o : Option Nat) (xs : List (List NV)) : List NV := if folB ax ay o xs then aheadX ax ay o xs else zeroR
def AhDone (w : World) (code : Int) (r : List NV) (e : Ending) (w' : World) : Prop := ∃ x y, e = .returned (.tuple #[.agg #[.float .f32 x, .float .f32 y], .int .i64 code]) ∧ FIs .f32 x (gx r) ∧ FIs .f32 y (gy r) ∧ Stays w w'
theorem zero_fis : FIs .f32 0 (gx zeroR) ∧ FIs .f32 0 (gy zeroR) := ⟨FIs.self (by decide), FIs.self (by decide)⟩

set_option maxRecDepth 100000 in
set_option maxHeartbeats 2000000 in
theorem c_l07Follows (A : Option Addr) (c : Nat) (xs : List (List NV)) (ax ay o : Nat) (w : World) (h : Ls KPt 2 w w.heap.size A xs) (hn : xs.length ≤ 1048576) :
    Calls Try.prog 72 #[.slice A xs.length c, .agg #[.float .f32 ax, .float .f32 ay], .float .f32 o] w fun e w' => e = .returned (.bool (folB (can .f32 ax) (can .f32 ay) (can .f32 o) xs)) ∧ Stays w w' := by
  have u0 := heap_alloc_new w (.cells #[.float .f32 ax, .float .f32 ay] 26)
  have hst : Stays w (w.alloc (.cells #[.float .f32 ax, .float .f32 ay] 26)) := by (repeat (first | exact Stays.refl _ | (with_reducible refine Stays.drewN ?_ _) | (with_reducible refine Stays.alloc ?_ _) | (with_reducible refine Stays.drew ?_) | (refine Stays.trans ?_ ‹Stays _ _›)))
  have HC := Lib.hid fun W (h : Stays (w.alloc (.cells #[.float .f32 ax, .float .f32 ay] 26)) W) => (show W.cell? ⟨w.heap.size, 0, none⟩ = some (.float .f32 ax) ∧ W.cell? ⟨w.heap.size, 1, none⟩ = some (.float .f32 ay) from ⟨row_of h u0 0, row_of h u0 1⟩)
  have kW := c_l07Way A c xs (w.alloc (.cells #[.float .f32 ax, .float .f32 ay] 26)) ((h.below hst).more hst.size) hn
  have k0 := fun W => c_l01Finite ax W
  have k1 := fun W => c_l01Finite ay W
  have k2 := fun W => c_l01Finite o W
  have hge := ge_of o
  unfold folB amtB
  replace hst := Lib.hid hst
  generalize wayB xs = q0 at kW ⊢
  generalize finB (can .f32 ax) = q1 at k0 ⊢
  generalize finB (can .f32 ay) = q2 at k1 ⊢
  generalize finB (can .f32 o) = q3 at k2 ⊢
  replace kW := Lib.hid kW
  replace k0 := Lib.hid k0
  replace k1 := Lib.hid k1
  replace k2 := Lib.hid k2
  clear u0 h
  cases q0 with
  | false =>
    go_enter Try.func72, Try.ntmps72
    go_wp2_with fail
    refine kW.out.mono ?_
    rintro e w1 ⟨rfl, hb⟩
    replace hb := Lib.hid (show Stays (w.alloc (.cells #[.float .f32 ax, .float .f32 ay] 26)) w1 from hb)
    go_wp2
    go_ret
    exact ⟨by simp [hge], hst.out.trans hb.out⟩
  | true =>
    cases q1 with
    | false =>
      go_enter Try.func72, Try.ntmps72
      go_wp2_with fail
      refine kW.out.mono ?_
      rintro e w1 ⟨rfl, hb⟩
      replace hb := Lib.hid (show Stays (w.alloc (.cells #[.float .f32 ax, .float .f32 ay] 26)) w1 from hb)
      obtain ⟨d0, d1⟩ := HC.out _ hb.out
      go_wp2_with fail
      refine (k0.out _).mono ?_
      rintro e w2 ⟨rfl, hb2⟩
      replace hb2 := Lib.hid (hb.out.trans hb2)
      clear d0 d1
      obtain ⟨d0, d1⟩ := HC.out _ hb2.out
      go_wp2
      go_ret
      exact ⟨by simp [hge], hst.out.trans hb2.out⟩
    | true =>
      cases q2 with
      | false =>
        go_enter Try.func72, Try.ntmps72
        go_wp2_with fail
        refine kW.out.mono ?_
        rintro e w1 ⟨rfl, hb⟩
        replace hb := Lib.hid (show Stays (w.alloc (.cells #[.float .f32 ax, .float .f32 ay] 26)) w1 from hb)
        obtain ⟨d0, d1⟩ := HC.out _ hb.out
        go_wp2_with fail
        refine (k0.out _).mono ?_
        rintro e w2 ⟨rfl, hb2⟩
        replace hb2 := Lib.hid (hb.out.trans hb2)
        clear d0 d1
        obtain ⟨d0, d1⟩ := HC.out _ hb2.out
        go_wp2_with fail
        refine (k1.out _).mono ?_
        rintro e w3 ⟨rfl, hb3⟩
        replace hb3 := Lib.hid (hb2.out.trans hb3)
        go_wp2
        go_ret
        exact ⟨by simp [hge], hst.out.trans hb3.out⟩
      | true =>
        cases q3 with
        | false =>
          go_enter Try.func72, Try.ntmps72
          go_wp2_with fail
          refine kW.out.mono ?_
          rintro e w1 ⟨rfl, hb⟩
          replace hb := Lib.hid (show Stays (w.alloc (.cells #[.float .f32 ax, .float .f32 ay] 26)) w1 from hb)
          obtain ⟨d0, d1⟩ := HC.out _ hb.out
          go_wp2_with fail
          refine (k0.out _).mono ?_
          rintro e w2 ⟨rfl, hb2⟩
          replace hb2 := Lib.hid (hb.out.trans hb2)
          clear d0 d1
          obtain ⟨d0, d1⟩ := HC.out _ hb2.out
          go_wp2_with fail
          refine (k1.out _).mono ?_
          rintro e w3 ⟨rfl, hb3⟩
          replace hb3 := Lib.hid (hb2.out.trans hb3)
          go_wp2_with fail
          refine (k2.out _).mono ?_
          rintro e w4 ⟨rfl, hb4⟩
          replace hb4 := Lib.hid (hb3.out.trans hb4)
          go_wp2
          go_ret
          exact ⟨by simp [hge], hst.out.trans hb4.out⟩
        | true =>
          go_enter Try.func72, Try.ntmps72
          go_wp2_with fail
          refine kW.out.mono ?_
          rintro e w1 ⟨rfl, hb⟩
          replace hb := Lib.hid (show Stays (w.alloc (.cells #[.float .f32 ax, .float .f32 ay] 26)) w1 from hb)
          obtain ⟨d0, d1⟩ := HC.out _ hb.out
          go_wp2_with fail
          refine (k0.out _).mono ?_
          rintro e w2 ⟨rfl, hb2⟩
          replace hb2 := Lib.hid (hb.out.trans hb2)
          clear d0 d1
          obtain ⟨d0, d1⟩ := HC.out _ hb2.out
          go_wp2_with fail
          refine (k1.out _).mono ?_
          rintro e w3 ⟨rfl, hb3⟩
          replace hb3 := Lib.hid (hb2.out.trans hb3)
          go_wp2_with fail
          refine (k2.out _).mono ?_
          rintro e w4 ⟨rfl, hb4⟩
          replace hb4 := Lib.hid (hb3.out.trans hb4)
          go_wp2
          go_ret
          exact ⟨by simp [hge], hst.out.trans hb4.out⟩

set_option maxRecDepth 100000 in
set_option maxHeartbeats 2000000 in
theorem c_specAhead (A : Option Addr) (c : Nat) (xs : List (List NV)) (ax ay o : Nat) (w : World) (h : Ls KPt 2 w w.heap.size A xs) (hn : xs.length ≤ 1048576) (hax : ax < 2 ^ 32) (hay : ay < 2 ^ 32) (ho : o < 2 ^ 32) :
    Calls Try.prog 21 #[.slice A xs.length c, .agg #[.float .f32 ax, .float .f32 ay], .float .f32 o] w (AhDone w (ahC (can .f32 ax) (can .f32 ay) (can .f32 o) xs) (ahX (can .f32 ax) (can .f32 ay) (can .f32 o) xs)) := by
  have hst : Stays w ((w.alloc (.cells #[.float .f32 ax, .float .f32 ay] 26)).alloc (.cells #[.float .f32 0, .float .f32 0] 26)) := by (repeat (first | exact Stays.refl _ | (with_reducible refine Stays.drewN ?_ _) | (with_reducible refine Stays.alloc ?_ _) | (with_reducible refine Stays.drew ?_) | (refine Stays.trans ?_ ‹Stays _ _›)))
  have u0 : ((w.alloc (.cells #[.float .f32 ax, .float .f32 ay] 26)).alloc (.cells #[.float .f32 0, .float .f32 0] 26)).heap[w.heap.size]? = some (.cells #[.float .f32 ax, .float .f32 ay] 26 (0, 0)) := by (repeat (first | (refine heap_top _ _ _ ?_; simp; done) | (with_reducible refine heap_drawn _ _ _ ?_) | (with_reducible refine heap_under _ _ _ ?_ ?_; (simp <;> omega))))
  have u1 : ((w.alloc (.cells #[.float .f32 ax, .float .f32 ay] 26)).alloc (.cells #[.float .f32 0, .float .f32 0] 26)).heap[w.heap.size + 1]? = some (.cells #[.float .f32 0, .float .f32 0] 26 (0, 0)) := by (repeat (first | (refine heap_top _ _ _ ?_; simp; done) | (with_reducible refine heap_drawn _ _ _ ?_) | (with_reducible refine heap_under _ _ _ ?_ ?_; (simp <;> omega))))
  have HW : Hid (∀ W, Stays ((w.alloc (.cells #[.float .f32 ax, .float .f32 ay] 26)).alloc (.cells #[.float .f32 0, .float .f32 0] 26)) W → (W.cell? ⟨w.heap.size, 0, none⟩ = some (.float .f32 ax) ∧ W.cell? ⟨w.heap.size, 1, none⟩ = some (.float .f32 ay)) ∧ Stays w W ∧ W.heap[w.heap.size + 1]? = some (.cells #[.float .f32 0, .float .f32 0] 26 (0, 0))) := Lib.hid fun W hW => ⟨⟨row_of hW u0 0, row_of hW u0 1⟩, hst.trans hW, (Below.block hW _ (in_heap u1)).trans u1⟩
  have hL := fun W (hW : Stays ((w.alloc (.cells #[.float .f32 ax, .float .f32 ay] 26)).alloc (.cells #[.float .f32 0, .float .f32 0] 26)) W) => (h.below (hst.trans hW)).more (hst.trans hW).size
  have kF := fun W (hW : Stays ((w.alloc (.cells #[.float .f32 ax, .float .f32 ay] 26)).alloc (.cells #[.float .f32 0, .float .f32 0] 26)) W) => c_l07Follows A c xs ax ay o W (hL W hW) hn
  have kA := fun hp W (hW : Stays ((w.alloc (.cells #[.float .f32 ax, .float .f32 ay] 26)).alloc (.cells #[.float .f32 0, .float .f32 0] 26)) W) => c_l07Ahead A c xs ax ay o W (hL W hW) hn hp hax hay ho
  have hpos : folB (can .f32 ax) (can .f32 ay) (can .f32 o) xs = true → 1 ≤ xs.length := fun e => by
    unfold folB at e
    rw [Bool.and_eq_true, Bool.and_eq_true] at e
    exact (wayB_pos e.1.1).1
  unfold ahC ahX
  clear u0 u1 h hst hL
  generalize hrz : aheadX (can .f32 ax) (can .f32 ay) (can .f32 o) xs = res at kA
  clear hrz
  cases hf : folB (can .f32 ax) (can .f32 ay) (can .f32 o) xs with
  | false =>
    rw [hf] at kF
    replace kF := Lib.hid kF
    rw [if_neg (by decide), if_neg (by decide)]
    clear hf hpos kA
    go_enter Try.func21, Try.ntmps21
    obtain ⟨⟨d0, d1⟩, _⟩ := HW.out _ (Stays.refl _)
    go_wp2_with fail
    refine (kF.out _ (Stays.refl _)).mono ?_
    rintro e w1 ⟨rfl, hb⟩
    obtain ⟨_, hst, hres⟩ := HW.out _ hb
    go_wp2_with ((refine wpList_store_row rfl _ _ _ rfl _ _ _ rfl rfl hres ?hi ?ho ?h1 ?hB hst ?_); (case hi => kernel_rfl); (case ho => rfl); (case h1 => first | rfl | simp [Value.oneCell']); (case hB => first | omega | (simp <;> omega)); intro w2 hw2 hq2 _ _)
    apply end_gd rfl rfl rfl Try.underlying26 rfl (t := 26)
    case hg => exact hq2
    case hi => kernel_rfl
    case hR => exact ⟨_, _, rfl, zero_fis.1, zero_fis.2, hw2⟩
  | true =>
    rw [hf] at kF
    replace kF := Lib.hid kF
    replace kA := Lib.hid (kA (hpos hf))
    rw [if_pos rfl, if_pos rfl]
    clear hf hpos
    go_enter Try.func21, Try.ntmps21
    obtain ⟨⟨d0, d1⟩, _⟩ := HW.out _ (Stays.refl _)
    go_wp2_with fail
    refine (kF.out _ (Stays.refl _)).mono ?_
    rintro e w1 ⟨rfl, hb⟩
    replace hb := Lib.hid hb
    clear d0 d1
    obtain ⟨⟨d0, d1⟩, _⟩ := HW.out _ hb.out
    go_wp2_with fail
    refine (kA.out _ hb.out).mono ?_
    rintro e w2 ⟨x, y, rfl, hx, hy, hb2⟩
    obtain ⟨_, hst, hres⟩ := HW.out _ (hb.out.trans hb2)
    replace hx := Lib.hid hx
    replace hy := Lib.hid hy
    clear hb2
    go_wp2_with ((refine wpList_store_row rfl _ _ _ rfl _ _ _ rfl rfl hres ?hi ?ho ?h1 ?hB hst ?_); (case hi => kernel_rfl); (case ho => rfl); (case h1 => first | rfl | simp [Value.oneCell']); (case hB => first | omega | (simp <;> omega)); intro w2 hw2 hq2 _ _)
    apply end_gd rfl rfl rfl Try.underlying26 rfl (t := 26)
    case hg => exact hq2
    case hi => kernel_rfl
    case hR => exact ⟨_, _, rfl, hx.out, hy.out, hw2⟩

/-! ### The program's side -/

set_option maxRecDepth 100000 in
theorem c_between (a b q : Nat) (w : World) :
    Calls Try.prog 79 #[.float .f32 a, .float .f32 b, .float .f32 q] w fun e w' => ∃ v, e = .returned v ∧ (∃ x, v = .float .f32 x ∧ FIs .f32 x (btw (can .f32 a) (can .f32 b) (can .f32 q))) ∧ Stays w w' := by
  go_enter Try.func79, Try.ntmps79
  go_wp2_with (first
    | ((with_reducible refine wpList_fop rfl _ _ _ _ _ rfl rfl _ _ _ rfl rfl ?_); intro r n hr; have hs := Lib.hid hr; clear hr))
  go_ret
  rename_i r1 n1 h1 r2 n2 h2
  refine ⟨_, rfl, ⟨_, rfl, ?_⟩, ?_⟩
  · exact hs.out.of_eq (by unfold btw; rw [h2.out.out, h1.out.out])
  · (repeat (first | exact Stays.refl _ | (with_reducible refine Stays.drewN ?_ _) | (with_reducible refine Stays.alloc ?_ _) | (with_reducible refine Stays.drew ?_) | (refine Stays.trans ?_ ‹Stays _ _›)))

set_option maxRecDepth 100000 in
theorem c_isAmount (a : Nat) (w : World) :
    Calls Try.prog 75 #[.float .f32 a] w fun e w' => e = .returned (.bool (amtB (can .f32 a))) ∧ Stays w w' := by
  have k0 := fun W => c_isFinite a W
  have hge := ge_of a
  unfold amtB
  generalize finB (can .f32 a) = q at k0 ⊢
  replace k0 := Lib.hid k0
  cases q
  all_goals
    go_enter Try.func75, Try.ntmps75
    go_wp2_with fail
    refine (k0.out _).mono ?_
    rintro e w1 ⟨rfl, hb⟩
    go_wp2
    go_ret
    exact ⟨by simp [hge], hb⟩

set_option maxRecDepth 100000 in
set_option maxHeartbeats 2000000 in
theorem c_nearestPoint (A : Option Addr) (c : Nat) (xs : List (List NV)) (ax ay : Nat) (w : World) (h : Ls KPt 2 w w.heap.size A xs) (hn : xs.length ≤ 1048576) (hpos : 1 ≤ xs.length) (hax : ax < 2 ^ 32) (hay : ay < 2 ^ 32) :
    Calls Try.prog 76 #[.slice A xs.length c, .agg #[.float .f32 ax, .float .f32 ay]] w fun e w' => e = .returned (.int .i64 (nearK (can .f32 ax) (can .f32 ay) xs xs.length : Nat)) ∧ Stays w w' := by
  obtain ⟨ad, rfl, hbl0, _⟩ := h 0 xs[0] (List.getElem?_eq_getElem (by omega))
  have hst : Stays w (w.alloc (.cells #[.float .f32 ax, .float .f32 ay] 26)) := by (repeat (first | exact Stays.refl _ | (with_reducible refine Stays.drewN ?_ _) | (with_reducible refine Stays.alloc ?_ _) | (with_reducible refine Stays.drew ?_) | (refine Stays.trans ?_ ‹Stays _ _›)))
  have u0 : (w.alloc (.cells #[.float .f32 ax, .float .f32 ay] 26)).heap[w.heap.size]? = some (.cells #[.float .f32 ax, .float .f32 ay] 26 (0, 0)) := by (repeat (first | (refine heap_top _ _ _ ?_; simp; done) | (with_reducible refine heap_drawn _ _ _ ?_) | (with_reducible refine heap_under _ _ _ ?_ ?_; (simp <;> omega))))
  have HW : Hid (∀ W, Stays (w.alloc (.cells #[.float .f32 ax, .float .f32 ay] 26)) W → (W.cell? ⟨w.heap.size, 0, none⟩ = some (.float .f32 ax) ∧ W.cell? ⟨w.heap.size, 1, none⟩ = some (.float .f32 ay)) ∧ Stays w W) := Lib.hid fun W hW => ⟨⟨row_of hW u0 0, row_of hW u0 1⟩, hst.trans hW⟩
  have H : Hid (∀ W, Stays (w.alloc (.cells #[.float .f32 ax, .float .f32 ay] 26)) W → ∀ k r, xs[k]? = some r → ∃ x y, PtAt W (ad.add (k * 2)) r x y) := Lib.hid fun W hW k r hk => pt_at (Nat.le_trans hst.size hW.size) (h.below (hst.trans hW)) hk
  have kS := Lib.hid fun a b c d ha hb hc hd W => c_sqI a b c d ha hb hc hd W
  have hlim := nearK_lt (can .f32 ax) (can .f32 ay) xs xs.length
  replace hlim := Lib.hid hlim
  have hn0 : Hid (nearK (can .f32 ax) (can .f32 ay) xs 0 = 0) := Lib.hid rfl
  clear u0 h hst hbl0
  have hlt0 : (0 : Int) < (xs.length : Int) := by omega
  have hlt0N : 0 < xs.length := by omega
  go_enter Try.func76, Try.ntmps76
  go_wp2_with fail
  generalize (w.alloc (.cells #[.float .f32 ax, .float .f32 ay] 26)) = W0 at HW H ⊢
  have hg0 := List.getElem?_eq_getElem (show 0 < xs.length by omega)
  obtain ⟨px, py, hp⟩ := H.out W0 (Stays.refl _) 0 _ hg0
  have hrow : Hid (∀ x, FIs .f32 x (sq4 (can .f32 px) (can .f32 py) (can .f32 ax) (can .f32 ay)) → ∃ q, xs[0]? = some q ∧ FIs .f32 x (sq4 (can .f32 ax) (can .f32 ay) (gx q) (gy q))) := Lib.hid fun x hx => ⟨_, hg0, by rw [sq4_swap] at hx; rw [← hp.fx.out, ← hp.fy.out]; exact hx⟩
  have e0 : ad.add (0 * 2) = ad := rfl
  rw [e0] at hp
  have hcells : ∀ W, Stays W0 W → (W.cell? ⟨w.heap.size, 0, none⟩ = some (.float .f32 ax) ∧ W.cell? ⟨w.heap.size, 1, none⟩ = some (.float .f32 ay)) ∧ (W.cell? ad = some (.float .f32 px) ∧ W.cell? ⟨ad.block, ad.off + 1, none⟩ = some (.float .f32 py)) := fun W hW => ⟨(HW.out W hW).1, ⟨hp.h0 W hW, hp.h1 W hW⟩⟩
  have kP := kS.out px py ax ay hp.fx.lt hp.fy.lt hax hay
  replace kP := Lib.hid kP
  clear hp hg0 e0
  refine wp_region_soft_tail 5 (Stays.refl _) (sqC 78) [] (by kernel_rfl) (by kernel_rfl) (fun _ h => by cases h) ?_
  simp only [List.take_succ_cons, List.take_zero, List.drop_succ_cons, List.drop_zero]
  repeat ((with_reducible apply soft_detG); (case hwa => rfl); (case hA => rfl); (case h => (intro w1 hw1; have hc := hcells w1 hw1; go_simp; exact rfl)); go_simp)
  refine soft_callW (by rfl) rfl ?h (fun w2 _ => kP.out w2) (fun v hv => sqC_iff.2 hv) (fun v hv => sqC_iff.1 hv) ?_
  case h => (intro w1 hw1; have hc := hcells w1 hw1; go_simp; try exact ⟨rfl, rfl⟩)
  rintro v ⟨y, rfl, hy⟩
  go_simp
  repeat ((with_reducible apply soft_detG); (case hwa => rfl); (case hA => rfl); (case h => (intro w1 hw1; have hc := hcells w1 hw1; go_simp; exact rfl)); go_simp)
  refine soft_nil ?_
  rintro w2 ⟨hw2, _⟩
  have hy' := Lib.hid (hrow.out y hy)
  replace hw2 := Lib.hid hw2
  clear hcells hy hrow kP
  go_wp2
  go_loopw [5, 6, 17] (fun nv lv iv wr => ∃ (k n x : Nat), k ≤ xs.length ∧ iv = .int .i64 k ∧ nv = .int .i64 n ∧ lv = .float .f32 x ∧ Hid (nearK (can .f32 ax) (can .f32 ay) xs k = n) ∧ Hid (∃ q, xs[n]? = some q ∧ FIs .f32 x (sq4 (can .f32 ax) (can .f32 ay) (gx q) (gy q))) ∧ Hid (Stays W0 wr)) (fun _ _ iv _ => xs.length - (intOf iv).toNat)
  case atStart => exact ⟨0, 0, y, Nat.zero_le _, rfl, rfl, rfl, hn0, hy', hw2⟩
  case round =>
    obtain ⟨k, n, x, hk, rfl, rfl, rfl, hnr, hx, hb⟩ := hrel
    by_cases hlt : k < xs.length
    · have hlt' : (k : Int) < (xs.length : Int) := by omega
      have hk9 : IntKind.i64.wrap ((k : Int) + 1) = (k : Int) + 1 := IntWalk.i64_in _ (by omega)
      have hgk := List.getElem?_eq_getElem hlt
      obtain ⟨px, py, hp⟩ := H.out wr hb.out k xs[k] hgk
      have hrow : Hid (∀ x, FIs .f32 x (sq4 (can .f32 px) (can .f32 py) (can .f32 ax) (can .f32 ay)) → FIs .f32 x (sq4 (can .f32 ax) (can .f32 ay) (gx xs[k]) (gy xs[k]))) := Lib.hid fun x hx => by rw [sq4_swap] at hx; rw [← hp.fx.out, ← hp.fy.out]; exact hx
      have nx : Hid (∀ y, FIs .f32 y (sq4 (can .f32 ax) (can .f32 ay) (gx xs[k]) (gy xs[k])) → nearK (can .f32 ax) (can .f32 ay) xs (k + 1) = if (FloatKind.f32.format.order y x == some Ordering.lt) then k else n) := Lib.hid fun y hy => by
        obtain ⟨q, hq, hxq⟩ := hx.out
        rw [nearK_next hgk hnr.out hq, lt_of, hy.out, hxq.out]
      have hk2 : Hid (∀ y, FIs .f32 y (sq4 (can .f32 ax) (can .f32 ay) (gx xs[k]) (gy xs[k])) → ∃ q, xs[k]? = some q ∧ FIs .f32 y (sq4 (can .f32 ax) (can .f32 ay) (gx q) (gy q))) := Lib.hid fun y hy => ⟨_, hgk, hy⟩
      have p0 := hp.h0 wr (Stays.refl _)
      have p1 := hp.h1 wr (Stays.refl _)
      have hsA : Stays wr (wr.alloc (.cells #[.float .f32 px, .float .f32 py] 26)) := by (repeat (first | exact Stays.refl _ | (with_reducible refine Stays.drewN ?_ _) | (with_reducible refine Stays.alloc ?_ _) | (with_reducible refine Stays.drew ?_) | (refine Stays.trans ?_ ‹Stays _ _›)))
      have ha := heap_alloc_new wr (.cells #[.float .f32 px, .float .f32 py] 26)
      have a0 : (wr.alloc (.cells #[.float .f32 px, .float .f32 py] 26)).cell? ⟨wr.heap.size, 0, none⟩ = some (.float .f32 px) := row_of (Stays.refl _) ha 0
      have a1 : (wr.alloc (.cells #[.float .f32 px, .float .f32 py] 26)).cell? ⟨wr.heap.size, 1, none⟩ = some (.float .f32 py) := row_of (Stays.refl _) ha 1
      obtain ⟨⟨b0, b1⟩, _⟩ := HW.out (wr.alloc (.cells #[.float .f32 px, .float .f32 py] 26)) (hb.out.trans hsA)
      have kP := kS.out px py ax ay hp.fx.lt hp.fy.lt hax hay (wr.alloc (.cells #[.float .f32 px, .float .f32 py] 26))
      replace kP := Lib.hid kP
      replace hsA := Lib.hid (hb.out.trans hsA)
      generalize xs[k] = p at hrow nx hk2
      clear hp hnr hgk ha
      go_wp2_with fail
      refine kP.out.mono ?_
      rintro e w2 ⟨_, rfl, ⟨y, rfl, hy⟩, hw2⟩
      have hy' := hrow.out y hy
      have nx' := nx.out y hy'
      have hy2 := Lib.hid (hk2.out y hy')
      replace hw2 := Lib.hid (hsA.out.trans hw2)
      clear hy hy' hrow nx hk2 p0 p1 a0 a1 b0 b1 kP hsA
      cases hvl : (FloatKind.f32.format.order y x == some Ordering.lt) with
      | false =>
        rw [hvl, if_neg (by decide)] at nx'
        have nx := Lib.hid nx'
        clear nx'
        go_wp2
        go_roundw
        case rel => exact ⟨k + 1, n, x, by omega, by go_num, rfl, rfl, nx, hx, hw2⟩
        case measure => simp [intOf]; omega
      | true =>
        rw [hvl, if_pos rfl] at nx'
        have nx := Lib.hid nx'
        clear nx'
        go_wp2
        go_roundw
        case rel => exact ⟨k + 1, k, y, by omega, by go_num, rfl, rfl, nx, hy2, hw2⟩
        case measure => simp [intOf]; omega
    · have ek : k = xs.length := by omega
      have hr := Lib.hid (show nearK (can .f32 ax) (can .f32 ay) xs xs.length = n from by rw [← ek]; exact hnr.out)
      clear hnr ek
      go_wp2
      go_ret
      exact ⟨by rw [hr.out]; rfl, (HW.out wr hb.out).2⟩

theorem slice_from {ad : Addr} {n c m L : Nat} (h1 : n = m + 1 + L) (hc : n ≤ c) : ∃ A' C', (∀ w, (Instr.slice 43 (.slice (some ad) n c) (some (.int .i64 ((m : Int) + 1))) none none).run Try.prog w = .ok (.slice A' L C') w) ∧ (0 < L → A' = some (ad.add ((m + 1) * 2))) := by
  have hsz : ∀ w : World, (sizeOf (Try.prog.elem 43)).run Try.prog w = .ok 2 w := fun w => by kernel_rfl
  have hel : Try.prog.elem 43 = 26 := by kernel_rfl
  have e1 : ((m : Int) + 1).toNat = m + 1 := by omega
  have e2 : n - (m + 1) = L := by omega
  refine ⟨if m + 1 = c then some ad else some (ad.add ((m + 1) * 2)), c - (m + 1), fun w => ?_, fun h => if_neg (by omega)⟩
  rw [run_slice_l w 43 (some ad) n c (by rw [hel]; exact Try.underlying43) .i64 ((m : Int) + 1) (by omega) (by omega), hsz]
  by_cases h : m + 1 = c
  · subst h
    simp [Result.andThen, sliced, e1, e2]
  · have h' : ¬ c = m + 1 := fun e => h e.symm
    simp [Result.andThen, sliced, h, h', e1, e2]

theorem add_two (ad : Addr) (m j : Nat) : (ad.add ((m + 1) * 2)).add (j * 2) = ad.add ((m + 1 + j) * 2) := by
  have e1 : ad.add ((m + 1) * 2) = ⟨ad.block, ad.off + (m + 1) * 2, none⟩ := by
    unfold Addr.add
    rw [if_neg (by omega)]
  have e2 : ad.add ((m + 1 + j) * 2) = ⟨ad.block, ad.off + (m + 1 + j) * 2, none⟩ := by
    unfold Addr.add
    rw [if_neg (by omega)]
  rw [e1, e2]
  unfold Addr.add
  split
  · congr 1; omega
  · congr 1
    show ad.off + (m + 1) * 2 + j * 2 = _
    omega

set_option maxRecDepth 100000 in
set_option maxHeartbeats 2000000 in
theorem c_implAhead (A : Option Addr) (c : Nat) (xs : List (List NV)) (ax ay o0 : Nat) (w : World) (h : Ls KPt 2 w w.heap.size A xs) (hn : xs.length ≤ 1048576) (hc : xs.length ≤ c) (hax : ax < 2 ^ 32) (hay : ay < 2 ^ 32) (ho : o0 < 2 ^ 32) :
    Calls Try.prog 23 #[.slice A xs.length c, .agg #[.float .f32 ax, .float .f32 ay], .float .f32 o0] w (AhDone w (ahC (can .f32 ax) (can .f32 ay) (can .f32 o0) xs) (ahX (can .f32 ax) (can .f32 ay) (can .f32 o0) xs)) := by
  have hst : Stays w ((w.alloc (.cells #[.float .f32 ax, .float .f32 ay] 26)).alloc (.cells #[.float .f32 0, .float .f32 0] 26)) := by (repeat (first | exact Stays.refl _ | (with_reducible refine Stays.drewN ?_ _) | (with_reducible refine Stays.alloc ?_ _) | (with_reducible refine Stays.drew ?_) | (refine Stays.trans ?_ ‹Stays _ _›)))
  have u0 : ((w.alloc (.cells #[.float .f32 ax, .float .f32 ay] 26)).alloc (.cells #[.float .f32 0, .float .f32 0] 26)).heap[w.heap.size]? = some (.cells #[.float .f32 ax, .float .f32 ay] 26 (0, 0)) := by (repeat (first | (refine heap_top _ _ _ ?_; simp; done) | (with_reducible refine heap_drawn _ _ _ ?_) | (with_reducible refine heap_under _ _ _ ?_ ?_; (simp <;> omega))))
  have u1 : ((w.alloc (.cells #[.float .f32 ax, .float .f32 ay] 26)).alloc (.cells #[.float .f32 0, .float .f32 0] 26)).heap[w.heap.size + 1]? = some (.cells #[.float .f32 0, .float .f32 0] 26 (0, 0)) := by (repeat (first | (refine heap_top _ _ _ ?_; simp; done) | (with_reducible refine heap_drawn _ _ _ ?_) | (with_reducible refine heap_under _ _ _ ?_ ?_; (simp <;> omega))))
  have HW : Hid (∀ W, Stays ((w.alloc (.cells #[.float .f32 ax, .float .f32 ay] 26)).alloc (.cells #[.float .f32 0, .float .f32 0] 26)) W → (W.cell? ⟨w.heap.size, 0, none⟩ = some (.float .f32 ax) ∧ W.cell? ⟨w.heap.size, 1, none⟩ = some (.float .f32 ay)) ∧ Stays w W ∧ W.heap[w.heap.size + 1]? = some (.cells #[.float .f32 0, .float .f32 0] 26 (0, 0))) := Lib.hid fun W hW => ⟨⟨row_of hW u0 0, row_of hW u0 1⟩, hst.trans hW, (Below.block hW _ (in_heap u1)).trans u1⟩
  have hL := fun W (hW : Stays ((w.alloc (.cells #[.float .f32 ax, .float .f32 ay] 26)).alloc (.cells #[.float .f32 0, .float .f32 0] 26)) W) => (h.below (hst.trans hW)).more (hst.trans hW).size
  have kW := fun W (hW : Stays ((w.alloc (.cells #[.float .f32 ax, .float .f32 ay] 26)).alloc (.cells #[.float .f32 0, .float .f32 0] 26)) W) => c_isWay A c xs W (hL W hW) hn
  have kN := fun hp => Lib.hid fun W (hW : Stays ((w.alloc (.cells #[.float .f32 ax, .float .f32 ay] 26)).alloc (.cells #[.float .f32 0, .float .f32 0] 26)) W) => c_nearestPoint A c xs ax ay W (hL W hW) hn hp hax hay
  have kF : Hid (∀ W, Stays ((w.alloc (.cells #[.float .f32 ax, .float .f32 ay] 26)).alloc (.cells #[.float .f32 0, .float .f32 0] 26)) W → Calls Try.prog 62 #[.slice (some ⟨w.heap.size, 0, none⟩) 2 2] W fun e w' => e = .returned (.bool (finB (can .f32 ax) && finB (can .f32 ay))) ∧ Stays W w') := Lib.hid fun W hW => c_areFinite2 w.heap.size ax ay W fun w1 h1 => ⟨row_of (hW.trans h1) u0 0, row_of (hW.trans h1) u0 1⟩
  have kM := fun W => c_isAmount o0 W
  have H : Hid (∀ W, Stays ((w.alloc (.cells #[.float .f32 ax, .float .f32 ay] 26)).alloc (.cells #[.float .f32 0, .float .f32 0] 26)) W → ∀ ad, A = some ad → ∀ k r, xs[k]? = some r → ∃ x y, PtAt W (ad.add (k * 2)) r x y) := Lib.hid fun W hW ad e k r hk => pt_at (Nat.le_trans hst.size hW.size) (by rw [← e]; exact h.below (hst.trans hW)) hk
  have hA : 1 ≤ xs.length → ∃ ad, A = some ad := fun hp => by
    obtain ⟨ad, e, _, _⟩ := h 0 xs[0] (List.getElem?_eq_getElem (by omega))
    exact ⟨ad, e⟩
  have hpos : wayB xs = true → 1 ≤ xs.length := fun e => (wayB_pos e).1
  generalize hrz : aheadX (can .f32 ax) (can .f32 ay) (can .f32 o0) xs = res
  unfold ahC ahX folB
  rw [hrz]
  have hlim := nearK_lt (can .f32 ax) (can .f32 ay) xs xs.length
  clear u0 u1 h hst hL
  cases hw0 : wayB xs with
  | false =>
    rw [hw0] at kW
    replace kW := Lib.hid kW
    simp only [Bool.false_and]
    rw [if_neg (by decide), if_neg (by decide)]
    clear kN H hA hpos hw0 hrz hlim
    go_enter Try.func23, Try.ntmps23
    go_wp2_with fail
    generalize ((w.alloc (.cells #[.float .f32 ax, .float .f32 ay] 26)).alloc (.cells #[.float .f32 0, .float .f32 0] 26)) = W0 at HW kW ⊢
    refine (kW.out W0 (Stays.refl _)).mono ?_
    rintro e w1 ⟨rfl, hb⟩
    replace hb := Lib.hid (show Stays W0 w1 from hb)
    obtain ⟨_, hst, hres⟩ := HW.out _ hb.out
    go_wp2_with ((refine wpList_store_row rfl _ _ _ rfl _ _ _ rfl rfl hres ?hi ?ho ?h1 ?hB hst ?_); (case hi => kernel_rfl); (case ho => rfl); (case h1 => first | rfl | simp [Value.oneCell']); (case hB => first | omega | (simp <;> omega)); intro w2 hw2 hq2 _ _)
    apply end_gd rfl rfl rfl Try.underlying26 rfl (t := 26)
    case hg => exact hq2
    case hi => kernel_rfl
    case hR => exact ⟨_, _, rfl, zero_fis.1, zero_fis.2, hw2⟩
  | true =>
    rw [hw0] at kW
    replace kW := Lib.hid kW
    replace hpos := hpos hw0
    replace kN := kN hpos
    obtain ⟨ad, rfl⟩ := hA hpos
    simp only [Bool.true_and]
    generalize (finB (can .f32 ax) && finB (can .f32 ay)) = q1 at kF ⊢
    replace hlim := hlim xs.length (Nat.le_refl _) hpos
    unfold aheadX at hrz
    generalize hm : nearK (can .f32 ax) (can .f32 ay) xs xs.length = m at hlim kN hrz
    replace hrz := Lib.hid hrz
    clear hm hw0 hA
    cases q1 with
    | false =>
      simp only [Bool.false_and]
      rw [if_neg (by decide), if_neg (by decide)]
      clear kN H hrz hlim
      go_enter Try.func23, Try.ntmps23
      go_wp2_with fail
      generalize ((w.alloc (.cells #[.float .f32 ax, .float .f32 ay] 26)).alloc (.cells #[.float .f32 0, .float .f32 0] 26)) = W0 at HW kF kW ⊢
      refine (kW.out W0 (Stays.refl _)).mono ?_
      rintro e w1 ⟨rfl, hb⟩
      replace hb := Lib.hid (show Stays W0 w1 from hb)
      obtain ⟨⟨d0, d1⟩, _⟩ := HW.out _ hb.out
      go_wp2_with fail
      refine (kF.out w1 hb.out).mono ?_
      rintro e w2 ⟨rfl, hb2⟩
      replace hb2 := Lib.hid (hb.out.trans hb2)
      clear d0 d1
      obtain ⟨_, hst, hres⟩ := HW.out _ hb2.out
      go_wp2_with ((refine wpList_store_row rfl _ _ _ rfl _ _ _ rfl rfl hres ?hi ?ho ?h1 ?hB hst ?_); (case hi => kernel_rfl); (case ho => rfl); (case h1 => first | rfl | simp [Value.oneCell']); (case hB => first | omega | (simp <;> omega)); intro w2 hw2 hq2 _ _)
      apply end_gd rfl rfl rfl Try.underlying26 rfl (t := 26)
      case hg => exact hq2
      case hi => kernel_rfl
      case hR => exact ⟨_, _, rfl, zero_fis.1, zero_fis.2, hw2⟩
    | true =>
      simp only [Bool.true_and]
      cases hqa : amtB (can .f32 o0) with
      | false =>
        rw [hqa] at kM
        replace kM := Lib.hid kM
        rw [if_neg (by decide), if_neg (by decide)]
        clear kN H hrz hlim hqa
        go_enter Try.func23, Try.ntmps23
        go_wp2_with fail
        generalize ((w.alloc (.cells #[.float .f32 ax, .float .f32 ay] 26)).alloc (.cells #[.float .f32 0, .float .f32 0] 26)) = W0 at HW kF kW ⊢
        refine (kW.out W0 (Stays.refl _)).mono ?_
        rintro e w1 ⟨rfl, hb⟩
        replace hb := Lib.hid (show Stays W0 w1 from hb)
        obtain ⟨⟨d0, d1⟩, _⟩ := HW.out _ hb.out
        go_wp2_with fail
        refine (kF.out w1 hb.out).mono ?_
        rintro e w2 ⟨rfl, hb2⟩
        replace hb2 := Lib.hid (hb.out.trans hb2)
        clear d0 d1
        go_wp2_with fail
        refine (kM.out _).mono ?_
        rintro e w3 ⟨rfl, hb3⟩
        replace hb3 := Lib.hid (hb2.out.trans hb3)
        obtain ⟨_, hst, hres⟩ := HW.out _ hb3.out
        go_wp2_with ((refine wpList_store_row rfl _ _ _ rfl _ _ _ rfl rfl hres ?hi ?ho ?h1 ?hB hst ?_); (case hi => kernel_rfl); (case ho => rfl); (case h1 => first | rfl | simp [Value.oneCell']); (case hB => first | omega | (simp <;> omega)); intro w2 hw2 hq2 _ _)
        apply end_gd rfl rfl rfl Try.underlying26 rfl (t := 26)
        case hg => exact hq2
        case hi => kernel_rfl
        case hR => exact ⟨_, _, rfl, zero_fis.1, zero_fis.2, hw2⟩
      | true =>
        rw [hqa] at kM
        replace kM := Lib.hid kM
        rw [if_pos rfl, if_pos rfl]
        obtain ⟨L, hL⟩ : ∃ L, xs.length = m + 1 + L := ⟨xs.length - (m + 1), by omega⟩
        obtain ⟨A', C', hsl, hA'⟩ := slice_from (ad := ad) hL hc
        replace hA' := Lib.hid hA'
        have hm' : (m : Int) < (xs.length : Int) := by omega
        have hm9 : IntKind.i64.wrap ((m : Int) + 1) = (m : Int) + 1 := IntWalk.i64_in _ (by omega)
        have hfo := Lib.hid (FIs.self (k := .f32) ho)
        have kS := Lib.hid fun a b c d ha hb hc hd W => c_sqI a b c d ha hb hc hd W
        have hLb : L ≤ 1048576 := by omega
        replace hL := Lib.hid hL
        clear hqa
        go_enter Try.func23, Try.ntmps23
        go_wp2_with fail
        generalize ((w.alloc (.cells #[.float .f32 ax, .float .f32 ay] 26)).alloc (.cells #[.float .f32 0, .float .f32 0] 26)) = W0 at HW H kF kW kN ⊢
        refine (kW.out W0 (Stays.refl _)).mono ?_
        rintro e w1 ⟨rfl, hb⟩
        replace hb := Lib.hid (show Stays W0 w1 from hb)
        obtain ⟨⟨d0, d1⟩, _⟩ := HW.out _ hb.out
        go_wp2_with fail
        refine (kF.out w1 hb.out).mono ?_
        rintro e w2 ⟨rfl, hb2⟩
        replace hb2 := Lib.hid (hb.out.trans hb2)
        clear d0 d1
        go_wp2_with fail
        refine (kM.out _).mono ?_
        rintro e w3 ⟨rfl, hb3⟩
        replace hb3 := Lib.hid (hb2.out.trans hb3)
        obtain ⟨⟨d0, d1⟩, _⟩ := HW.out _ hb3.out
        go_wp2_with fail
        refine (kN.out w3 hb3.out).mono ?_
        rintro e w4 ⟨rfl, hb4⟩
        replace hb4 := Lib.hid (hb3.out.trans hb4)
        clear d0 d1 kW kF kM kN
        obtain ⟨px, py, hp⟩ := H.out w4 hb4.out ad rfl m xs[m] (List.getElem?_eq_getElem hlim)
        have p0 := hp.h0 w4 (Stays.refl _)
        have p1 := hp.h1 w4 (Stays.refl _)
        have hgm : Hid (xs[m]? = some xs[m]) := Lib.hid (List.getElem?_eq_getElem hlim)
        have hfx := Lib.hid hp.fx
        have hfy := Lib.hid hp.fy
        clear hp
        generalize xs[m] = p at hgm hfx hfy
        have hg := Lib.hid (heap_alloc_new w4 (.cells #[.float .f32 px, .float .f32 py] 26))
        have hs4 : Hid (Stays w4 (w4.alloc (.cells #[.float .f32 px, .float .f32 py] 26))) := Lib.hid (by (repeat (first | exact Stays.refl _ | (with_reducible refine Stays.drewN ?_ _) | (with_reducible refine Stays.alloc ?_ _) | (with_reducible refine Stays.drew ?_) | (refine Stays.trans ?_ ‹Stays _ _›))))
        go_wp2_with fail
        generalize (w4.alloc (.cells #[.float .f32 px, .float .f32 py] 26)) = W5 at hg hs4 ⊢
        have hgn := Lib.hid (show w4.heap.size ≤ w4.heap.size from Nat.le_refl _)
        generalize hge : w4.heap.size = g at hg hgn ⊢
        replace hgn := Lib.hid (show w4.heap.size ≤ g by omega)
        clear hge
        go_loopw [2, 40] (fun ov iv wr => ∃ (j x hx hy : Nat) (o : Option Nat), j ≤ L ∧ iv = .int .i64 j ∧ ov = .float .f32 x ∧ Hid (FIs .f32 x o) ∧ Hid ((FIs .f32 hx (gx (xs.getD (m + j) [])) ∧ FIs .f32 hy (gy (xs.getD (m + j) []))) ∧ aheadL o (xs.drop (m + j)) = res) ∧ Hid (wr.heap[g]? = some (.cells #[.float .f32 hx, .float .f32 hy] 26 (0, 0))) ∧ Hid (Stays w4 wr)) (fun _ iv _ => L - (intOf iv).toNat)
        case atStart => exact ⟨0, o0, px, py, _, Nat.zero_le _, rfl, rfl, hfo, Lib.hid ⟨⟨by rw [List.getD_eq_getElem?_getD, Nat.add_zero, hgm.out]; exact hfx.out, by rw [List.getD_eq_getElem?_getD, Nat.add_zero, hgm.out]; exact hfy.out⟩, hrz.out⟩, hg, hs4⟩
        case round =>
          obtain ⟨j, x, hx', hy', o, hj, rfl, rfl, hx, hh, hgc, hb5⟩ := hrel
          by_cases hlt : j < L
          · have hlt' : (j : Int) < (L : Int) := by omega
            have hAe := hA'.out (by omega)
            subst hAe
            have hkl : m + 1 + j < xs.length := by have := hL.out; omega
            have hkj : m + j < xs.length := by omega
            have e1 : m + j + 1 = m + 1 + j := by omega
            have hgq : xs[m + 1 + j]? = some xs[m + 1 + j] := List.getElem?_eq_getElem hkl
            have hgj : xs[m + j]? = some xs[m + j] := List.getElem?_eq_getElem hkj
            obtain ⟨qx, qy, hq⟩ := H.out wr (hb4.out.trans hb5.out) ad rfl (m + 1 + j) xs[m + 1 + j] hgq
            rw [← add_two] at hq
            have nx := ahead_next (o := o) hgj (by rw [e1]; exact hgq)
            obtain ⟨⟨fx, fy⟩, hrs⟩ := hh.out
            rw [hrs, e1] at nx
            rw [List.getD_eq_getElem?_getD, hgj] at fx fy
            have hd : dst xs[m + j] xs[m + 1 + j] = froot (sq4 (can .f32 hx') (can .f32 hy') (can .f32 qx) (can .f32 qy)) := by
              unfold dst
              rw [hq.fx.out, hq.fy.out, fx.out, fy.out]
              rfl
            have bx : gx xs[m + j] = can .f32 hx' := fx.out.symm
            have by' : gy xs[m + j] = can .f32 hy' := fy.out.symm
            rw [hd, bx, by', ← hq.fx.out, ← hq.fy.out, ← hx.out.out] at nx
            have hnew : FIs .f32 qx (gx (xs.getD (m + (j + 1)) [])) ∧ FIs .f32 qy (gy (xs.getD (m + (j + 1)) [])) := by
              rw [List.getD_eq_getElem?_getD, show m + (j + 1) = m + 1 + j by omega, hgq]
              exact ⟨hq.fx, hq.fy⟩
            replace hnew := Lib.hid hnew
            have q0 := hq.h0 wr (Stays.refl _)
            have q1 := hq.h1 wr (Stays.refl _)
            have kP := kS.out hx' hy' qx qy fx.lt fy.lt hq.fx.lt hq.fy.lt (wr.alloc (.cells #[.float .f32 qx, .float .f32 qy] 26))
            have hsA : Stays wr (wr.alloc (.cells #[.float .f32 qx, .float .f32 qy] 26)) := by (repeat (first | exact Stays.refl _ | (with_reducible refine Stays.drewN ?_ _) | (with_reducible refine Stays.alloc ?_ _) | (with_reducible refine Stays.drew ?_) | (refine Stays.trans ?_ ‹Stays _ _›)))
            have ha := heap_alloc_new wr (.cells #[.float .f32 qx, .float .f32 qy] 26)
            have hcl := Lib.hid fun W (hW : Stays (wr.alloc (.cells #[.float .f32 qx, .float .f32 qy] 26)) W) => (show (W.cell? ⟨g, 0, none⟩ = some (.float .f32 hx') ∧ W.cell? ⟨g, 1, none⟩ = some (.float .f32 hy')) ∧ (W.cell? ⟨wr.heap.size, 0, none⟩ = some (.float .f32 qx) ∧ W.cell? ⟨wr.heap.size, 1, none⟩ = some (.float .f32 qy)) ∧ W.heap[g]? = some (.cells #[.float .f32 hx', .float .f32 hy'] 26 (0, 0)) from by
              have e := (Below.block (hsA.trans hW) _ (in_heap hgc.out)).trans hgc.out
              exact ⟨⟨cell_of_row _ _ _ _ _ _ e, cell_of_row _ _ _ _ _ _ e⟩, ⟨row_of hW ha 0, row_of hW ha 1⟩, e⟩)
            obtain ⟨⟨g0, g1⟩, ⟨a0, a1⟩, _⟩ := hcl.out (wr.alloc (.cells #[.float .f32 qx, .float .f32 qy] 26)) (Stays.refl _)
            have hox := Lib.hid (sub_zero32 hx.out.lt)
            replace kP := Lib.hid kP
            replace hsA := Lib.hid (hb5.out.trans hsA)
            replace nx := Lib.hid nx
            rw [show m + 1 + j = m + (j + 1) by omega] at nx
            clear fx fy hrs hh bx by' hd hgq hgj hq ha hkl hkj e1 hx
            generalize ad.add ((m + 1) * 2) = ad2 at q0 q1 ⊢
            go_wp2_with fail
            refine kP.out.mono ?_
            rintro e w6 ⟨_, rfl, ⟨y, rfl, hy⟩, hb6⟩
            go_wp2_with fail
            refine (c_rootOfO y _ (FIs.self hy.lt) _).mono ?_
            rintro e w5 ⟨_, rfl, ⟨z, rfl, hz⟩, hb7⟩
            have nx' := nx.out
            rw [← hy.out, ← hz.out] at nx'
            have hpz : PosW (can .f32 z) := by rw [hz.out, hy.out]; exact sq4_pos _ _ _ _
            replace hcl := Lib.hid fun W (hW : Stays w5 W) => hcl.out W ((hb6.trans hb7).trans hW)
            have hw5 := Lib.hid (hsA.out.trans (hb6.trans hb7))
            clear hy hz hb6 hb7 nx q0 q1 g0 g1 a0 a1 kP hsA hgc
            rcases pos_split hpz with ⟨h1, h2⟩ | ⟨h1, h2, h3⟩ | ⟨h1, h2, h3⟩
            · rw [h2, if_neg (by decide), ← le_of] at nx'
              rw [← gz_of] at h1
              clear h2 hpz
              cases hvl : (FloatKind.f32.format.order x z == some Ordering.lt || FloatKind.f32.format.order x z == some Ordering.eq) with
              | false =>
                rw [hvl, if_neg (by decide)] at nx'
                have heq := Lib.hid nx'.symm
                clear nx'
                have c5 := fun n => (hcl.out (w5.drewN n) ((Stays.refl w5).drewN n)).2.1
                have hresn := fun n => (hcl.out (w5.drewN n) ((Stays.refl w5).drewN n)).2.2
                have hstn := fun n => hw5.out.drewN n
                have hB9 := hgn.out
                go_wp2_with (first | ((with_reducible refine wpList_fop rfl _ _ _ _ _ rfl rfl _ _ _ rfl rfl ?_); intro r n hr) | ((refine wpList_store_row rfl _ _ _ rfl _ _ _ rfl rfl (hresn _) ?hi ?ho ?h1 ?hB (hstn _) ?_); (case hi => kernel_rfl); (case ho => rfl); (case h1 => first | rfl | simp [Value.oneCell']); (case hB => first | omega | (simp <;> omega)); intro w9 hw9 hq9 _ _))
                have hr2 := Lib.hid hr
                replace hq9 := Lib.hid hq9
                replace hw9 := Lib.hid hw9
                clear hr c5 hresn hstn
                go_roundw
                case rel => exact ⟨j + 1, _, qx, qy, _, by omega, by go_num, rfl, hr2, Lib.hid ⟨hnew.out, heq.out⟩, hq9, hw9⟩
                case measure => simp [intOf]; omega
              | true =>
                rw [hvl, if_pos rfl] at nx'
                have nx := Lib.hid nx'
                clear nx'
                go_wp2_with ((with_reducible refine wpList_fop rfl _ _ _ _ _ rfl rfl _ _ _ rfl rfl ?_); intro r n hr)
                have hq' := Lib.hid hr
                clear hr
                have hcells := fun W (hW : Stays (w5.drewN n) W) => And.intro (hcl.out W (((Stays.refl w5).drewN n).trans hW)).1 (hcl.out W (((Stays.refl w5).drewN n).trans hW)).2.1
                have hwd := Lib.hid (hb4.out.trans (hw5.out.drewN n))
                refine wp_region_soft_tail 13 (Stays.refl _) (btC 79) [] (by kernel_rfl) (by kernel_rfl) (fun _ h => by cases h) ?_
                simp only [List.take_succ_cons, List.take_zero, List.drop_succ_cons, List.drop_zero]
                repeat ((with_reducible apply soft_detG); (case hwa => rfl); (case hA => rfl); (case h => (intro w1 hw1; have hc := hcells w1 hw1; go_simp; exact rfl)); go_simp)
                refine soft_callW (by rfl) rfl ?h (fun w2 _ => c_between hx' qx r w2) (fun v hv => btC_iff.2 hv) (fun v hv => btC_iff.1 hv) ?_
                case h => (intro w1 hw1; have hc := hcells w1 hw1; go_simp; try exact ⟨rfl, rfl⟩)
                rintro v ⟨y1, rfl, hy1⟩
                go_simp
                repeat ((with_reducible apply soft_detG); (case hwa => rfl); (case hA => rfl); (case h => (intro w1 hw1; have hc := hcells w1 hw1; go_simp; exact rfl)); go_simp)
                refine soft_callW (by rfl) rfl ?h (fun w2 _ => c_between hy' qy r w2) (fun v hv => btC_iff.2 hv) (fun v hv => btC_iff.1 hv) ?_
                case h => (intro w1 hw1; have hc := hcells w1 hw1; go_simp; try exact ⟨rfl, rfl⟩)
                rintro v ⟨y2, rfl, hy2⟩
                go_simp
                repeat ((with_reducible apply soft_detG); (case hwa => rfl); (case hA => rfl); (case h => (intro w1 hw1; have hc := hcells w1 hw1; go_simp; exact rfl)); go_simp)
                refine soft_nil ?_
                rintro w6 ⟨hw6, _⟩
                have hX := Lib.hid (show FIs .f32 y1 (gx res) from hy1.of_eq (by rw [nx.out]; show _ = btw _ _ _; rw [hq'.out.out]))
                have hY := Lib.hid (show FIs .f32 y2 (gy res) from hy2.of_eq (by rw [nx.out]; show _ = btw _ _ _; rw [hq'.out.out]))
                obtain ⟨_, hst, hres⟩ := HW.out w6 (hwd.out.trans hw6)
                clear hy1 hy2 hw6 hcells hq' nx
                go_wp2_with ((refine wpList_store_row rfl _ _ _ rfl _ _ _ rfl rfl hres ?hi ?ho ?h1 ?hB hst ?_); (case hi => kernel_rfl); (case ho => rfl); (case h1 => first | rfl | simp [Value.oneCell']); (case hB => first | omega | (simp <;> omega)); intro w2 hw2 hq2 _ _)
                apply end_gd rfl rfl rfl Try.underlying26 rfl (t := 26)
                case hg => exact hq2
                case hi => kernel_rfl
                case hR => exact ⟨_, _, rfl, hX.out, hY.out, hw2⟩
            · rw [h2, if_pos rfl] at nx'
              have heq := Lib.hid (show aheadL (fop .sub .f32 (can .f32 x) (can .f32 z)) (xs.drop (m + (j + 1))) = res from by rw [h3, hox.out]; exact nx'.symm)
              rw [← gz_of] at h1
              clear nx' h2 h3 hpz
              have c5 := fun n => (hcl.out (w5.drewN n) ((Stays.refl w5).drewN n)).2.1
              have hresn := fun n => (hcl.out (w5.drewN n) ((Stays.refl w5).drewN n)).2.2
              have hstn := fun n => hw5.out.drewN n
              have hB9 := hgn.out
              go_wp2_with (first | ((with_reducible refine wpList_fop rfl _ _ _ _ _ rfl rfl _ _ _ rfl rfl ?_); intro r n hr) | ((refine wpList_store_row rfl _ _ _ rfl _ _ _ rfl rfl (hresn _) ?hi ?ho ?h1 ?hB (hstn _) ?_); (case hi => kernel_rfl); (case ho => rfl); (case h1 => first | rfl | simp [Value.oneCell']); (case hB => first | omega | (simp <;> omega)); intro w9 hw9 hq9 _ _))
              have hr2 := Lib.hid hr
              replace hq9 := Lib.hid hq9
              replace hw9 := Lib.hid hw9
              clear hr c5 hresn hstn
              go_roundw
              case rel => exact ⟨j + 1, _, qx, qy, _, by omega, by go_num, rfl, hr2, Lib.hid ⟨hnew.out, heq.out⟩, hq9, hw9⟩
              case measure => simp [intOf]; omega
            · rw [h2, if_neg (by decide), h3, if_neg (by decide)] at nx'
              have heq := Lib.hid nx'.symm
              rw [← gz_of] at h1
              clear nx' h2 h3 hpz
              have c5 := fun n => (hcl.out (w5.drewN n) ((Stays.refl w5).drewN n)).2.1
              have hresn := fun n => (hcl.out (w5.drewN n) ((Stays.refl w5).drewN n)).2.2
              have hstn := fun n => hw5.out.drewN n
              have hB9 := hgn.out
              go_wp2_with (first | ((with_reducible refine wpList_fop rfl _ _ _ _ _ rfl rfl _ _ _ rfl rfl ?_); intro r n hr) | ((refine wpList_store_row rfl _ _ _ rfl _ _ _ rfl rfl (hresn _) ?hi ?ho ?h1 ?hB (hstn _) ?_); (case hi => kernel_rfl); (case ho => rfl); (case h1 => first | rfl | simp [Value.oneCell']); (case hB => first | omega | (simp <;> omega)); intro w9 hw9 hq9 _ _))
              have hr2 := Lib.hid hr
              replace hq9 := Lib.hid hq9
              replace hw9 := Lib.hid hw9
              clear hr c5 hresn hstn
              go_roundw
              case rel => exact ⟨j + 1, _, qx, qy, _, by omega, by go_num, rfl, hr2, Lib.hid ⟨hnew.out, heq.out⟩, hq9, hw9⟩
              case measure => simp [intOf]; omega
          · have ej : j = L := by omega
            subst ej
            obtain ⟨⟨fx, fy⟩, hrs⟩ := hh.out
            have hlast : aheadL o (xs.drop (m + j)) = xs.getD (m + j) [] := by
              have hkj : m + j < xs.length := by have := hL.out; omega
              rw [ahead_last (List.getElem?_eq_getElem hkj) (by have := hL.out; omega), List.getD_eq_getElem?_getD, List.getElem?_eq_getElem hkj]
              rfl
            rw [hrs] at hlast
            rw [← hlast] at fx fy
            have g0 := cell_of_row _ _ 0 _ _ _ hgc.out
            have g1 := cell_of_row _ _ 1 _ _ _ hgc.out
            obtain ⟨_, hst, hres⟩ := HW.out wr (hb4.out.trans hb5.out)
            replace fx := Lib.hid fx
            replace fy := Lib.hid fy
            clear hh hrs hlast hlt hgc hx
            go_wp2_with ((refine wpList_store_row rfl _ _ _ rfl _ _ _ rfl rfl hres ?hi ?ho ?h1 ?hB hst ?_); (case hi => kernel_rfl); (case ho => rfl); (case h1 => first | rfl | simp [Value.oneCell']); (case hB => first | omega | (simp <;> omega)); intro w2 hw2 hq2 _ _)
            apply end_gd rfl rfl rfl Try.underlying26 rfl (t := 26)
            case hg => exact hq2
            case hi => kernel_rfl
            case hR => exact ⟨_, _, rfl, fx.out, fy.out, hw2⟩

end Go.Proofs.Ytejljfejajckoaa
