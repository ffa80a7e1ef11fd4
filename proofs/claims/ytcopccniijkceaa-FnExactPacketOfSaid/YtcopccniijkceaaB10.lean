/- Contracts: square roots, LengthOf, UnitOf. No condition. -/
import Derived.Test.YtcopccniijkceaaB3
import Derived.Test.YtcopccniijkceaaFe
namespace Go.Proofs.Ytcopccniijkceaa
open Go Go.RowKit
set_option linter.unusedVariables false

def fsqrt (x : Option Nat) : Option Nat := x.bind fun a => FloatKind.f64.format.sqrt a

theorem run_sqrt (x : Nat) (w : World) : ∃ r n, (callFunc 166 #[.float .f64 x]).run Try.prog w = .ok (.value (.float .f64 r)) (w.drewN n) ∧ FIs .f64 r (fsqrt (can .f64 x)) := by
  have hc : fsqrt (can .f64 x) = FloatKind.f64.format.sqrt x := by
    unfold fsqrt
    cases hn : (FloatKind.f64.decode x).isNaN
    · rw [can_num hn]; rfl
    · rw [can_nan hn]
      unfold FloatKind.decode at hn
      unfold Ieee.Format.sqrt
      cases e : FloatKind.f64.format.read x with
      | nan => rfl
      | number => rw [e] at hn; cases hn
      | infinity => rw [e] at hn; cases hn
  rw [hc]
  have hx := run_callFunc_extern (P := Try.prog) (e := Extern.MathSqrt.sqrt) Try.func166 (by kernel_rfl) (by kernel_rfl) (by kernel_rfl) (by kernel_rfl) #[.float .f64 x] w
  have e : Extern.MathSqrt.sqrt #[.float .f64 x] = (match FloatKind.f64.format.sqrt x with
    | some r => pure (.float .f64 r)
    | none => do pure (.float .f64 (← choose (.nanBits .f64 x x)))) := rfl
  rw [hx, e]
  cases h : FloatKind.f64.format.sqrt x with
  | some r =>
    refine ⟨r, 0, ?_, ?_, Ieee.double.sqrt_lt h⟩
    · simp [World.drewN, Result.andThen]
    · refine can_num ?_
      simp only [Ieee.Format.sqrt, Option.map_eq_some_iff] at h
      obtain ⟨d, hd, rfl⟩ := h
      exact write_not_nan _ (root_not_nan hd)
  | none =>
    refine ⟨Question.cut (.nanBits .f64 x x) (w.tape w.drawn (.nanBits .f64 x x)), 1, ?_, can_nan (cut_is_nan .f64 x x _), cut_lt .f64 x x _⟩
    simp [choose, Question.forced, Sem.run, World.drewN, Result.andThen]

theorem c_Sqrt (x : Nat) (w : World) :
    Calls Try.prog 147 #[.float .f64 x] w fun en w' => ∃ y, en = .returned (.float .f64 y) ∧ FIs .f64 y (fsqrt (can .f64 x)) ∧ Stays w w' := by
  obtain ⟨r, n, hrun, hr⟩ := run_sqrt x w
  go_enter Try.func147, Try.ntmps147
  go_wp2_with fail
  go_ret
  exact ⟨_, rfl, hr, by (repeat (first | exact Stays.refl _ | (with_reducible refine Stays.drewN ?_ _) | (with_reducible refine Stays.alloc ?_ _) | (with_reducible refine Stays.drew ?_) | (refine Stays.trans ?_ ‹Stays _ _›)))⟩

def froot (x : Option Nat) : Option Nat := (fsqrt (x.map wide)).map slim

theorem fits_root {a r y : Nat} (hr : FIs .f64 r ((can .f32 a).map wide)) (hy : FIs .f64 y (fsqrt (can .f64 r))) : (∀ c, can .f64 y = some c → fits c = true) ∧ (can .f64 y).map slim = froot (can .f32 a) := by
  rw [hy.out, hr.out]
  refine ⟨fun c h => ?_, rfl⟩
  rw [can32] at h
  cases e : Ieee.single.read a with
  | nan => rw [e] at h; cases h
  | infinity s =>
    rw [e] at h
    have h' : Ieee.double.sqrt (wide a) = some c := h
    have hw : wide a = Ieee.double.word s Ieee.double.infRung := by unfold wide; rw [e]; rfl
    rw [hw] at h'
    cases s
    · have : Ieee.double.sqrt (Ieee.double.word false Ieee.double.infRung) = some Ieee.double.infRung := by decide
      rw [this] at h'
      obtain rfl := Option.some.inj h'
      decide
    · have : Ieee.double.sqrt (Ieee.double.word true Ieee.double.infRung) = none := by decide
      rw [this] at h'
      cases h'
  | number s m p =>
    rw [e] at h
    have h' : Ieee.double.sqrt (wide a) = some c := h
    exact fits_small (sqrt_small (wide_small e) h')

def r_root (a : Nat) (v : Value) : Prop := ∃ x, v = .float .f32 x ∧ FIs .f32 x (froot (can .f32 a))

theorem c_l01Root (a : Nat) (w : World) :
    Calls Try.prog 118 #[.float .f32 a] w fun en w' => ∃ v, en = .returned v ∧ r_root a v ∧ Stays w w' := by
  go_enter Try.func118, Try.ntmps118
  go_wp2_with (first | ((with_reducible refine wpList_widen rfl _ _ _ rfl _ rfl (some_of Try.underlying22) Try.underlying111 ?_); intro r n hr) | (go_at_call 147; refine (c_Sqrt _ _).mono ?_; rintro en w1 ⟨y, rfl, hy, hw1⟩) | ((with_reducible refine wpList_slim rfl _ _ _ rfl _ rfl (some_of Try.underlying111) Try.underlying22 ?_ ?_); rotate_right; intro r n hr))
  · go_ret
    exact ⟨_, rfl, ⟨_, rfl, hr.of_eq (fits_root ‹FIs .f64 _ (Option.map wide _)› hy).2⟩, by (repeat (first | exact Stays.refl _ | (with_reducible refine Stays.drewN ?_ _) | (with_reducible refine Stays.alloc ?_ _) | (with_reducible refine Stays.drew ?_) | (refine Stays.trans ?_ ‹Stays _ _›)))⟩
  · exact (fits_root hr hy).1

theorem c_rootOf (a : Nat) (w : World) :
    Calls Try.prog 169 #[.float .f32 a] w fun en w' => ∃ v, en = .returned v ∧ r_root a v ∧ Stays w w' := by
  go_enter Try.func169, Try.ntmps169
  go_wp2_with (first | ((with_reducible refine wpList_widen rfl _ _ _ rfl _ rfl (some_of Try.underlying22) Try.underlying111 ?_); intro r n hr) | (go_at_call 147; refine (c_Sqrt _ _).mono ?_; rintro en w1 ⟨y, rfl, hy, hw1⟩) | ((with_reducible refine wpList_slim rfl _ _ _ rfl _ rfl (some_of Try.underlying111) Try.underlying22 ?_ ?_); rotate_right; intro r n hr))
  · go_ret
    exact ⟨_, rfl, ⟨_, rfl, hr.of_eq (fits_root ‹FIs .f64 _ (Option.map wide _)› hy).2⟩, by (repeat (first | exact Stays.refl _ | (with_reducible refine Stays.drewN ?_ _) | (with_reducible refine Stays.alloc ?_ _) | (with_reducible refine Stays.drew ?_) | (refine Stays.trans ?_ ‹Stays _ _›)))⟩
  · exact (fits_root hr hy).1

def flen (a b c : Nat) : Option Nat := froot (fdot (can .f32 a) (can .f32 b) (can .f32 c) (can .f32 a) (can .f32 b) (can .f32 c))
def r_LengthOf (a b c : Nat) (v : Value) : Prop := ∃ x, v = .float .f32 x ∧ FIs .f32 x (flen a b c)

theorem c_implLengthOf (a b c : Nat) (w : World) :
    Calls Try.prog 152 #[.agg #[.float .f32 a, .float .f32 b, .float .f32 c]] w fun en w' => ∃ v, en = .returned v ∧ r_LengthOf a b c v ∧ Stays w w' := by
  go_enter Try.func152, Try.ntmps152
  go_wp2_with (first | (go_at_call 170; refine (c_implDotVec _ _ _ _ _ _ _).mono ?_; rintro en w1 ⟨v, rfl, ⟨x, rfl, hx⟩, hw1⟩) | (go_at_call 169; refine (c_rootOf _ _).mono ?_; rintro en w2 ⟨v, rfl, ⟨y, rfl, hy⟩, hw2⟩))
  go_ret
  exact ⟨_, rfl, ⟨_, rfl, hy.of_eq (by unfold flen; rw [hx.out])⟩, Stays.trans (Stays.trans (by (repeat (first | exact Stays.refl _ | (with_reducible refine Stays.drewN ?_ _) | (with_reducible refine Stays.alloc ?_ _) | (with_reducible refine Stays.drew ?_) | (refine Stays.trans ?_ ‹Stays _ _›)))) hw1) hw2⟩

end Go.Proofs.Ytcopccniijkceaa
