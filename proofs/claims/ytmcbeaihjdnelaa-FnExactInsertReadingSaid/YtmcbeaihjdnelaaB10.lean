/- Contracts: square roots, LengthOf, UnitOf. No condition. -/
import Derived.Test.YtmcbeaihjdnelaaB3
import Derived.Test.YtmcbeaihjdnelaaFe
namespace Go.Proofs.Ytmcbeaihjdnelaa
open Go Go.RowKit
set_option linter.unusedVariables false

def fsqrt (x : Option Nat) : Option Nat := x.bind fun a => FloatKind.f64.format.sqrt a

def froot (x : Option Nat) : Option Nat := (fsqrt (x.map wide)).map slim

theorem fits_root {a r y : Nat} (hr : FIs .f64 r ((can .f32 a).map wide)) (hy : FIs .f64 y (fsqrt (can .f64 r))) : (∀ c, can .f64 y = some c → fits c = true) ∧ (can .f64 y).map slim = froot (can .f32 a) := by
  rw [hy.out, hr.out]
  refine ⟨fun c h => ?_, rfl⟩
  rw [can32] at h
  cases e : Ieee.single.read a with
  | nan => rw [e] at h; cases h
  | infinity s =>
    rw [e] at h
    have h' : Ieee.double.sqrt (wide a) = some c := h
    have hw : wide a = Ieee.double.word s Ieee.double.infRung := by unfold wide; rw [e]; rfl
    rw [hw] at h'
    cases s
    · have : Ieee.double.sqrt (Ieee.double.word false Ieee.double.infRung) = some Ieee.double.infRung := by decide
      rw [this] at h'
      obtain rfl := Option.some.inj h'
      decide
    · have : Ieee.double.sqrt (Ieee.double.word true Ieee.double.infRung) = none := by decide
      rw [this] at h'
      cases h'
  | number s m p =>
    rw [e] at h
    have h' : Ieee.double.sqrt (wide a) = some c := h
    exact fits_small (sqrt_small (wide_small e) h')

def r_root (a : Nat) (v : Value) : Prop := ∃ x, v = .float .f32 x ∧ FIs .f32 x (froot (can .f32 a))

def flen (a b c : Nat) : Option Nat := froot (fdot (can .f32 a) (can .f32 b) (can .f32 c) (can .f32 a) (can .f32 b) (can .f32 c))
def r_LengthOf (a b c : Nat) (v : Value) : Prop := ∃ x, v = .float .f32 x ∧ FIs .f32 x (flen a b c)

end Go.Proofs.Ytmcbeaihjdnelaa
