/- One divided by zero is not finite. No condition. -/
import Derived.Test.YtapinopfminmiaaOb
import Derived.Test.YtapinopfminmiaaYf
namespace Go.Proofs.Ytapinopfminmiaa
open Go Go.RowKit Ieee
set_option linter.unusedVariables false

theorem one_by_zero {v : Option Nat} (he : (ford .f32 v (can .f32 0) == some .eq) = true) : finB (fop .quo .f32 (can .f32 1065353216) v) = false := by
  have h0 : can .f32 0 = some 0 := can_num (by kernel_rfl)
  have h1 : can .f32 1065353216 = some 1065353216 := can_num (by kernel_rfl)
  rw [h0] at he
  rw [h1]
  cases v with
  | none => cases he
  | some a =>
    have he' : (single.read a).order (single.read 0) = some .eq := eq_of_beq he
    have e0 : single.read 0 = .number false 0 (-149) := by kernel_rfl
    have e1 : single.read 1065353216 = .number false 8388608 (-23) := by kernel_rfl
    show finB (((single.read 1065353216).quotient 25 (single.read a)).map single.write) = false
    rw [e0] at he'
    rw [e1]
    cases e : single.read a with
    | nan s t => rw [e] at he'; cases he'
    | infinity s => rw [e] at he'; cases s <;> cases he'
    | number s m i =>
      rw [e] at he'
      have hc := Int.compare_eq_eq.1 (Option.some.inj he')
      have hm : m = 0 := by
        have h2 : signed false 0 (-149 - min i (-149)).toNat = 0 := by simp [signed]
        rw [h2] at hc
        unfold signed at hc
        rw [Nat.shiftLeft_eq] at hc
        have hp : 0 < 2 ^ (i - min i (-149)).toNat := Nat.two_pow_pos _
        generalize 2 ^ (i - min i (-149)).toNat = q at hc hp
        have hz : m * q = 0 := by split at hc <;> omega
        rcases Nat.mul_eq_zero.1 hz with h | h
        · exact h
        · omega
      subst hm
      have hq : (Datum.number false 8388608 (-23)).quotient 25 (.number s 0 i) = some (.infinity (false ^^ s)) := rfl
      have hT : finB (some (single.write (.infinity true))) = false := by kernel_rfl
      have hF : finB (some (single.write (.infinity false))) = false := by kernel_rfl
      rw [hq]
      cases s
      · exact hF
      · exact hT

/-- Where a node is zero, one divided by it is not finite. -/
theorem cut_inv {Φ : Syms} {ρ : Nat → NV} (H : Base Φ) {x e q f c0 c1 : Nat} (h0 : ρ c0 = Df.sem Φ ρ ⟨4, 0, []⟩) (h1 : ρ c1 = Df.sem Φ ρ ⟨4, 1065353216, []⟩) (he : ρ e = Df.sem Φ ρ ⟨8, 0, [x, c0]⟩) (hq : ρ q = Df.sem Φ ρ ⟨3, 0, [c1, x]⟩) (hf : ρ f = Df.sem Φ ρ ⟨20, 64, [q]⟩) :
    ¬ FactsT ρ [(e, true), (f, true)] := by
  intro h
  have he' : (ρ e).gb = true := h (e, true) (by simp)
  have hf' : (ρ f).gb = true := h (f, true) (by simp)
  have hb : Φ 64 [ρ q] = .b (finB (ρ q).gf) := H 1 0 _ (by decide) (by decide)
  have e1 : (ford .f32 (ρ x).gf (can .f32 0) == some .eq) = true := by
    rw [he] at he'
    have : (ford .f32 (ρ x).gf (ρ c0).gf == some .eq) = true := he'
    rw [h0] at this
    exact this
  have e2 : finB (fop .quo .f32 (can .f32 1065353216) (ρ x).gf) = true := by
    rw [hf] at hf'
    have : (Φ 64 [ρ q]).gb = true := hf'
    rw [hb, hq] at this
    have : finB (fop .quo .f32 (ρ c1).gf (ρ x).gf) = true := this
    rw [h1] at this
    exact this
  rw [one_by_zero e1] at e2
  cases e2

/-- Zero is finite. -/
theorem cut_fin0 {Φ : Syms} {ρ : Nat → NV} (H : Base Φ) {f c0 : Nat} (h0 : ρ c0 = Df.sem Φ ρ ⟨4, 0, []⟩) (hf : ρ f = Df.sem Φ ρ ⟨20, 64, [c0]⟩) : ¬ FactsT ρ [(f, false)] := by
  intro h
  have hf' : (ρ f).gb = false := h (f, false) (by simp)
  have hb : Φ 64 [ρ c0] = .b (finB (ρ c0).gf) := H 1 0 _ (by decide) (by decide)
  rw [hf] at hf'
  have : (Φ 64 [ρ c0]).gb = false := hf'
  rw [hb, h0] at this
  have h2 : finB (can .f32 0) = false := this
  have h3 : finB (can .f32 0) = true := by kernel_rfl
  rw [h3] at h2
  cases h2
end Go.Proofs.Ytapinopfminmiaa
