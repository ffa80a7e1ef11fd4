/- Contracts of numberBits, l01Same, SameNumber; of SameNumber's law. No condition. -/
import Derived.Test.YtejljfejajckoaaA0
namespace Go.Proofs.Ytejljfejajckoaa
open Go Go.RowKit
set_option linter.unusedVariables false

def bitsOf (a : Nat) : Nat := (can .f32 a).getD 2143289344

/-- Two words that are the same number. -/
def same (a b : Nat) : Bool := can .f32 a == can .f32 b

theorem same_bits (a b : Nat) (h : bitsOf a = bitsOf b) : same a b = true := by
  unfold bitsOf at h
  unfold same
  cases hc : can .f32 a <;> cases hd : can .f32 b <;> rw [hc, hd] at h <;> simp at h ⊢
  · rename_i c
    obtain ⟨rfl, hn⟩ := can_some hd
    subst h
    revert hn
    decide
  · rename_i c
    obtain ⟨rfl, hn⟩ := can_some hc
    subst h
    revert hn
    decide
  · exact h

theorem same_iff (a b : Nat) : same a b = ((bitsOf a : Int) == (bitsOf b : Int)) := by
  rw [Bool.eq_iff_iff]
  constructor
  · intro h
    unfold same at h
    unfold bitsOf
    rw [eq_of_beq h]
    simp
  · intro h
    have h' := eq_of_beq h
    exact same_bits a b (by omega)

end Go.Proofs.Ytejljfejajckoaa
