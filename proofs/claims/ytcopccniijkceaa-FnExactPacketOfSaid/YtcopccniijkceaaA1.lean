/- Contracts of numberBits, l01Same, SameNumber; of SameNumber's law. No condition. -/
import Derived.Test.YtcopccniijkceaaA0
namespace Go.Proofs.Ytcopccniijkceaa
open Go Go.RowKit
set_option linter.unusedVariables false

def bitsOf (a : Nat) : Nat := (can .f32 a).getD 2143289344

theorem c_numberBits (a : Nat) (w : World) :
    Calls Try.prog 192 #[.float .f32 a] w fun e w' => e = .returned (.int .u32 (bitsOf a)) ∧ w = w' := by
  have hn := neq_self .f32 a
  unfold bitsOf
  cases hc : can .f32 a with
  | none =>
    have h1 : (FloatKind.f32.format.order a a != some Ordering.eq) = true := by rw [hn, hc]; rfl
    clear hn hc
    go_enter Try.func192, Try.ntmps192
    go_wp2
    go_ret
    exact ⟨rfl, rfl⟩
  | some b =>
    have h1 : (FloatKind.f32.format.order a a != some Ordering.eq) = false := by rw [hn, hc]; rfl
    obtain ⟨rfl, _⟩ := can_some hc
    clear hn hc
    go_enter Try.func192, Try.ntmps192
    go_wp2
    go_ret
    exact ⟨rfl, rfl⟩

/-- Two words that are the same number. -/
def same (a b : Nat) : Bool := can .f32 a == can .f32 b

theorem c_l01Same (a b : Nat) (w : World) :
    Calls Try.prog 144 #[.float .f32 a, .float .f32 b] w fun e w' => e = .returned (.bool (same a b)) ∧ w = w' := by
  have hn := neq_self .f32 a
  have hm := neq_self .f32 b
  unfold same
  cases hc : can .f32 a with
  | none =>
    have h1 : (FloatKind.f32.format.order a a != some Ordering.eq) = true := by rw [hn, hc]; rfl
    have h2 : (FloatKind.f32.format.order b b != some Ordering.eq) = ((none : Option Nat) == can .f32 b) := by rw [hm]; cases can .f32 b <;> rfl
    cases hd : can .f32 b with
    | none =>
      rw [hd] at h2
      have h2' : (FloatKind.f32.format.order b b != some Ordering.eq) = true := h2
      clear h2 hn hm hc hd
      go_enter Try.func144, Try.ntmps144
      go_wp2
      go_ret
      exact ⟨rfl, rfl⟩
    | some d =>
      rw [hd] at h2
      have h2' : (FloatKind.f32.format.order b b != some Ordering.eq) = false := h2
      clear h2 hn hm hc hd
      go_enter Try.func144, Try.ntmps144
      go_wp2
      go_ret
      exact ⟨rfl, rfl⟩
  | some b' =>
    have h1 : (FloatKind.f32.format.order a a != some Ordering.eq) = false := by rw [hn, hc]; rfl
    cases hd : can .f32 b with
    | none =>
      have h2' : (FloatKind.f32.format.order b b != some Ordering.eq) = true := by rw [hm, hd]; rfl
      clear hn hm hc hd
      go_enter Try.func144, Try.ntmps144
      go_wp2
      go_ret
      exact ⟨rfl, rfl⟩
    | some d =>
      have h2' : (FloatKind.f32.format.order b b != some Ordering.eq) = false := by rw [hm, hd]; rfl
      obtain ⟨rfl, _⟩ := can_some hc
      obtain ⟨rfl, _⟩ := can_some hd
      clear hn hm hc hd
      go_enter Try.func144, Try.ntmps144
      go_wp2
      go_ret
      exact ⟨ret_b (by rw [Bool.eq_iff_iff]; simp; omega), rfl⟩

theorem same_bits (a b : Nat) (h : bitsOf a = bitsOf b) : same a b = true := by
  unfold bitsOf at h
  unfold same
  cases hc : can .f32 a <;> cases hd : can .f32 b <;> rw [hc, hd] at h <;> simp at h ⊢
  · rename_i c
    obtain ⟨rfl, hn⟩ := can_some hd
    subst h
    revert hn
    decide
  · rename_i c
    obtain ⟨rfl, hn⟩ := can_some hc
    subst h
    revert hn
    decide
  · exact h

theorem same_iff (a b : Nat) : same a b = ((bitsOf a : Int) == (bitsOf b : Int)) := by
  rw [Bool.eq_iff_iff]
  constructor
  · intro h
    unfold same at h
    unfold bitsOf
    rw [eq_of_beq h]
    simp
  · intro h
    have h' := eq_of_beq h
    exact same_bits a b (by omega)

theorem c_implSameNumber (a b : Nat) (w : World) :
    Calls Try.prog 184 #[.float .f32 a, .float .f32 b] w fun e w' => e = .returned (.bool (same a b)) ∧ w = w' := by
  go_enter Try.func184, Try.ntmps184
  go_wp2_with (go_at_call 192; refine (c_numberBits _ _).mono ?_; rintro e w' ⟨rfl, rfl⟩)
  go_ret
  exact ⟨ret_b (same_iff a b).symm, rfl⟩

end Go.Proofs.Ytcopccniijkceaa
