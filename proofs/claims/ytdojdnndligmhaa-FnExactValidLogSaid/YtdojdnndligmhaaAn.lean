/- What a walk gives that tells whether several truth values are all true; numbers and their bits. No condition. -/
import Derived.Test.YtdojdnndligmhaaOe
import Derived.Test.YtdojdnndligmhaaYf
namespace Go.Proofs.Ytdojdnndligmhaa
open Go Go.RowKit
set_option linter.unusedVariables false

/-- Each way ends as the facts on it tell. -/
noncomputable def isAnd (S : List Nat) : List Fact → DT (SV × St) → Bool
  | F, .ret x => match x.1 with
    | .p (.one (.lit (.bool true))) => S.all fun n => hasF (n, true) F
    | .p (.one (.lit (.bool false))) => S.any fun n => hasF (n, false) F
    | .p (.one (.bool m false)) => S.any (fun n => Nat.beq n m) && S.all fun n => Nat.beq n m || hasF (n, true) F
    | _ => false
  | F, .split c t e => isAnd S ((c, true) :: F) t && isAnd S ((c, false) :: F) e
  | F, .mk _ k => isAnd S F k
  | F, .req _ _ k => isAnd S F k
  | _, .fail _ => false

theorem hasF_in {f : Fact} {F : List Fact} {ρ : Nat → NV} (hF : FactsT ρ F) (h : hasF f F = true) : (ρ f.1).gb = f.2 := by
  induction F with
  | nil => cases h
  | cons g r ih =>
    unfold hasF at h
    simp only [Bool.or_eq_true, Bool.and_eq_true] at h
    rcases h with ⟨h1, h2⟩ | h
    · have e1 := Nat.eq_of_beq_eq_true h1
      have e2 := eq_of_beq h2
      have := hF g List.mem_cons_self
      first | (rw [← e1, ← e2]; exact this) | (rw [e1, e2]; exact this) | (rw [e1, ← e2]; exact this) | (rw [← e1, e2]; exact this)
    · exact ih (fun x hx => hF x (List.mem_cons_of_mem _ hx)) h

theorem isAnd_ok {ρ : Nat → NV} {S : List Nat} : ∀ (m : DT (SV × St)) (F : List Fact), FactsT ρ F → isAnd S F m = true → ∃ x, m.at_ ρ = some x ∧ nvR ρ (.p (.one .b)) x.1 = [.b (S.all fun n => (ρ n).gb)]
  | .ret (v, s), F, hF, h => by
    refine ⟨_, rfl, ?_⟩
    unfold isAnd at h
    simp only at h
    split at h
    · skip
      have : (S.all fun n => (ρ n).gb) = true := List.all_eq_true.2 fun n hn => hasF_in (f := (n, true)) hF (List.all_eq_true.1 h n hn)
      rw [this]
      rfl
    · skip
      obtain ⟨n, hn, hf⟩ := List.any_eq_true.1 h
      have : (S.all fun n => (ρ n).gb) = false := by
        cases hb : S.all fun n => (ρ n).gb with
        | false => rfl
        | true =>
          have h1 := List.all_eq_true.1 hb n hn
          have h2 := hasF_in (f := (n, false)) hF hf
          simp only at h2
          rw [h2] at h1
          cases h1
      rw [this]
      rfl
    · rename_i m
      simp only [Bool.and_eq_true] at h
      obtain ⟨h1, h2⟩ := h
      have : (S.all fun n => (ρ n).gb) = (ρ m).gb := by
        cases hb : (ρ m).gb with
        | true =>
          refine List.all_eq_true.2 fun n hn => ?_
          have h3 := List.all_eq_true.1 h2 n hn
          simp only [Bool.or_eq_true] at h3
          rcases h3 with h3 | h3
          · rw [Nat.eq_of_beq_eq_true h3]; exact hb
          · exact hasF_in (f := (n, true)) hF h3
        | false =>
          obtain ⟨n, hn, h3⟩ := List.any_eq_true.1 h1
          refine Bool.eq_false_iff.2 fun h => ?_
          have h4 := List.all_eq_true.1 h n hn
          rw [Nat.eq_of_beq_eq_true h3, hb] at h4
          cases h4
      rw [this]
      show [NV.b ((ρ m).gb != false)] = _
      simp
    · cases h
  | .split c t e, F, hF, h => by
    unfold isAnd at h
    simp only [Bool.and_eq_true] at h
    unfold DT.at_
    cases hc : (ρ c).gb with
    | true => rw [if_pos rfl]; exact isAnd_ok t _ (hF.cons hc) h.1
    | false => rw [if_neg (by simp)]; exact isAnd_ok e _ (hF.cons hc) h.2
  | .mk d k, F, hF, h => isAnd_ok k F hF h
  | .req g n k, F, hF, h => isAnd_ok k F hF h
  | .fail y, F, hF, h => by cases h

/-- One way, with a node's truth value at its end. -/
noncomputable def isNode (n : Nat) : DT (SV × St) → Bool
  | .ret x => match x.1 with
    | .p (.one (.bool m false)) => Nat.beq m n
    | _ => false
  | .mk _ k => isNode n k
  | .req _ _ k => isNode n k
  | _ => false
theorem isNode_ok {ρ : Nat → NV} {n : Nat} : ∀ (m : DT (SV × St)), isNode n m = true → ∃ x, m.at_ ρ = some x ∧ nvR ρ (.p (.one .b)) x.1 = [.b (ρ n).gb]
  | .ret (v, s), h => by
    refine ⟨_, rfl, ?_⟩
    unfold isNode at h
    simp only at h
    split at h
    · rename_i m
      have := Nat.eq_of_beq_eq_true h
      subst this
      show [NV.b ((ρ m).gb != false)] = _
      simp
    · cases h
  | .split c t e, h => by cases h
  | .mk d k, h => isNode_ok k h
  | .req g n k, h => isNode_ok k h
  | .fail y, h => by cases h

theorem gives_of {Φ : Syms} {T : List Df} {d : DT (SV × St)} {res : RSh} {ins : List NV} {l : List NV} (h : ∃ x, d.at_ (envI Φ T ins) = some x ∧ nvR (envI Φ T ins) res x.1 = l) : gives Φ T d res ins = l := by
  obtain ⟨x, h1, h2⟩ := h
  unfold gives
  have h1' : d.at_ (envT Φ (insOf ins) T) = some x := h1
  rw [h1']
  exact h2

theorem ins_can : ∀ {ks : List Kd} {vs : List Value} {xs : List NV}, KMs ks vs xs → (∀ k ∈ ks, k = .f .f32) → ∀ (n : Nat) (c : Nat), (xs.getD n (.i 0)).gf = some c → (FloatKind.f32.decode c).isNaN = false
  | [], [], [], _, _, n, c, h => by simp [NV.gf] at h
  | k :: ks, v :: vs, x :: xs, ⟨h1, h2⟩, hk, 0, c, h => by
    obtain rfl := hk k List.mem_cons_self
    obtain ⟨r, _, hr⟩ := h1
    have hx : x.gf = some c := by simpa using h
    rw [← hr.out] at hx
    obtain ⟨rfl, h2⟩ := can_some hx
    exact h2
  | k :: ks, v :: vs, x :: xs, ⟨h1, h2⟩, hk, n + 1, c, h => ins_can h2 (fun k hk' => hk k (List.mem_cons_of_mem _ hk')) n c (by simpa using h)

theorem bits_same {a b : Option Nat} (ha : ∀ c, a = some c → (FloatKind.f32.decode c).isNaN = false) (hb : ∀ c, b = some c → (FloatKind.f32.decode c).isNaN = false) :
    (((a.getD 2143289344 : Nat) : Int) == ((b.getD 2143289344 : Nat) : Int)) = (a == b) := by
  have hn : (FloatKind.f32.decode 2143289344).isNaN = true := by decide
  have ne : ∀ c, (FloatKind.f32.decode c).isNaN = false → c ≠ 2143289344 := fun c hc e => by rw [e, hn] at hc; cases hc
  cases a with
  | none => cases b with
    | none => rfl
    | some y =>
      have := ne y (hb y rfl)
      rw [Bool.eq_iff_iff]
      simp
      omega
  | some x => cases b with
    | none =>
      have := ne x (ha x rfl)
      rw [Bool.eq_iff_iff]
      simp
      omega
    | some y =>
      rw [Bool.eq_iff_iff]
      simp
      omega
end Go.Proofs.Ytdojdnndligmhaa
