/- Two functions with the same ways, up to constants. No condition. -/
import Derived.Test.YtcopccniijkceaaYf
namespace Go.Proofs.Ytcopccniijkceaa
open Go Go.RowKit
set_option linter.unusedVariables false
set_option linter.unusedSimpArgs false

noncomputable def ssC (T : List Df) (kd : Kd) (a b : SS) : Bool := litB a b || match kd, a, b with
  | .f k, .lit (.float k1 c), .flt k2 n => Nat.beq n (Df.id ⟨4 + kn k, c, []⟩) && memD ⟨4 + kn k, c, []⟩ T
  | .f k, .flt k2 n, .lit (.float k1 c) => Nat.beq n (Df.id ⟨4 + kn k, c, []⟩) && memD ⟨4 + kn k, c, []⟩ T
  | _, _, _ => false
noncomputable def ksC (T : List Df) : List Kd → List SS → List SS → Bool
  | [], [], [] => true
  | k :: ks, a :: l, b :: m => ssC T k a b && ksC T ks l m
  | _, _, _ => false
noncomputable def shC (T : List Df) : Sh → SP → SP → Bool
  | .one k, .one a, .one b => ssC T k a b
  | .agg ks, .agg l, .agg m => ksC T ks l m
  | _, _, _ => false
noncomputable def shsC (T : List Df) : List Sh → List SP → List SP → Bool
  | [], [], [] => true
  | s :: r, a :: l, b :: m => shC T s a b && shsC T r l m
  | _, _, _ => false
noncomputable def rC (T : List Df) : RSh → SV → SV → Bool
  | .p s, .p a, .p b => shC T s a b
  | .tup r, .tup l, .tup m => shsC T r l m
  | _, _, _ => false

section
variable {Φ : Syms} {ρ : Nat → NV} {T : List Df}

theorem ssC_ok (hT : ∀ d ∈ T, ρ d.id = d.sem Φ ρ) {kd : Kd} {a b : SS} (h : ssC T kd a b = true) : nvK ρ kd a = nvK ρ kd b := by
  unfold ssC at h
  rw [Bool.or_eq_true] at h
  rcases h with h | h
  · rw [litB_eq h]
  · split at h
    · rename_i k k1 c k2 n
      simp only [Bool.and_eq_true] at h
      have hn := Nat.eq_of_beq_eq_true h.1
      have hd := hT _ (memD_mem h.2)
      subst hn
      show NV.f (can k c) = NV.f (ρ _).gf
      rw [hd]
      cases k <;> rfl
    · rename_i k k2 n k1 c
      simp only [Bool.and_eq_true] at h
      have hn := Nat.eq_of_beq_eq_true h.1
      have hd := hT _ (memD_mem h.2)
      subst hn
      show NV.f (ρ _).gf = NV.f (can k c)
      rw [hd]
      cases k <;> rfl
    · cases h
theorem ksC_ok (hT : ∀ d ∈ T, ρ d.id = d.sem Φ ρ) : ∀ {ks : List Kd} {l m : List SS}, ksC T ks l m = true → nvKs ρ ks l = nvKs ρ ks m
  | [], [], [], _ => rfl
  | k :: ks, a :: l, b :: m, h => by
    simp only [ksC, Bool.and_eq_true] at h
    simp only [nvKs]
    rw [ssC_ok hT h.1, ksC_ok hT h.2]
theorem shC_ok (hT : ∀ d ∈ T, ρ d.id = d.sem Φ ρ) {s : Sh} {a b : SP} (h : shC T s a b = true) : nvSh ρ s a = nvSh ρ s b := by
  unfold shC at h
  split at h
  · simp only [nvSh]; rw [ssC_ok hT h]
  · simp only [nvSh]; rw [ksC_ok hT h]
  · cases h
theorem shsC_ok (hT : ∀ d ∈ T, ρ d.id = d.sem Φ ρ) : ∀ {ss : List Sh} {l m : List SP}, shsC T ss l m = true → nvShs ρ ss l = nvShs ρ ss m
  | [], [], [], _ => rfl
  | k :: ks, a :: l, b :: m, h => by
    simp only [shsC, Bool.and_eq_true] at h
    simp only [nvShs]
    rw [shC_ok hT h.1, shsC_ok hT h.2]
theorem rC_ok (hT : ∀ d ∈ T, ρ d.id = d.sem Φ ρ) {r : RSh} {a b : SV} (h : rC T r a b = true) : nvR ρ r a = nvR ρ r b := by
  unfold rC at h
  split at h
  · simp only [nvR]; rw [shC_ok hT h]
  · simp only [nvR]; rw [shsC_ok hT h]
  · cases h
end

noncomputable def sameG (X : List (List Fact)) (cmp : SV → SV → Bool) (e : DT (SV × St)) : List Fact → DT (SV × St) → Bool
  | F, .ret x => leads X (cmp x.1) F e
  | F, .split c t u => (anyX X ((c, true) :: F) || sameG X cmp e ((c, true) :: F) t) && (anyX X ((c, false) :: F) || sameG X cmp e ((c, false) :: F) u)
  | F, .mk _ k => sameG X cmp e F k
  | F, .req _ _ k => sameG X cmp e F k
  | _, .fail _ => false

theorem sameG_ok {ρ : Nat → NV} {X : List (List Fact)} (hX : ∀ l ∈ X, ¬ FactsT ρ l) {cmp : SV → SV → Bool} {e : DT (SV × St)} : ∀ (m : DT (SV × St)) (F : List Fact), FactsT ρ F → sameG X cmp e F m = true → ∃ x y, m.at_ ρ = some x ∧ e.at_ ρ = some y ∧ cmp x.1 y.1 = true
  | .ret x, F, hF, h => by
    obtain ⟨y, h1, h2⟩ := leads_ok hX e F hF h
    exact ⟨x, y, rfl, h1, h2⟩
  | .split c t u, F, hF, h => by
    unfold sameG at h
    have prune : ∀ b, (ρ c).gb = b → anyX X ((c, b) :: F) = true → False := fun b hb hx => by
      obtain ⟨l, hl, hm⟩ := anyX_mem hx
      exact hX l hl fun f hf => hF.cons hb f (hm f hf)
    simp only [Bool.and_eq_true, Bool.or_eq_true] at h
    cases hc : (ρ c).gb with
    | true =>
      rcases h.1 with hx | hk
      · exact (prune true hc hx).elim
      · obtain ⟨x, y, h1, h2, h3⟩ := sameG_ok hX t _ (hF.cons hc) hk
        exact ⟨x, y, by unfold DT.at_; rw [if_pos hc]; exact h1, h2, h3⟩
    | false =>
      rcases h.2 with hx | hk
      · exact (prune false hc hx).elim
      · obtain ⟨x, y, h1, h2, h3⟩ := sameG_ok hX u _ (hF.cons hc) hk
        exact ⟨x, y, by unfold DT.at_; rw [if_neg (by rw [hc]; simp)]; exact h1, h2, h3⟩
  | .mk d k, F, hF, h => sameG_ok hX k F hF h
  | .req g n k, F, hF, h => sameG_ok hX k F hF h
  | .fail y, F, hF, h => by cases h

theorem gives_sameG {Φ : Syms} {T : List Df} {X : List (List Fact)} {d e : DT (SV × St)} {res : RSh} {ins : List NV} (hw : wfT (withIds T) [] = true) (hX : ∀ l ∈ X, ¬ FactsT (envI Φ T ins) l) (h : sameG X (rC T res) e [] d = true) :
    gives Φ T d res ins = gives Φ T e res ins := by
  obtain ⟨x, y, h1, h2, h3⟩ := sameG_ok hX d [] (fun f hf => by simp at hf) h
  unfold gives
  have h1' : d.at_ (envT Φ (insOf ins) T) = some x := h1
  have h2' : e.at_ (envT Φ (insOf ins) T) = some y := h2
  rw [h1', h2']
  exact rC_ok (envI_ok hw ins) h3
end Go.Proofs.Ytcopccniijkceaa
