/- Walks whose ways leave one after the other: one look at each side. No condition. -/
import Derived.Test.YtapinopfminmiaaYt
namespace Go.Proofs.Ytapinopfminmiaa
open Go Go.RowKit
set_option linter.unusedVariables false

noncomputable def eqSSs : List SS → List SS → Bool
  | [], [] => true
  | a :: l, b :: m => eqSS a b && eqSSs l m
  | _, _ => false
theorem eqSSs_eq : ∀ {l m : List SS}, eqSSs l m = true → l = m
  | [], [], _ => rfl
  | a :: l, b :: m, h => by
    simp only [eqSSs, Bool.and_eq_true] at h
    rw [eqSS_eq h.1, eqSSs_eq h.2]

/-- A row and a number. -/
noncomputable def isEnd (l : List SS) (c : SS) : SV → Bool
  | .tup [.agg m, .one d] => eqSSs l m && eqSS c d
  | _ => false
theorem isEnd_eq {l : List SS} {c : SS} {v : SV} (h : isEnd l c v = true) : v = .tup [.agg l, .one c] := by
  unfold isEnd at h
  split at h
  · simp only [Bool.and_eq_true] at h
    rw [eqSSs_eq h.1, eqSS_eq h.2]
  · cases h

noncomputable def endIs (l : List SS) (c : SS) : DT (SV × St) → Bool
  | .ret x => isEnd l c x.1
  | _ => false

abbrev code (n : Int) : SS := .lit (.int .i64 n)

/-- Each condition but f0 leads on where it is true, and ends with zeros and a number where it is false. -/
noncomputable def inLine (mem : Df → Bool) (f0 : Nat) (z fin : List SS) : List (Nat × Int) → DT (SV × St) → Bool
  | l, .mk d k => mem d && inLine mem f0 z fin l k
  | l, .split c t e => match Nat.beq c f0 with
    | true => inLine mem f0 z fin l t
    | false => match l with
      | (c', n) :: r => Nat.beq c c' && (endLine mem z (code n) e && inLine mem f0 z fin r t)
      | [] => false
  | [], .ret x => isEnd fin (code 0) x.1
  | _, _ => false
where
  endLine (mem : Df → Bool) (z : List SS) (c : SS) : DT (SV × St) → Bool
    | .mk d k => mem d && endLine mem z c k
    | .ret x => isEnd z c x.1
    | _ => false

noncomputable def lineOf (z fin : List SS) : List (Nat × Int) → DT SV
  | [] => .ret (.tup [.agg fin, .one (code 0)])
  | (c, n) :: r => .split c (lineOf z fin r) (.ret (.tup [.agg z, .one (code n)]))

section
variable {mem : Df → Bool} {f0 : Nat} {z fin : List SS} {T : List Df} {leaf : SV → Bool}

theorem endLine_chk {X : List (List Fact)} (hm : ∀ d, mem d = true → memD d T = true) {c : SS} (hl : leaf (.tup [.agg z, .one c]) = true) : ∀ (m : DT (SV × St)) (F : List Fact), inLine.endLine mem z c m = true → m.chkF T [] X (fun x => leaf x.1) F = true
  | .ret x, F, h => by
    unfold inLine.endLine at h
    show leaf x.1 = true
    rw [isEnd_eq h]; exact hl
  | .mk d k, F, h => by
    unfold inLine.endLine at h
    simp only [Bool.and_eq_true] at h
    simp only [DT.chkF, Bool.and_eq_true]
    exact ⟨hm d h.1, endLine_chk hm hl k F h.2⟩
  | .split .., F, h => by cases h
  | .req .., F, h => by cases h
  | .fail _, F, h => by cases h
theorem endLine_at {ρ : Nat → NV} {c : SS} : ∀ (m : DT (SV × St)), inLine.endLine mem z c m = true → ∃ s, m.at_ ρ = some (.tup [.agg z, .one c], s)
  | .ret (v, s), h => by
    unfold inLine.endLine at h
    have := isEnd_eq h
    simp only at this
    exact ⟨s, by rw [← this]; rfl⟩
  | .mk d k, h => by
    unfold inLine.endLine at h
    simp only [Bool.and_eq_true] at h
    exact endLine_at k h.2
  | .split .., h => by cases h
  | .req .., h => by cases h
  | .fail _, h => by cases h

theorem inLine_chk (hm : ∀ d, mem d = true → memD d T = true) (hz : ∀ n, leaf (.tup [.agg z, .one (code n)]) = true) (hf : leaf (.tup [.agg fin, .one (code 0)]) = true) :
    ∀ (m : DT (SV × St)) (l : List (Nat × Int)) (F : List Fact), inLine mem f0 z fin l m = true → m.chkF T [] [[(f0, false)]] (fun x => leaf x.1) F = true
  | .mk d k, l, F, h => by
    unfold inLine at h
    simp only [Bool.and_eq_true] at h
    simp only [DT.chkF, Bool.and_eq_true]
    exact ⟨hm d h.1, inLine_chk hm hz hf k l F h.2⟩
  | .split c t e, l, F, h => by
    unfold inLine at h
    simp only [DT.chkF, Bool.and_eq_true, Bool.or_eq_true]
    split at h
    · rename_i hc
      have hc := Nat.eq_of_beq_eq_true hc
      exact ⟨Or.inr (inLine_chk hm hz hf t l _ h), Or.inl (by simp [anyX, allF, hasF, hc])⟩
    · split at h
      · rename_i c' n r
        simp only [Bool.and_eq_true] at h
        exact ⟨Or.inr (inLine_chk hm hz hf t r _ h.2.2), Or.inr (endLine_chk hm (hz n) e _ h.2.1)⟩
      · cases h
  | .ret x, [], F, h => by
    unfold inLine at h
    show leaf x.1 = true
    rw [isEnd_eq h]; exact hf
  | .ret x, _ :: _, F, h => by cases h
  | .req .., [], F, h => by cases h
  | .req .., _ :: _, F, h => by cases h
  | .fail _, [], F, h => by cases h
  | .fail _, _ :: _, F, h => by cases h

theorem at_split {α : Type} {ρ : Nat → NV} {c : Nat} {t e : DT α} : (DT.split c t e).at_ ρ = if (ρ c).gb = true then t.at_ ρ else e.at_ ρ := rfl

theorem inLine_at {ρ : Nat → NV} (h0 : (ρ f0).gb = true) : ∀ (m : DT (SV × St)) (l : List (Nat × Int)), inLine mem f0 z fin l m = true → ∃ v s, m.at_ ρ = some (v, s) ∧ (lineOf z fin l).at_ ρ = some v
  | .mk d k, l, h => by
    unfold inLine at h
    simp only [Bool.and_eq_true] at h
    exact inLine_at h0 k l h.2
  | .split c t e, l, h => by
    unfold inLine at h
    rw [at_split]
    split at h
    · rename_i hc
      have hc := Nat.eq_of_beq_eq_true hc
      rw [hc, if_pos h0]
      exact inLine_at h0 t l h
    · split at h
      · rename_i c' n r
        simp only [Bool.and_eq_true] at h
        have hc := Nat.eq_of_beq_eq_true h.1
        rw [show lineOf z fin ((c', n) :: r) = .split c' (lineOf z fin r) (.ret (.tup [.agg z, .one (code n)])) from rfl, at_split, ← hc]
        cases hb : (ρ c).gb with
        | true => simpa using inLine_at h0 t r h.2.2
        | false =>
          obtain ⟨s, hs⟩ := endLine_at (ρ := ρ) e h.2.1
          exact ⟨_, s, by simpa using hs, rfl⟩
      · cases h
  | .ret (v, s), [], h => by
    unfold inLine at h
    have := isEnd_eq h
    simp only at this
    subst this
    exact ⟨_, s, rfl, rfl⟩
  | .ret x, _ :: _, h => by cases h
  | .req .., [], h => by cases h
  | .req .., _ :: _, h => by cases h
  | .fail _, [], h => by cases h
  | .fail _, _ :: _, h => by cases h
end

/-- Conditions with one number may stand in any order. -/
theorem line_at {ρ : Nat → NV} {z fin : List SS} (n : Int) : ∀ l : List Nat, (lineOf z fin (l.map fun c => (c, n))).at_ ρ = some (if (l.all fun c => (ρ c).gb) = true then .tup [.agg fin, .one (code 0)] else .tup [.agg z, .one (code n)])
  | [] => rfl
  | c :: l => by
    rw [List.map_cons, show lineOf z fin ((c, n) :: l.map fun c => (c, n)) = .split c (lineOf z fin (l.map fun c => (c, n))) (.ret (.tup [.agg z, .one (code n)])) from rfl, at_split, List.all_cons]
    cases hb : (ρ c).gb with
    | true => simpa using line_at n l
    | false => simp [DT.at_]
theorem line_same {ρ : Nat → NV} {z fin : List SS} {n : Int} {l m : List Nat} (h1 : l.all (fun c => m.any (Nat.beq c)) = true) (h2 : m.all (fun c => l.any (Nat.beq c)) = true) : ∀ pre : List (Nat × Int), (lineOf z fin (pre ++ l.map fun c => (c, n))).at_ ρ = (lineOf z fin (pre ++ m.map fun c => (c, n))).at_ ρ
  | [] => by
    rw [List.nil_append, List.nil_append, line_at, line_at]
    have sub : ∀ {l m : List Nat}, l.all (fun c => m.any (Nat.beq c)) = true → (m.all fun c => (ρ c).gb) = true → (l.all fun c => (ρ c).gb) = true := fun {l m} h hm => List.all_eq_true.2 fun c hc => by
      obtain ⟨d, hd, he⟩ := List.any_eq_true.1 (List.all_eq_true.1 h c hc)
      rw [Nat.eq_of_beq_eq_true he]
      exact List.all_eq_true.1 hm d hd
    have : (l.all fun c => (ρ c).gb) = (m.all fun c => (ρ c).gb) := Bool.eq_iff_iff.2 ⟨fun h => sub h2 h, fun h => sub h1 h⟩
    rw [this]
  | (c, k) :: pre => by
    rw [List.cons_append, List.cons_append]
    show (DT.split c (lineOf z fin (pre ++ l.map fun c => (c, n))) _).at_ ρ = (DT.split c (lineOf z fin (pre ++ m.map fun c => (c, n))) _).at_ ρ
    rw [at_split, at_split, line_same h1 h2 pre]

/-- What the line gives. -/
noncomputable def givesL (Φ : Syms) (T : List Df) (d : DT SV) (res : RSh) (ins : List NV) : List NV :=
  match d.at_ (envT Φ (insOf ins) T) with
  | some x => nvR (envT Φ (insOf ins) T) res x
  | none => []
theorem givesL_is {Φ : Syms} {T : List Df} {m : DT (SV × St)} {d : DT SV} {res : RSh} {ins : List NV} (h : ∃ v s, m.at_ (envI Φ T ins) = some (v, s) ∧ d.at_ (envI Φ T ins) = some v) : gives Φ T m res ins = givesL Φ T d res ins := by
  obtain ⟨v, s, h1, h2⟩ := h
  unfold gives givesL
  have h1' : m.at_ (envT Φ (insOf ins) T) = some (v, s) := h1
  have h2' : d.at_ (envT Φ (insOf ins) T) = some v := h2
  rw [h1', h2']
end Go.Proofs.Ytapinopfminmiaa
