/- A symbolic walk: checks that use what is known on a way; two functions with the same ways. No condition. -/
import Derived.Test.YtcopccniijkceaaY8
namespace Go.Proofs.Ytcopccniijkceaa
open Go Go.RowKit
set_option linter.unusedVariables false
set_option linter.unusedSimpArgs false

abbrev Fact := Nat × Bool

noncomputable def hasF (f : Fact) : List Fact → Bool
  | [] => false
  | g :: r => (Nat.beq g.1 f.1 && (g.2 == f.2)) || hasF f r
theorem hasF_mem {f : Fact} : ∀ {l : List Fact}, hasF f l = true → f ∈ l
  | g :: r, h => by
    simp only [hasF, Bool.or_eq_true, Bool.and_eq_true] at h
    rcases h with ⟨h1, h2⟩ | h
    · have : g = f := Prod.ext (Nat.eq_of_beq_eq_true h1) (eq_of_beq h2)
      rw [← this]; exact List.mem_cons_self
    · exact List.mem_cons_of_mem _ (hasF_mem h)

noncomputable def allF : List Fact → List Fact → Bool
  | [], _ => true
  | f :: r, F => hasF f F && allF r F
theorem allF_mem : ∀ {l F : List Fact}, allF l F = true → ∀ f ∈ l, f ∈ F
  | [], _, _, f, hf => by simp at hf
  | g :: r, F, h, f, hf => by
    simp only [allF, Bool.and_eq_true] at h
    rcases List.mem_cons.1 hf with rfl | hf
    · exact hasF_mem h.1
    · exact allF_mem h.2 f hf

noncomputable def anyX : List (List Fact) → List Fact → Bool
  | [], _ => false
  | l :: r, F => allF l F || anyX r F
theorem anyX_mem : ∀ {X : List (List Fact)} {F : List Fact}, anyX X F = true → ∃ l ∈ X, ∀ f ∈ l, f ∈ F
  | l :: r, F, h => by
    simp only [anyX, Bool.or_eq_true] at h
    rcases h with h | h
    · exact ⟨l, List.mem_cons_self, allF_mem h⟩
    · obtain ⟨l', h1, h2⟩ := anyX_mem h
      exact ⟨l', List.mem_cons_of_mem _ h1, h2⟩

/-- What may be asked on a way on which the facts hold. -/
structure Rq where
  tag : Nat
  n : Nat
  on : List Fact

noncomputable def anyR : List Rq → Nat → Nat → List Fact → Bool
  | [], _, _, _ => false
  | q :: r, g, n, F => (Nat.beq q.tag g && (Nat.beq q.n n && allF q.on F)) || anyR r g n F
theorem anyR_mem : ∀ {R : List Rq} {g n : Nat} {F : List Fact}, anyR R g n F = true → ∃ q ∈ R, q.tag = g ∧ q.n = n ∧ ∀ f ∈ q.on, f ∈ F
  | q :: r, g, n, F, h => by
    simp only [anyR, Bool.or_eq_true, Bool.and_eq_true] at h
    rcases h with ⟨h1, h2, h3⟩ | h
    · exact ⟨q, List.mem_cons_self, Nat.eq_of_beq_eq_true h1, Nat.eq_of_beq_eq_true h2, allF_mem h3⟩
    · obtain ⟨q', a, b⟩ := anyR_mem h
      exact ⟨q', List.mem_cons_of_mem _ a, b⟩

noncomputable def FactsT (ρ : Nat → NV) (F : List Fact) : Prop := ∀ f ∈ F, (ρ f.1).gb = f.2

/-- Nothing fails on a way that can be gone; all nodes lie in T; what is asked is listed; the ends are as told. -/
noncomputable def DT.chkF {α : Type} (T : List Df) (R : List Rq) (X : List (List Fact)) (leaf : α → Bool) : List Fact → DT α → Bool
  | _, .ret x => leaf x
  | F, .split c t e => (anyX X ((c, true) :: F) || t.chkF T R X leaf ((c, true) :: F)) && (anyX X ((c, false) :: F) || e.chkF T R X leaf ((c, false) :: F))
  | F, .mk d k => memD d T && k.chkF T R X leaf F
  | F, .req g n k => anyR R g n F && k.chkF T R X leaf F
  | _, .fail _ => false

theorem FactsT.cons {ρ : Nat → NV} {F : List Fact} {c : Nat} {b : Bool} (h : FactsT ρ F) (hc : (ρ c).gb = b) : FactsT ρ ((c, b) :: F) := fun f hf => by
  rcases List.mem_cons.1 hf with rfl | hf
  · exact hc
  · exact h f hf

theorem DT.chkF_at {α : Type} {Φ : Syms} {ρ : Nat → NV} {T : List Df} {R : List Rq} {X : List (List Fact)} {leaf : α → Bool} (hT : ∀ d ∈ T, ρ d.id = d.sem Φ ρ)
    (hR : ∀ q ∈ R, FactsT ρ q.on → Asked q.tag (ρ q.n)) (hX : ∀ l ∈ X, ¬ FactsT ρ l) :
    ∀ (m : DT α) (F : List Fact), FactsT ρ F → m.chkF T R X leaf F = true → m.holds Φ ρ fun x => m.at_ ρ = some x ∧ leaf x = true
  | .ret x, F, hF, h => ⟨rfl, h⟩
  | .split c t e, F, hF, h => by
    simp only [DT.chkF, Bool.and_eq_true, Bool.or_eq_true] at h
    have prune : ∀ b, (ρ c).gb = b → anyX X ((c, b) :: F) = true → False := fun b hb hx => by
      obtain ⟨l, hl, hm⟩ := anyX_mem hx
      exact hX l hl fun f hf => hF.cons hb f (hm f hf)
    unfold DT.holds DT.at_
    split
    · rename_i hc
      rcases h.1 with hx | hk
      · exact (prune true hc hx).elim
      · exact DT.chkF_at hT hR hX t _ (hF.cons hc) hk
    · rename_i hc
      have hc' : (ρ c).gb = false := by simpa using hc
      rcases h.2 with hx | hk
      · exact (prune false hc' hx).elim
      · exact DT.chkF_at hT hR hX e _ (hF.cons hc') hk
  | .mk d k, F, hF, h => by
    simp only [DT.chkF, Bool.and_eq_true] at h
    exact ⟨hT d (memD_mem h.1), DT.chkF_at hT hR hX k F hF h.2⟩
  | .req g n k, F, hF, h => by
    simp only [DT.chkF, Bool.and_eq_true] at h
    obtain ⟨q, hq, rfl, rfl, hon⟩ := anyR_mem h.1
    exact ⟨hR q hq fun f hf => hF f (hon f hf), DT.chkF_at hT hR hX k F hF h.2⟩
  | .fail y, F, hF, h => by cases h

/-- All that is asked. -/
noncomputable def DT.asks {α : Type} : DT α → List (Nat × Nat) → List (Nat × Nat)
  | .ret _, A => A
  | .split _ t e, A => e.asks (t.asks A)
  | .mk _ k, A => k.asks A
  | .req g n k, A => k.asks (if A.any (fun q => Nat.beq q.1 g && Nat.beq q.2 n) then A else (g, n) :: A)
  | .fail _, A => A

section
variable {Φ : Syms} {P : Program} {TB : Tab} {FT : FTab} {OT : OTab}

theorem len_args : ∀ {ss : List Sh} {vs : List Value} {xs : List NV}, ShMs ss vs xs → xs.length = cnts ss := by
  intro ss
  induction ss with
  | nil => intro vs xs h; cases vs <;> first | (cases (h : xs = []); rfl) | exact h.elim
  | cons s ss ih =>
    intro vs xs h
    cases vs with
    | nil => exact h.elim
    | cons v vs =>
      obtain ⟨x1, x2, rfl, h1, h2⟩ := h
      simp [ShM_length h1, ih h2, cnts]

/-- The environment of the inputs. -/
noncomputable abbrev envI (Φ : Syms) (T : List Df) (ins : List NV) : Nat → NV := envT Φ (insOf ins) T

theorem envI_ok {T : List Df} (hw : wfT (withIds T) [] = true) (ins : List NV) : ∀ d ∈ T, envI Φ T ins d.id = d.sem Φ (envI Φ T ins) :=
  envT_ok Φ (insOf ins) T [] hw (fun n hn => by simp at hn) _ fun n _ => rfl

theorem walkF_holds (hT : TabOK P TB) (hm : P.follows .mixedOrders = true) (hF : FTok P FT) (hO : ∀ e ∈ OT, OpqOK P Φ e) {n : Nat} {f : FuncId} {args : List Sh} {T : List Df} {ins : List NV} {Q : SV × St → Prop}
    (h : (walkN n TB FT OT f args).holds Φ (envI Φ T ins) Q) (hsz : cnts args ≤ 1000) (hb : (findF f FT).isSome = true) {vs : Array Value} {w : World} (hv : ShMs args vs.toList ins) :
    Calls P f vs w fun en w' => ∃ v r γ, en = .returned v ∧ Q r ∧ SVm (envI Φ T ins) γ r.1 v ∧ Stays w w' := by
  have ha : all2 (SVm (envI Φ T ins) []) (inShs 0 args) vs.toList := inShs_ok hv fun j hj => by
    have := len_args hv
    rw [Nat.zero_add]
    show envT Φ (insOf ins) T j = _
    rw [envT_ins _ _ _ _ (by omega)]
    rfl
  have hcall := called_of hF hb (callDT_ok (ρ := envI Φ T ins) hT hm hF hO n 40 0 f _ ⟨.nil, [], []⟩ ⟨w, 0⟩ [] vs ⟨#[], []⟩ w _ ⟨TM.zero _ _, ⟨rfl, List.nodup_nil, fun b p _ hp => by simp at hp, fun b k hk => by simp at hk⟩, Stays.refl w, fun c x h => by simp at h, rfl⟩ ha h)
  refine hcall.mono ?_
  rintro e w' ⟨v, r, γ, rfl, hq, hmv, _, hst, _⟩
  exact ⟨v, r, [] ++ γ, rfl, hq, hmv, hst⟩

theorem walkF_ok (hT : TabOK P TB) (hm : P.follows .mixedOrders = true) (hF : FTok P FT) (hO : ∀ e ∈ OT, OpqOK P Φ e) {n : Nat} {f : FuncId} {args : List Sh} {res : RSh} {T : List Df} {R : List Rq} {X : List (List Fact)}
    (hw : wfT (withIds T) [] = true) (hchk : (walkN n TB FT OT f args).chkF T R X (fun x => okR res x.1) [] = true) (hsz : cnts args ≤ 1000) (hb : (findF f FT).isSome = true)
    {vs : Array Value} {ins : List NV} {w : World} (hR : ∀ q ∈ R, FactsT (envI Φ T ins) q.on → Asked q.tag (envI Φ T ins q.n)) (hX : ∀ l ∈ X, ¬ FactsT (envI Φ T ins) l) (hv : ShMs args vs.toList ins) :
    Calls P f vs w fun en w' => ∃ v, en = .returned v ∧ RM res v (gives Φ T (walkN n TB FT OT f args) res ins) ∧ Stays w w' := by
  have h := DT.chkF_at (leaf := fun x : SV × St => okR res x.1) (envI_ok (Φ := Φ) hw ins) hR hX _ [] (fun f hf => by simp at hf) hchk
  refine (walkF_holds hT hm hF hO h hsz hb hv).mono ?_
  rintro e w' ⟨v, r, γ, rfl, ⟨hat, hok⟩, hmv, hst⟩
  refine ⟨v, rfl, ?_, hst⟩
  unfold gives
  rw [hat]
  exact okR_ok hok hmv

theorem lawF_ok (hT : TabOK P TB) (hm : P.follows .mixedOrders = true) (hF : FTok P FT) (hO : ∀ e ∈ OT, OpqOK P Φ e) {n : Nat} {f : FuncId} {args : List Sh} {T : List Df} {R : List Rq} {X : List (List Fact)}
    (hw : wfT (withIds T) [] = true) (hchk : (walkN n TB FT OT f args).chkF T R X (fun x => isTrue x.1) [] = true) (hsz : cnts args ≤ 1000) (hb : (findF f FT).isSome = true)
    {vs : Array Value} {ins : List NV} {w : World} (hR : ∀ q ∈ R, FactsT (envI Φ T ins) q.on → Asked q.tag (envI Φ T ins q.n)) (hX : ∀ l ∈ X, ¬ FactsT (envI Φ T ins) l) (hv : ShMs args vs.toList ins) :
    Calls P f vs w fun en w' => en = .returned (.bool true) ∧ Stays w w' := by
  have h := DT.chkF_at (leaf := fun x : SV × St => isTrue x.1) (envI_ok (Φ := Φ) hw ins) hR hX _ [] (fun f hf => by simp at hf) hchk
  refine (walkF_holds hT hm hF hO h hsz hb hv).mono ?_
  rintro e w' ⟨v, r, γ, rfl, ⟨hat, hok⟩, hmv, hst⟩
  refine ⟨?_, hst⟩
  have hok : isTrue r.1 = true := hok
  unfold isTrue at hok
  split at hok
  · rename_i b hb
    subst hok
    rw [hb] at hmv
    exact congrArg _ hmv
  · cases hok
end

/-! ### Two functions with the same ways -/

noncomputable def spB : SP → SP → Bool
  | .one a, .one b => litB a b
  | .agg l, .agg m => lsB l m
  | _, _ => false
where lsB : List SS → List SS → Bool
  | [], [] => true
  | a :: l, b :: m => litB a b && lsB l m
  | _, _ => false
theorem lsB_eq : ∀ {l m : List SS}, spB.lsB l m = true → l = m
  | [], [], _ => rfl
  | a :: l, b :: m, h => by
    simp only [spB.lsB, Bool.and_eq_true] at h
    rw [litB_eq h.1, lsB_eq h.2]
  | [], _ :: _, h => by cases h
  | _ :: _, [], h => by cases h
theorem spB_eq {x y : SP} (h : spB x y = true) : x = y := by
  cases x <;> cases y <;> simp only [spB] at h <;> first | (rw [litB_eq h]; done) | (rw [lsB_eq h]; done) | cases h
noncomputable def tupB : List SP → List SP → Bool
  | [], [] => true
  | a :: l, b :: m => spB a b && tupB l m
  | _, _ => false
theorem tupB_eq : ∀ {l m : List SP}, tupB l m = true → l = m
  | [], [], _ => rfl
  | a :: l, b :: m, h => by
    simp only [tupB, Bool.and_eq_true] at h
    rw [spB_eq h.1, tupB_eq h.2]
  | [], _ :: _, h => by cases h
  | _ :: _, [], h => by cases h
noncomputable def svB : SV → SV → Bool
  | .p a, .p b => spB a b
  | .tup l, .tup m => tupB l m
  | _, _ => false
theorem svB_eq {x y : SV} (h : svB x y = true) : x = y := by
  cases x <;> cases y <;> simp only [svB] at h <;> first | (rw [spB_eq h]; done) | (rw [tupB_eq h]; done) | cases h

/-- The ends of the way that the facts tell, one to one: the second walk is led by what is known. -/
noncomputable def leads (X : List (List Fact)) (g : SV → Bool) : List Fact → DT (SV × St) → Bool
  | _, .ret x => g x.1
  | F, .split c t e => match known c F with
    | some true => leads X g F t
    | some false => leads X g F e
    | none => (anyX X ((c, true) :: F) || leads X g ((c, true) :: F) t) && (anyX X ((c, false) :: F) || leads X g ((c, false) :: F) e)
  | F, .mk _ k => leads X g F k
  | F, .req _ _ k => leads X g F k
  | _, .fail _ => false

noncomputable def sameF (X : List (List Fact)) (e : DT (SV × St)) : List Fact → DT (SV × St) → Bool
  | F, .ret x => leads X (svB x.1) F e
  | F, .split c t u => (anyX X ((c, true) :: F) || sameF X e ((c, true) :: F) t) && (anyX X ((c, false) :: F) || sameF X e ((c, false) :: F) u)
  | F, .mk _ k => sameF X e F k
  | F, .req _ _ k => sameF X e F k
  | _, .fail _ => false

theorem leads_ok {ρ : Nat → NV} {X : List (List Fact)} (hX : ∀ l ∈ X, ¬ FactsT ρ l) {g : SV → Bool} : ∀ (m : DT (SV × St)) (F : List Fact), FactsT ρ F → leads X g F m = true → ∃ x, m.at_ ρ = some x ∧ g x.1 = true
  | .ret x, F, hF, h => ⟨x, rfl, h⟩
  | .split c t e, F, hF, h => by
    unfold leads at h
    have prune : ∀ b, (ρ c).gb = b → anyX X ((c, b) :: F) = true → False := fun b hb hx => by
      obtain ⟨l, hl, hm⟩ := anyX_mem hx
      exact hX l hl fun f hf => hF.cons hb f (hm f hf)
    split at h
    · rename_i hk
      have hc := hF _ (known_ok hk)
      obtain ⟨x, h1, h2⟩ := leads_ok hX t F hF h
      exact ⟨x, by unfold DT.at_; rw [if_pos hc]; exact h1, h2⟩
    · rename_i hk
      have hc := hF _ (known_ok hk)
      obtain ⟨x, h1, h2⟩ := leads_ok hX e F hF h
      exact ⟨x, by unfold DT.at_; rw [if_neg (by rw [hc]; simp)]; exact h1, h2⟩
    · simp only [Bool.and_eq_true, Bool.or_eq_true] at h
      cases hc : (ρ c).gb with
      | true =>
        rcases h.1 with hx | hk
        · exact (prune true hc hx).elim
        · obtain ⟨x, h1, h2⟩ := leads_ok hX t _ (hF.cons hc) hk
          exact ⟨x, by unfold DT.at_; rw [if_pos hc]; exact h1, h2⟩
      | false =>
        rcases h.2 with hx | hk
        · exact (prune false hc hx).elim
        · obtain ⟨x, h1, h2⟩ := leads_ok hX e _ (hF.cons hc) hk
          exact ⟨x, by unfold DT.at_; rw [if_neg (by rw [hc]; simp)]; exact h1, h2⟩
  | .mk d k, F, hF, h => leads_ok hX k F hF h
  | .req g n k, F, hF, h => leads_ok hX k F hF h
  | .fail y, F, hF, h => by cases h

theorem sameF_ok {ρ : Nat → NV} {X : List (List Fact)} (hX : ∀ l ∈ X, ¬ FactsT ρ l) {e : DT (SV × St)} : ∀ (m : DT (SV × St)) (F : List Fact), FactsT ρ F → sameF X e F m = true → ∃ x y, m.at_ ρ = some x ∧ e.at_ ρ = some y ∧ x.1 = y.1
  | .ret x, F, hF, h => by
    obtain ⟨y, h1, h2⟩ := leads_ok hX e F hF h
    exact ⟨x, y, rfl, h1, svB_eq h2⟩
  | .split c t u, F, hF, h => by
    unfold sameF at h
    have prune : ∀ b, (ρ c).gb = b → anyX X ((c, b) :: F) = true → False := fun b hb hx => by
      obtain ⟨l, hl, hm⟩ := anyX_mem hx
      exact hX l hl fun f hf => hF.cons hb f (hm f hf)
    simp only [Bool.and_eq_true, Bool.or_eq_true] at h
    cases hc : (ρ c).gb with
    | true =>
      rcases h.1 with hx | hk
      · exact (prune true hc hx).elim
      · obtain ⟨x, y, h1, h2, h3⟩ := sameF_ok hX t _ (hF.cons hc) hk
        exact ⟨x, y, by unfold DT.at_; rw [if_pos hc]; exact h1, h2, h3⟩
    | false =>
      rcases h.2 with hx | hk
      · exact (prune false hc hx).elim
      · obtain ⟨x, y, h1, h2, h3⟩ := sameF_ok hX u _ (hF.cons hc) hk
        exact ⟨x, y, by unfold DT.at_; rw [if_neg (by rw [hc]; simp)]; exact h1, h2, h3⟩
  | .mk d k, F, hF, h => sameF_ok hX k F hF h
  | .req g n k, F, hF, h => sameF_ok hX k F hF h
  | .fail y, F, hF, h => by cases h

theorem gives_same {Φ : Syms} {T : List Df} {X : List (List Fact)} {d e : DT (SV × St)} {res : RSh} {ins : List NV} (hX : ∀ l ∈ X, ¬ FactsT (envI Φ T ins) l) (h : sameF X e [] d = true) :
    gives Φ T d res ins = gives Φ T e res ins := by
  obtain ⟨x, y, h1, h2, h3⟩ := sameF_ok hX d [] (fun f hf => by simp at hf) h
  unfold gives
  have h1' : d.at_ (envT Φ (insOf ins) T) = some x := h1
  have h2' : e.at_ (envT Φ (insOf ins) T) = some y := h2
  rw [h1', h2']
  show nvR _ res x.1 = nvR _ res y.1
  rw [h3]

/-- A symbol by its function's walk. -/
theorem out_one {Φ Φ' : Syms} {T : List Df} {m : DT (SV × St)} {k : Kd} {ins : List NV} {v : Value} {s : Nat} (h : RM (.p (.one k)) v (gives Φ T m (.p (.one k)) ins)) (hs : Φ' (s * 64 + 0) ins = (gives Φ T m (.p (.one k)) ins).getD 0 (.i 0)) :
    RM (.p (.one k)) v (outsOf Φ' s ins 0 (RSh.cnt (.p (.one k)))) := by
  obtain ⟨n, hn, hk⟩ := h
  refine ⟨n, ?_, hk⟩
  show [Φ' (s * 64 + 0) ins] = [n]
  rw [hs, hn]
  rfl
end Go.Proofs.Ytcopccniijkceaa
