/- A function walked with an integer among its arguments told apart; any walk as a symbol. No condition. -/
import Derived.Test.YtapinopfminmiabOe
import Derived.Test.YtapinopfminmiabYc
namespace Go.Proofs.Ytapinopfminmiab
open Go Go.RowKit
set_option linter.unusedVariables false
set_option linter.unusedSimpArgs false

noncomputable def splitLits (n : Nat) (k : IntKind) (K : SS → List Fact → DT (SV × St)) : List Nat → List Fact → DT (SV × St)
  | [], F => K (.int k n) F
  | c :: r, F => .mk ⟨13, c, [n]⟩ (.split (Df.id ⟨13, c, [n]⟩) (K (.lit (.int k (.ofNat c))) ((Df.id ⟨13, c, [n]⟩, true) :: F)) (splitLits n k K r ((Df.id ⟨13, c, [n]⟩, false) :: F)))

/-- The argument at pos, the node n, is told apart. -/
noncomputable def walkL (rounds : Nat) (TB : Tab) (FT : FTab) (OT : OTab) (f : FuncId) (args : List Sh) (pos n : Nat) (k : IntKind) (cs : List Nat) : DT (SV × St) :=
  splitLits n k (fun s F => callDT TB FT OT rounds 40 0 f ((inShs 0 args).set pos (.one s)) ⟨.nil, [], F⟩) cs []

theorem splitLits_ok {Φ : Syms} {ρ : Nat → NV} {n : Nat} {k : IntKind} {K : SS → List Fact → DT (SV × St)} {Q : SV × St → Prop} : ∀ (cs : List Nat) (F : List Fact), FactsT ρ F → (splitLits n k K cs F).holds Φ ρ Q →
    ∃ s F', FactsT ρ F' ∧ SSm ρ [] s (.int k (ρ n).gi) ∧ (K s F').holds Φ ρ Q
  | [], F, hF, h => ⟨.int k n, F, hF, rfl, h⟩
  | c :: r, F, hF, h => by
    obtain ⟨hd, h⟩ := h
    unfold DT.holds at h
    split at h
    · rename_i hc
      refine ⟨_, _, hF.cons hc, ?_, h⟩
      rw [hd] at hc
      have : ((ρ n).gi == (c : Int)) = true := hc
      show Value.int k (ρ n).gi = .int k (Int.ofNat c)
      rw [eq_of_beq this]
      rfl
    · rename_i hc
      exact splitLits_ok r _ (hF.cons (by simpa using hc)) h

theorem walkL_holds {P : Program} {TB : Tab} {FT : FTab} {OT : OTab} {Φ : Syms} (hT : TabOK P TB) (hm : P.follows .mixedOrders = true) (hF : FTok P FT) (hO : ∀ e ∈ OT, OpqOK P Φ e) {rounds : Nat} {f : FuncId} {args : List Sh} {pos n : Nat} {k : IntKind} {cs : List Nat} {T : List Df} {ins : List NV} {Q : SV × St → Prop}
    (h : (walkL rounds TB FT OT f args pos n k cs).holds Φ (envI Φ T ins) Q) (hpos : (inShs 0 args)[pos]? = some (.one (.int k n))) (hsz : cnts args ≤ 1000) (hb : (findF f FT).isSome = true) {vs : Array Value} {w : World} (hv : ShMs args vs.toList ins) :
    Calls P f vs w fun en w' => ∃ v r γ, en = .returned v ∧ Q r ∧ SVm (envI Φ T ins) γ r.1 v ∧ Stays w w' := by
  have ha : all2 (SVm (envI Φ T ins) []) (inShs 0 args) vs.toList := inShs_ok hv fun j hj => by
    have := len_args hv
    rw [Nat.zero_add]
    show envT Φ (insOf ins) T j = _
    rw [envT_ins _ _ _ _ (by omega)]
    rfl
  obtain ⟨s, F, hFt, hs, h⟩ := splitLits_ok cs [] (fun f hf => by simp at hf) h
  obtain ⟨v, hvp, hvm⟩ := ha.get? pos hpos
  have hvm' : v = .int k (envI Φ T ins n).gi := hvm
  have ha' : all2 (SVm (envI Φ T ins) []) ((inShs 0 args).set pos (.one s)) vs.toList := by
    have := ha.set (a := .one s) (b := v) (show SVm _ _ (.one s) v by rw [hvm']; exact hs) pos
    have e : vs.toList.set pos v = vs.toList := by
      obtain ⟨hlt, he⟩ := List.getElem?_eq_some_iff.1 hvp
      rw [← he, List.set_getElem_self]
    rw [e] at this
    exact this
  have hcall := called_of hF hb (callDT_ok (ρ := envI Φ T ins) hT hm hF hO rounds 40 0 f _ ⟨.nil, [], F⟩ ⟨w, 0⟩ [] vs ⟨#[], []⟩ w _ ⟨TM.zero _ _, ⟨rfl, List.nodup_nil, fun b p _ hp => by simp at hp, fun b k hk => by simp at hk⟩, Stays.refl w, fun c x h => hFt (c, x) h, rfl⟩ ha' h)
  refine hcall.mono ?_
  rintro e w' ⟨v, r, γ, rfl, hq, hmv, _, hst, _⟩
  exact ⟨v, r, [] ++ γ, rfl, hq, hmv, hst⟩

/-- A function by a walk. -/
theorem opq_walkL {P : Program} {TB : Tab} {FT : FTab} {OT : OTab} {Φ : Syms} (hT : TabOK P TB) (hm : P.follows .mixedOrders = true) (hF : FTok P FT) (hO : ∀ e ∈ OT, OpqOK P Φ e) {rounds pos n : Nat} {k : IntKind} {cs : List Nat} {e : Opq} (hs : e.same = false) (he0 : e.ext = 0) {T : List Df} {R : List Rq} {X : List (List Fact)}
    (hpos : (inShs 0 e.args)[pos]? = some (.one (.int k n)))
    (hw : wfT (withIds T) [] = true) (hchk : (walkL rounds TB FT OT e.f e.args pos n k cs).chkF T R X (fun x => okR e.res x.1) [] = true) (hsz : Nat.ble (cnts e.args) 1000 = true) (hc : Nat.ble e.res.cnt 64 = true) (hb : (findF e.f FT).isSome = true)
    (hR : ∀ (vs : List Value) (ins : List NV), ShMs e.args vs ins → ∀ q ∈ R, FactsT (envI Φ T ins) q.on → Asked q.tag (envI Φ T ins q.n))
    (hX : ∀ (vs : List Value) (ins : List NV), ShMs e.args vs ins → ∀ l ∈ X, ¬ FactsT (envI Φ T ins) l)
    {g : List NV → List NV} (hg : ∀ (vs : List Value) (ins : List NV), ShMs e.args vs ins → gives Φ T (walkL rounds TB FT OT e.f e.args pos n k cs) e.res ins = g ins) : OpqOK P (ext Φ e.sym g) e := by
  unfold OpqOK
  rw [if_pos he0, if_neg (by rw [hs]; simp)]
  intro vs ins w hv
  have h := DT.chkF_at (leaf := fun x : SV × St => okR e.res x.1) (envI_ok (Φ := Φ) hw ins) (hR _ _ hv) (hX _ _ hv) _ [] (fun f hf => by simp at hf) hchk
  refine (walkL_holds hT hm hF hO h hpos (Nat.le_of_ble_eq_true hsz) hb hv).mono ?_
  rintro en w' ⟨v, r, γ, rfl, ⟨hat, hok⟩, hmv, hst⟩
  have hr : RM e.res v (gives Φ T (walkL rounds TB FT OT e.f e.args pos n k cs) e.res ins) := by
    unfold gives
    rw [hat]
    exact okR_ok hok hmv
  rw [hg _ _ hv] at hr
  refine ⟨v, rfl, ?_, hst⟩
  have hl := RM_length hr
  rw [outs_new Φ e.sym g ins e.res.cnt 0 (by have := Nat.le_of_ble_eq_true hc; omega) (by omega), List.drop_zero]
  exact hr

/-- An index of six, or none. -/
theorem cut_six {ρ : Nat → NV} {Φ : Syms} {n e0 e1 e2 e3 e4 e5 l0 l6 g5 : Nat} (h0 : ρ e0 = Df.sem Φ ρ ⟨13, 0, [n]⟩) (h1 : ρ e1 = Df.sem Φ ρ ⟨13, 1, [n]⟩) (h2 : ρ e2 = Df.sem Φ ρ ⟨13, 2, [n]⟩) (h3 : ρ e3 = Df.sem Φ ρ ⟨13, 3, [n]⟩) (h4 : ρ e4 = Df.sem Φ ρ ⟨13, 4, [n]⟩) (h5 : ρ e5 = Df.sem Φ ρ ⟨13, 5, [n]⟩)
    (hl0 : ρ l0 = Df.sem Φ ρ ⟨26, 0, [n]⟩) (hl6 : ρ l6 = Df.sem Φ ρ ⟨26, 6, [n]⟩) (hg5 : ρ g5 = Df.sem Φ ρ ⟨27, 5, [n]⟩) :
    (¬ FactsT ρ [(l0, false), (l6, true), (e0, false), (e1, false), (e2, false), (e3, false), (e4, false), (e5, false)]) ∧ (¬ FactsT ρ [(l0, false), (g5, false), (e0, false), (e1, false), (e2, false), (e3, false), (e4, false), (e5, false)]) := by
  have ne : ∀ (e c : Nat), ρ e = Df.sem Φ ρ ⟨13, c, [n]⟩ → (ρ e).gb = false → (ρ n).gi ≠ c := fun e c he hb hc => by
    rw [he] at hb
    have : ((ρ n).gi == (c : Int)) = false := hb
    rw [hc] at this
    simp at this
  have ge : (ρ l0).gb = false → ¬ (ρ n).gi < 0 := fun hb hc => by
    rw [hl0] at hb
    have : decide ((ρ n).gi < ((0 : Nat) : Int)) = false := hb
    simp at this
    omega
  constructor
  · intro h
    have a := ge (h (l0, false) (by simp))
    have b : (ρ n).gi < 6 := by
      have hb : (ρ l6).gb = true := h (l6, true) (by simp)
      rw [hl6] at hb
      have : decide ((ρ n).gi < ((6 : Nat) : Int)) = true := hb
      simpa using this
    have c0 := ne e0 0 h0 (h (e0, false) (by simp))
    have c1 := ne e1 1 h1 (h (e1, false) (by simp))
    have c2 := ne e2 2 h2 (h (e2, false) (by simp))
    have c3 := ne e3 3 h3 (h (e3, false) (by simp))
    have c4 := ne e4 4 h4 (h (e4, false) (by simp))
    have c5 := ne e5 5 h5 (h (e5, false) (by simp))
    omega
  · intro h
    have a := ge (h (l0, false) (by simp))
    have b : ¬ (5 : Int) < (ρ n).gi := fun hc => by
      have hb : (ρ g5).gb = false := h (g5, false) (by simp)
      rw [hg5] at hb
      have : decide (((5 : Nat) : Int) < (ρ n).gi) = false := hb
      simp at this
      omega
    have c0 := ne e0 0 h0 (h (e0, false) (by simp))
    have c1 := ne e1 1 h1 (h (e1, false) (by simp))
    have c2 := ne e2 2 h2 (h (e2, false) (by simp))
    have c3 := ne e3 3 h3 (h (e3, false) (by simp))
    have c4 := ne e4 4 h4 (h (e4, false) (by simp))
    have c5 := ne e5 5 h5 (h (e5, false) (by simp))
    omega
end Go.Proofs.Ytapinopfminmiab
