/- A symbolic walk: functions that are told by the walk of others. No condition. -/
import Derived.Test.YtcopccniijkceaaYf
import Derived.Test.YtcopccniijkceaaOb
namespace Go.Proofs.Ytcopccniijkceaa
open Go Go.RowKit
set_option linter.unusedVariables false
set_option linter.unusedSimpArgs false

/-- One symbol more. -/
noncomputable def ext (Φ : Syms) (s : Nat) (g : List NV → List NV) : Syms := fun imm l => if imm / 64 = s then (g l).getD (imm % 64) (.i 0) else Φ imm l

theorem ext_new (Φ : Syms) (s : Nat) (g : List NV → List NV) (j : Nat) (l : List NV) (hj : j < 64) : ext Φ s g (s * 64 + j) l = (g l).getD j (.i 0) := by
  unfold ext
  rw [if_pos (by omega), show (s * 64 + j) % 64 = j by omega]

theorem ext_old (Φ : Syms) (s : Nat) (g : List NV → List NV) (t j : Nat) (l : List NV) (hj : j < 64) (h : t ≠ s) : ext Φ s g (t * 64 + j) l = Φ (t * 64 + j) l := by
  unfold ext
  rw [if_neg (by omega)]

theorem ext_base {Φ : Syms} (s : Nat) (g : List NV → List NV) (hs : Nat.ble 10 s = true) (h : Base Φ) : Base (ext Φ s g) := fun t j l ht hj => by
  have := Nat.le_of_ble_eq_true hs
  rw [ext_old Φ s g t j l hj (by omega)]
  exact h t j l ht hj

theorem outs_old (Φ : Syms) (s : Nat) (g : List NV → List NV) (t : Nat) (l : List NV) (h : t ≠ s) : ∀ (n j : Nat), j + n ≤ 64 → outsOf (ext Φ s g) t l j n = outsOf Φ t l j n
  | 0, j, _ => rfl
  | n + 1, j, hj => by
    unfold outsOf
    rw [ext_old Φ s g t j l (by omega) h, outs_old Φ s g t l h n (j + 1) (by omega)]

theorem outs_new (Φ : Syms) (s : Nat) (g : List NV → List NV) (l : List NV) : ∀ (n j : Nat), j + n ≤ 64 → (g l).length = j + n → outsOf (ext Φ s g) s l j n = (g l).drop j
  | 0, j, _, hl => by unfold outsOf; rw [List.drop_of_length_le (by omega)]
  | n + 1, j, hj, hl => by
    unfold outsOf
    rw [ext_new Φ s g j l (by omega), outs_new Φ s g l n (j + 1) (by omega) (by omega)]
    have : j < (g l).length := by omega
    rw [List.drop_eq_getElem_cons this, List.getD_eq_getElem?_getD, List.getElem?_eq_getElem this]
    rfl

theorem opq_old {P : Program} {Φ : Syms} {s : Nat} {g : List NV → List NV} {e : Opq} (h : e.sym ≠ s) (hc : e.res.cnt ≤ 64) (he : OpqOK P Φ e) : OpqOK P (ext Φ s g) e := by
  unfold OpqOK at he ⊢
  split
  case isFalse h0 =>
    rw [if_neg h0] at he
    split
    · rename_i h3; rw [if_pos h3] at he; exact he
    · rename_i h3
      rw [if_neg h3] at he
      intro vs ins w hv
      rw [outs_old Φ s g e.sym ins h e.res.cnt 0 (by omega)]
      exact he vs ins w hv
  rename_i h0
  rw [if_pos h0] at he
  split
  · rename_i hs; rw [if_pos hs] at he; exact he
  · rename_i hs
    rw [if_neg hs] at he
    intro vs ins w hv
    rw [outs_old Φ s g e.sym ins h e.res.cnt 0 (by omega)]
    exact he vs ins w hv

noncomputable def freeOf (s : Nat) (OT : OTab) : Bool := OT.all fun e => !Nat.beq e.sym s && Nat.ble e.res.cnt 64
theorem tab_old {P : Program} {Φ : Syms} {s : Nat} {g : List NV → List NV} {OT : OTab} (h : freeOf s OT = true) (hO : ∀ e ∈ OT, OpqOK P Φ e) : ∀ e ∈ OT, OpqOK P (ext Φ s g) e := fun e he => by
  have := List.all_eq_true.1 h e he
  simp only [Bool.and_eq_true, Bool.not_eq_true'] at this
  exact opq_old (fun hs => by rw [hs, Nat.beq_refl] at this; exact Bool.noConfusion this.1) (Nat.le_of_ble_eq_true this.2) (hO e he)

theorem RM_length {r : RSh} {v : Value} {ns : List NV} (h : RM r v ns) : ns.length = r.cnt := by
  cases r with
  | p s => exact ShM_length h
  | tup l => obtain ⟨cs, _, h⟩ := h; exact len_args h

/-- A function by its walk. -/
theorem opq_walk {P : Program} {TB : Tab} {FT : FTab} {OT : OTab} {Φ : Syms} (hT : TabOK P TB) (hm : P.follows .mixedOrders = true) (hF : FTok P FT) (hO : ∀ e ∈ OT, OpqOK P Φ e) {n : Nat} {e : Opq} (hs : e.same = false) (he0 : e.ext = 0) {T : List Df} {R : List Rq} {X : List (List Fact)}
    (hw : wfT (withIds T) [] = true) (hchk : (walkN n TB FT OT e.f e.args).chkF T R X (fun x => okR e.res x.1) [] = true) (hsz : Nat.ble (cnts e.args) 1000 = true) (hc : Nat.ble e.res.cnt 64 = true) (hb : (findF e.f FT).isSome = true)
    (hR : ∀ (vs : List Value) (ins : List NV), ShMs e.args vs ins → ∀ q ∈ R, FactsT (envI Φ T ins) q.on → Asked q.tag (envI Φ T ins q.n))
    (hX : ∀ (vs : List Value) (ins : List NV), ShMs e.args vs ins → ∀ l ∈ X, ¬ FactsT (envI Φ T ins) l)
    {g : List NV → List NV} (hg : ∀ (vs : List Value) (ins : List NV), ShMs e.args vs ins → gives Φ T (walkN n TB FT OT e.f e.args) e.res ins = g ins) : OpqOK P (ext Φ e.sym g) e := by
  unfold OpqOK
  rw [if_pos he0, if_neg (by rw [hs]; simp)]
  intro vs ins w hv
  refine (walkF_ok hT hm hF hO hw hchk (Nat.le_of_ble_eq_true hsz) hb (hR _ _ hv) (hX _ _ hv) hv).mono ?_
  rintro en w' ⟨v, rfl, hr, hst⟩
  rw [hg _ _ hv] at hr
  refine ⟨v, rfl, ?_, hst⟩
  have hl := RM_length hr
  rw [outs_new Φ e.sym g ins e.res.cnt 0 (by have := Nat.le_of_ble_eq_true hc; omega) (by omega), List.drop_zero]
  exact hr
end Go.Proofs.Ytcopccniijkceaa
