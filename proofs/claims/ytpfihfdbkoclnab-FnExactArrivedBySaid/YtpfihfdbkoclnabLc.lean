/- Functions whose walk ends in one value, at arguments of one's own choice. No condition. -/
import Derived.Test.YtpfihfdbkoclnabOt
import Derived.Test.YtpfihfdbkoclnabYf
import Derived.Test.YtpfihfdbkoclnabLb
namespace Go.Proofs.Ytpfihfdbkoclnab
open Go Go.RowKit
set_option linter.unusedVariables false

noncomputable def endIs (r : SP) (x : SV × St) : Bool := match x.1 with
  | .p y => spB y r
  | _ => false

/-- A function at arguments of one's own choice: its walk ends in one value. -/
theorem walk_args {Φ : Syms} {P : Program} {TB : Tab} {FT : FTab} {OT : OTab} (hT : TabOK P TB) (hm : P.follows .mixedOrders = true) (hF : FTok P FT) (hO : ∀ e ∈ OT, OpqOK P Φ e) {f : FuncId} {args : List SV} {T : List Df} {r : SP}
    (hw : wfT (withIds T) [] = true) (hchk : (callDT TB FT OT 60 40 0 f args ⟨.nil, [], []⟩).chk T [] (endIs r) = true) (hb : (findF f FT).isSome = true)
    {vs : Array Value} {ins : List NV} {w : World} (ha : all2 (SVm (envT Φ (insOf ins) T) []) args vs.toList) :
    Calls P f vs w fun en w' => ∃ v γ, en = .returned v ∧ SPm (envT Φ (insOf ins) T) γ r v ∧ Stays w w' := by
  have hd : ∀ d ∈ T, envT Φ (insOf ins) T d.id = d.sem Φ (envT Φ (insOf ins) T) := envT_ok Φ (insOf ins) T [] hw (fun n hn => by simp at hn) _ fun n _ => rfl
  have h := DT.chk_ok (leaf := endIs r) hd (R := []) (fun n hn => by simp at hn) _ hchk
  have hcall := called_of hF hb (callDT_ok (ρ := envT Φ (insOf ins) T) hT hm hF hO 60 40 0 f _ ⟨.nil, [], []⟩ ⟨w, 0⟩ [] vs ⟨#[], []⟩ w _ ⟨TM.zero _ _, ⟨rfl, List.nodup_nil, fun b p _ hp => by simp at hp, fun b k hk => by simp at hk⟩, Stays.refl w, fun c x h => by simp at h, rfl⟩ ha h)
  refine hcall.mono ?_
  rintro e w' ⟨v, q, γ, rfl, hq, hmv, _, hst, _⟩
  refine ⟨v, [] ++ γ, rfl, ?_, hst⟩
  unfold endIs at hq
  split at hq
  · rename_i y hy
    have := spB_eq hq
    subst this
    rw [hy] at hmv
    exact hmv
  · cases hq

abbrev rdS : List SS := [.int .i64 0, .int .i16 1, .int .i16 2, .int .i16 3]
def rdI (r : Rd) : List NV := [.i r.t, .i r.a, .i r.b, .i r.c]

noncomputable def wkTo : DT (SV × St) := callDT tb ftab otb 60 40 0 18 [.agg rdS] ⟨.nil, [], []⟩
noncomputable def nsTo : List Df := wkTo.gather []
theorem wfTo : wfT (withIds nsTo) [] = true := by kernel_rfl
theorem chTo : wkTo.chk nsTo [] (endIs (.agg rdS)) = true := by kernel_rfl

noncomputable def wkEq : DT (SV × St) := callDT tb ftab otb 60 40 0 74 [.agg rdS, .agg rdS] ⟨.nil, [], []⟩
noncomputable def nsEq : List Df := wkEq.gather []
theorem wfEq : wfT (withIds nsEq) [] = true := by kernel_rfl
theorem chEq : wkEq.chk nsEq [] (endIs (.one (.lit (.bool true)))) = true := by kernel_rfl

theorem rd_args {T : List Df} {γ : List Nat} (r : Rd) : SVm (envT baseΦ (insOf (rdI r)) T) γ (.agg rdS) (.agg r.cells) := by
  have h : ∀ n, n < 1000 → envT baseΦ (insOf (rdI r)) T n = insOf (rdI r) n := fun n hn => envT_ins _ _ _ _ hn
  refine ⟨r.cells, rfl, ?_⟩
  refine ⟨?_, ?_, ?_, ?_, trivial⟩
  · show _ = Value.int .i64 _; rw [h 0 (by decide)]; rfl
  · show _ = Value.int .i16 _; rw [h 1 (by decide)]; rfl
  · show _ = Value.int .i16 _; rw [h 2 (by decide)]; rfl
  · show _ = Value.int .i16 _; rw [h 3 (by decide)]; rfl

theorem c_toReading (r : Rd) (w : World) : Calls Try.prog 18 #[.agg r.cells] w fun e w' => e = .returned (.agg r.cells) ∧ Below w.heap.size w w' := by
  refine (walk_args (args := [.agg rdS]) (vs := #[.agg r.cells]) (ins := rdI r) (r := .agg rdS) tb_ok mixed ftab_ok (otb_ok baseΦ_ok) wfTo chTo (by kernel_rfl) ⟨rd_args r, trivial⟩).mono ?_
  rintro e w' ⟨v, γ, rfl, ⟨cs, rfl, hm⟩, hs⟩
  refine ⟨?_, hs⟩
  obtain ⟨cs', e, hm'⟩ := rd_args (T := nsTo) (γ := γ) r
  cases e
  obtain ⟨l⟩ := cs
  match l, hm with
  | [a, b, c, d], ⟨h1, h2, h3, h4, _⟩ =>
    obtain ⟨g1, g2, g3, g4, _⟩ := hm'
    rw [show a = _ from h1, show b = _ from h2, show c = _ from h3, show d = _ from h4]
    have e1 : Value.int .i64 r.t = _ := g1
    have e2 : Value.int .i16 r.a = _ := g2
    have e3 : Value.int .i16 r.b = _ := g3
    have e4 : Value.int .i16 r.c = _ := g4
    unfold Rd.cells
    rw [e1, e2, e3, e4]

theorem c_eqReading (r : Rd) (w : World) : Calls Try.prog 74 #[.agg r.cells, .agg r.cells] w fun e w' => e = .returned (.bool true) ∧ Below w.heap.size w w' := by
  refine (walk_args (args := [.agg rdS, .agg rdS]) (vs := #[.agg r.cells, .agg r.cells]) (ins := rdI r) (r := .one (.lit (.bool true))) tb_ok mixed ftab_ok (otb_ok baseΦ_ok) wfEq chEq (by kernel_rfl) ⟨rd_args r, rd_args r, trivial⟩).mono ?_
  rintro e w' ⟨v, γ, rfl, hm, hs⟩
  exact ⟨congrArg _ hm, hs⟩
end Go.Proofs.Ytpfihfdbkoclnab
