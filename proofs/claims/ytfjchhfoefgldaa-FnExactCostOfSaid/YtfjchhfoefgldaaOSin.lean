/- spec.l02Sine and impl.sineOfTurns give the same, by one symbol of the walk. No condition. -/
import Derived.Test.YtfjchhfoefgldaaOWrap
import Derived.Test.YtfjchhfoefgldaaOe
import Derived.Test.YtfjchhfoefgldaaYc
namespace Go.Proofs.Ytfjchhfoefgldaa.oSin
open Go Go.RowKit
set_option linter.unusedVariables false

abbrev eS : Opq := { f := 101, sym := 11, args := [.one (.f .f64)], res := .p (.one (.f .f32)) }
abbrev eI : Opq := { f := 77, sym := 11, args := [.one (.f .f64)], res := .p (.one (.f .f32)) }
noncomputable def wS : DT (SV × St) := walkOf tb ftab oWrap.ot eS.f eS.args
noncomputable def wI : DT (SV × St) := walkOf tb ftab oWrap.ot eI.f eI.args
noncomputable def ns : List Df := wI.gather (wS.gather [])
theorem wf : wfT (withIds ns) [] = true := by kernel_rfl
noncomputable def rqN : List (Nat × Nat) := wI.asks (wS.asks [])
noncomputable def rq : List Rq := rqN.map fun q => ⟨q.1, q.2, []⟩
abbrev xs : List (List Fact) := []
noncomputable def bd : BEnv := bnds 8 ns ns.reverse []
theorem fit : (rqN.all fun q => Nat.beq q.1 0 && fitsB bd q.2) = true := by kernel_rfl
theorem rq_ok (vs : List Value) (ins : List NV) (_ : ShMs eS.args vs ins) : ∀ q ∈ rq, FactsT (envI oWrap.Φ ns ins) q.on → Asked q.tag (envI oWrap.Φ ns ins q.n) := by
  intro q hq _
  obtain ⟨p, hp, rfl⟩ := List.mem_map.1 hq
  have := List.all_eq_true.1 fit p hp
  simp only [Bool.and_eq_true] at this
  show Asked p.1 _
  rw [Nat.eq_of_beq_eq_true this.1]
  exact fitsB_ok (bnds_ok (envI_ok wf ins) (fun l => oWrap.base 8 0 l (by decide) (by decide)) (fun l => oWrap.base 4 0 l (by decide) (by decide)) ns.reverse [] (fun d hd => by simpa using hd) (fun e he => by simp at he)) this.2
theorem xs_ok (vs : List Value) (ins : List NV) (_ : ShMs eS.args vs ins) : ∀ l ∈ xs, ¬ FactsT (envI oWrap.Φ ns ins) l := fun l hl => by simp at hl
theorem chS : wS.chkF ns rq xs (fun x => okR eS.res x.1) [] = true := by kernel_rfl
theorem chI : wI.chkF ns rq xs (fun x => okR eI.res x.1) [] = true := by kernel_rfl
theorem same : sameG xs (rC ns eS.res) wS [] wI = true := by kernel_rfl
noncomputable def g (l : List NV) : List NV := gives oWrap.Φ ns wS eS.res l
noncomputable def Φ : Syms := ext oWrap.Φ 11 g
theorem okS : OpqOK Try.prog Φ eS := opq_walk tb_ok mixed ftab_ok oWrap.ok rfl rfl wf chS (by kernel_rfl) (by kernel_rfl) (by kernel_rfl) (fun vs ins hv => rq_ok vs ins hv) (fun vs ins hv => xs_ok vs ins hv) fun _ _ _ => rfl
theorem okI : OpqOK Try.prog Φ eI := opq_walk tb_ok mixed ftab_ok oWrap.ok rfl rfl wf chI (by kernel_rfl) (by kernel_rfl) (by kernel_rfl) (fun vs ins hv => rq_ok vs ins hv) (fun vs ins hv => xs_ok vs ins hv) fun vs ins hv => gives_sameG wf (xs_ok vs ins hv) same
noncomputable def ot : OTab := eS :: eI :: oWrap.ot
theorem ok : ∀ e ∈ ot, OpqOK Try.prog Φ e := by
  intro e he
  rcases List.mem_cons.1 he with rfl | he
  · exact okS
  · rcases List.mem_cons.1 he with rfl | he
    · exact okI
    · exact tab_old (by kernel_rfl) oWrap.ok e he
theorem base : Base Φ := ext_base 11 g (by rfl) oWrap.base
end Go.Proofs.Ytfjchhfoefgldaa.oSin
