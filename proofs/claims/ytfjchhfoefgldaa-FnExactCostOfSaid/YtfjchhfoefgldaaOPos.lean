/- spec.l06Finite and impl.IsFinitePose give the same, by one symbol of the walk. spec.l06Compose and impl.ComposePoses give the same, by one symbol of the walk. spec.l06Back and impl.BackPose give the same, by one symbol of the walk. spec.l06Between and impl.StepBetween give the same, by one symbol of the walk. spec.l06Weight and impl.isPositive give the same, by one symbol of the walk. No condition. -/
import Derived.Test.YtfjchhfoefgldaaOSin
import Derived.Test.YtfjchhfoefgldaaOe
import Derived.Test.YtfjchhfoefgldaaYc
namespace Go.Proofs.Ytfjchhfoefgldaa.oFin
open Go Go.RowKit
set_option linter.unusedVariables false

abbrev eS : Opq := { f := 41, sym := 12, args := [.agg [.f .f32, .f .f32, .f .f32]], res := .p (.one .b) }
abbrev eI : Opq := { f := 15, sym := 12, args := [.agg [.f .f32, .f .f32, .f .f32]], res := .p (.one .b) }
noncomputable def wS : DT (SV × St) := walkOf tb ftab oSin.ot eS.f eS.args
noncomputable def wI : DT (SV × St) := walkOf tb ftab oSin.ot eI.f eI.args
noncomputable def ns : List Df := wI.gather (wS.gather [])
theorem wf : wfT (withIds ns) [] = true := by kernel_rfl
abbrev rq : List Rq := []
abbrev xs : List (List Fact) := []
theorem rq_ok (vs : List Value) (ins : List NV) (_ : ShMs eS.args vs ins) : ∀ q ∈ rq, FactsT (envI oSin.Φ ns ins) q.on → Asked q.tag (envI oSin.Φ ns ins q.n) := fun q hq => by simp at hq
theorem xs_ok (vs : List Value) (ins : List NV) (_ : ShMs eS.args vs ins) : ∀ l ∈ xs, ¬ FactsT (envI oSin.Φ ns ins) l := fun l hl => by simp at hl
theorem chS : wS.chkF ns rq xs (fun x => okR eS.res x.1) [] = true := by kernel_rfl
theorem chI : wI.chkF ns rq xs (fun x => okR eI.res x.1) [] = true := by kernel_rfl
theorem same : sameG xs (rC ns eS.res) wS [] wI = true := by kernel_rfl
noncomputable def g (l : List NV) : List NV := gives oSin.Φ ns wS eS.res l
noncomputable def Φ : Syms := ext oSin.Φ 12 g
theorem okS : OpqOK Try.prog Φ eS := opq_walk tb_ok mixed ftab_ok oSin.ok rfl rfl wf chS (by kernel_rfl) (by kernel_rfl) (by kernel_rfl) (fun vs ins hv => rq_ok vs ins hv) (fun vs ins hv => xs_ok vs ins hv) fun _ _ _ => rfl
theorem okI : OpqOK Try.prog Φ eI := opq_walk tb_ok mixed ftab_ok oSin.ok rfl rfl wf chI (by kernel_rfl) (by kernel_rfl) (by kernel_rfl) (fun vs ins hv => rq_ok vs ins hv) (fun vs ins hv => xs_ok vs ins hv) fun vs ins hv => gives_sameG wf (xs_ok vs ins hv) same
noncomputable def ot : OTab := eS :: eI :: oSin.ot
theorem ok : ∀ e ∈ ot, OpqOK Try.prog Φ e := by
  intro e he
  rcases List.mem_cons.1 he with rfl | he
  · exact okS
  · rcases List.mem_cons.1 he with rfl | he
    · exact okI
    · exact tab_old (by kernel_rfl) oSin.ok e he
theorem base : Base Φ := ext_base 12 g (by rfl) oSin.base
end Go.Proofs.Ytfjchhfoefgldaa.oFin

namespace Go.Proofs.Ytfjchhfoefgldaa.oCmp
open Go Go.RowKit
set_option linter.unusedVariables false

abbrev eS : Opq := { f := 45, sym := 13, args := [.agg [.f .f32, .f .f32, .f .f32], .agg [.f .f32, .f .f32, .f .f32]], res := .p (.agg [.f .f32, .f .f32, .f .f32]) }
abbrev eI : Opq := { f := 19, sym := 13, args := [.agg [.f .f32, .f .f32, .f .f32], .agg [.f .f32, .f .f32, .f .f32]], res := .p (.agg [.f .f32, .f .f32, .f .f32]) }
noncomputable def wS : DT (SV × St) := walkOf tb ftab oFin.ot eS.f eS.args
noncomputable def wI : DT (SV × St) := walkOf tb ftab oFin.ot eI.f eI.args
noncomputable def ns : List Df := wI.gather (wS.gather [])
theorem wf : wfT (withIds ns) [] = true := by kernel_rfl
abbrev rq : List Rq := []
abbrev xs : List (List Fact) := []
theorem rq_ok (vs : List Value) (ins : List NV) (_ : ShMs eS.args vs ins) : ∀ q ∈ rq, FactsT (envI oFin.Φ ns ins) q.on → Asked q.tag (envI oFin.Φ ns ins q.n) := fun q hq => by simp at hq
theorem xs_ok (vs : List Value) (ins : List NV) (_ : ShMs eS.args vs ins) : ∀ l ∈ xs, ¬ FactsT (envI oFin.Φ ns ins) l := fun l hl => by simp at hl
theorem chS : wS.chkF ns rq xs (fun x => okR eS.res x.1) [] = true := by kernel_rfl
theorem chI : wI.chkF ns rq xs (fun x => okR eI.res x.1) [] = true := by kernel_rfl
theorem same : sameG xs (rC ns eS.res) wS [] wI = true := by kernel_rfl
noncomputable def g (l : List NV) : List NV := gives oFin.Φ ns wS eS.res l
noncomputable def Φ : Syms := ext oFin.Φ 13 g
theorem okS : OpqOK Try.prog Φ eS := opq_walk tb_ok mixed ftab_ok oFin.ok rfl rfl wf chS (by kernel_rfl) (by kernel_rfl) (by kernel_rfl) (fun vs ins hv => rq_ok vs ins hv) (fun vs ins hv => xs_ok vs ins hv) fun _ _ _ => rfl
theorem okI : OpqOK Try.prog Φ eI := opq_walk tb_ok mixed ftab_ok oFin.ok rfl rfl wf chI (by kernel_rfl) (by kernel_rfl) (by kernel_rfl) (fun vs ins hv => rq_ok vs ins hv) (fun vs ins hv => xs_ok vs ins hv) fun vs ins hv => gives_sameG wf (xs_ok vs ins hv) same
noncomputable def ot : OTab := eS :: eI :: oFin.ot
theorem ok : ∀ e ∈ ot, OpqOK Try.prog Φ e := by
  intro e he
  rcases List.mem_cons.1 he with rfl | he
  · exact okS
  · rcases List.mem_cons.1 he with rfl | he
    · exact okI
    · exact tab_old (by kernel_rfl) oFin.ok e he
theorem base : Base Φ := ext_base 13 g (by rfl) oFin.base
end Go.Proofs.Ytfjchhfoefgldaa.oCmp

namespace Go.Proofs.Ytfjchhfoefgldaa.oBak
open Go Go.RowKit
set_option linter.unusedVariables false

abbrev eS : Opq := { f := 49, sym := 14, args := [.agg [.f .f32, .f .f32, .f .f32]], res := .p (.agg [.f .f32, .f .f32, .f .f32]) }
abbrev eI : Opq := { f := 22, sym := 14, args := [.agg [.f .f32, .f .f32, .f .f32]], res := .p (.agg [.f .f32, .f .f32, .f .f32]) }
noncomputable def wS : DT (SV × St) := walkOf tb ftab oCmp.ot eS.f eS.args
noncomputable def wI : DT (SV × St) := walkOf tb ftab oCmp.ot eI.f eI.args
noncomputable def ns : List Df := wI.gather (wS.gather [])
theorem wf : wfT (withIds ns) [] = true := by kernel_rfl
abbrev rq : List Rq := []
abbrev xs : List (List Fact) := []
theorem rq_ok (vs : List Value) (ins : List NV) (_ : ShMs eS.args vs ins) : ∀ q ∈ rq, FactsT (envI oCmp.Φ ns ins) q.on → Asked q.tag (envI oCmp.Φ ns ins q.n) := fun q hq => by simp at hq
theorem xs_ok (vs : List Value) (ins : List NV) (_ : ShMs eS.args vs ins) : ∀ l ∈ xs, ¬ FactsT (envI oCmp.Φ ns ins) l := fun l hl => by simp at hl
theorem chS : wS.chkF ns rq xs (fun x => okR eS.res x.1) [] = true := by kernel_rfl
theorem chI : wI.chkF ns rq xs (fun x => okR eI.res x.1) [] = true := by kernel_rfl
theorem same : sameG xs (rC ns eS.res) wS [] wI = true := by kernel_rfl
noncomputable def g (l : List NV) : List NV := gives oCmp.Φ ns wS eS.res l
noncomputable def Φ : Syms := ext oCmp.Φ 14 g
theorem okS : OpqOK Try.prog Φ eS := opq_walk tb_ok mixed ftab_ok oCmp.ok rfl rfl wf chS (by kernel_rfl) (by kernel_rfl) (by kernel_rfl) (fun vs ins hv => rq_ok vs ins hv) (fun vs ins hv => xs_ok vs ins hv) fun _ _ _ => rfl
theorem okI : OpqOK Try.prog Φ eI := opq_walk tb_ok mixed ftab_ok oCmp.ok rfl rfl wf chI (by kernel_rfl) (by kernel_rfl) (by kernel_rfl) (fun vs ins hv => rq_ok vs ins hv) (fun vs ins hv => xs_ok vs ins hv) fun vs ins hv => gives_sameG wf (xs_ok vs ins hv) same
noncomputable def ot : OTab := eS :: eI :: oCmp.ot
theorem ok : ∀ e ∈ ot, OpqOK Try.prog Φ e := by
  intro e he
  rcases List.mem_cons.1 he with rfl | he
  · exact okS
  · rcases List.mem_cons.1 he with rfl | he
    · exact okI
    · exact tab_old (by kernel_rfl) oCmp.ok e he
theorem base : Base Φ := ext_base 14 g (by rfl) oCmp.base
end Go.Proofs.Ytfjchhfoefgldaa.oBak

namespace Go.Proofs.Ytfjchhfoefgldaa.oBtw
open Go Go.RowKit
set_option linter.unusedVariables false

abbrev eS : Opq := { f := 50, sym := 15, args := [.agg [.f .f32, .f .f32, .f .f32], .agg [.f .f32, .f .f32, .f .f32]], res := .p (.agg [.f .f32, .f .f32, .f .f32]) }
abbrev eI : Opq := { f := 24, sym := 15, args := [.agg [.f .f32, .f .f32, .f .f32], .agg [.f .f32, .f .f32, .f .f32]], res := .p (.agg [.f .f32, .f .f32, .f .f32]) }
noncomputable def wS : DT (SV × St) := walkOf tb ftab oBak.ot eS.f eS.args
noncomputable def wI : DT (SV × St) := walkOf tb ftab oBak.ot eI.f eI.args
noncomputable def ns : List Df := wI.gather (wS.gather [])
theorem wf : wfT (withIds ns) [] = true := by kernel_rfl
abbrev rq : List Rq := []
abbrev xs : List (List Fact) := []
theorem rq_ok (vs : List Value) (ins : List NV) (_ : ShMs eS.args vs ins) : ∀ q ∈ rq, FactsT (envI oBak.Φ ns ins) q.on → Asked q.tag (envI oBak.Φ ns ins q.n) := fun q hq => by simp at hq
theorem xs_ok (vs : List Value) (ins : List NV) (_ : ShMs eS.args vs ins) : ∀ l ∈ xs, ¬ FactsT (envI oBak.Φ ns ins) l := fun l hl => by simp at hl
theorem chS : wS.chkF ns rq xs (fun x => okR eS.res x.1) [] = true := by kernel_rfl
theorem chI : wI.chkF ns rq xs (fun x => okR eI.res x.1) [] = true := by kernel_rfl
theorem same : sameG xs (rC ns eS.res) wS [] wI = true := by kernel_rfl
noncomputable def g (l : List NV) : List NV := gives oBak.Φ ns wS eS.res l
noncomputable def Φ : Syms := ext oBak.Φ 15 g
theorem okS : OpqOK Try.prog Φ eS := opq_walk tb_ok mixed ftab_ok oBak.ok rfl rfl wf chS (by kernel_rfl) (by kernel_rfl) (by kernel_rfl) (fun vs ins hv => rq_ok vs ins hv) (fun vs ins hv => xs_ok vs ins hv) fun _ _ _ => rfl
theorem okI : OpqOK Try.prog Φ eI := opq_walk tb_ok mixed ftab_ok oBak.ok rfl rfl wf chI (by kernel_rfl) (by kernel_rfl) (by kernel_rfl) (fun vs ins hv => rq_ok vs ins hv) (fun vs ins hv => xs_ok vs ins hv) fun vs ins hv => gives_sameG wf (xs_ok vs ins hv) same
noncomputable def ot : OTab := eS :: eI :: oBak.ot
theorem ok : ∀ e ∈ ot, OpqOK Try.prog Φ e := by
  intro e he
  rcases List.mem_cons.1 he with rfl | he
  · exact okS
  · rcases List.mem_cons.1 he with rfl | he
    · exact okI
    · exact tab_old (by kernel_rfl) oBak.ok e he
theorem base : Base Φ := ext_base 15 g (by rfl) oBak.base
end Go.Proofs.Ytfjchhfoefgldaa.oBtw

namespace Go.Proofs.Ytfjchhfoefgldaa.oWgt
open Go Go.RowKit
set_option linter.unusedVariables false

abbrev eS : Opq := { f := 95, sym := 16, args := [.one (.f .f32)], res := .p (.one .b) }
abbrev eI : Opq := { f := 82, sym := 16, args := [.one (.f .f32)], res := .p (.one .b) }
noncomputable def wS : DT (SV × St) := walkOf tb ftab oBtw.ot eS.f eS.args
noncomputable def wI : DT (SV × St) := walkOf tb ftab oBtw.ot eI.f eI.args
noncomputable def ns : List Df := wI.gather (wS.gather [])
theorem wf : wfT (withIds ns) [] = true := by kernel_rfl
abbrev rq : List Rq := []
abbrev xs : List (List Fact) := []
theorem rq_ok (vs : List Value) (ins : List NV) (_ : ShMs eS.args vs ins) : ∀ q ∈ rq, FactsT (envI oBtw.Φ ns ins) q.on → Asked q.tag (envI oBtw.Φ ns ins q.n) := fun q hq => by simp at hq
theorem xs_ok (vs : List Value) (ins : List NV) (_ : ShMs eS.args vs ins) : ∀ l ∈ xs, ¬ FactsT (envI oBtw.Φ ns ins) l := fun l hl => by simp at hl
theorem chS : wS.chkF ns rq xs (fun x => okR eS.res x.1) [] = true := by kernel_rfl
theorem chI : wI.chkF ns rq xs (fun x => okR eI.res x.1) [] = true := by kernel_rfl
theorem same : sameG xs (rC ns eS.res) wS [] wI = true := by kernel_rfl
noncomputable def g (l : List NV) : List NV := gives oBtw.Φ ns wS eS.res l
noncomputable def Φ : Syms := ext oBtw.Φ 16 g
theorem okS : OpqOK Try.prog Φ eS := opq_walk tb_ok mixed ftab_ok oBtw.ok rfl rfl wf chS (by kernel_rfl) (by kernel_rfl) (by kernel_rfl) (fun vs ins hv => rq_ok vs ins hv) (fun vs ins hv => xs_ok vs ins hv) fun _ _ _ => rfl
theorem okI : OpqOK Try.prog Φ eI := opq_walk tb_ok mixed ftab_ok oBtw.ok rfl rfl wf chI (by kernel_rfl) (by kernel_rfl) (by kernel_rfl) (fun vs ins hv => rq_ok vs ins hv) (fun vs ins hv => xs_ok vs ins hv) fun vs ins hv => gives_sameG wf (xs_ok vs ins hv) same
noncomputable def ot : OTab := eS :: eI :: oBtw.ot
theorem ok : ∀ e ∈ ot, OpqOK Try.prog Φ e := by
  intro e he
  rcases List.mem_cons.1 he with rfl | he
  · exact okS
  · rcases List.mem_cons.1 he with rfl | he
    · exact okI
    · exact tab_old (by kernel_rfl) oBtw.ok e he
theorem base : Base Φ := ext_base 16 g (by rfl) oBtw.base
end Go.Proofs.Ytfjchhfoefgldaa.oWgt
