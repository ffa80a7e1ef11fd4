/- spec.SpreadOf and impl.SpreadOf give the same, by one symbol of the walk. No condition. -/
import Derived.Test.YtapinopfminmiabOt
import Derived.Test.YtapinopfminmiabOe
import Derived.Test.YtapinopfminmiabYc
import Derived.Test.YtapinopfminmiabYl
import Derived.Test.YtapinopfminmiabIv
namespace Go.Proofs.Ytapinopfminmiab.oSpr
open Go Go.RowKit
set_option linter.unusedVariables false

abbrev eS : Opq := { f := 32, sym := 10, args := [.agg [.f .f32, .f .f32, .f .f32, .f .f32, .f .f32, .f .f32, .f .f32, .f .f32, .f .f32, .f .f32, .f .f32, .f .f32, .f .f32, .f .f32, .f .f32, .f .f32, .f .f32, .f .f32, .f .f32, .f .f32, .f .f32, .f .f32, .f .f32, .f .f32, .f .f32, .f .f32, .f .f32, .f .f32, .f .f32, .f .f32, .f .f32, .f .f32, .f .f32, .f .f32, .f .f32, .f .f32, .f .f32, .f .f32, .f .f32, .f .f32, .f .f32, .f .f32], .one (.i .i64)], res := .tup [.one (.f .f32), .one (.i .i64)] }
abbrev eI : Opq := { f := 33, sym := 10, args := [.agg [.f .f32, .f .f32, .f .f32, .f .f32, .f .f32, .f .f32, .f .f32, .f .f32, .f .f32, .f .f32, .f .f32, .f .f32, .f .f32, .f .f32, .f .f32, .f .f32, .f .f32, .f .f32, .f .f32, .f .f32, .f .f32, .f .f32, .f .f32, .f .f32, .f .f32, .f .f32, .f .f32, .f .f32, .f .f32, .f .f32, .f .f32, .f .f32, .f .f32, .f .f32, .f .f32, .f .f32, .f .f32, .f .f32, .f .f32, .f .f32, .f .f32, .f .f32], .one (.i .i64)], res := .tup [.one (.f .f32), .one (.i .i64)] }
noncomputable def wS : DT (SV × St) := walkL 60 tb ftab otb eS.f eS.args 1 42 .i64 [0, 1, 2, 3, 4, 5]
noncomputable def wI : DT (SV × St) := walkL 60 tb ftab otb eI.f eI.args 1 42 .i64 [0, 1, 2, 3, 4, 5]
noncomputable def ns : List Df := wI.gather (wS.gather [])
theorem wf : wfT (withIds ns) [] = true := by kernel_rfl
abbrev rq : List Rq := []
def i0N : Nat := 1556573072878846913
def i1N : Nat := 630774368638325219
def i2N : Nat := 283179444790210411
def i3N : Nat := 1530099767190973235
def i4N : Nat := 1013694730440108660
def i5N : Nat := 225343694734911682
def l0N : Nat := 1605626979355850952
def l6N : Nat := 2048506233248642990
def g5N : Nat := 180592801200936059
def c0N : Nat := 1640756989669875575
def f0N : Nat := 421016027890022293
abbrev xs : List (List Fact) := [[(l0N, false), (l6N, true), (i0N, false), (i1N, false), (i2N, false), (i3N, false), (i4N, false), (i5N, false)], [(l0N, false), (g5N, false), (i0N, false), (i1N, false), (i2N, false), (i3N, false), (i4N, false), (i5N, false)]]
theorem is0 : Df.id ⟨13, 0, [42]⟩ = i0N := by kernel_rfl
theorem is1 : Df.id ⟨13, 1, [42]⟩ = i1N := by kernel_rfl
theorem is2 : Df.id ⟨13, 2, [42]⟩ = i2N := by kernel_rfl
theorem is3 : Df.id ⟨13, 3, [42]⟩ = i3N := by kernel_rfl
theorem is4 : Df.id ⟨13, 4, [42]⟩ = i4N := by kernel_rfl
theorem is5 : Df.id ⟨13, 5, [42]⟩ = i5N := by kernel_rfl
theorem is6 : Df.id ⟨26, 0, [42]⟩ = l0N := by kernel_rfl
theorem is7 : Df.id ⟨26, 6, [42]⟩ = l6N := by kernel_rfl
theorem is8 : Df.id ⟨27, 5, [42]⟩ = g5N := by kernel_rfl
theorem has : (memD ⟨13, 0, [42]⟩ ns && memD ⟨13, 1, [42]⟩ ns && memD ⟨13, 2, [42]⟩ ns && memD ⟨13, 3, [42]⟩ ns && memD ⟨13, 4, [42]⟩ ns && memD ⟨13, 5, [42]⟩ ns && memD ⟨26, 0, [42]⟩ ns && memD ⟨26, 6, [42]⟩ ns && memD ⟨27, 5, [42]⟩ ns) = true := by kernel_rfl
theorem node {d : Df} {n : Nat} (ins : List NV) (h : memD d ns = true) (e : d.id = n) : envI baseΦ ns ins n = d.sem baseΦ (envI baseΦ ns ins) := by
  rw [← e]; exact envI_ok wf ins d (memD_mem h)
theorem rq_ok (vs : List Value) (ins : List NV) (_ : ShMs eS.args vs ins) : ∀ q ∈ rq, FactsT (envI baseΦ ns ins) q.on → Asked q.tag (envI baseΦ ns ins q.n) := fun q hq => by simp at hq
theorem xs_ok (vs : List Value) (ins : List NV) (_ : ShMs eS.args vs ins) : ∀ l ∈ xs, ¬ FactsT (envI baseΦ ns ins) l := by
  have hh := has
  simp only [Bool.and_eq_true] at hh
  obtain ⟨⟨⟨⟨⟨⟨⟨⟨h0, h1⟩, h2⟩, h3⟩, h4⟩, h5⟩, h6⟩, h7⟩, h8⟩ := hh
  have n0 := node ins h0 is0
  have n1 := node ins h1 is1
  have n2 := node ins h2 is2
  have n3 := node ins h3 is3
  have n4 := node ins h4 is4
  have n5 := node ins h5 is5
  have n6 := node ins h6 is6
  have n7 := node ins h7 is7
  have n8 := node ins h8 is8
  generalize envI baseΦ ns ins = ρ at *
  intro l hl
  have hc := cut_six n0 n1 n2 n3 n4 n5 n6 n7 n8
  simp only [xs, List.mem_cons, List.not_mem_nil, or_false] at hl
  rcases hl with rfl | rfl
  · exact hc.1
  · exact hc.2
theorem chS : wS.chkF ns rq xs (fun x => okR eS.res x.1) [] = true := by kernel_rfl
theorem chI : wI.chkF ns rq xs (fun x => okR eI.res x.1) [] = true := by kernel_rfl
theorem same : sameG xs (rC ns eS.res) wS [] wI = true := by kernel_rfl
noncomputable def g (l : List NV) : List NV := gives baseΦ ns wS eS.res l
noncomputable def Φ : Syms := ext baseΦ 10 g
theorem okS : OpqOK Try.prog Φ eS := opq_walkL tb_ok mixed ftab_ok (otb_ok baseΦ_ok) rfl rfl rfl wf chS (by kernel_rfl) (by kernel_rfl) (by kernel_rfl) (fun vs ins hv => rq_ok vs ins hv) (fun vs ins hv => xs_ok vs ins hv) fun _ _ _ => rfl
theorem okI : OpqOK Try.prog Φ eI := opq_walkL tb_ok mixed ftab_ok (otb_ok baseΦ_ok) rfl rfl rfl wf chI (by kernel_rfl) (by kernel_rfl) (by kernel_rfl) (fun vs ins hv => rq_ok vs ins hv) (fun vs ins hv => xs_ok vs ins hv) fun vs ins hv => gives_sameG wf (xs_ok vs ins hv) same
noncomputable def ot : OTab := eS :: eI :: otb
theorem ok : ∀ e ∈ ot, OpqOK Try.prog Φ e := by
  intro e he
  rcases List.mem_cons.1 he with rfl | he
  · exact okS
  · rcases List.mem_cons.1 he with rfl | he
    · exact okI
    · exact tab_old (by kernel_rfl) (otb_ok baseΦ_ok) e he
theorem base : Base Φ := ext_base 10 g (by rfl) baseΦ_ok
end Go.Proofs.Ytapinopfminmiab.oSpr
