/- spec.DistanceBetween and impl.DistanceBetween give the same, by one symbol of the walk. No condition. -/
import Derived.Test.YtapinopfminmiaaOt
import Derived.Test.YtapinopfminmiaaOe
import Derived.Test.YtapinopfminmiaaYc
import Derived.Test.YtapinopfminmiaaIv
namespace Go.Proofs.Ytapinopfminmiaa.oDst
open Go Go.RowKit
set_option linter.unusedVariables false

abbrev eS : Opq := { f := 38, sym := 10, args := [.agg [.f .f32, .f .f32, .f .f32, .f .f32, .f .f32, .f .f32, .f .f32, .f .f32, .f .f32, .f .f32, .f .f32, .f .f32, .f .f32, .f .f32, .f .f32, .f .f32, .f .f32, .f .f32, .f .f32, .f .f32, .f .f32, .f .f32, .f .f32, .f .f32, .f .f32, .f .f32, .f .f32, .f .f32, .f .f32, .f .f32, .f .f32, .f .f32, .f .f32, .f .f32, .f .f32, .f .f32, .f .f32, .f .f32, .f .f32, .f .f32, .f .f32, .f .f32], .agg [.f .f32, .f .f32, .f .f32, .f .f32, .f .f32, .f .f32, .f .f32, .f .f32, .f .f32, .f .f32, .f .f32, .f .f32, .f .f32, .f .f32, .f .f32, .f .f32, .f .f32, .f .f32, .f .f32, .f .f32, .f .f32, .f .f32, .f .f32, .f .f32, .f .f32, .f .f32, .f .f32, .f .f32, .f .f32, .f .f32, .f .f32, .f .f32, .f .f32, .f .f32, .f .f32, .f .f32, .f .f32, .f .f32, .f .f32, .f .f32, .f .f32, .f .f32]], res := .tup [.one (.f .f32), .one (.i .i64)] }
abbrev eI : Opq := { f := 39, sym := 10, args := [.agg [.f .f32, .f .f32, .f .f32, .f .f32, .f .f32, .f .f32, .f .f32, .f .f32, .f .f32, .f .f32, .f .f32, .f .f32, .f .f32, .f .f32, .f .f32, .f .f32, .f .f32, .f .f32, .f .f32, .f .f32, .f .f32, .f .f32, .f .f32, .f .f32, .f .f32, .f .f32, .f .f32, .f .f32, .f .f32, .f .f32, .f .f32, .f .f32, .f .f32, .f .f32, .f .f32, .f .f32, .f .f32, .f .f32, .f .f32, .f .f32, .f .f32, .f .f32], .agg [.f .f32, .f .f32, .f .f32, .f .f32, .f .f32, .f .f32, .f .f32, .f .f32, .f .f32, .f .f32, .f .f32, .f .f32, .f .f32, .f .f32, .f .f32, .f .f32, .f .f32, .f .f32, .f .f32, .f .f32, .f .f32, .f .f32, .f .f32, .f .f32, .f .f32, .f .f32, .f .f32, .f .f32, .f .f32, .f .f32, .f .f32, .f .f32, .f .f32, .f .f32, .f .f32, .f .f32, .f .f32, .f .f32, .f .f32, .f .f32, .f .f32, .f .f32]], res := .tup [.one (.f .f32), .one (.i .i64)] }
noncomputable def wS : DT (SV × St) := walkOf tb ftab otb eS.f eS.args
noncomputable def wI : DT (SV × St) := walkOf tb ftab otb eI.f eI.args
noncomputable def ns : List Df := wI.gather (wS.gather [])
theorem wf : wfT (withIds ns) [] = true := by kernel_rfl
abbrev rq : List Rq := []
def c0N : Nat := 1640756989669875575
def c1N : Nat := 2269355231647304245
def f0N : Nat := 421016027890022293
def e0N : Nat := 791587663404845685
def q0N : Nat := 951757378667407639
def g0N : Nat := 1419483720538327981
def e1N : Nat := 2210056087020329479
def q1N : Nat := 2126168190094084454
def g1N : Nat := 1646649576027451183
def e2N : Nat := 158196732637348179
def q2N : Nat := 994735992307067416
def g2N : Nat := 858674991816670258
def e3N : Nat := 2139903911943200890
def q3N : Nat := 2169146803733744427
def g3N : Nat := 162057331897518701
def e4N : Nat := 293954752506435288
def q4N : Nat := 1037714605946727585
def g4N : Nat := 663293960261587631
def e5N : Nat := 1369968317554868983
def q5N : Nat := 2212125417373404792
def g5N : Nat := 1163039231686831840
abbrev xs : List (List Fact) := [[(f0N, false)], [(e0N, true), (g0N, true)], [(e1N, true), (g1N, true)], [(e2N, true), (g2N, true)], [(e3N, true), (g3N, true)], [(e4N, true), (g4N, true)], [(e5N, true), (g5N, true)]]
theorem has : (memD ⟨4, 0, []⟩ ns && memD ⟨4, 1065353216, []⟩ ns && memD ⟨20, 64, [c0N]⟩ ns && (memD ⟨8, 0, [48, c0N]⟩ ns && memD ⟨3, 0, [c1N, 48]⟩ ns && memD ⟨20, 64, [q0N]⟩ ns) && (memD ⟨8, 0, [55, c0N]⟩ ns && memD ⟨3, 0, [c1N, 55]⟩ ns && memD ⟨20, 64, [q1N]⟩ ns) && (memD ⟨8, 0, [62, c0N]⟩ ns && memD ⟨3, 0, [c1N, 62]⟩ ns && memD ⟨20, 64, [q2N]⟩ ns) && (memD ⟨8, 0, [69, c0N]⟩ ns && memD ⟨3, 0, [c1N, 69]⟩ ns && memD ⟨20, 64, [q3N]⟩ ns) && (memD ⟨8, 0, [76, c0N]⟩ ns && memD ⟨3, 0, [c1N, 76]⟩ ns && memD ⟨20, 64, [q4N]⟩ ns) && (memD ⟨8, 0, [83, c0N]⟩ ns && memD ⟨3, 0, [c1N, 83]⟩ ns && memD ⟨20, 64, [q5N]⟩ ns)) = true := by kernel_rfl
theorem is0 : Df.id ⟨4, 0, []⟩ = c0N := by kernel_rfl
theorem is1 : Df.id ⟨4, 1065353216, []⟩ = c1N := by kernel_rfl
theorem isf : Df.id ⟨20, 64, [c0N]⟩ = f0N := by kernel_rfl
theorem ise0 : Df.id ⟨8, 0, [48, c0N]⟩ = e0N := by kernel_rfl
theorem isq0 : Df.id ⟨3, 0, [c1N, 48]⟩ = q0N := by kernel_rfl
theorem isg0 : Df.id ⟨20, 64, [q0N]⟩ = g0N := by kernel_rfl
theorem ise1 : Df.id ⟨8, 0, [55, c0N]⟩ = e1N := by kernel_rfl
theorem isq1 : Df.id ⟨3, 0, [c1N, 55]⟩ = q1N := by kernel_rfl
theorem isg1 : Df.id ⟨20, 64, [q1N]⟩ = g1N := by kernel_rfl
theorem ise2 : Df.id ⟨8, 0, [62, c0N]⟩ = e2N := by kernel_rfl
theorem isq2 : Df.id ⟨3, 0, [c1N, 62]⟩ = q2N := by kernel_rfl
theorem isg2 : Df.id ⟨20, 64, [q2N]⟩ = g2N := by kernel_rfl
theorem ise3 : Df.id ⟨8, 0, [69, c0N]⟩ = e3N := by kernel_rfl
theorem isq3 : Df.id ⟨3, 0, [c1N, 69]⟩ = q3N := by kernel_rfl
theorem isg3 : Df.id ⟨20, 64, [q3N]⟩ = g3N := by kernel_rfl
theorem ise4 : Df.id ⟨8, 0, [76, c0N]⟩ = e4N := by kernel_rfl
theorem isq4 : Df.id ⟨3, 0, [c1N, 76]⟩ = q4N := by kernel_rfl
theorem isg4 : Df.id ⟨20, 64, [q4N]⟩ = g4N := by kernel_rfl
theorem ise5 : Df.id ⟨8, 0, [83, c0N]⟩ = e5N := by kernel_rfl
theorem isq5 : Df.id ⟨3, 0, [c1N, 83]⟩ = q5N := by kernel_rfl
theorem isg5 : Df.id ⟨20, 64, [q5N]⟩ = g5N := by kernel_rfl
theorem node {d : Df} {n : Nat} (ins : List NV) (h : memD d ns = true) (e : d.id = n) : envI baseΦ ns ins n = d.sem baseΦ (envI baseΦ ns ins) := by
  rw [← e]; exact envI_ok wf ins d (memD_mem h)
theorem rq_ok (vs : List Value) (ins : List NV) (_ : ShMs eS.args vs ins) : ∀ q ∈ rq, FactsT (envI baseΦ ns ins) q.on → Asked q.tag (envI baseΦ ns ins q.n) := fun q hq => by simp at hq
theorem xs_ok (vs : List Value) (ins : List NV) (_ : ShMs eS.args vs ins) : ∀ l ∈ xs, ¬ FactsT (envI baseΦ ns ins) l := by
  have hh := has
  simp only [Bool.and_eq_true] at hh
  obtain ⟨⟨⟨⟨⟨⟨⟨⟨h0, h1⟩, hf⟩, ⟨a0, b0⟩, d0⟩, ⟨a1, b1⟩, d1⟩, ⟨a2, b2⟩, d2⟩, ⟨a3, b3⟩, d3⟩, ⟨a4, b4⟩, d4⟩, ⟨a5, b5⟩, d5⟩ := hh
  have n0 := node ins h0 is0
  have n1 := node ins h1 is1
  have nf := node ins hf isf
  have na0 := node ins a0 ise0
  have nb0 := node ins b0 isq0
  have nd0 := node ins d0 isg0
  have na1 := node ins a1 ise1
  have nb1 := node ins b1 isq1
  have nd1 := node ins d1 isg1
  have na2 := node ins a2 ise2
  have nb2 := node ins b2 isq2
  have nd2 := node ins d2 isg2
  have na3 := node ins a3 ise3
  have nb3 := node ins b3 isq3
  have nd3 := node ins d3 isg3
  have na4 := node ins a4 ise4
  have nb4 := node ins b4 isq4
  have nd4 := node ins d4 isg4
  have na5 := node ins a5 ise5
  have nb5 := node ins b5 isq5
  have nd5 := node ins d5 isg5
  generalize envI baseΦ ns ins = ρ at *
  intro l hl
  simp only [xs, List.mem_cons, List.not_mem_nil, or_false] at hl
  rcases hl with rfl | rfl | rfl | rfl | rfl | rfl | rfl
  · exact cut_fin0 baseΦ_ok n0 nf
  · exact cut_inv baseΦ_ok n0 n1 na0 nb0 nd0
  · exact cut_inv baseΦ_ok n0 n1 na1 nb1 nd1
  · exact cut_inv baseΦ_ok n0 n1 na2 nb2 nd2
  · exact cut_inv baseΦ_ok n0 n1 na3 nb3 nd3
  · exact cut_inv baseΦ_ok n0 n1 na4 nb4 nd4
  · exact cut_inv baseΦ_ok n0 n1 na5 nb5 nd5
theorem chS : wS.chkF ns rq xs (fun x => okR eS.res x.1) [] = true := by kernel_rfl
theorem chI : wI.chkF ns rq xs (fun x => okR eI.res x.1) [] = true := by kernel_rfl
theorem same : sameG xs (rC ns eS.res) wS [] wI = true := by kernel_rfl
noncomputable def g (l : List NV) : List NV := gives baseΦ ns wS eS.res l
noncomputable def Φ : Syms := ext baseΦ 10 g
theorem okS : OpqOK Try.prog Φ eS := opq_walk tb_ok mixed ftab_ok (otb_ok baseΦ_ok) rfl rfl wf chS (by kernel_rfl) (by kernel_rfl) (by kernel_rfl) (fun vs ins hv => rq_ok vs ins hv) (fun vs ins hv => xs_ok vs ins hv) fun _ _ _ => rfl
theorem okI : OpqOK Try.prog Φ eI := opq_walk tb_ok mixed ftab_ok (otb_ok baseΦ_ok) rfl rfl wf chI (by kernel_rfl) (by kernel_rfl) (by kernel_rfl) (fun vs ins hv => rq_ok vs ins hv) (fun vs ins hv => xs_ok vs ins hv) fun vs ins hv => gives_sameG wf (xs_ok vs ins hv) same
noncomputable def ot : OTab := eS :: eI :: otb
theorem ok : ∀ e ∈ ot, OpqOK Try.prog Φ e := by
  intro e he
  rcases List.mem_cons.1 he with rfl | he
  · exact okS
  · rcases List.mem_cons.1 he with rfl | he
    · exact okI
    · exact tab_old (by kernel_rfl) (otb_ok baseΦ_ok) e he
theorem base : Base Φ := ext_base 10 g (by rfl) baseΦ_ok
end Go.Proofs.Ytapinopfminmiaa.oDst
