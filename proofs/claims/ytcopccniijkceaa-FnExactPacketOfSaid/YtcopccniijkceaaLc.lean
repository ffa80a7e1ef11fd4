/- Functions whose walk ends in one value, at arguments of one's own choice. No condition. -/
import Derived.Test.YtcopccniijkceaaOt
import Derived.Test.YtcopccniijkceaaYf
import Derived.Test.YtcopccniijkceaaLb
namespace Go.Proofs.Ytcopccniijkceaa
open Go Go.RowKit
set_option linter.unusedVariables false

abbrev rdS : List SS := [.int .i64 0, .int .i16 1, .int .i16 2, .int .i16 3]
def rdI (r : Rd) : List NV := [.i r.t, .i r.a, .i r.b, .i r.c]

noncomputable def wkTo : DT (SV × St) := callDT tb ftab otb 60 40 0 60 [.agg rdS] ⟨.nil, [], []⟩
noncomputable def nsTo : List Df := wkTo.gather []
theorem wfTo : wfT (withIds nsTo) [] = true := by kernel_rfl
theorem chTo : wkTo.chk nsTo [] (endIs (.agg rdS)) = true := by kernel_rfl

noncomputable def wkEq : DT (SV × St) := callDT tb ftab otb 60 40 0 64 [.agg rdS, .agg rdS] ⟨.nil, [], []⟩
noncomputable def nsEq : List Df := wkEq.gather []
theorem wfEq : wfT (withIds nsEq) [] = true := by kernel_rfl
theorem chEq : wkEq.chk nsEq [] (endIs (.one (.lit (.bool true)))) = true := by kernel_rfl

theorem rd_args {T : List Df} {γ : List Nat} (r : Rd) : SVm (envT baseΦ (insOf (rdI r)) T) γ (.agg rdS) (.agg r.cells) := by
  have h : ∀ n, n < 1000 → envT baseΦ (insOf (rdI r)) T n = insOf (rdI r) n := fun n hn => envT_ins _ _ _ _ hn
  refine ⟨r.cells, rfl, ?_⟩
  refine ⟨?_, ?_, ?_, ?_, trivial⟩
  · show _ = Value.int .i64 _; rw [h 0 (by decide)]; rfl
  · show _ = Value.int .i16 _; rw [h 1 (by decide)]; rfl
  · show _ = Value.int .i16 _; rw [h 2 (by decide)]; rfl
  · show _ = Value.int .i16 _; rw [h 3 (by decide)]; rfl

theorem c_toReading (r : Rd) (w : World) : Calls Try.prog 60 #[.agg r.cells] w fun e w' => e = .returned (.agg r.cells) ∧ Below w.heap.size w w' := by
  refine (walk_args (args := [.agg rdS]) (vs := #[.agg r.cells]) (ins := rdI r) (r := .agg rdS) tb_ok mixed ftab_ok (otb_ok baseΦ_ok) wfTo chTo (by kernel_rfl) ⟨rd_args r, trivial⟩).mono ?_
  rintro e w' ⟨v, γ, rfl, ⟨cs, rfl, hm⟩, hs⟩
  refine ⟨?_, hs⟩
  obtain ⟨cs', e, hm'⟩ := rd_args (T := nsTo) (γ := γ) r
  cases e
  obtain ⟨l⟩ := cs
  match l, hm with
  | [a, b, c, d], ⟨h1, h2, h3, h4, _⟩ =>
    obtain ⟨g1, g2, g3, g4, _⟩ := hm'
    rw [show a = _ from h1, show b = _ from h2, show c = _ from h3, show d = _ from h4]
    have e1 : Value.int .i64 r.t = _ := g1
    have e2 : Value.int .i16 r.a = _ := g2
    have e3 : Value.int .i16 r.b = _ := g3
    have e4 : Value.int .i16 r.c = _ := g4
    unfold Rd.cells
    rw [e1, e2, e3, e4]

theorem c_eqReading (r : Rd) (w : World) : Calls Try.prog 64 #[.agg r.cells, .agg r.cells] w fun e w' => e = .returned (.bool true) ∧ Below w.heap.size w w' := by
  refine (walk_args (args := [.agg rdS, .agg rdS]) (vs := #[.agg r.cells, .agg r.cells]) (ins := rdI r) (r := .one (.lit (.bool true))) tb_ok mixed ftab_ok (otb_ok baseΦ_ok) wfEq chEq (by kernel_rfl) ⟨rd_args r, rd_args r, trivial⟩).mono ?_
  rintro e w' ⟨v, γ, rfl, hm, hs⟩
  exact ⟨congrArg _ hm, hs⟩
end Go.Proofs.Ytcopccniijkceaa
