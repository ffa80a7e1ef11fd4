/- For all arguments, FnExactValidDeed returns true; its arguments read as before. No condition. -/
import Derived.Test.YtifaojlgofibmaaOt
import Derived.Test.YtifaojlgofibmaaYo
import Derived.Test.YtifaojlgofibmaaYf
import Derived.Test.YtifaojlgofibmaaYc
import Derived.Test.YtifaojlgofibmaaAg
namespace Go.Proofs.Ytifaojlgofibmaa.fnExactValidDeed
open Go Go.ChangeShapes Go.WideShapes Go.ChangeAt Go.RowKit
set_option linter.unusedVariables false
set_option linter.unusedSimpArgs false
set_option maxRecDepth 1000000

noncomputable def shs : List Sh := (shsOf Try.prog (Try.f3).params.toList).getD []
noncomputable def wk : DT (SV × St) := walkOf tb ftab otb 3 shs
noncomputable def ns : List Df := wk.gather []
theorem wf : wfT (withIds ns) [] = true := by kernel_rfl
noncomputable def aN : Nat := 1274988752641939503
noncomputable def bN : Nat := 840089510588440136
noncomputable def cN : Nat := 1104880897167500538
theorem ids_ok : (Nat.beq (Df.id ⟨13, 2, [0]⟩) aN && (Nat.beq (Df.id ⟨13, 0, [2]⟩) bN && (Nat.beq (Df.id ⟨23, 0, [aN, bN]⟩) cN))) = true := by kernel_rfl
theorem mem_ok : (memD ⟨13, 2, [0]⟩ ns && (memD ⟨13, 0, [2]⟩ ns && (memD ⟨23, 0, [aN, bN]⟩ ns))) = true := by kernel_rfl
theorem node_at {ρ : Nat → NV} {Φ : Syms} (hT : ∀ d ∈ ns, ρ d.id = d.sem Φ ρ) {d : Df} {k : Nat} (h : memD d ns = true) (hk : Nat.beq d.id k = true) : ρ k = d.sem Φ ρ := by
  rw [← Nat.eq_of_beq_eq_true hk]; exact hT d (memD_mem h)
structure Env (ρ : Nat → NV) : Prop where
  a : ρ aN = .b ((ρ 0).gi == (2 : Int))
  b : ρ bN = .b ((ρ 2).gi == (0 : Int))
  c : ρ cN = .b ((ρ aN).gb == (ρ bN).gb)
theorem env_of {ρ : Nat → NV} {Φ : Syms} (hB : Base Φ) (hT : ∀ d ∈ ns, ρ d.id = d.sem Φ ρ) : Env ρ := by
  have hi := ids_ok
  have hm := mem_ok
  simp only [Bool.and_eq_true] at hi hm
  obtain ⟨i0, i1, i2⟩ := hi
  obtain ⟨m0, m1, m2⟩ := hm
  exact ⟨node_at hT m0 i0, node_at hT m1 i1, node_at hT m2 i2⟩
theorem gi_i (x : Int) : (NV.i x).gi = x := rfl
theorem gb_b (x : Bool) : (NV.b x).gb = x := rfl
noncomputable abbrev rq : List Rq := []
noncomputable abbrev xs : List (List Fact) := [[(aN, false), (bN, false), (cN, false)]]
theorem rq_ok {vs : List Value} {ins : List NV} (_ : ShMs shs vs ins) (hg : RGs (allKs shs) ins) : ∀ q ∈ rq, FactsT (envI baseΦ ns ins) q.on → Asked q.tag (envI baseΦ ns ins q.n) := by
  exact fun q hq => absurd hq List.not_mem_nil
theorem xs_ok {vs : List Value} {ins : List NV} (_ : ShMs shs vs ins) (hg : RGs (allKs shs) ins) : ∀ l ∈ xs, ¬ FactsT (envI baseΦ ns ins) l := by
  have E := env_of baseΦ_ok (envI_ok (Φ := baseΦ) wf ins)
  generalize envI baseΦ ns ins = ρ at *
  intro l hl hF
  rcases List.mem_cons.1 hl with rfl | hl
  · have f0 := hF (aN, false) (by simp)
    have f1 := hF (bN, false) (by simp)
    have f2 := hF (cN, false) (by simp)
    rw [E.c] at f2
    have f2 : ((ρ aN).gb == (ρ bN).gb) = false := f2
    rw [f0, f1] at f2
    cases f2
  exact absurd hl List.not_mem_nil
theorem chk : wk.chkF ns rq xs (fun x => isTrue x.1) [] = true := by kernel_rfl

theorem own : ownKnob Try.prog.godebug = none := by kernel_rfl
theorem laidOut : laidOutB Try.prog = true := by kernel_rfl

set_option maxRecDepth 100000 in
theorem lifted (os : Os) (started : os.Started) (H : Type) (enc : TypeId × Value → H) :
    ReturnsInHanded {} Try.checked os 3 .any (Rows.fnExactValidDeedSpec.pre6 enc Try.prog Try.f3 Rows.fnExactValidDeedRow.domain false) (Rows.fnExactValidDeedSpec.post enc Try.prog Try.f3 false true false false) := by
  refine returnsInHanded_of_change (C := Try.checked) own started (by kernel_rfl) Try.func3
    (ChangeSpec.witness6 (enc := enc) (C := Try.checked) false ⟨#[], #[.agg #[.int .i64 0, .int .i64 0, .int .i64 0]], []⟩ 8 (by kernel_rfl) (by kernel_rfl) (by kernel_rfl) (by kernel_rfl)) ?_
  intro W base args ds gs before hval0 hW hcnd _
  have hval : ∀ (j : Nat) t v, (Try.f3).params.toList[j]? = some t → args.toList[j]? = some v → Value.okWide Try.prog W .any base t v := fun j t v ht hv => hval0 j t v (by simpa using ht) (by simpa using hv)
  have hW' := hW
  obtain ⟨p, q, hA0, hV, rfl, hfz, hnd⟩ := hW
  have hA : DataW.TrodAll enc Try.prog W 0 (fun _ => true) true (Try.f3).params.toList args.toList ds p := hA0
  obtain ⟨rfl, rfl⟩ := trodVars_none hV
  obtain ⟨ins, hm, hg⟩ := open_all' (ss := shs) (by kernel_rfl) hval hA
  refine (lawF_ok tb_ok mixed ftab_ok (otb_ok baseΦ_ok) wf chk (Nat.le_of_ble_eq_true (by kernel_rfl)) (by kernel_rfl) (rq_ok hm hg) (xs_ok hm hg) hm).mono fun e W' ⟨he, bel⟩ => ?_
  subst he
  have hA2 := all_trod laidOut bel (by kernel_rfl) hA
  rw [Try.params3] at hA
  obtain ⟨v0, vs0, d0, ds0, p0, q0, hargs, rfl, rfl, h0, r0⟩ := trodAll_cons hA
  obtain ⟨rfl, rfl, rfl⟩ := trodAll_nil r0
  exact ⟨_, rfl, _, _, _, [], _, [], hW', trodAll_mk1 (shut_bool Try.underlying4 _), hA2, rfl, bel.frame _, fun h => by cases h⟩

theorem over : Rows.fnExactValidDeedRow.holds Try.pinned (OpenSpec.ofChange Rows.fnExactValidDeedSpec) :=
  OpenClaim.holds_of_wide 3 Try.f3 rfl rfl rfl rfl rfl rfl rfl ⟨rfl, rfl, rfl, rfl, rfl⟩ rfl rfl rfl rfl rfl (by kernel_rfl) Try.func3 (by kernel_rfl)
    (of_decide_eq_true (by kernel_rfl)) (by unfold Func.isWrapper; first | (rw [if_pos (by decide +kernel)]; kernel_rfl) | (rw [if_neg (by decide +kernel)]; exact ⟨rfl, rfl⟩))
    (fun os started H enc _ => lifted os started H enc)

theorem proved : Rows.FnExactValidDeedSaid := over
#print axioms proved
end Go.Proofs.Ytifaojlgofibmaa.fnExactValidDeed
