/- For all arguments, FnExactMeasureAt returns true; its arguments read as before. No condition. -/
import Derived.Test.YtpfihfdbkoclnaaOCnt
import Derived.Test.YtpfihfdbkoclnaaYo
import Derived.Test.YtpfihfdbkoclnaaYf
import Derived.Test.YtpfihfdbkoclnaaYc
namespace Go.Proofs.Ytpfihfdbkoclnaa.fnExactMeasureAt
open Go Go.ChangeShapes Go.WideShapes Go.ChangeAt Go.RowKit
set_option linter.unusedVariables false

noncomputable def shs : List Sh := (shsOf Try.prog (Try.f8).params.toList).getD []
noncomputable def wk : DT (SV × St) := walkOf tb ftab oCnt.ot 8 shs
noncomputable def ns : List Df := wk.gather []
theorem wf : wfT (withIds ns) [] = true := by kernel_rfl
noncomputable def iN : Nat := 2198721032926209525
theorem i_ok : (Nat.beq (Df.id ⟨26, 1, [6]⟩) iN && memD ⟨26, 1, [6]⟩ ns) = true := by kernel_rfl
noncomputable abbrev rq : List Rq := [⟨4, 6, [(iN, false)]⟩]
noncomputable abbrev xs : List (List Fact) := []
theorem rq_ok {vs : List Value} {ins : List NV} (_ : ShMs shs vs ins) (_ : RGs (allKs shs) ins) : ∀ q ∈ rq, FactsT (envI oCnt.Φ ns ins) q.on → Asked q.tag (envI oCnt.Φ ns ins q.n) := by
  have h := i_ok
  simp only [Bool.and_eq_true] at h
  have hn := envI_ok (Φ := oCnt.Φ) wf ins _ (memD_mem h.2)
  rw [Nat.eq_of_beq_eq_true h.1] at hn
  generalize envI oCnt.Φ ns ins = ρ at *
  intro q hq hF
  rcases List.mem_cons.1 hq with rfl | hq
  · have f1 : (ρ iN).gb = false := hF (iN, false) (by simp)
    rw [hn] at f1
    have f1 : decide ((ρ 6).gi < ((1 : Nat) : Int)) = false := f1
    have f1 := of_decide_eq_false f1
    show (ρ 6).gi ≠ 0
    omega
  · exact absurd hq List.not_mem_nil
theorem xs_ok {vs : List Value} {ins : List NV} (_ : ShMs shs vs ins) (_ : RGs (allKs shs) ins) : ∀ l ∈ xs, ¬ FactsT (envI oCnt.Φ ns ins) l := fun l hl => absurd hl List.not_mem_nil
theorem chk : wk.chkF ns rq xs (fun x => isTrue x.1) [] = true := by kernel_rfl

theorem own : ownKnob Try.prog.godebug = none := by kernel_rfl
theorem laidOut : laidOutB Try.prog = true := by kernel_rfl

set_option maxRecDepth 100000 in
theorem lifted (os : Os) (started : os.Started) (H : Type) (enc : TypeId × Value → H) :
    ReturnsInHanded {} Try.checked os 8 .any (Rows.fnExactMeasureAtSpec.pre6 enc Try.prog Try.f8 Rows.fnExactMeasureAtRow.domain false) (Rows.fnExactMeasureAtSpec.post enc Try.prog Try.f8 false true false false) := by
  refine returnsInHanded_of_change (C := Try.checked) own started (by kernel_rfl) Try.func8
    (ChangeSpec.witness6 (enc := enc) (C := Try.checked) false ⟨#[], #[.agg #[.float .f32 0, .float .f32 0, .float .f32 0, .float .f32 0, .float .f32 0, .float .f32 0, .int .i64 0, .int .i64 0], .int .i64 0, .agg #[.float .f32 0, .float .f32 0, .float .f32 0]], []⟩ 8 (by kernel_rfl) (by kernel_rfl) (by kernel_rfl) (by kernel_rfl)) ?_
  intro W base args ds gs before hval0 hW hcnd _
  have hval : ∀ (j : Nat) t v, (Try.f8).params.toList[j]? = some t → args.toList[j]? = some v → Value.okWide Try.prog W .any base t v := fun j t v ht hv => hval0 j t v (by simpa using ht) (by simpa using hv)
  have hW' := hW
  obtain ⟨p, q, hA0, hV, rfl, hfz, hnd⟩ := hW
  have hA : DataW.TrodAll enc Try.prog W 0 (fun _ => true) true (Try.f8).params.toList args.toList ds p := hA0
  obtain ⟨rfl, rfl⟩ := trodVars_none hV
  obtain ⟨ins, hm, hg⟩ := open_all' (ss := shs) (by kernel_rfl) hval hA
  refine (lawF_ok tb_ok mixed ftab_ok oCnt.ok wf chk (Nat.le_of_ble_eq_true (by kernel_rfl)) (by kernel_rfl) (rq_ok hm hg) (xs_ok hm hg) hm).mono fun e W' ⟨he, bel⟩ => ?_
  subst he
  have hA2 := all_trod laidOut bel (by kernel_rfl) hA
  rw [Try.params8] at hA
  obtain ⟨v0, vs0, d0, ds0, p0, q0, hargs, rfl, rfl, h0, r0⟩ := trodAll_cons hA
  obtain ⟨v1, vs1, d1, ds1, p1, q1, rfl, rfl, rfl, h1, r1⟩ := trodAll_cons r0
  obtain ⟨v2, vs2, d2, ds2, p2, q2, rfl, rfl, rfl, h2, r2⟩ := trodAll_cons r1
  obtain ⟨rfl, rfl, rfl⟩ := trodAll_nil r2
  exact ⟨_, rfl, _, _, _, [], _, [], hW', trodAll_mk1 (shut_bool Try.underlying4 _), hA2, rfl, bel.frame _, fun h => by cases h⟩

theorem over : Rows.fnExactMeasureAtRow.holds Try.pinned (OpenSpec.ofChange Rows.fnExactMeasureAtSpec) :=
  OpenClaim.holds_of_wide 8 Try.f8 rfl rfl rfl rfl rfl rfl rfl ⟨rfl, rfl, rfl, rfl, rfl⟩ rfl rfl rfl rfl rfl (by kernel_rfl) Try.func8 (by kernel_rfl)
    (of_decide_eq_true (by kernel_rfl)) (by unfold Func.isWrapper; first | (rw [if_pos (by decide +kernel)]; kernel_rfl) | (rw [if_neg (by decide +kernel)]; exact ⟨rfl, rfl⟩))
    (fun os started H enc _ => lifted os started H enc)

theorem proved : Rows.FnExactMeasureAtSaid := over
#print axioms proved
end Go.Proofs.Ytpfihfdbkoclnaa.fnExactMeasureAt
