/- For all arguments, FnExactBetterMark returns true; its arguments read as before. No condition. -/
import Derived.Test.YtmcbeaihjdnelaaBtd
import Derived.Test.YtmcbeaihjdnelaaNa
namespace Go.Proofs.Ytmcbeaihjdnelaa.fnExactBetterMark
open Go Go.ChangeShapes Go.WideShapes Go.ChangeAt Go.RowKit
set_option linter.unusedVariables false

theorem own : ownKnob Try.prog.godebug = none := by kernel_rfl
theorem laidOut : laidOutB Try.prog = true := by kernel_rfl

set_option maxRecDepth 100000 in
theorem lifted (os : Os) (started : os.Started) (H : Type) (enc : TypeId × Value → H) :
    ReturnsInHanded {} Try.checked os 4 .any (Rows.fnExactBetterMarkSpec.pre6 enc Try.prog Try.f4 Rows.fnExactBetterMarkRow.domain false) (Rows.fnExactBetterMarkSpec.post enc Try.prog Try.f4 false true false false) := by
  refine returnsInHanded_of_change (C := Try.checked) own started (by kernel_rfl) Try.func4
    (ChangeSpec.witness6 (enc := enc) (C := Try.checked) false ⟨#[], #[.agg #[.int .i32 0, .int .i32 0, .int .i32 0, .float .f32 0, .float .f32 0, .float .f32 0, .float .f32 0, .int .i64 0, .int .i64 0], .agg #[.int .i32 0, .int .i32 0, .int .i32 0, .float .f32 0, .float .f32 0, .float .f32 0, .float .f32 0, .int .i64 0, .int .i64 0]], []⟩ 8 (by kernel_rfl) (by kernel_rfl) (by kernel_rfl) (by kernel_rfl)) ?_
  intro W base args ds gs before hval0 hW hcnd _
  have hval : ∀ (j : Nat) t v, (Try.f4).params.toList[j]? = some t → args.toList[j]? = some v → Value.okWide Try.prog W .any base t v := fun j t v ht hv => hval0 j t v (by simpa using ht) (by simpa using hv)
  have hW' := hW
  obtain ⟨p, q, hA0, hV, rfl, hfz, hnd⟩ := hW
  have hA : DataW.TrodAll enc Try.prog W 0 (fun _ => true) true (Try.f4).params.toList args.toList ds p := hA0
  obtain ⟨rfl, rfl⟩ := trodVars_none hV
  have hA' := hA
  rw [Try.params4] at hA hval
  obtain ⟨v0, vs0, d0, ds0, p0, q0, hargs, rfl, rfl, h0, r0⟩ := trodAll_cons hA
  obtain ⟨v1, vs1, d1, ds1, p1, q1, rfl, rfl, rfl, h1, r1⟩ := trodAll_cons r0
  obtain ⟨rfl, rfl, rfl⟩ := trodAll_nil r1
  obtain ⟨ns0, ⟨cs0, rfl, k0⟩, _⟩ := open_sh (s := .agg mkK) (by kernel_rfl) (hval 0 _ v0 rfl (by rw [hargs]; rfl)) h0
  have hmk0 : IsMk (.agg cs0) (mkOf ns0) := ⟨cs0, rfl, mkOf_ok k0⟩
  obtain ⟨ns1, ⟨cs1, rfl, k1⟩, _⟩ := open_sh (s := .agg mkK) (by kernel_rfl) (hval 1 _ v1 rfl (by rw [hargs]; rfl)) h1
  have hmk1 : IsMk (.agg cs1) (mkOf ns1) := ⟨cs1, rfl, mkOf_ok k1⟩
  have eargs : args = #[.agg cs0, .agg cs1] := by
    obtain ⟨l⟩ := args
    exact congrArg Array.mk hargs
  rw [eargs]
  refine (c_lawBetterMark (.agg cs0) (.agg cs1) (mkOf ns0) (mkOf ns1) W hmk0 hmk1).mono fun e W' ⟨he, bel⟩ => ?_
  subst he
  have hA2 := all_trod laidOut bel (by kernel_rfl) hA'
  rw [eargs] at hA2 hW'
  exact ⟨_, rfl, _, _, _, [], _, [], hW', trodAll_mk1 (shut_bool Try.underlying4 _), hA2, rfl, bel.frame _, fun h => by cases h⟩

theorem over : Rows.fnExactBetterMarkRow.holds Try.pinned (OpenSpec.ofChange Rows.fnExactBetterMarkSpec) :=
  OpenClaim.holds_of_wide 4 Try.f4 rfl rfl rfl rfl rfl rfl rfl ⟨rfl, rfl, rfl, rfl, rfl⟩ rfl rfl rfl rfl rfl (by kernel_rfl) Try.func4 (by kernel_rfl)
    (of_decide_eq_true (by kernel_rfl)) (by unfold Func.isWrapper; first | (rw [if_pos (by decide +kernel)]; kernel_rfl) | (rw [if_neg (by decide +kernel)]; exact ⟨rfl, rfl⟩))
    (fun os started H enc _ => lifted os started H enc)

theorem proved : Rows.FnExactBetterMarkSaid := over
#print axioms proved
end Go.Proofs.Ytmcbeaihjdnelaa.fnExactBetterMark
