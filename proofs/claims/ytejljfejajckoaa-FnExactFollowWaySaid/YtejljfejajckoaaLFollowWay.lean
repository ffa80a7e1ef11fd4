/- For all arguments, FnExactFollowWay returns true; its arguments read as before. No condition. -/
import Derived.Test.YtejljfejajckoaaFom
namespace Go.Proofs.Ytejljfejajckoaa.fnExactFollowWay
open Go Go.ChangeShapes Go.WideShapes Go.ChangeAt Go.RowKit
set_option linter.unusedVariables false

theorem own : ownKnob Try.prog.godebug = none := by kernel_rfl
theorem laidOut : laidOutB Try.prog = true := by kernel_rfl

set_option maxRecDepth 100000 in
theorem lifted (os : Os) (started : os.Started) (H : Type) (enc : TypeId × Value → H) :
    ReturnsInHanded {} Try.checked os 5 .any (Rows.fnExactFollowWaySpec.pre6 enc Try.prog Try.f5 Rows.fnExactFollowWayRow.domain false) (Rows.fnExactFollowWaySpec.post enc Try.prog Try.f5 false true false false) := by
  refine returnsInHanded_of_change (C := Try.checked) own started (by kernel_rfl) Try.func5
    (ChangeSpec.witness6 (enc := enc) (C := Try.checked) false ⟨#[], #[.slice none 0 0, .agg #[.float .f32 0, .float .f32 0, .float .f32 0], .float .f32 0, .float .f32 0], []⟩ 8 (by kernel_rfl) (by kernel_rfl) (by kernel_rfl) (by kernel_rfl)) ?_
  intro W base args ds gs before hval0 hW hcnd _
  have hval : ∀ (j : Nat) t v, (Try.f5).params.toList[j]? = some t → args.toList[j]? = some v → Value.okWide Try.prog W .any base t v := fun j t v ht hv => hval0 j t v (by simpa using ht) (by simpa using hv)
  have hW' := hW
  obtain ⟨p, q, hA0, hV, rfl, hfz, hnd⟩ := hW
  have hA : DataW.TrodAll enc Try.prog W 0 (fun _ => true) true (Try.f5).params.toList args.toList ds p := hA0
  obtain ⟨rfl, rfl⟩ := trodVars_none hV
  have hA' := hA
  rw [Try.params5] at hA hval
  obtain ⟨v0, vs0, d0, ds0, p0, q0, hargs, rfl, rfl, h0, r0⟩ := trodAll_cons hA
  obtain ⟨v1, vs1, d1, ds1, p1, q1, rfl, rfl, rfl, h1, r1⟩ := trodAll_cons r0
  obtain ⟨v2, vs2, d2, ds2, p2, q2, rfl, rfl, rfl, h2, r2⟩ := trodAll_cons r1
  obtain ⟨v3, vs3, d3, ds3, p3, q3, rfl, rfl, rfl, h3, r3⟩ := trodAll_cons r2
  obtain ⟨rfl, rfl, rfl⟩ := trodAll_nil r3
  obtain ⟨A0, rs0, c0, rfl, hg0, hn0⟩ := open_rows (K := KPt) (n := 2) Try.underlying43 rfl (by decide) (by kernel_rfl) (by kernel_rfl) (hval 0 _ v0 rfl (by rw [hargs]; rfl)) h0
  obtain ⟨ns1, ⟨cs1, rfl, k1⟩, rg1⟩ := open_sh (s := .agg [.f .f32, .f .f32, .f .f32]) (by kernel_rfl) (hval 1 _ v1 rfl (by rw [hargs]; rfl)) h1
  obtain ⟨ns2, ⟨n2, _, k2⟩, _⟩ := open_sh (s := .one (.f .f32)) (by kernel_rfl) (hval 2 _ v2 rfl (by rw [hargs]; rfl)) h2
  obtain ⟨b2, rfl, fb2⟩ := k2
  obtain ⟨ns3, ⟨n3, _, k3⟩, _⟩ := open_sh (s := .one (.f .f32)) (by kernel_rfl) (hval 3 _ v3 rfl (by rw [hargs]; rfl)) h3
  obtain ⟨b3, rfl, fb3⟩ := k3
  have eargs : args = #[.slice A0 rs0.length c0, .agg cs1, .float .f32 b2, .float .f32 b3] := by
    obtain ⟨l⟩ := args
    exact congrArg Array.mk hargs
  rw [eargs]
  refine (c_lawFollowWay A0 c0 rs0 cs1 ns1 b2 b3 W hg0 hn0 k1 rg1 fb2.lt fb3.lt).mono fun e W' ⟨he, bel⟩ => ?_
  subst he
  have hA2 := all_trod laidOut bel (by kernel_rfl) hA'
  rw [eargs] at hA2 hW'
  exact ⟨_, rfl, _, _, _, [], _, [], hW', trodAll_mk1 (shut_bool Try.underlying4 _), hA2, rfl, bel.frame _, fun h => by cases h⟩

theorem over : Rows.fnExactFollowWayRow.holds Try.pinned (OpenSpec.ofChange Rows.fnExactFollowWaySpec) :=
  OpenClaim.holds_of_wide 5 Try.f5 rfl rfl rfl rfl rfl rfl rfl ⟨rfl, rfl, rfl, rfl, rfl⟩ rfl rfl rfl rfl rfl (by kernel_rfl) Try.func5 (by kernel_rfl)
    (of_decide_eq_true (by kernel_rfl)) (by unfold Func.isWrapper; first | (rw [if_pos (by decide +kernel)]; kernel_rfl) | (rw [if_neg (by decide +kernel)]; exact ⟨rfl, rfl⟩))
    (fun os started H enc _ => lifted os started H enc)

theorem proved : Rows.FnExactFollowWaySaid := over
#print axioms proved
end Go.Proofs.Ytejljfejajckoaa.fnExactFollowWay
