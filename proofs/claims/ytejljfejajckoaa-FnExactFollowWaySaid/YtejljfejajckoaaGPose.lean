/- Lists of Pose: copied, compared, counted. No condition. -/
import Derived.Test.YtejljfejajckoaaGz
namespace Go.Proofs.Ytejljfejajckoaa
open Go Go.RowKit
set_option linter.unusedVariables false

abbrev KPose : List Kd := [.f .f32, .f .f32, .f .f32]
noncomputable def wkTPose : DT (SV × St) := callDT tb ftab otb 60 40 0 27 [inSh 0 (.agg KPose)] ⟨.nil, [], []⟩
noncomputable def nsTPose : List Df := wkTPose.gather []
theorem wfTPose : wfT (withIds nsTPose) [] = true := by kernel_rfl
theorem chTPose : wkTPose.chk nsTPose [] (endIs (.agg (inKs 0 KPose))) = true := by kernel_rfl

theorem c_toPose (v : Value) (r : List NV) (w : World) (h : ShM (.agg KPose) v r) : Calls Try.prog 27 #[v] w fun e w' => ∃ cs : Array Value, e = .returned (.agg cs) ∧ KMs KPose cs.toList r ∧ Below w.heap.size w w' := by
  have hl : r.length = 3 := by obtain ⟨cs, _, hk⟩ := h; exact KMs_rlen hk
  have hl' : r.length ≤ 1000 := by omega
  refine (walk_args (args := [inSh 0 (.agg KPose)]) (vs := #[v]) (ins := r) (r := .agg (inKs 0 KPose)) tb_ok mixed ftab_ok (otb_ok baseΦ_ok) wfTPose chTPose (by kernel_rfl) ⟨inSh_ok h fun j hj => ins_at hl' j hj, trivial⟩).mono ?_
  rintro e w' ⟨v', γ, rfl, ⟨cs, rfl, hm⟩, hs⟩
  exact ⟨cs, rfl, KMs_back hm hl fun j hj => ins_at hl' j hj, hs⟩

noncomputable def wkEPose : DT (SV × St) := callDT tb ftab otb 60 40 0 29 [inSh 0 (.agg KPose), inSh 0 (.agg KPose)] ⟨.nil, [], []⟩
noncomputable def nsEPose : List Df := wkEPose.gather []
theorem wfEPose : wfT (withIds nsEPose) [] = true := by kernel_rfl
theorem chEPose : wkEPose.chk nsEPose [] (endIs (.one (.lit (.bool true)))) = true := by kernel_rfl

theorem c_eqPose (v v' : Value) (r : List NV) (w : World) (h : ShM (.agg KPose) v r) (h' : ShM (.agg KPose) v' r) : Calls Try.prog 29 #[v, v'] w fun e w' => e = .returned (.bool true) ∧ Below w.heap.size w w' := by
  have hl : r.length = 3 := by obtain ⟨cs, _, hk⟩ := h; exact KMs_rlen hk
  have hl' : r.length ≤ 1000 := by omega
  refine (walk_args (args := [inSh 0 (.agg KPose), inSh 0 (.agg KPose)]) (vs := #[v, v']) (ins := r) (r := .one (.lit (.bool true))) tb_ok mixed ftab_ok (otb_ok baseΦ_ok) wfEPose chEPose (by kernel_rfl) ⟨inSh_ok h fun j hj => ins_at hl' j hj, inSh_ok h' fun j hj => ins_at hl' j hj, trivial⟩).mono ?_
  rintro e w' ⟨v2, γ, rfl, hm, hs⟩
  exact ⟨congrArg _ hm, hs⟩

theorem infoPose : (Try.prog.info? 52).map (fun i => (i.zero, i.size, i.bytes)) = some (some (.agg #[.float .f32 0, .float .f32 0, .float .f32 0]), 3, 12) := by kernel_rfl

end Go.Proofs.Ytejljfejajckoaa
