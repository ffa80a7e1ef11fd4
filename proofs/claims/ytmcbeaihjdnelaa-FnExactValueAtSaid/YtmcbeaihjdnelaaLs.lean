/- Sensors: copied, and whether they are valid, by value and by pointer. No condition. -/
import Derived.Test.YtmcbeaihjdnelaaLc
import Derived.Test.YtmcbeaihjdnelaaYc
namespace Go.Proofs.Ytmcbeaihjdnelaa
open Go Go.RowKit
set_option linter.unusedVariables false

abbrev senK : List Kd := [.f .f32, .f .f32, .f .f32, .f .f32, .f .f32, .f .f32, .i .i64, .i .i64]
/-- A sensor as a value. -/
def Sen (v : Value) (ins : List NV) : Prop := ShM (.agg senK) v ins

noncomputable def wkSe : DT (SV × St) := callDT tb ftab otb 60 40 0 13 [inSh 0 (.agg senK)] ⟨.nil, [], []⟩
noncomputable def nsSe : List Df := wkSe.gather []
theorem wfSe : wfT (withIds nsSe) [] = true := by kernel_rfl
theorem chSe : wkSe.chk nsSe [] (endIs (.agg (inKs 0 senK))) = true := by kernel_rfl

theorem c_toSensor (v : Value) (ins : List NV) (w : World) (h : Sen v ins) : Calls Try.prog 13 #[v] w fun e w' => ∃ v', e = .returned v' ∧ Sen v' ins ∧ Below w.heap.size w w' := by
  have hl : ins.length = 8 := ShM_length h
  refine (walk_args (args := [inSh 0 (.agg senK)]) (vs := #[v]) (ins := ins) (r := .agg (inKs 0 senK)) tb_ok mixed ftab_ok (otb_ok baseΦ_ok) wfSe chSe (by kernel_rfl) ⟨inSh_ok h fun j hj => ins_at (by omega) j hj, trivial⟩).mono ?_
  rintro e w' ⟨v', γ, rfl, ⟨cs, rfl, hm⟩, hs⟩
  exact ⟨_, rfl, ⟨cs, rfl, KMs_back hm hl fun j hj => ins_at (by omega) j hj⟩, hs⟩

noncomputable def wkVS : DT (SV × St) := callDT tb ftab otb 60 40 1 52 [.one (.ptr 0 0)] ⟨.nil, [⟨inKs 0 senK, 32⟩], []⟩
noncomputable def wkVI : DT (SV × St) := walkOf tb ftab otb 56 [.agg senK]
noncomputable def nsV : List Df := wkVI.gather (wkVS.gather [])
theorem wfV : wfT (withIds nsV) [] = true := by kernel_rfl
theorem chVS : wkVS.chk nsV [] (fun x => okR (.p (.one .b)) x.1) = true := by kernel_rfl
theorem chVI : wkVI.chk nsV [] (fun x => okR (.p (.one .b)) x.1) = true := by kernel_rfl
theorem sameSen : sameG [] (rC nsV (.p (.one .b))) wkVI [] wkVS = true := by kernel_rfl

/-- Whether a sensor is valid. -/
noncomputable def sensB (ins : List NV) : Bool := ((gives baseΦ nsV wkVI (.p (.one .b)) ins).getD 0 (.i 0)).gb

theorem c_ValidSensor (v : Value) (ins : List NV) (w : World) (h : Sen v ins) : Calls Try.prog 56 #[v] w fun e w' => e = .returned (.bool (sensB ins)) ∧ Below w.heap.size w w' := by
  have hv : ShMs [.agg senK] (#[v] : Array Value).toList ins := ⟨ins, [], by simp, h, rfl⟩
  refine (walk_ok tb_ok mixed ftab_ok (otb_ok baseΦ_ok) wfV chVI (by decide) (by kernel_rfl) (fun n hn => by simp at hn) hv).mono ?_
  rintro e w' ⟨v', rfl, hr, hs⟩
  exact ⟨congrArg _ (bool_of hr), hs⟩

theorem c_l04Sensor (p : Nat) (cs : Array Value) (ins : List NV) (w : World) (hg : w.heap[p]? = some (.cells cs 32 (0, 0))) (h : Sen (.agg cs) ins) :
    Calls Try.prog 52 #[.pointer (some ⟨p, 0, none⟩)] w fun e w' => e = .returned (.bool (sensB ins)) ∧ Below w.heap.size w w' := by
  have hl : ins.length = 8 := ShM_length h
  obtain ⟨cs', e, hk⟩ := h
  cases e
  have hd : ∀ d ∈ nsV, envT baseΦ (insOf ins) nsV d.id = d.sem baseΦ (envT baseΦ (insOf ins) nsV) := envT_ok baseΦ (insOf ins) nsV [] wfV (fun n hn => by simp at hn) _ fun n _ => rfl
  have hh := DT.chk_at (leaf := fun x : SV × St => okR (.p (.one .b)) x.1) hd (R := []) (fun n hn => by simp at hn) _ chVS
  have hcells : all2 (SSm (envT baseΦ (insOf ins) nsV) [p]) (inKs 0 senK) cs.toList := inKs_ok hk fun j hj => ins_at (by omega) j hj
  have hcall := called_of (f := 52) ftab_ok (by kernel_rfl) (callDT_ok (ρ := envT baseΦ (insOf ins) nsV) tb_ok mixed ftab_ok (otb_ok baseΦ_ok) 60 40 1 52 [.one (.ptr 0 0)] ⟨.nil, [⟨inKs 0 senK, 32⟩], []⟩ ⟨w, 1⟩ [p] #[.pointer (some ⟨p, 0, none⟩)] ⟨#[], []⟩ w _
    ⟨TM.zero _ _, ⟨rfl, by simp, fun b q hb hq => by
        have := (List.getElem?_eq_some_iff.1 hq).1
        simp at this
        have hb : 1 ≤ b := hb
        omega, fun b k hk => by
        match b, hk with
        | 0, hk => cases hk; exact ⟨p, cs, rfl, hg, hcells⟩⟩, Stays.refl w, fun c x h => by simp at h, rfl⟩ ⟨⟨p, rfl, rfl⟩, trivial⟩ hh)
  refine hcall.mono ?_
  rintro e w' ⟨v, r, γ, rfl, ⟨hat, hok⟩, hmv, _, hst, _⟩
  refine ⟨?_, hst⟩
  have hb := bool_of (okR_ok hok hmv)
  rw [hb]
  have hs := gives_sameG (Φ := baseΦ) (ins := ins) wfV (fun l hl => by simp at hl) sameSen
  unfold sensB
  rw [← hs]
  unfold gives
  rw [hat]
end Go.Proofs.Ytmcbeaihjdnelaa
