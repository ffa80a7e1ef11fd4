/- Sensors: copied, and whether they are valid, by value and by pointer. No condition. -/
import Derived.Test.YtpfihfdbkoclnabLc
import Derived.Test.YtpfihfdbkoclnabYc
namespace Go.Proofs.Ytpfihfdbkoclnab
open Go Go.RowKit
set_option linter.unusedVariables false

abbrev senK : List Kd := [.f .f32, .f .f32, .f .f32, .f .f32, .f .f32, .f .f32, .i .i64, .i .i64]
/-- A sensor as a value. -/
def Sen (v : Value) (ins : List NV) : Prop := ShM (.agg senK) v ins

theorem ins_at {T : List Df} {ins : List NV} (h : ins.length ≤ 1000) (j : Nat) (hj : j < ins.length) : envT baseΦ (insOf ins) T (0 + j) = ins.getD j (.i 0) := by
  rw [Nat.zero_add, envT_ins _ _ _ _ (by omega)]; rfl

theorem KMs_back {ρ : Nat → NV} {β : List Nat} : ∀ {ks : List Kd} {vs : List Value} {xs : List NV} {n : Nat}, all2 (SSm ρ β) (inKs n ks) vs → xs.length = ks.length → (∀ j, j < xs.length → ρ (n + j) = xs.getD j (.i 0)) → KMs ks vs xs
  | [], [], [], _, _, _, _ => trivial
  | k :: ks, v :: vs, x :: xs, n, ⟨h1, h2⟩, hl, hn => by
    have h0 : ρ n = x := by simpa using hn 0 (by simp)
    refine ⟨?_, KMs_back (n := n + 1) h2 (by simpa using hl) fun j hj => ?_⟩
    · subst h0
      cases k with
      | f k => exact h1
      | i k => exact h1
      | b => have h1 : v = .bool ((ρ n).gb != false) := h1; show v = .bool (ρ n).gb; simpa using h1
    · have := hn (j + 1) (by simpa using hj)
      rw [show n + 1 + j = n + (j + 1) by omega]
      simpa using this
  | [], [], x :: xs, _, _, hl, _ => by simp at hl
  | k :: ks, v :: vs, [], _, _, hl, _ => by simp at hl

noncomputable def wkSe : DT (SV × St) := callDT tb ftab otb 60 40 0 26 [inSh 0 (.agg senK)] ⟨.nil, [], []⟩
noncomputable def nsSe : List Df := wkSe.gather []
theorem wfSe : wfT (withIds nsSe) [] = true := by kernel_rfl
theorem chSe : wkSe.chk nsSe [] (endIs (.agg (inKs 0 senK))) = true := by kernel_rfl

theorem c_toSensor (v : Value) (ins : List NV) (w : World) (h : Sen v ins) : Calls Try.prog 26 #[v] w fun e w' => ∃ v', e = .returned v' ∧ Sen v' ins ∧ Below w.heap.size w w' := by
  have hl : ins.length = 8 := ShM_length h
  refine (walk_args (args := [inSh 0 (.agg senK)]) (vs := #[v]) (ins := ins) (r := .agg (inKs 0 senK)) tb_ok mixed ftab_ok (otb_ok baseΦ_ok) wfSe chSe (by kernel_rfl) ⟨inSh_ok h fun j hj => ins_at (by omega) j hj, trivial⟩).mono ?_
  rintro e w' ⟨v', γ, rfl, ⟨cs, rfl, hm⟩, hs⟩
  exact ⟨_, rfl, ⟨cs, rfl, KMs_back hm hl fun j hj => ins_at (by omega) j hj⟩, hs⟩

noncomputable def wkVS : DT (SV × St) := callDT tb ftab otb 60 40 1 85 [.one (.ptr 0 0)] ⟨.nil, [⟨inKs 0 senK, 48⟩], []⟩
noncomputable def wkVI : DT (SV × St) := walkOf tb ftab otb 50 [.agg senK]
noncomputable def nsV : List Df := wkVI.gather (wkVS.gather [])
theorem wfV : wfT (withIds nsV) [] = true := by kernel_rfl
theorem chVS : wkVS.chk nsV [] (fun x => okR (.p (.one .b)) x.1) = true := by kernel_rfl
theorem chVI : wkVI.chk nsV [] (fun x => okR (.p (.one .b)) x.1) = true := by kernel_rfl
theorem sameSen : sameG [] (rC nsV (.p (.one .b))) wkVI [] wkVS = true := by kernel_rfl

/-- Whether a sensor is valid. -/
noncomputable def sensB (ins : List NV) : Bool := ((gives baseΦ nsV wkVI (.p (.one .b)) ins).getD 0 (.i 0)).gb

theorem bool_of {v : Value} {l : List NV} (h : RM (.p (.one .b)) v l) : v = .bool (l.getD 0 (.i 0)).gb := by
  obtain ⟨n, rfl, h⟩ := h
  exact h

theorem c_ValidSensor (v : Value) (ins : List NV) (w : World) (h : Sen v ins) : Calls Try.prog 50 #[v] w fun e w' => e = .returned (.bool (sensB ins)) ∧ Below w.heap.size w w' := by
  have hv : ShMs [.agg senK] (#[v] : Array Value).toList ins := ⟨ins, [], by simp, h, rfl⟩
  refine (walk_ok tb_ok mixed ftab_ok (otb_ok baseΦ_ok) wfV chVI (by decide) (by kernel_rfl) (fun n hn => by simp at hn) hv).mono ?_
  rintro e w' ⟨v', rfl, hr, hs⟩
  exact ⟨congrArg _ (bool_of hr), hs⟩

theorem c_l04Sensor (p : Nat) (cs : Array Value) (ins : List NV) (w : World) (hg : w.heap[p]? = some (.cells cs 48 (0, 0))) (h : Sen (.agg cs) ins) :
    Calls Try.prog 85 #[.pointer (some ⟨p, 0, none⟩)] w fun e w' => e = .returned (.bool (sensB ins)) ∧ Below w.heap.size w w' := by
  have hl : ins.length = 8 := ShM_length h
  obtain ⟨cs', e, hk⟩ := h
  cases e
  have hd : ∀ d ∈ nsV, envT baseΦ (insOf ins) nsV d.id = d.sem baseΦ (envT baseΦ (insOf ins) nsV) := envT_ok baseΦ (insOf ins) nsV [] wfV (fun n hn => by simp at hn) _ fun n _ => rfl
  have hh := DT.chk_at (leaf := fun x : SV × St => okR (.p (.one .b)) x.1) hd (R := []) (fun n hn => by simp at hn) _ chVS
  have hcells : all2 (SSm (envT baseΦ (insOf ins) nsV) [p]) (inKs 0 senK) cs.toList := inKs_ok hk fun j hj => ins_at (by omega) j hj
  have hcall := called_of (f := 85) ftab_ok (by kernel_rfl) (callDT_ok (ρ := envT baseΦ (insOf ins) nsV) tb_ok mixed ftab_ok (otb_ok baseΦ_ok) 60 40 1 85 [.one (.ptr 0 0)] ⟨.nil, [⟨inKs 0 senK, 48⟩], []⟩ ⟨w, 1⟩ [p] #[.pointer (some ⟨p, 0, none⟩)] ⟨#[], []⟩ w _
    ⟨TM.zero _ _, ⟨rfl, by simp, fun b q hb hq => by
        have := (List.getElem?_eq_some_iff.1 hq).1
        simp at this
        have hb : 1 ≤ b := hb
        omega, fun b k hk => by
        match b, hk with
        | 0, hk => cases hk; exact ⟨p, cs, rfl, hg, hcells⟩⟩, Stays.refl w, fun c x h => by simp at h, rfl⟩ ⟨⟨p, rfl, rfl⟩, trivial⟩ hh)
  refine hcall.mono ?_
  rintro e w' ⟨v, r, γ, rfl, ⟨hat, hok⟩, hmv, _, hst, _⟩
  refine ⟨?_, hst⟩
  have hb := bool_of (okR_ok hok hmv)
  rw [hb]
  have hs := gives_sameG (Φ := baseΦ) (ins := ins) wfV (fun l hl => by simp at hl) sameSen
  unfold sensB
  rw [← hs]
  unfold gives
  rw [hat]
end Go.Proofs.Ytpfihfdbkoclnab
