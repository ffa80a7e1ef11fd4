/- Cells in order; whether marks are valid. No condition. -/
import Derived.Test.YtkpcecigoffopaaMa
namespace Go.Proofs.Ytkpcecigoffopaa
open Go Go.RowKit
set_option linter.unusedVariables false

def lt2 (i j : Nat) : Df := ⟨28, 0, [i, j]⟩

theorem lt2_gb {T : List Df} {ins : List NV} {i j : Nat} (hi : i < 1000) (hj : j < 1000) : ((lt2 i j).sem baseΦ (envT baseΦ (insOf ins) T)).gb = decide ((insOf ins i).gi < (insOf ins j).gi) := by
  show decide ((envT _ _ _ i).gi < (envT _ _ _ j).gi) = _
  rw [envT_ins _ _ _ _ hi, envT_ins _ _ _ _ hj]

def AllF (ρ : Nat → NV) : List (Df × Bool) → Prop
  | [] => True
  | p :: r => (p.1.sem baseΦ ρ).gb = p.2 ∧ AllF ρ r

theorem AllF.mem {ρ : Nat → NV} : ∀ {F : List (Df × Bool)}, AllF ρ F → ∀ p ∈ F, (p.1.sem baseΦ ρ).gb = p.2
  | [], _, p, hp => by simp at hp
  | q :: F, ⟨h1, h2⟩, p, hp => by
    rcases List.mem_cons.1 hp with rfl | hp
    · exact h1
    · exact AllF.mem h2 p hp

noncomputable def idsF (F : List (Df × Bool)) : List (Nat × Bool) := F.map fun p => (p.1.id, p.2)

theorem facts_of {T : List Df} {ins : List NV} {F : List (Df × Bool)} (hw : wfT (withIds T) [] = true) (hm : ∀ p ∈ F, p.1 ∈ T) (h : AllF (envT baseΦ (insOf ins) T) F) : ∀ c x, (c, x) ∈ idsF F → (envT baseΦ (insOf ins) T c).gb = x := by
  intro c x hc
  obtain ⟨p, hp, e⟩ := List.mem_map.1 hc
  have hd := envT_ok baseΦ (insOf ins) T [] hw (fun n hn => by simp at hn) _ (fun n _ => rfl) p.1 (hm p hp)
  have e1 : p.1.id = c := congrArg Prod.fst e
  have e2 : p.2 = x := congrArg Prod.snd e
  rw [← e1, ← e2, hd]
  exact h.mem p hp

def cmp3 (x y z x' y' z' : Int) : Int := if x < x' then -1 else if x' < x then 1 else if y < y' then -1 else if y' < y then 1 else if z < z' then -1 else if z' < z then 1 else 0

theorem cmp3_neg (x y z x' y' z' : Int) : cmp3 x' y' z' x y z = - cmp3 x y z x' y' z' := by
  unfold cmp3
  repeat' split
  all_goals omega

theorem cmp3_in (x y z x' y' z' : Int) : cmp3 x y z x' y' z' = -1 ∨ cmp3 x y z x' y' z' = 0 ∨ cmp3 x y z x' y' z' = 1 := by
  unfold cmp3
  repeat' split
  all_goals omega

abbrev cmT (k : Nat) : List Df := [lt2 0 k, lt2 k 0, lt2 1 (k + 1), lt2 (k + 1) 1, lt2 2 (k + 2), lt2 (k + 2) 2]
abbrev cm1 (k : Nat) : List (Df × Bool) := [(lt2 0 k, true)]
abbrev cm2 (k : Nat) : List (Df × Bool) := [(lt2 k 0, true), (lt2 0 k, false)]
abbrev cm3 (k : Nat) : List (Df × Bool) := [(lt2 1 (k + 1), true), (lt2 k 0, false), (lt2 0 k, false)]
abbrev cm4 (k : Nat) : List (Df × Bool) := [(lt2 (k + 1) 1, true), (lt2 1 (k + 1), false), (lt2 k 0, false), (lt2 0 k, false)]
abbrev cm5 (k : Nat) : List (Df × Bool) := [(lt2 2 (k + 2), true), (lt2 (k + 1) 1, false), (lt2 1 (k + 1), false), (lt2 k 0, false), (lt2 0 k, false)]
abbrev cm6 (k : Nat) : List (Df × Bool) := [(lt2 (k + 2) 2, true), (lt2 2 (k + 2), false), (lt2 (k + 1) 1, false), (lt2 1 (k + 1), false), (lt2 k 0, false), (lt2 0 k, false)]
abbrev cm7 (k : Nat) : List (Df × Bool) := [(lt2 (k + 2) 2, false), (lt2 2 (k + 2), false), (lt2 (k + 1) 1, false), (lt2 1 (k + 1), false), (lt2 k 0, false), (lt2 0 k, false)]

theorem wfC9 : wfT (withIds (cmT 9)) [] = true := by kernel_rfl
theorem wfC3 : wfT (withIds (cmT 3)) [] = true := by kernel_rfl

noncomputable abbrev rI (n : Int) : SP := .one (.lit (.int .i64 n))
noncomputable abbrev wkC (f : FuncId) (shs : List Sh) (F : List (Df × Bool)) : DT (SV × St) := callDT tb ftab otb 60 40 0 f (inShs 0 shs) ⟨.nil, [], idsF F⟩

/-- A function that holds two cells against each other. -/
structure IsCmp (f : FuncId) (shs : List Sh) (k : Nat) : Prop where
  h1 : (wkC f shs (cm1 k)).chk (cmT k) [] (endIs (rI (-1))) = true
  h2 : (wkC f shs (cm2 k)).chk (cmT k) [] (endIs (rI 1)) = true
  h3 : (wkC f shs (cm3 k)).chk (cmT k) [] (endIs (rI (-1))) = true
  h4 : (wkC f shs (cm4 k)).chk (cmT k) [] (endIs (rI 1)) = true
  h5 : (wkC f shs (cm5 k)).chk (cmT k) [] (endIs (rI (-1))) = true
  h6 : (wkC f shs (cm6 k)).chk (cmT k) [] (endIs (rI 1)) = true
  h7 : (wkC f shs (cm7 k)).chk (cmT k) [] (endIs (rI 0)) = true
  there : (findF f ftab).isSome = true

theorem IsCmp.calls {f : FuncId} {shs : List Sh} {k : Nat} (h : IsCmp f shs k) (hw : wfT (withIds (cmT k)) [] = true) (hk : k < 900) {vs : Array Value} {ins : List NV} {w : World} (hl : ins.length ≤ 1000) (hv : ShMs shs vs.toList ins) :
    Calls Try.prog f vs w fun e w' => e = .returned (.int .i64 (cmp3 (insOf ins 0).gi (insOf ins 1).gi (insOf ins 2).gi (insOf ins k).gi (insOf ins (k + 1)).gi (insOf ins (k + 2)).gi)) ∧ Below w.heap.size w w' := by
  have key : ∀ {F : List (Df × Bool)} {n : Int}, (wkC f shs F).chk (cmT k) [] (endIs (rI n)) = true → (∀ p ∈ F, p.1 ∈ cmT k) → AllF (envT baseΦ (insOf ins) (cmT k)) F → Calls Try.prog f vs w fun e w' => e = .returned (.int .i64 n) ∧ Below w.heap.size w w' := by
    intro F n hc hm ha
    refine (walk_facts (r := rI n) tb_ok mixed ftab_ok (otb_ok baseΦ_ok) hw hc h.there (facts_of hw hm ha) hl hv).mono ?_
    rintro e w' ⟨v, γ, rfl, hm, hs⟩
    exact ⟨congrArg _ hm, hs⟩
  have L : ∀ {i j : Nat}, i < 1000 → j < 1000 → ∀ {b : Bool}, decide ((insOf ins i).gi < (insOf ins j).gi) = b → ((lt2 i j).sem baseΦ (envT baseΦ (insOf ins) (cmT k))).gb = b := fun hi hj b hb => (lt2_gb hi hj).trans hb
  unfold cmp3
  by_cases a1 : (insOf ins 0).gi < (insOf ins k).gi
  · rw [if_pos a1]
    exact key h.h1 (by simp) ⟨L (by omega) (by omega) (decide_eq_true a1), trivial⟩
  rw [if_neg a1]
  have b1 := L (by omega) (by omega) (decide_eq_false a1)
  by_cases a2 : (insOf ins k).gi < (insOf ins 0).gi
  · rw [if_pos a2]
    exact key h.h2 (by simp) ⟨L (by omega) (by omega) (decide_eq_true a2), b1, trivial⟩
  rw [if_neg a2]
  have b2 := L (by omega) (by omega) (decide_eq_false a2)
  by_cases a3 : (insOf ins 1).gi < (insOf ins (k + 1)).gi
  · rw [if_pos a3]
    exact key h.h3 (by simp) ⟨L (by omega) (by omega) (decide_eq_true a3), b2, b1, trivial⟩
  rw [if_neg a3]
  have b3 := L (by omega) (by omega) (decide_eq_false a3)
  by_cases a4 : (insOf ins (k + 1)).gi < (insOf ins 1).gi
  · rw [if_pos a4]
    exact key h.h4 (by simp) ⟨L (by omega) (by omega) (decide_eq_true a4), b3, b2, b1, trivial⟩
  rw [if_neg a4]
  have b4 := L (by omega) (by omega) (decide_eq_false a4)
  by_cases a5 : (insOf ins 2).gi < (insOf ins (k + 2)).gi
  · rw [if_pos a5]
    exact key h.h5 (by simp) ⟨L (by omega) (by omega) (decide_eq_true a5), b4, b3, b2, b1, trivial⟩
  rw [if_neg a5]
  have b5 := L (by omega) (by omega) (decide_eq_false a5)
  by_cases a6 : (insOf ins (k + 2)).gi < (insOf ins 2).gi
  · rw [if_pos a6]
    exact key h.h6 (by simp) ⟨L (by omega) (by omega) (decide_eq_true a6), b5, b4, b3, b2, b1, trivial⟩
  rw [if_neg a6]
  exact key h.h7 (by simp) ⟨L (by omega) (by omega) (decide_eq_false a6), b5, b4, b3, b2, b1, trivial⟩

theorem isCell : IsCmp 61 [.agg mkK, .agg mkK] 9 := ⟨by kernel_rfl, by kernel_rfl, by kernel_rfl, by kernel_rfl, by kernel_rfl, by kernel_rfl, by kernel_rfl, by kernel_rfl⟩

abbrev plK : List Kd := [.i .i32, .i .i32, .i .i32]
theorem isPlS : IsCmp 87 [.agg plK, .agg plK] 3 := ⟨by kernel_rfl, by kernel_rfl, by kernel_rfl, by kernel_rfl, by kernel_rfl, by kernel_rfl, by kernel_rfl, by kernel_rfl⟩

theorem isPlI : IsCmp 70 [.agg plK, .agg plK] 3 := ⟨by kernel_rfl, by kernel_rfl, by kernel_rfl, by kernel_rfl, by kernel_rfl, by kernel_rfl, by kernel_rfl, by kernel_rfl⟩

def mcmp (m m' : Mk) : Int := cmp3 m.x m.y m.z m'.x m'.y m'.z

theorem c_compareCell (v v' : Value) (m m' : Mk) (w : World) (h : IsMk v m) (h' : IsMk v' m') : Calls Try.prog 61 #[v, v'] w fun e w' => e = .returned (.int .i64 (mcmp m m')) ∧ Below w.heap.size w w' :=
  isCell.calls wfC9 (by decide) (vs := #[v, v']) (ins := m.ins ++ (m'.ins ++ [])) (by simp [Mk.ins]) ⟨m.ins, m'.ins ++ [], rfl, h, m'.ins, [], rfl, h', rfl⟩

theorem c_l05Compare (x y z x' y' z' : Int) (w : World) : Calls Try.prog 87 #[.agg #[.int .i32 x, .int .i32 y, .int .i32 z], .agg #[.int .i32 x', .int .i32 y', .int .i32 z']] w fun e w' => e = .returned (.int .i64 (cmp3 x y z x' y' z')) ∧ Below w.heap.size w w' :=
  isPlS.calls wfC3 (by decide) (vs := #[.agg #[.int .i32 x, .int .i32 y, .int .i32 z], .agg #[.int .i32 x', .int .i32 y', .int .i32 z']]) (ins := [.i x, .i y, .i z] ++ ([.i x', .i y', .i z'] ++ [])) (by simp) ⟨[.i x, .i y, .i z], [.i x', .i y', .i z'] ++ [], rfl, ⟨_, rfl, rfl, rfl, rfl, trivial⟩, [.i x', .i y', .i z'], [], rfl, ⟨_, rfl, rfl, rfl, rfl, trivial⟩, rfl⟩

theorem c_placeCompare (x y z x' y' z' : Int) (w : World) : Calls Try.prog 70 #[.agg #[.int .i32 x, .int .i32 y, .int .i32 z], .agg #[.int .i32 x', .int .i32 y', .int .i32 z']] w fun e w' => e = .returned (.int .i64 (cmp3 x y z x' y' z')) ∧ Below w.heap.size w w' :=
  isPlI.calls wfC3 (by decide) (vs := #[.agg #[.int .i32 x, .int .i32 y, .int .i32 z], .agg #[.int .i32 x', .int .i32 y', .int .i32 z']]) (ins := [.i x, .i y, .i z] ++ ([.i x', .i y', .i z'] ++ [])) (by simp) ⟨[.i x, .i y, .i z], [.i x', .i y', .i z'] ++ [], rfl, ⟨_, rfl, rfl, rfl, rfl, trivial⟩, [.i x', .i y', .i z'], [], rfl, ⟨_, rfl, rfl, rfl, rfl, trivial⟩, rfl⟩
end Go.Proofs.Ytkpcecigoffopaa
