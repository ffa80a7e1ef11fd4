/- Marks: copied, compared, valid; cells in order. Cells in order; whether marks are valid. Lists of marks, and maps, that are copied and compared. Whether marks are valid, by value and by pointer. No condition. -/
import Derived.Test.YtcopccniijkceaaLa
import Derived.Test.YtcopccniijkceaaB3
namespace Go.Proofs.Ytcopccniijkceaa
open Go Go.RowKit
set_option linter.unusedVariables false
set_option linter.unusedSimpArgs false

abbrev mkK : List Kd := [.i .i32, .i .i32, .i .i32, .f .f32, .f .f32, .f .f32, .f .f32, .i .i64, .i .i64]
structure Mk where
  x : Int
  y : Int
  z : Int
  a : Option Nat
  b : Option Nat
  c : Option Nat
  d : Option Nat
  s : Int
  l : Int
def Mk.ins (m : Mk) : List NV := [.i m.x, .i m.y, .i m.z, .f m.a, .f m.b, .f m.c, .f m.d, .i m.s, .i m.l]

theorem ins_len (m : Mk) : m.ins.length ≤ 1000 := show 9 ≤ 1000 from by decide

/-- A mark as a value. -/
def IsMk (v : Value) (m : Mk) : Prop := ShM (.agg mkK) v m.ins

theorem mk_row {cs : List Value} {m : Mk} (h : KMs mkK cs m.ins) : ∃ ra rb rc rd, cs = [.int .i32 m.x, .int .i32 m.y, .int .i32 m.z, .float .f32 ra, .float .f32 rb, .float .f32 rc, .float .f32 rd, .int .i64 m.s, .int .i64 m.l] ∧ FIs .f32 ra m.a ∧ FIs .f32 rb m.b ∧ FIs .f32 rc m.c ∧ FIs .f32 rd m.d := by
  match cs, h with
  | [c0, c1, c2, c3, c4, c5, c6, c7, c8], ⟨h0, h1, h2, ⟨ra, h3, ka⟩, ⟨rb, h4, kb⟩, ⟨rc, h5, kc⟩, ⟨rd, h6, kd⟩, h7, h8, _⟩ =>
    have h0 : c0 = .int .i32 m.x := h0
    have h1 : c1 = .int .i32 m.y := h1
    have h2 : c2 = .int .i32 m.z := h2
    have h7 : c7 = .int .i64 m.s := h7
    have h8 : c8 = .int .i64 m.l := h8
    subst h0 h1 h2 h3 h4 h5 h6 h7 h8
    exact ⟨ra, rb, rc, rd, rfl, ka, kb, kc, kd⟩

theorem mk_val {v : Value} {m : Mk} (h : IsMk v m) : ∃ ra rb rc rd, v = .agg #[.int .i32 m.x, .int .i32 m.y, .int .i32 m.z, .float .f32 ra, .float .f32 rb, .float .f32 rc, .float .f32 rd, .int .i64 m.s, .int .i64 m.l] ∧ FIs .f32 ra m.a ∧ FIs .f32 rb m.b ∧ FIs .f32 rc m.c ∧ FIs .f32 rd m.d := by
  obtain ⟨⟨cs⟩, rfl, hk⟩ := h
  obtain ⟨ra, rb, rc, rd, e, h⟩ := mk_row hk
  have e : cs = _ := e
  subst e
  exact ⟨ra, rb, rc, rd, rfl, h⟩

noncomputable def wkTm : DT (SV × St) := callDT tb ftab otb 60 40 0 130 [inSh 0 (.agg mkK)] ⟨.nil, [], []⟩
noncomputable def nsTm : List Df := wkTm.gather []
theorem wfTm : wfT (withIds nsTm) [] = true := by kernel_rfl
theorem chTm : wkTm.chk nsTm [] (endIs (.agg (inKs 0 mkK))) = true := by kernel_rfl

theorem c_toMark (v : Value) (m : Mk) (w : World) (h : IsMk v m) : Calls Try.prog 130 #[v] w fun e w' => ∃ cs : Array Value, e = .returned (.agg cs) ∧ KMs mkK cs.toList m.ins ∧ Below w.heap.size w w' := by
  refine (walk_args (args := [inSh 0 (.agg mkK)]) (vs := #[v]) (ins := m.ins) (r := .agg (inKs 0 mkK)) tb_ok mixed ftab_ok (otb_ok baseΦ_ok) wfTm chTm (by kernel_rfl) ⟨inSh_ok h fun j hj => ins_at (ins_len m) j hj, trivial⟩).mono ?_
  rintro e w' ⟨v', γ, rfl, ⟨cs, rfl, hm⟩, hs⟩
  exact ⟨cs, rfl, KMs_back hm rfl fun j hj => ins_at (ins_len m) j hj, hs⟩

noncomputable def wkEm : DT (SV × St) := callDT tb ftab otb 60 40 0 135 [inSh 0 (.agg mkK), inSh 0 (.agg mkK)] ⟨.nil, [], []⟩
noncomputable def nsEm : List Df := wkEm.gather []
theorem wfEm : wfT (withIds nsEm) [] = true := by kernel_rfl
theorem chEm : wkEm.chk nsEm [] (endIs (.one (.lit (.bool true)))) = true := by kernel_rfl

theorem c_eqMark (v v' : Value) (m : Mk) (w : World) (h : IsMk v m) (h' : IsMk v' m) : Calls Try.prog 135 #[v, v'] w fun e w' => e = .returned (.bool true) ∧ Below w.heap.size w w' := by
  refine (walk_args (args := [inSh 0 (.agg mkK), inSh 0 (.agg mkK)]) (vs := #[v, v']) (ins := m.ins) (r := .one (.lit (.bool true))) tb_ok mixed ftab_ok (otb_ok baseΦ_ok) wfEm chEm (by kernel_rfl) ⟨inSh_ok h fun j hj => ins_at (ins_len m) j hj, inSh_ok h' fun j hj => ins_at (ins_len m) j hj, trivial⟩).mono ?_
  rintro e w' ⟨v2, γ, rfl, hm, hs⟩
  exact ⟨congrArg _ hm, hs⟩

def posB (o : Option Nat) : Bool := ford .f32 o (some 0) == some .gt
theorem pos_of (r : Nat) : (FloatKind.f32.format.order r 0 == some Ordering.gt) = posB (can .f32 r) := by
  rw [order_can]; rfl

theorem c_isPositive (a : Nat) (w : World) : Calls Try.prog 53 #[.float .f32 a] w fun e w' => e = .returned (.bool (finB (can .f32 a) && posB (can .f32 a))) ∧ Below w.heap.size w w' := by
  have hp := pos_of a
  generalize hf : finB (can .f32 a) = f
  have hf := Lib.hid hf
  generalize posB (can .f32 a) = p at hp ⊢
  cases f
  all_goals
    go_enter Try.func53, Try.ntmps53
    go_wp2_with (go_at_call 54; refine (c_isFinite a _).mono ?_; rintro e w1 ⟨rfl, hw1⟩; rw [hf.out])
    go_ret
    refine ⟨ret_b (by simp [hp]), ?_⟩
    first | exact hw1 | exact hw1.drewN _

theorem c_l05Side (a : Nat) (w : World) : Calls Try.prog 95 #[.float .f32 a] w fun e w' => e = .returned (.bool (finB (can .f32 a) && posB (can .f32 a))) ∧ Below w.heap.size w w' := by
  have hp := pos_of a
  generalize hf : finB (can .f32 a) = f
  have hf := Lib.hid hf
  generalize posB (can .f32 a) = p at hp ⊢
  cases f
  all_goals
    go_enter Try.func95, Try.ntmps95
    go_wp2_with (go_at_call 127; refine (c_l01Finite a _).mono ?_; rintro e w1 ⟨rfl, hw1⟩; rw [hf.out])
    go_ret
    refine ⟨ret_b (by simp [hp]), ?_⟩
    first | exact hw1 | exact hw1.drewN _

/-- Whether a mark is valid. -/
def validB (m : Mk) : Bool := (finB m.a && finB m.b && finB m.c) && (finB m.d && posB m.d) && decide (1 ≤ m.s ∧ m.s ≤ 1000000) && okTime m.l
end Go.Proofs.Ytcopccniijkceaa

namespace Go.Proofs.Ytcopccniijkceaa
open Go Go.RowKit
set_option linter.unusedVariables false
set_option linter.unusedSimpArgs false

def lt2 (i j : Nat) : Df := ⟨28, 0, [i, j]⟩

theorem lt2_gb {T : List Df} {ins : List NV} {i j : Nat} (hi : i < 1000) (hj : j < 1000) : ((lt2 i j).sem baseΦ (envT baseΦ (insOf ins) T)).gb = decide ((insOf ins i).gi < (insOf ins j).gi) := by
  show decide ((envT _ _ _ i).gi < (envT _ _ _ j).gi) = _
  rw [envT_ins _ _ _ _ hi, envT_ins _ _ _ _ hj]

def AllF (ρ : Nat → NV) : List (Df × Bool) → Prop
  | [] => True
  | p :: r => (p.1.sem baseΦ ρ).gb = p.2 ∧ AllF ρ r

theorem AllF.mem {ρ : Nat → NV} : ∀ {F : List (Df × Bool)}, AllF ρ F → ∀ p ∈ F, (p.1.sem baseΦ ρ).gb = p.2
  | [], _, p, hp => by simp at hp
  | q :: F, ⟨h1, h2⟩, p, hp => by
    rcases List.mem_cons.1 hp with rfl | hp
    · exact h1
    · exact AllF.mem h2 p hp

noncomputable def idsF (F : List (Df × Bool)) : List (Nat × Bool) := F.map fun p => (p.1.id, p.2)

theorem facts_of {T : List Df} {ins : List NV} {F : List (Df × Bool)} (hw : wfT (withIds T) [] = true) (hm : ∀ p ∈ F, p.1 ∈ T) (h : AllF (envT baseΦ (insOf ins) T) F) : ∀ c x, (c, x) ∈ idsF F → (envT baseΦ (insOf ins) T c).gb = x := by
  intro c x hc
  obtain ⟨p, hp, e⟩ := List.mem_map.1 hc
  have hd := envT_ok baseΦ (insOf ins) T [] hw (fun n hn => by simp at hn) _ (fun n _ => rfl) p.1 (hm p hp)
  have e1 : p.1.id = c := congrArg Prod.fst e
  have e2 : p.2 = x := congrArg Prod.snd e
  rw [← e1, ← e2, hd]
  exact h.mem p hp

def cmp3 (x y z x' y' z' : Int) : Int := if x < x' then -1 else if x' < x then 1 else if y < y' then -1 else if y' < y then 1 else if z < z' then -1 else if z' < z then 1 else 0

theorem cmp3_neg (x y z x' y' z' : Int) : cmp3 x' y' z' x y z = - cmp3 x y z x' y' z' := by
  unfold cmp3
  repeat' split
  all_goals omega

theorem cmp3_in (x y z x' y' z' : Int) : cmp3 x y z x' y' z' = -1 ∨ cmp3 x y z x' y' z' = 0 ∨ cmp3 x y z x' y' z' = 1 := by
  unfold cmp3
  repeat' split
  all_goals omega

abbrev cmT (k : Nat) : List Df := [lt2 0 k, lt2 k 0, lt2 1 (k + 1), lt2 (k + 1) 1, lt2 2 (k + 2), lt2 (k + 2) 2]
abbrev cm1 (k : Nat) : List (Df × Bool) := [(lt2 0 k, true)]
abbrev cm2 (k : Nat) : List (Df × Bool) := [(lt2 k 0, true), (lt2 0 k, false)]
abbrev cm3 (k : Nat) : List (Df × Bool) := [(lt2 1 (k + 1), true), (lt2 k 0, false), (lt2 0 k, false)]
abbrev cm4 (k : Nat) : List (Df × Bool) := [(lt2 (k + 1) 1, true), (lt2 1 (k + 1), false), (lt2 k 0, false), (lt2 0 k, false)]
abbrev cm5 (k : Nat) : List (Df × Bool) := [(lt2 2 (k + 2), true), (lt2 (k + 1) 1, false), (lt2 1 (k + 1), false), (lt2 k 0, false), (lt2 0 k, false)]
abbrev cm6 (k : Nat) : List (Df × Bool) := [(lt2 (k + 2) 2, true), (lt2 2 (k + 2), false), (lt2 (k + 1) 1, false), (lt2 1 (k + 1), false), (lt2 k 0, false), (lt2 0 k, false)]
abbrev cm7 (k : Nat) : List (Df × Bool) := [(lt2 (k + 2) 2, false), (lt2 2 (k + 2), false), (lt2 (k + 1) 1, false), (lt2 1 (k + 1), false), (lt2 k 0, false), (lt2 0 k, false)]

theorem wfC9 : wfT (withIds (cmT 9)) [] = true := by kernel_rfl
theorem wfC3 : wfT (withIds (cmT 3)) [] = true := by kernel_rfl

noncomputable abbrev rI (n : Int) : SP := .one (.lit (.int .i64 n))
noncomputable abbrev wkC (f : FuncId) (shs : List Sh) (F : List (Df × Bool)) : DT (SV × St) := callDT tb ftab otb 60 40 0 f (inShs 0 shs) ⟨.nil, [], idsF F⟩

/-- A function that holds two cells against each other. -/
structure IsCmp (f : FuncId) (shs : List Sh) (k : Nat) : Prop where
  h1 : (wkC f shs (cm1 k)).chk (cmT k) [] (endIs (rI (-1))) = true
  h2 : (wkC f shs (cm2 k)).chk (cmT k) [] (endIs (rI 1)) = true
  h3 : (wkC f shs (cm3 k)).chk (cmT k) [] (endIs (rI (-1))) = true
  h4 : (wkC f shs (cm4 k)).chk (cmT k) [] (endIs (rI 1)) = true
  h5 : (wkC f shs (cm5 k)).chk (cmT k) [] (endIs (rI (-1))) = true
  h6 : (wkC f shs (cm6 k)).chk (cmT k) [] (endIs (rI 1)) = true
  h7 : (wkC f shs (cm7 k)).chk (cmT k) [] (endIs (rI 0)) = true
  there : (findF f ftab).isSome = true

theorem IsCmp.calls {f : FuncId} {shs : List Sh} {k : Nat} (h : IsCmp f shs k) (hw : wfT (withIds (cmT k)) [] = true) (hk : k < 900) {vs : Array Value} {ins : List NV} {w : World} (hl : ins.length ≤ 1000) (hv : ShMs shs vs.toList ins) :
    Calls Try.prog f vs w fun e w' => e = .returned (.int .i64 (cmp3 (insOf ins 0).gi (insOf ins 1).gi (insOf ins 2).gi (insOf ins k).gi (insOf ins (k + 1)).gi (insOf ins (k + 2)).gi)) ∧ Below w.heap.size w w' := by
  have key : ∀ {F : List (Df × Bool)} {n : Int}, (wkC f shs F).chk (cmT k) [] (endIs (rI n)) = true → (∀ p ∈ F, p.1 ∈ cmT k) → AllF (envT baseΦ (insOf ins) (cmT k)) F → Calls Try.prog f vs w fun e w' => e = .returned (.int .i64 n) ∧ Below w.heap.size w w' := by
    intro F n hc hm ha
    refine (walk_facts (r := rI n) tb_ok mixed ftab_ok (otb_ok baseΦ_ok) hw hc h.there (facts_of hw hm ha) hl hv).mono ?_
    rintro e w' ⟨v, γ, rfl, hm, hs⟩
    exact ⟨congrArg _ hm, hs⟩
  have L : ∀ {i j : Nat}, i < 1000 → j < 1000 → ∀ {b : Bool}, decide ((insOf ins i).gi < (insOf ins j).gi) = b → ((lt2 i j).sem baseΦ (envT baseΦ (insOf ins) (cmT k))).gb = b := fun hi hj b hb => (lt2_gb hi hj).trans hb
  unfold cmp3
  by_cases a1 : (insOf ins 0).gi < (insOf ins k).gi
  · rw [if_pos a1]
    exact key h.h1 (by simp) ⟨L (by omega) (by omega) (decide_eq_true a1), trivial⟩
  rw [if_neg a1]
  have b1 := L (by omega) (by omega) (decide_eq_false a1)
  by_cases a2 : (insOf ins k).gi < (insOf ins 0).gi
  · rw [if_pos a2]
    exact key h.h2 (by simp) ⟨L (by omega) (by omega) (decide_eq_true a2), b1, trivial⟩
  rw [if_neg a2]
  have b2 := L (by omega) (by omega) (decide_eq_false a2)
  by_cases a3 : (insOf ins 1).gi < (insOf ins (k + 1)).gi
  · rw [if_pos a3]
    exact key h.h3 (by simp) ⟨L (by omega) (by omega) (decide_eq_true a3), b2, b1, trivial⟩
  rw [if_neg a3]
  have b3 := L (by omega) (by omega) (decide_eq_false a3)
  by_cases a4 : (insOf ins (k + 1)).gi < (insOf ins 1).gi
  · rw [if_pos a4]
    exact key h.h4 (by simp) ⟨L (by omega) (by omega) (decide_eq_true a4), b3, b2, b1, trivial⟩
  rw [if_neg a4]
  have b4 := L (by omega) (by omega) (decide_eq_false a4)
  by_cases a5 : (insOf ins 2).gi < (insOf ins (k + 2)).gi
  · rw [if_pos a5]
    exact key h.h5 (by simp) ⟨L (by omega) (by omega) (decide_eq_true a5), b4, b3, b2, b1, trivial⟩
  rw [if_neg a5]
  have b5 := L (by omega) (by omega) (decide_eq_false a5)
  by_cases a6 : (insOf ins (k + 2)).gi < (insOf ins 2).gi
  · rw [if_pos a6]
    exact key h.h6 (by simp) ⟨L (by omega) (by omega) (decide_eq_true a6), b5, b4, b3, b2, b1, trivial⟩
  rw [if_neg a6]
  exact key h.h7 (by simp) ⟨L (by omega) (by omega) (decide_eq_false a6), b5, b4, b3, b2, b1, trivial⟩

theorem isCell : IsCmp 132 [.agg mkK, .agg mkK] 9 := ⟨by kernel_rfl, by kernel_rfl, by kernel_rfl, by kernel_rfl, by kernel_rfl, by kernel_rfl, by kernel_rfl, by kernel_rfl⟩

abbrev plK : List Kd := [.i .i32, .i .i32, .i .i32]
theorem isPlS : IsCmp 126 [.agg plK, .agg plK] 3 := ⟨by kernel_rfl, by kernel_rfl, by kernel_rfl, by kernel_rfl, by kernel_rfl, by kernel_rfl, by kernel_rfl, by kernel_rfl⟩

theorem isPlI : IsCmp 160 [.agg plK, .agg plK] 3 := ⟨by kernel_rfl, by kernel_rfl, by kernel_rfl, by kernel_rfl, by kernel_rfl, by kernel_rfl, by kernel_rfl, by kernel_rfl⟩

def mcmp (m m' : Mk) : Int := cmp3 m.x m.y m.z m'.x m'.y m'.z

theorem c_compareCell (v v' : Value) (m m' : Mk) (w : World) (h : IsMk v m) (h' : IsMk v' m') : Calls Try.prog 132 #[v, v'] w fun e w' => e = .returned (.int .i64 (mcmp m m')) ∧ Below w.heap.size w w' :=
  isCell.calls wfC9 (by decide) (vs := #[v, v']) (ins := m.ins ++ (m'.ins ++ [])) (by simp [Mk.ins]) ⟨m.ins, m'.ins ++ [], rfl, h, m'.ins, [], rfl, h', rfl⟩

theorem c_l05Compare (x y z x' y' z' : Int) (w : World) : Calls Try.prog 126 #[.agg #[.int .i32 x, .int .i32 y, .int .i32 z], .agg #[.int .i32 x', .int .i32 y', .int .i32 z']] w fun e w' => e = .returned (.int .i64 (cmp3 x y z x' y' z')) ∧ Below w.heap.size w w' :=
  isPlS.calls wfC3 (by decide) (vs := #[.agg #[.int .i32 x, .int .i32 y, .int .i32 z], .agg #[.int .i32 x', .int .i32 y', .int .i32 z']]) (ins := [.i x, .i y, .i z] ++ ([.i x', .i y', .i z'] ++ [])) (by simp) ⟨[.i x, .i y, .i z], [.i x', .i y', .i z'] ++ [], rfl, ⟨_, rfl, rfl, rfl, rfl, trivial⟩, [.i x', .i y', .i z'], [], rfl, ⟨_, rfl, rfl, rfl, rfl, trivial⟩, rfl⟩

theorem c_placeCompare (x y z x' y' z' : Int) (w : World) : Calls Try.prog 160 #[.agg #[.int .i32 x, .int .i32 y, .int .i32 z], .agg #[.int .i32 x', .int .i32 y', .int .i32 z']] w fun e w' => e = .returned (.int .i64 (cmp3 x y z x' y' z')) ∧ Below w.heap.size w w' :=
  isPlI.calls wfC3 (by decide) (vs := #[.agg #[.int .i32 x, .int .i32 y, .int .i32 z], .agg #[.int .i32 x', .int .i32 y', .int .i32 z']]) (ins := [.i x, .i y, .i z] ++ ([.i x', .i y', .i z'] ++ [])) (by simp) ⟨[.i x, .i y, .i z], [.i x', .i y', .i z'] ++ [], rfl, ⟨_, rfl, rfl, rfl, rfl, trivial⟩, [.i x', .i y', .i z'], [], rfl, ⟨_, rfl, rfl, rfl, rfl, trivial⟩, rfl⟩
end Go.Proofs.Ytcopccniijkceaa

namespace Go.Proofs.Ytcopccniijkceaa
open Go Go.RowKit
set_option linter.unusedVariables false
set_option linter.unusedSimpArgs false

abbrev Mks (w : World) (B : Nat) (A : Option Addr) (xs : List Mk) : Prop := Rows mkK 9 Mk.ins w B A xs

theorem mk_at {w : World} {p : Addr} {m : Mk} (h : RowAt mkK w p m.ins) : ∃ c0 c1 c2 c3 c4 c5 c6 c7 c8, KMs mkK [c0, c1, c2, c3, c4, c5, c6, c7, c8] m.ins ∧ w.cell? p = some c0 ∧ w.cell? ⟨p.block, p.off + 1, none⟩ = some c1 ∧ w.cell? ⟨p.block, p.off + 2, none⟩ = some c2 ∧ w.cell? ⟨p.block, p.off + 3, none⟩ = some c3 ∧
    w.cell? ⟨p.block, p.off + 4, none⟩ = some c4 ∧ w.cell? ⟨p.block, p.off + 5, none⟩ = some c5 ∧ w.cell? ⟨p.block, p.off + 6, none⟩ = some c6 ∧ w.cell? ⟨p.block, p.off + 7, none⟩ = some c7 ∧ w.cell? ⟨p.block, p.off + 8, none⟩ = some c8 := by
  obtain ⟨cs, hk, hc⟩ := h
  match cs, hk, hc with
  | [c0, c1, c2, c3, c4, c5, c6, c7, c8], hk, hc => exact ⟨_, _, _, _, _, _, _, _, _, hk, hc 0 _ rfl, hc 1 _ rfl, hc 2 _ rfl, hc 3 _ rfl, hc 4 _ rfl, hc 5 _ rfl, hc 6 _ rfl, hc 7 _ rfl, hc 8 _ rfl⟩

theorem c_szMarkS (A : Option Addr) (c n : Nat) (left : Int) (w : World) (hn : n ≤ 9223372036854775807) (h0 : 0 ≤ left) (h1 : left ≤ 1048576) :
    Calls Try.prog 80 #[.slice A n c, .int .i64 left] w fun e w' => e = .returned (.int .i64 (if left - n < 0 then -1 else left - n)) ∧ w = w' := by
  go_enter Try.func80, Try.ntmps80
  have e : IntKind.i64.wrap (left - (n : Int)) = left - n := IntWalk.i64_in _ (by omega)
  by_cases h : left - (n : Int) < 0
  · go_wp2
    go_ret
    exact ⟨rfl, rfl⟩
  · go_wp2
    go_ret
    exact ⟨rfl, rfl⟩

theorem c_szLandMap (sd : Value) (A : Option Addr) (c n : Nat) (left : Int) (w : World) (hn : n ≤ 9223372036854775807) (h0 : 0 ≤ left) (h1 : left ≤ 1048576) :
    Calls Try.prog 40 #[.agg #[sd, .slice A n c], .int .i64 left] w fun e w' => e = .returned (.int .i64 (if left - n < 0 then -1 else left - n)) ∧ Below w.heap.size w w' := by
  have key := fun W => c_szMarkS A c n left W hn h0 h1
  have hX : (if left - (n : Int) < 0 then -1 else left - (n : Int)) = -1 ∨ 0 ≤ (if left - (n : Int) < 0 then -1 else left - (n : Int)) := by split <;> omega
  generalize (if left - (n : Int) < 0 then -1 else left - (n : Int)) = X at key hX ⊢
  have key := Lib.hid key
  rcases hX with rfl | hX
  all_goals
    go_enter Try.func40, Try.ntmps40
    go_wp2_with (go_at_call 80; refine (key.out _).mono ?_; rintro e w' ⟨rfl, rfl⟩)
    go_ret
    exact ⟨rfl, by first | exact Below.refl _ _ | exact (Below.refl _ _).alloc (Nat.le_refl _) _⟩

set_option maxRecDepth 100000 in
set_option maxHeartbeats 400000 in
theorem c_eqMarkS (A A' : Option Addr) (c c' : Nat) (xs : List Mk) (w : World) (h : Mks w w.heap.size A xs) (h' : Mks w w.heap.size A' xs) (hn : xs.length ≤ 1048576) :
    Calls Try.prog 92 #[.slice A xs.length c, .slice A' xs.length c'] w fun e w' => e = .returned (.bool true) ∧ Below w.heap.size w w' := by
  have H := Lib.hid h
  have H' := Lib.hid h'
  clear h h'
  go_enter Try.func92, Try.ntmps92
  go_wp2
  go_loopw [5] (fun i wr => ∃ k : Nat, k ≤ xs.length ∧ i = .int .i64 k ∧ Hid (Below w.heap.size w wr)) (fun i _ => xs.length - (intOf i).toNat)
  case atStart => exact ⟨0, Nat.zero_le _, rfl, Lib.hid (Below.refl _ _)⟩
  case round =>
    obtain ⟨k, hk, rfl, hb⟩ := hrel
    by_cases hlt : k < xs.length
    · obtain ⟨ad, rfl, hbl, hrow⟩ := (H.out.below hb.out) k xs[k] (List.getElem?_eq_getElem hlt)
      obtain ⟨ad', rfl, hbl', hrow'⟩ := (H'.out.below hb.out) k xs[k] (List.getElem?_eq_getElem hlt)
      generalize xs[k] = m at hrow hrow'
      obtain ⟨c0, c1, c2, c3, c4, c5, c6, c7, c8, hK, g0, g1, g2, g3, g4, g5, g6, g7, g8⟩ := mk_at hrow
      obtain ⟨d0, d1, d2, d3, d4, d5, d6, d7, d8, hK', k0, k1, k2, k3, k4, k5, k6, k7, k8⟩ := mk_at hrow'
      have hV := Lib.hid (show IsMk (.agg #[c0, c1, c2, c3, c4, c5, c6, c7, c8]) m from ⟨_, rfl, hK⟩)
      have hV' := Lib.hid (show IsMk (.agg #[d0, d1, d2, d3, d4, d5, d6, d7, d8]) m from ⟨_, rfl, hK'⟩)
      clear hK hK' hrow hrow'
      have hlt' : (k : Int) < (xs.length : Int) := by omega
      go_wp2_with fail
      go_still_tail 8, (by kernel_rfl)
      change wpList _ _ _ _ _ wr.drew
      have hb2 := Lib.hid (hb.out.drew)
      generalize wr.drew = w2 at hb2 ⊢
      go_wp2_with (go_at_call 135; refine (c_eqMark _ _ m _ hV.out hV'.out).mono ?_; rintro e w3 ⟨rfl, hb3⟩; have hb4 := Lib.hid (hb2.out.trans (hb3.mono hb2.out.size)); clear hb3)
      go_round
      case rel => exact ⟨k + 1, by omega, by go_num, hb4⟩
      case measure => simp [intOf]; omega
    · go_wp2
      go_ret
      exact ⟨rfl, hb.out⟩

theorem infoMk : (Try.prog.info? 156).map (fun i => (i.zero, i.size, i.bytes)) = some (some (.agg #[.int .i32 0, .int .i32 0, .int .i32 0, .float .f32 0, .float .f32 0, .float .f32 0, .float .f32 0, .int .i64 0, .int .i64 0]), 9, 48) := by kernel_rfl

set_option maxRecDepth 100000 in
set_option maxHeartbeats 400000 in
theorem c_toMarkS (A : Option Addr) (c : Nat) (xs : List Mk) (w : World) (h : Mks w w.heap.size A xs) (hn : xs.length ≤ 1048576) :
    Calls Try.prog 85 #[.slice A xs.length c] w fun e w' => e = .returned (.slice (some ⟨w.heap.size, 0, none⟩) xs.length xs.length) ∧ Put mkK 9 Mk.ins w w' xs xs.length := by
  have H := Lib.hid h
  clear h
  obtain ⟨i0, hi0, hz0, hz1, hz2⟩ := info_parts infoMk
  have hmk : ∀ u : World, (Instr.makeSlice 92 (.int .i64 (xs.length : Nat)) (.int .i64 (xs.length : Nat))).run Try.prog u = .ok (.slice (some ⟨u.heap.size, 0, none⟩) xs.length xs.length) (u.alloc (.cells (madeCells (Value.agg #[.int .i32 0, .int .i32 0, .int .i32 0, .float .f32 0, .float .f32 0, .float .f32 0, .float .f32 0, .int .i64 0, .int .i64 0]).cells (xs.length * 9)) 156)) := fun u => by
    have := run_make (P := Try.prog) u 92 156 i0 _ Try.underlying92 hi0 hz0 .i64 .i64 (xs.length : Nat) (xs.length : Nat) (by omega) (Int.le_refl _) (by rw [hz2]; omega) (by omega)
    simpa [hz1] using this
  go_enter Try.func85, Try.ntmps85
  go_wp2
  have hmt := Lib.hid (made_there w (Value.agg #[.int .i32 0, .int .i32 0, .int .i32 0, .float .f32 0, .float .f32 0, .float .f32 0, .float .f32 0, .int .i64 0, .int .i64 0]).cells (xs.length * 9) 156)
  go_loopw [4] (fun i wr => ∃ k : Nat, k ≤ xs.length ∧ i = .int .i64 k ∧ Hid (Put mkK 9 Mk.ins w wr xs k)) (fun i _ => xs.length - (intOf i).toNat)
  case atStart => exact ⟨0, Nat.zero_le _, rfl, Lib.hid ⟨(Below.refl _ _).alloc (Nat.le_refl _) _, hmt.out, (Array.getElem?_eq_some_iff.1 (heap_alloc_new w _)).1, fun i r hi _ => by omega⟩⟩
  case round =>
    obtain ⟨k, hk, rfl, hb⟩ := hrel
    by_cases hlt : k < xs.length
    · obtain ⟨ad, rfl, hbl, hrow⟩ := (H.out.below hb.out.below) k xs[k] (List.getElem?_eq_getElem hlt)
      have hrk : Hid (xs[k]? = some xs[k]) := Lib.hid (List.getElem?_eq_getElem hlt)
      generalize xs[k] = m at hrow hrk
      obtain ⟨c0, c1, c2, c3, c4, c5, c6, c7, c8, hK, g0, g1, g2, g3, g4, g5, g6, g7, g8⟩ := mk_at hrow
      have hV := Lib.hid (show IsMk (.agg #[c0, c1, c2, c3, c4, c5, c6, c7, c8]) m from ⟨_, rfl, hK⟩)
      clear hK hrow
      have hlt' : (k : Int) < (xs.length : Int) := by omega
      go_wp2_with (go_at_call 130; refine (c_toMark _ m _ hV.out).mono ?_; rintro e w3 ⟨cs, rfl, hcs, hb3⟩; obtain ⟨hst, hcp⟩ := hb.out.next (cs := cs) rfl hb3 hrk.out hcs (by decide); have hcp := Lib.hid hcp; have hsz : cs.size = 9 := KMs_len hcs; clear hb3 hcs)
      go_round
      case rel => exact ⟨k + 1, by omega, by go_num, hcp⟩
      case measure => simp [intOf]; omega
    · have e : k = xs.length := by omega
      subst e
      go_wp2
      go_ret
      exact ⟨rfl, hb.out⟩
end Go.Proofs.Ytcopccniijkceaa

namespace Go.Proofs.Ytcopccniijkceaa
open Go Go.RowKit
set_option linter.unusedVariables false
set_option linter.unusedSimpArgs false

set_option maxHeartbeats 400000 in
theorem c_isValid (v : Value) (m : Mk) (w : World) (h : IsMk v m) : Calls Try.prog 131 #[v] w fun e w' => e = .returned (.bool (validB m)) ∧ Below w.heap.size w w' := by
  obtain ⟨ra, rb, rc, rd, rfl, ha, hb, hc, hd⟩ := mk_val h
  have e1 : finV ra rb rc = (finB m.a && finB m.b && finB m.c) := by unfold finV; rw [ha.out, hb.out, hc.out]
  have e2 : (finB (can .f32 rd) && posB (can .f32 rd)) = (finB m.d && posB m.d) := by rw [hd.out]
  unfold validB
  rw [← e1, ← e2]
  clear ha hb hc hd h e1 e2
  generalize hV : finV ra rb rc = bv
  generalize hW : (finB (can .f32 rd) && posB (can .f32 rd)) = bw
  generalize hT : okTime m.l = bt
  replace hV := Lib.hid hV
  replace hW := Lib.hid hW
  replace hT := Lib.hid hT
  have u0 : (w.alloc (.cells #[.int .i32 m.x, .int .i32 m.y, .int .i32 m.z, .float .f32 ra, .float .f32 rb, .float .f32 rc, .float .f32 rd, .int .i64 m.s, .int .i64 m.l] 156)).heap[w.heap.size]? = some (.cells #[.int .i32 m.x, .int .i32 m.y, .int .i32 m.z, .float .f32 ra, .float .f32 rb, .float .f32 rc, .float .f32 rd, .int .i64 m.s, .int .i64 m.l] 156 (0, 0)) := by (repeat (first | (refine heap_top _ _ _ ?_; simp; done) | (with_reducible refine heap_drawn _ _ _ ?_) | (with_reducible refine heap_under _ _ _ ?_ ?_; (simp <;> omega))))
  have hA : Hid (∀ w1, Stays (w.alloc (.cells #[.int .i32 m.x, .int .i32 m.y, .int .i32 m.z, .float .f32 ra, .float .f32 rb, .float .f32 rc, .float .f32 rd, .int .i64 m.s, .int .i64 m.l] 156)) w1 → ∀ i, w1.cell? ⟨w.heap.size, i, none⟩ = (#[.int .i32 m.x, .int .i32 m.y, .int .i32 m.z, .float .f32 ra, .float .f32 rb, .float .f32 rc, .float .f32 rd, .int .i64 m.s, .int .i64 m.l] : Array Value)[i]?) := fun w1 h => row_of h u0
  clear u0
  have hS : Stays (w.alloc (.cells #[.int .i32 m.x, .int .i32 m.y, .int .i32 m.z, .float .f32 ra, .float .f32 rb, .float .f32 rc, .float .f32 rd, .int .i64 m.s, .int .i64 m.l] 156)) (w.alloc (.cells #[.int .i32 m.x, .int .i32 m.y, .int .i32 m.z, .float .f32 ra, .float .f32 rb, .float .f32 rc, .float .f32 rd, .int .i64 m.s, .int .i64 m.l] 156)) := Stays.refl _
  have h1 : 1 ≤ m.s ∧ m.s ≤ 1000000 ∨ ¬ 1 ≤ m.s ∨ ¬ m.s ≤ 1000000 ∧ 1 ≤ m.s := by omega
  rcases h1 with ⟨hs1, hs2⟩ | hs1 | ⟨hs2, hs1⟩ <;> cases bv <;> cases bw <;> cases bt
  all_goals
    go_enter Try.func131, Try.ntmps131
    go_wp2_with (first
        | (go_at_call 139; refine (c_implIsFiniteVec ra rb rc _).mono ?_; rintro e w1 ⟨v1, rfl, hv1, hw1⟩; rw [show v1 = _ from hv1, hV.out]; clear hv1; replace hS := Stays.trans (show Stays _ _ from by first | exact hS | exact hS.alloc _ | exact hS.drewN _) hw1; clear hw1; have hc := hA.out _ hS)
        | (go_at_call 53; refine (c_isPositive rd _).mono ?_; rintro e w1 ⟨rfl, hw1⟩; rw [hW.out]; clear hc; replace hS := Stays.trans (show Stays _ _ from by first | exact hS | exact hS.alloc _ | exact hS.drewN _) hw1; clear hw1; have hc := hA.out _ hS)
        | (go_at_call 103; refine (c_isTime m.l _).mono ?_; rintro e w1 ⟨rfl, rfl⟩; rw [hT.out]))
    go_ret
    exact ⟨ret_b (by first | (simp [*]; done) | (simp [*]; omega)), Stays.trans (by (repeat (first | exact Stays.refl _ | (with_reducible refine Stays.drewN ?_ _) | (with_reducible refine Stays.alloc ?_ _) | (with_reducible refine Stays.drew ?_) | (refine Stays.trans ?_ ‹Stays _ _›)))) hS⟩

set_option maxHeartbeats 400000 in
theorem c_l05Mark (q : Addr) (m : Mk) (w : World) (h : RowAt mkK w q m.ins) (hq : q.block < w.heap.size) : Calls Try.prog 125 #[.pointer (some q)] w fun e w' => e = .returned (.bool (validB m)) ∧ Below w.heap.size w w' := by
  obtain ⟨cs, hk, hcell⟩ := h
  obtain ⟨ra, rb, rc, rd, rfl, ha, hb, hc, hd⟩ := mk_row hk
  have e1 : finV ra rb rc = (finB m.a && finB m.b && finB m.c) := by unfold finV; rw [ha.out, hb.out, hc.out]
  have e2 : (finB (can .f32 rd) && posB (can .f32 rd)) = (finB m.d && posB m.d) := by rw [hd.out]
  unfold validB
  rw [← e1, ← e2]
  clear ha hb hc hd hk e1 e2
  have hp := pos_of rd
  generalize hV : finV ra rb rc = bv
  generalize hF : finB (can .f32 rd) = bf
  generalize hP : posB (can .f32 rd) = bp at hp ⊢
  generalize hT : okTime m.l = bt
  have hV := Lib.hid hV
  have hF := Lib.hid hF
  have hP := Lib.hid hP
  have hT := Lib.hid hT
  have hcell := Lib.hid hcell
  have G : Hid (∀ w', Below w.heap.size w w' → w'.cell? ⟨q.block, q.off + 3, none⟩ = some (.float .f32 ra) ∧ w'.cell? ⟨q.block, q.off + 3 + 1, none⟩ = some (.float .f32 rb) ∧ w'.cell? ⟨q.block, q.off + 3 + 2, none⟩ = some (.float .f32 rc) ∧ w'.cell? ⟨q.block, q.off + 6, none⟩ = some (.float .f32 rd) ∧ w'.cell? ⟨q.block, q.off + 7, none⟩ = some (.int .i64 m.s) ∧ w'.cell? ⟨q.block, q.off + 8, none⟩ = some (.int .i64 m.l)) :=
    Lib.hid fun w' hb => ⟨(hb.cell (p := ⟨q.block, q.off + 3, none⟩) hq).trans (hcell.out 3 _ rfl), (hb.cell (p := ⟨q.block, q.off + 4, none⟩) hq).trans (hcell.out 4 _ rfl), (hb.cell (p := ⟨q.block, q.off + 5, none⟩) hq).trans (hcell.out 5 _ rfl), (hb.cell (p := ⟨q.block, q.off + 6, none⟩) hq).trans (hcell.out 6 _ rfl), (hb.cell (p := ⟨q.block, q.off + 7, none⟩) hq).trans (hcell.out 7 _ rfl), (hb.cell (p := ⟨q.block, q.off + 8, none⟩) hq).trans (hcell.out 8 _ rfl)⟩
  clear hcell
  have hS : Stays w w := Stays.refl w
  obtain ⟨g3, g4, g5, g6, g7, g8⟩ := G.out _ hS
  cases bv <;> cases bf <;> cases bp <;> cases hs : decide (1 ≤ m.s ∧ m.s ≤ 1000000)
  all_goals
    have hs := Lib.hid hs
    go_enter Try.func125, Try.ntmps125
    go_wp2_with (first
      | (go_at_call 142; refine (c_specl01Vec ra rb rc _).mono ?_; rintro e w1 ⟨v1, rfl, hv1, hw1⟩; rw [show v1 = _ from hv1, hV.out]; clear hv1; replace hS := Stays.trans (show Stays _ _ from by first | exact hS | exact hS.alloc _ | exact hS.drewN _) hw1; clear hw1; clear g3 g4 g5 g6 g7 g8; obtain ⟨g3, g4, g5, g6, g7, g8⟩ := G.out _ hS)
      | (go_at_call 127; refine (c_l01Finite rd _).mono ?_; rintro e w1 ⟨rfl, hw1⟩; rw [hF.out]; replace hS := Stays.trans (show Stays _ _ from by first | exact hS | exact hS.alloc _ | exact hS.drewN _) hw1; clear hw1; clear g3 g4 g5 g6 g7 g8; obtain ⟨g3, g4, g5, g6, g7, g8⟩ := G.out _ hS)
      | (go_at_call 97; refine (c_l00In m.s 1 1000000 _).mono ?_; rintro e w1 ⟨rfl, rfl⟩; rw [hs.out])
      | (go_at_call 99; refine (c_l04Time m.l _).mono ?_; rintro e w1 ⟨rfl, rfl⟩; rw [hT.out]))
    go_ret
    exact ⟨ret_b (by simp [hs.out]), by first | exact hS | (repeat (first | exact Stays.refl _ | (with_reducible refine Stays.drewN ?_ _) | (with_reducible refine Stays.alloc ?_ _) | (with_reducible refine Stays.drew ?_) | (refine Stays.trans ?_ ‹Stays _ _›)))⟩
end Go.Proofs.Ytcopccniijkceaa
