/- Marks: copied, compared, valid; cells in order. No condition. -/
import Derived.Test.YtkpcecigoffopaaLa
import Derived.Test.YtkpcecigoffopaaB3
namespace Go.Proofs.Ytkpcecigoffopaa
open Go Go.RowKit
set_option linter.unusedVariables false

abbrev mkK : List Kd := [.i .i32, .i .i32, .i .i32, .f .f32, .f .f32, .f .f32, .f .f32, .i .i64, .i .i64]
structure Mk where
  x : Int
  y : Int
  z : Int
  a : Option Nat
  b : Option Nat
  c : Option Nat
  d : Option Nat
  s : Int
  l : Int
def Mk.ins (m : Mk) : List NV := [.i m.x, .i m.y, .i m.z, .f m.a, .f m.b, .f m.c, .f m.d, .i m.s, .i m.l]

theorem ins_len (m : Mk) : m.ins.length ≤ 1000 := show 9 ≤ 1000 from by decide

/-- A mark as a value. -/
def IsMk (v : Value) (m : Mk) : Prop := ShM (.agg mkK) v m.ins

theorem mk_row {cs : List Value} {m : Mk} (h : KMs mkK cs m.ins) : ∃ ra rb rc rd, cs = [.int .i32 m.x, .int .i32 m.y, .int .i32 m.z, .float .f32 ra, .float .f32 rb, .float .f32 rc, .float .f32 rd, .int .i64 m.s, .int .i64 m.l] ∧ FIs .f32 ra m.a ∧ FIs .f32 rb m.b ∧ FIs .f32 rc m.c ∧ FIs .f32 rd m.d := by
  match cs, h with
  | [c0, c1, c2, c3, c4, c5, c6, c7, c8], ⟨h0, h1, h2, ⟨ra, h3, ka⟩, ⟨rb, h4, kb⟩, ⟨rc, h5, kc⟩, ⟨rd, h6, kd⟩, h7, h8, _⟩ =>
    have h0 : c0 = .int .i32 m.x := h0
    have h1 : c1 = .int .i32 m.y := h1
    have h2 : c2 = .int .i32 m.z := h2
    have h7 : c7 = .int .i64 m.s := h7
    have h8 : c8 = .int .i64 m.l := h8
    subst h0 h1 h2 h3 h4 h5 h6 h7 h8
    exact ⟨ra, rb, rc, rd, rfl, ka, kb, kc, kd⟩

theorem mk_val {v : Value} {m : Mk} (h : IsMk v m) : ∃ ra rb rc rd, v = .agg #[.int .i32 m.x, .int .i32 m.y, .int .i32 m.z, .float .f32 ra, .float .f32 rb, .float .f32 rc, .float .f32 rd, .int .i64 m.s, .int .i64 m.l] ∧ FIs .f32 ra m.a ∧ FIs .f32 rb m.b ∧ FIs .f32 rc m.c ∧ FIs .f32 rd m.d := by
  obtain ⟨⟨cs⟩, rfl, hk⟩ := h
  obtain ⟨ra, rb, rc, rd, e, h⟩ := mk_row hk
  have e : cs = _ := e
  subst e
  exact ⟨ra, rb, rc, rd, rfl, h⟩

noncomputable def wkTm : DT (SV × St) := callDT tb ftab otb 60 40 0 47 [inSh 0 (.agg mkK)] ⟨.nil, [], []⟩
noncomputable def nsTm : List Df := wkTm.gather []
theorem wfTm : wfT (withIds nsTm) [] = true := by kernel_rfl
theorem chTm : wkTm.chk nsTm [] (endIs (.agg (inKs 0 mkK))) = true := by kernel_rfl

theorem c_toMark (v : Value) (m : Mk) (w : World) (h : IsMk v m) : Calls Try.prog 47 #[v] w fun e w' => ∃ cs : Array Value, e = .returned (.agg cs) ∧ KMs mkK cs.toList m.ins ∧ Below w.heap.size w w' := by
  refine (walk_args (args := [inSh 0 (.agg mkK)]) (vs := #[v]) (ins := m.ins) (r := .agg (inKs 0 mkK)) tb_ok mixed ftab_ok (otb_ok baseΦ_ok) wfTm chTm (by kernel_rfl) ⟨inSh_ok h fun j hj => ins_at (ins_len m) j hj, trivial⟩).mono ?_
  rintro e w' ⟨v', γ, rfl, ⟨cs, rfl, hm⟩, hs⟩
  exact ⟨cs, rfl, KMs_back hm rfl fun j hj => ins_at (ins_len m) j hj, hs⟩

noncomputable def wkEm : DT (SV × St) := callDT tb ftab otb 60 40 0 25 [inSh 0 (.agg mkK), inSh 0 (.agg mkK)] ⟨.nil, [], []⟩
noncomputable def nsEm : List Df := wkEm.gather []
theorem wfEm : wfT (withIds nsEm) [] = true := by kernel_rfl
theorem chEm : wkEm.chk nsEm [] (endIs (.one (.lit (.bool true)))) = true := by kernel_rfl

theorem c_eqMark (v v' : Value) (m : Mk) (w : World) (h : IsMk v m) (h' : IsMk v' m) : Calls Try.prog 25 #[v, v'] w fun e w' => e = .returned (.bool true) ∧ Below w.heap.size w w' := by
  refine (walk_args (args := [inSh 0 (.agg mkK), inSh 0 (.agg mkK)]) (vs := #[v, v']) (ins := m.ins) (r := .one (.lit (.bool true))) tb_ok mixed ftab_ok (otb_ok baseΦ_ok) wfEm chEm (by kernel_rfl) ⟨inSh_ok h fun j hj => ins_at (ins_len m) j hj, inSh_ok h' fun j hj => ins_at (ins_len m) j hj, trivial⟩).mono ?_
  rintro e w' ⟨v2, γ, rfl, hm, hs⟩
  exact ⟨congrArg _ hm, hs⟩

def posB (o : Option Nat) : Bool := ford .f32 o (some 0) == some .gt
theorem pos_of (r : Nat) : (FloatKind.f32.format.order r 0 == some Ordering.gt) = posB (can .f32 r) := by
  rw [order_can]; rfl

theorem c_isPositive (a : Nat) (w : World) : Calls Try.prog 59 #[.float .f32 a] w fun e w' => e = .returned (.bool (finB (can .f32 a) && posB (can .f32 a))) ∧ Below w.heap.size w w' := by
  have hp := pos_of a
  generalize hf : finB (can .f32 a) = f
  have hf := Lib.hid hf
  generalize posB (can .f32 a) = p at hp ⊢
  cases f
  all_goals
    go_enter Try.func59, Try.ntmps59
    go_wp2_with (go_at_call 97; refine (c_isFinite a _).mono ?_; rintro e w1 ⟨rfl, hw1⟩; rw [hf.out])
    go_ret
    refine ⟨ret_b (by simp [hp]), ?_⟩
    first | exact hw1 | exact hw1.drewN _

theorem c_l05Side (a : Nat) (w : World) : Calls Try.prog 91 #[.float .f32 a] w fun e w' => e = .returned (.bool (finB (can .f32 a) && posB (can .f32 a))) ∧ Below w.heap.size w w' := by
  have hp := pos_of a
  generalize hf : finB (can .f32 a) = f
  have hf := Lib.hid hf
  generalize posB (can .f32 a) = p at hp ⊢
  cases f
  all_goals
    go_enter Try.func91, Try.ntmps91
    go_wp2_with (go_at_call 102; refine (c_l01Finite a _).mono ?_; rintro e w1 ⟨rfl, hw1⟩; rw [hf.out])
    go_ret
    refine ⟨ret_b (by simp [hp]), ?_⟩
    first | exact hw1 | exact hw1.drewN _

/-- Whether a mark is valid. -/
def validB (m : Mk) : Bool := (finB m.a && finB m.b && finB m.c) && (finB m.d && posB m.d) && decide (1 ≤ m.s ∧ m.s ≤ 1000000) && okTime m.l
end Go.Proofs.Ytkpcecigoffopaa
