/- The centre of a map, as the program has it. No condition. -/
import Derived.Test.YtejljfejajckoaaFz
import Derived.Test.YtejljfejajckoaaNb
import Derived.Test.YtejljfejajckoaaGv
import Derived.Deep.CutRange
import Derived.Deep.RegionHeld
namespace Go.Proofs.Ytejljfejajckoaa
open Go Go.ChangeShapes Go.WideShapes Go.RowKit
set_option linter.unusedVariables false
set_option linter.unusedSimpArgs false


theorem end_gd {P : Program} {fn : Func} {R : Ending → World → Prop} {a : Act} {w : World} {p u : Tmp} {ty t : TypeId} {g : Nat} {cs : Array Value} {d : TypeDesc}
    (h : fn.results = #[.cell p ty, .tmp u]) (hp : a.tmps.getD p undef = .pointer (some ⟨g, 0, none⟩)) (hf : a.defers = [])
    (hu : P.underlying ty = some d) (hd : (match d with | .struct _ | .array _ _ => true | _ => false) = true)
    (hg : w.heap[g]? = some (.cells cs t (0, 0))) (hi : (P.info? ty).map (·.size) = some cs.size) (hR : R (.returned (.tuple #[.agg cs, a.tmps.getD u undef])) w) : bodyPost P fn R .ret a w := by
  refine bodyPost_ret ?_ hf hR
  rw [results_cell_tmp h, hp]
  simp [asAddr, run_loadVar_row w g t ty cs (0, 0) d hg hu hd hi, Result.andThen]

section
variable {P : Program} {ops : Array Oper} {W : World} {S : FuncId → Array Value → Value → Prop} {A : List (Tmp × Array Value × TypeId)}

/-- A call of which it is known what it may give. -/
theorem soft_callW {fid : FuncId} {A0 : Array Value} {V : Value → Prop} {Q : Act → Prop} {a : Act} {o : Oper} {rest : List Oper} (hwa : Region.wanted o (yielded ops a.tmps) = true) (hA : (A.all fun e => o.dst != some e.1) = true)
    (h : ∀ w, Stays W w → (execOp a.eval o).run P w = .ok (.enter fid A0) w)
    (hc : ∀ w, Stays W w → Calls P fid A0 w fun e w' => ∃ v, e = .returned v ∧ V v ∧ Stays w w')
    (hS : ∀ v, V v → S fid A0 v) (hu : ∀ v, S fid A0 v → V v)
    (hK : ∀ v, V v → wpSoft P ops W S A Q rest (a.put o.dst v)) : wpSoft P ops W S A Q (o :: rest) a := by
  refine ⟨fun _ w hw => ?_, not_listed hA a, ?_, fun u hu' => ?_⟩
  · rw [h w hw]
    exact ⟨rfl, (hc w hw).mono fun e w' ⟨v, he, hv, hs⟩ => ⟨v, he, hS v hv, hs⟩⟩
  · obtain ⟨_, _, _, ⟨v, _, hv, _⟩, _⟩ := hc W (Stays.refl W) []
    exact ⟨v, Or.inl ⟨hwa, W, Stays.refl W, by rw [h W (Stays.refl W)]; exact hS v hv⟩⟩
  · rcases hu' with ⟨_, w, hw, hu'⟩ | ⟨hn, _⟩
    · rw [h w hw] at hu'
      exact hK u (hu u hu')
    · rw [hwa] at hn; cases hn
end

theorem mul_swap (x y : Option Nat) : fop .mul .f32 x y = fop .mul .f32 y x := by
  cases x with
  | none => rw [fop_none_left, fop_none_right]
  | some a =>
    cases y with
    | none => rw [fop_none_left, fop_none_right]
    | some b =>
      show ((Ieee.single.read a).product (Ieee.single.read b)).map Ieee.single.write = ((Ieee.single.read b).product (Ieee.single.read a)).map Ieee.single.write
      congr 1
      cases Ieee.single.read a <;> cases Ieee.single.read b <;> simp [Ieee.Datum.product, Nat.mul_comm, Int.add_comm, Bool.xor_comm]

def mk0 : Mk := ⟨0, 0, 0, none, none, none, none, 0, 0⟩
/-- A sum over the first marks. -/
def sumK (f : Mk → Option Nat) (xs : List Mk) : Nat → Option Nat
  | 0 => none
  | k + 1 => if k = 0 then f (xs.getD 0 mk0) else fop .add .f32 (sumK f xs k) (f (xs.getD k mk0))
theorem sumK_one {f : Mk → Option Nat} {xs : List Mk} {m : Mk} (h : xs[0]? = some m) : sumK f xs 1 = f m := by
  show (if 0 = 0 then f (xs.getD 0 mk0) else _) = _
  rw [if_pos rfl, List.getD_eq_getElem?_getD, h]; rfl
theorem sumK_next {f : Mk → Option Nat} {xs : List Mk} {m : Mk} {k : Nat} (hk : 0 < k) (h : xs[k]? = some m) : sumK f xs (k + 1) = fop .add .f32 (sumK f xs k) (f m) := by
  show (if k = 0 then f (xs.getD 0 mk0) else fop .add .f32 (sumK f xs k) (f (xs.getD k mk0))) = _
  rw [if_neg (by omega), List.getD_eq_getElem?_getD, h]; rfl
def pX (m : Mk) : Option Nat := fop .mul .f32 m.a m.d
def pY (m : Mk) : Option Nat := fop .mul .f32 m.b m.d
def pZ (m : Mk) : Option Nat := fop .mul .f32 m.c m.d
def cenK (f : Mk → Option Nat) (xs : List Mk) : Option Nat := fop .quo .f32 (sumK f xs xs.length) (sumK Mk.d xs xs.length)
noncomputable def ceC (o : Option Nat) (xs : List Mk) : Int := if mapOK o xs then (if xs.length = 0 then 6 else 0) else 1
noncomputable def ceV (f : Mk → Option Nat) (o : Option Nat) (xs : List Mk) : Option Nat := if mapOK o xs then (if xs.length = 0 then can .f32 0 else cenK f xs) else can .f32 0

def V3 (a b c : Option Nat) (v : Value) : Prop := ∃ x y z, v = .agg #[.float .f32 x, .float .f32 y, .float .f32 z] ∧ FIs .f32 x a ∧ FIs .f32 y b ∧ FIs .f32 z c
def V3Done (w : World) (code : Int) (a b c : Option Nat) (e : Ending) (w' : World) : Prop := ∃ x y z, e = .returned (.tuple #[.agg #[.float .f32 x, .float .f32 y, .float .f32 z], .int .i64 code]) ∧ FIs .f32 x a ∧ FIs .f32 y b ∧ FIs .f32 z c ∧ Stays w w'

set_option maxRecDepth 100000 in
set_option maxHeartbeats 4000000 in
theorem c_ScaleV (ax ay az s : Nat) (w : World) :
    Calls Try.prog 99 #[.agg #[.float .f32 ax, .float .f32 ay, .float .f32 az], .float .f32 s] w fun e w' => ∃ v, e = .returned v ∧ V3 (fop .mul .f32 (can .f32 ax) (can .f32 s)) (fop .mul .f32 (can .f32 ay) (can .f32 s)) (fop .mul .f32 (can .f32 az) (can .f32 s)) v ∧ Stays w w' := by
  have hst : Stays w ((w.alloc (.cells #[.float .f32 ax, .float .f32 ay, .float .f32 az] 66)).alloc (.cells #[.float .f32 0, .float .f32 0, .float .f32 0] 66)) := by (repeat (first | exact Stays.refl _ | (with_reducible refine Stays.drewN ?_ _) | (with_reducible refine Stays.alloc ?_ _) | (with_reducible refine Stays.drew ?_) | (refine Stays.trans ?_ ‹Stays _ _›)))
  have hres : ((w.alloc (.cells #[.float .f32 ax, .float .f32 ay, .float .f32 az] 66)).alloc (.cells #[.float .f32 0, .float .f32 0, .float .f32 0] 66)).heap[w.heap.size + 1]? = some (.cells #[.float .f32 0, .float .f32 0, .float .f32 0] 66 (0, 0)) := by (repeat (first | (refine heap_top _ _ _ ?_; simp; done) | (with_reducible refine heap_drawn _ _ _ ?_) | (with_reducible refine heap_under _ _ _ ?_ ?_; (simp <;> omega))))
  have hresn := fun n => (show (((w.alloc (.cells #[.float .f32 ax, .float .f32 ay, .float .f32 az] 66)).alloc (.cells #[.float .f32 0, .float .f32 0, .float .f32 0] 66)).drewN n).heap[w.heap.size + 1]? = _ from hres)
  have hstn := fun n => hst.drewN n
  have u0 : ((w.alloc (.cells #[.float .f32 ax, .float .f32 ay, .float .f32 az] 66)).alloc (.cells #[.float .f32 0, .float .f32 0, .float .f32 0] 66)).heap[w.heap.size]? = some (.cells #[.float .f32 ax, .float .f32 ay, .float .f32 az] 66 (0, 0)) := by (repeat (first | (refine heap_top _ _ _ ?_; simp; done) | (with_reducible refine heap_drawn _ _ _ ?_) | (with_reducible refine heap_under _ _ _ ?_ ?_; (simp <;> omega))))
  have c0 := fun n (j : Nat) => cell_of_row (((w.alloc (.cells #[.float .f32 ax, .float .f32 ay, .float .f32 az] 66)).alloc (.cells #[.float .f32 0, .float .f32 0, .float .f32 0] 66)).drewN n) _ j _ _ _ u0
  go_enter Try.func99, Try.ntmps99
  go_wp2_with (first | ((with_reducible refine wpList_fop rfl _ _ _ _ _ rfl rfl _ _ _ rfl rfl ?_); intro r n hr; have hs := Lib.hid hr; clear hr) | ((refine wpList_store_row rfl _ _ _ rfl _ _ _ rfl rfl (hresn _) ?hi ?ho ?h1 ?hB (hstn _) ?_); (case hi => kernel_rfl); (case ho => rfl); (case h1 => first | rfl | simp [Value.oneCell']); (case hB => first | omega | (simp <;> omega)); intro w9 hw9 hq9 _ _))
  apply end_agg rfl rfl rfl Try.underlying66 rfl (t := 66)
  case hg => exact hq9
  case hi => kernel_rfl
  case hR =>
  rename_i r1 n1 h1 r2 n2 h2 e1 e2
  exact ⟨_, rfl, ⟨_, _, _, rfl, h1.out, h2.out, hs.out⟩, hw9⟩

set_option maxRecDepth 100000 in
set_option maxHeartbeats 4000000 in
theorem c_AddV (ax ay az bx by_ bz : Nat) (w : World) :
    Calls Try.prog 100 #[.agg #[.float .f32 ax, .float .f32 ay, .float .f32 az], .agg #[.float .f32 bx, .float .f32 by_, .float .f32 bz]] w fun e w' => ∃ v, e = .returned v ∧ V3 (fop .add .f32 (can .f32 ax) (can .f32 bx)) (fop .add .f32 (can .f32 ay) (can .f32 by_)) (fop .add .f32 (can .f32 az) (can .f32 bz)) v ∧ Stays w w' := by
  have hst : Stays w (((w.alloc (.cells #[.float .f32 ax, .float .f32 ay, .float .f32 az] 66)).alloc (.cells #[.float .f32 bx, .float .f32 by_, .float .f32 bz] 66)).alloc (.cells #[.float .f32 0, .float .f32 0, .float .f32 0] 66)) := by (repeat (first | exact Stays.refl _ | (with_reducible refine Stays.drewN ?_ _) | (with_reducible refine Stays.alloc ?_ _) | (with_reducible refine Stays.drew ?_) | (refine Stays.trans ?_ ‹Stays _ _›)))
  have hres : (((w.alloc (.cells #[.float .f32 ax, .float .f32 ay, .float .f32 az] 66)).alloc (.cells #[.float .f32 bx, .float .f32 by_, .float .f32 bz] 66)).alloc (.cells #[.float .f32 0, .float .f32 0, .float .f32 0] 66)).heap[w.heap.size + 1 + 1]? = some (.cells #[.float .f32 0, .float .f32 0, .float .f32 0] 66 (0, 0)) := by (repeat (first | (refine heap_top _ _ _ ?_; simp; done) | (with_reducible refine heap_drawn _ _ _ ?_) | (with_reducible refine heap_under _ _ _ ?_ ?_; (simp <;> omega))))
  have hresn := fun n => (show ((((w.alloc (.cells #[.float .f32 ax, .float .f32 ay, .float .f32 az] 66)).alloc (.cells #[.float .f32 bx, .float .f32 by_, .float .f32 bz] 66)).alloc (.cells #[.float .f32 0, .float .f32 0, .float .f32 0] 66)).drewN n).heap[w.heap.size + 1 + 1]? = _ from hres)
  have hstn := fun n => hst.drewN n
  have u0 : (((w.alloc (.cells #[.float .f32 ax, .float .f32 ay, .float .f32 az] 66)).alloc (.cells #[.float .f32 bx, .float .f32 by_, .float .f32 bz] 66)).alloc (.cells #[.float .f32 0, .float .f32 0, .float .f32 0] 66)).heap[w.heap.size]? = some (.cells #[.float .f32 ax, .float .f32 ay, .float .f32 az] 66 (0, 0)) := by (repeat (first | (refine heap_top _ _ _ ?_; simp; done) | (with_reducible refine heap_drawn _ _ _ ?_) | (with_reducible refine heap_under _ _ _ ?_ ?_; (simp <;> omega))))
  have c0 := fun n (j : Nat) => cell_of_row ((((w.alloc (.cells #[.float .f32 ax, .float .f32 ay, .float .f32 az] 66)).alloc (.cells #[.float .f32 bx, .float .f32 by_, .float .f32 bz] 66)).alloc (.cells #[.float .f32 0, .float .f32 0, .float .f32 0] 66)).drewN n) _ j _ _ _ u0
  have u1 : (((w.alloc (.cells #[.float .f32 ax, .float .f32 ay, .float .f32 az] 66)).alloc (.cells #[.float .f32 bx, .float .f32 by_, .float .f32 bz] 66)).alloc (.cells #[.float .f32 0, .float .f32 0, .float .f32 0] 66)).heap[w.heap.size + 1]? = some (.cells #[.float .f32 bx, .float .f32 by_, .float .f32 bz] 66 (0, 0)) := by (repeat (first | (refine heap_top _ _ _ ?_; simp; done) | (with_reducible refine heap_drawn _ _ _ ?_) | (with_reducible refine heap_under _ _ _ ?_ ?_; (simp <;> omega))))
  go_enter Try.func100, Try.ntmps100
  go_wp2_with (first | ((with_reducible refine wpList_fop rfl _ _ _ _ _ rfl rfl _ _ _ rfl rfl ?_); intro r n hr; have hs := Lib.hid hr; clear hr) | ((refine wpList_store_row rfl _ _ _ rfl _ _ _ rfl rfl (hresn _) ?hi ?ho ?h1 ?hB (hstn _) ?_); (case hi => kernel_rfl); (case ho => rfl); (case h1 => first | rfl | simp [Value.oneCell']); (case hB => first | omega | (simp <;> omega)); intro w9 hw9 hq9 _ _))
  apply end_agg rfl rfl rfl Try.underlying66 rfl (t := 66)
  case hg => exact hq9
  case hi => kernel_rfl
  case hR =>
  rename_i r1 n1 h1 r2 n2 h2 e1 e2
  exact ⟨_, rfl, ⟨_, _, _, rfl, h1.out, h2.out, hs.out⟩, hw9⟩

set_option maxRecDepth 100000 in
set_option maxHeartbeats 4000000 in
theorem c_DivV (ax ay az s : Nat) (w : World) :
    Calls Try.prog 111 #[.agg #[.float .f32 ax, .float .f32 ay, .float .f32 az], .float .f32 s] w fun e w' => ∃ v, e = .returned v ∧ V3 (fop .quo .f32 (can .f32 ax) (can .f32 s)) (fop .quo .f32 (can .f32 ay) (can .f32 s)) (fop .quo .f32 (can .f32 az) (can .f32 s)) v ∧ Stays w w' := by
  have hst : Stays w ((w.alloc (.cells #[.float .f32 ax, .float .f32 ay, .float .f32 az] 66)).alloc (.cells #[.float .f32 0, .float .f32 0, .float .f32 0] 66)) := by (repeat (first | exact Stays.refl _ | (with_reducible refine Stays.drewN ?_ _) | (with_reducible refine Stays.alloc ?_ _) | (with_reducible refine Stays.drew ?_) | (refine Stays.trans ?_ ‹Stays _ _›)))
  have hres : ((w.alloc (.cells #[.float .f32 ax, .float .f32 ay, .float .f32 az] 66)).alloc (.cells #[.float .f32 0, .float .f32 0, .float .f32 0] 66)).heap[w.heap.size + 1]? = some (.cells #[.float .f32 0, .float .f32 0, .float .f32 0] 66 (0, 0)) := by (repeat (first | (refine heap_top _ _ _ ?_; simp; done) | (with_reducible refine heap_drawn _ _ _ ?_) | (with_reducible refine heap_under _ _ _ ?_ ?_; (simp <;> omega))))
  have hresn := fun n => (show (((w.alloc (.cells #[.float .f32 ax, .float .f32 ay, .float .f32 az] 66)).alloc (.cells #[.float .f32 0, .float .f32 0, .float .f32 0] 66)).drewN n).heap[w.heap.size + 1]? = _ from hres)
  have hstn := fun n => hst.drewN n
  have u0 : ((w.alloc (.cells #[.float .f32 ax, .float .f32 ay, .float .f32 az] 66)).alloc (.cells #[.float .f32 0, .float .f32 0, .float .f32 0] 66)).heap[w.heap.size]? = some (.cells #[.float .f32 ax, .float .f32 ay, .float .f32 az] 66 (0, 0)) := by (repeat (first | (refine heap_top _ _ _ ?_; simp; done) | (with_reducible refine heap_drawn _ _ _ ?_) | (with_reducible refine heap_under _ _ _ ?_ ?_; (simp <;> omega))))
  have c0 := fun n (j : Nat) => cell_of_row (((w.alloc (.cells #[.float .f32 ax, .float .f32 ay, .float .f32 az] 66)).alloc (.cells #[.float .f32 0, .float .f32 0, .float .f32 0] 66)).drewN n) _ j _ _ _ u0
  go_enter Try.func111, Try.ntmps111
  go_wp2_with (first | ((with_reducible refine wpList_fop rfl _ _ _ _ _ rfl rfl _ _ _ rfl rfl ?_); intro r n hr; have hs := Lib.hid hr; clear hr) | ((refine wpList_store_row rfl _ _ _ rfl _ _ _ rfl rfl (hresn _) ?hi ?ho ?h1 ?hB (hstn _) ?_); (case hi => kernel_rfl); (case ho => rfl); (case h1 => first | rfl | simp [Value.oneCell']); (case hB => first | omega | (simp <;> omega)); intro w9 hw9 hq9 _ _))
  apply end_agg rfl rfl rfl Try.underlying66 rfl (t := 66)
  case hg => exact hq9
  case hi => kernel_rfl
  case hR =>
  rename_i r1 n1 h1 r2 n2 h2 e1 e2
  exact ⟨_, rfl, ⟨_, _, _, rfl, h1.out, h2.out, hs.out⟩, hw9⟩

end Go.Proofs.Ytejljfejajckoaa
