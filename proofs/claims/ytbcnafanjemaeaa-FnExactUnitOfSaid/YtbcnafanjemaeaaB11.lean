/- Contracts: UnitOf. No condition. -/
import Derived.Laws.ResultCell
import Derived.Test.YtbcnafanjemaeaaB10
namespace Go.Proofs.Ytbcnafanjemaeaa
open Go Go.RowKit
set_option linter.unusedVariables false

/-- The end of a function whose two results are an array and a plain value. -/
theorem end_agg_tmp {P : Program} {fn : Func} {R : Ending → World → Prop} {a : Act} {w : World} {p u : Tmp} {ty t : TypeId} {g : Nat} {cs : Array Value} {d : TypeDesc}
    (h : fn.results = #[.cell p ty, .tmp u]) (hp : a.tmps.getD p undef = .pointer (some ⟨g, 0, none⟩)) (hf : a.defers = [])
    (hu : P.underlying ty = some d) (hd : (match d with | .struct _ | .array _ _ => true | _ => false) = true)
    (hg : w.heap[g]? = some (.cells cs t (0, 0))) (hi : (P.info? ty).map (·.size) = some cs.size) (hR : R (.returned (.tuple #[.agg cs, a.tmps.getD u undef])) w) : bodyPost P fn R .ret a w := by
  refine bodyPost_ret ?_ hf hR
  rw [results_cell_tmp h, hp]
  simp [asAddr, run_loadVar_row w g t ty cs (0, 0) d hg hu hd hi, Result.andThen]

def ubad (L : Option Nat) : Bool := (ford .f32 L (some 0) == some Ordering.eq) || !finB L
def uval (L a : Option Nat) : Option Nat := if ubad L then some 0 else fop .quo .f32 a L
def ucode (L : Option Nat) : Int := if ubad L then 4 else 0
def r_UnitOf (a b c : Nat) (v : Value) : Prop := ∃ x y z, v = .tuple #[.agg #[.float .f32 x, .float .f32 y, .float .f32 z], .int .i64 (ucode (flen a b c))] ∧
  FIs .f32 x (uval (flen a b c) (can .f32 a)) ∧ FIs .f32 y (uval (flen a b c) (can .f32 b)) ∧ FIs .f32 z (uval (flen a b c) (can .f32 c))

theorem zero_is : FIs .f32 0 (some 0) := ⟨by decide, by decide⟩

theorem unit_bad {a b c : Nat} {z f : Bool} (hz : (ford .f32 (flen a b c) (some 0) == some Ordering.eq) = z) (hf : finB (flen a b c) = f) (h : (z || !f) = true) :
    r_UnitOf a b c (.tuple #[.agg #[.float .f32 0, .float .f32 0, .float .f32 0], .int .i64 4]) := by
  have hu : ubad (flen a b c) = true := by unfold ubad; rw [hz, hf]; exact h
  unfold r_UnitOf uval ucode
  simp only [hu, if_true]
  exact ⟨0, 0, 0, rfl, zero_is, zero_is, zero_is⟩

theorem unit_ok {a b c L x y z : Nat} (hz : (ford .f32 (flen a b c) (some 0) == some Ordering.eq) = false) (hf : finB (flen a b c) = true) (hL : FIs .f32 L (flen a b c))
    (hx : FIs .f32 x (fop .quo .f32 (can .f32 a) (can .f32 L))) (hy : FIs .f32 y (fop .quo .f32 (can .f32 b) (can .f32 L))) (hv : FIs .f32 z (fop .quo .f32 (can .f32 c) (can .f32 L))) :
    r_UnitOf a b c (.tuple #[.agg #[.float .f32 x, .float .f32 y, .float .f32 z], .int .i64 0]) := by
  have hu : ubad (flen a b c) = false := by unfold ubad; rw [hz, hf]; rfl
  rw [hL.out] at hx hy hv
  unfold r_UnitOf uval ucode
  simp only [hu, Bool.false_eq_true, if_false]
  exact ⟨x, y, z, rfl, hx, hy, hv⟩

theorem c_implUnitOf (a b c : Nat) (w : World) :
    Calls Try.prog 39 #[.agg #[.float .f32 a, .float .f32 b, .float .f32 c]] w fun en w' => ∃ v, en = .returned v ∧ r_UnitOf a b c v ∧ Stays w w' := by
  have u0 : ((w.alloc (.cells #[.float .f32 a, .float .f32 b, .float .f32 c] 28)).alloc (.cells #[.float .f32 0, .float .f32 0, .float .f32 0] 28)).heap[w.heap.size]? = some (.cells #[.float .f32 a, .float .f32 b, .float .f32 c] 28 (0, 0)) := by (repeat (first | (refine heap_top _ _ _ ?_; simp; done) | (with_reducible refine heap_drawn _ _ _ ?_) | (with_reducible refine heap_under _ _ _ ?_ ?_; (simp <;> omega))))
  have u1 : ((w.alloc (.cells #[.float .f32 a, .float .f32 b, .float .f32 c] 28)).alloc (.cells #[.float .f32 0, .float .f32 0, .float .f32 0] 28)).heap[w.heap.size + 1]? = some (.cells #[.float .f32 0, .float .f32 0, .float .f32 0] 28 (0, 0)) := by (repeat (first | (refine heap_top _ _ _ ?_; simp; done) | (with_reducible refine heap_drawn _ _ _ ?_) | (with_reducible refine heap_under _ _ _ ?_ ?_; (simp <;> omega))))
  have hA : Hid (∀ w1, Stays ((w.alloc (.cells #[.float .f32 a, .float .f32 b, .float .f32 c] 28)).alloc (.cells #[.float .f32 0, .float .f32 0, .float .f32 0] 28)) w1 →
    (∀ i, w1.cell? ⟨w.heap.size, i, none⟩ = #[.float .f32 a, .float .f32 b, .float .f32 c][i]?) ∧ w1.heap[w.heap.size + 1]? = some (.cells #[.float .f32 0, .float .f32 0, .float .f32 0] 28 (0, 0)) ∧ Stays w w1) :=
    fun w1 h => ⟨row_of h u0, h.heap (in_heap u1) u1, Stays.trans (by (repeat (first | exact Stays.refl _ | (with_reducible refine Stays.drewN ?_ _) | (with_reducible refine Stays.alloc ?_ _) | (with_reducible refine Stays.drew ?_) | (refine Stays.trans ?_ ‹Stays _ _›)))) h⟩
  clear u0 u1
  have hS : Stays ((w.alloc (.cells #[.float .f32 a, .float .f32 b, .float .f32 c] 28)).alloc (.cells #[.float .f32 0, .float .f32 0, .float .f32 0] 28)) ((w.alloc (.cells #[.float .f32 a, .float .f32 b, .float .f32 c] 28)).alloc (.cells #[.float .f32 0, .float .f32 0, .float .f32 0] 28)) := Stays.refl _
  cases hz : (ford .f32 (flen a b c) (some 0) == some Ordering.eq) <;> cases hf : finB (flen a b c)
  all_goals
    have HZ : Hid ((ford .f32 (flen a b c) (some 0) == some Ordering.eq) = _) := hz
    have HF : Hid (finB (flen a b c) = _) := hf
    clear hz hf
    go_enter Try.func39, Try.ntmps39
    go_wp2_with (first | (go_at_call 37; refine (c_implLengthOf _ _ _ _).mono ?_; rintro en w1 ⟨v, rfl, ⟨L, rfl, hy⟩, hw1⟩; have hzy : (FloatKind.f32.format.order L 0 == some Ordering.eq) = _ := (congrArg (· == some Ordering.eq) (by rw [order_can, hy.out]; rfl : FloatKind.f32.format.order L 0 = ford .f32 (flen a b c) (some 0))).trans HZ.out; have hfy : finB (can .f32 L) = _ := (congrArg finB hy.out).trans HF.out; replace hS := Stays.trans hS hw1; clear hw1; obtain ⟨hc, hres, hst⟩ := hA.out _ hS) | (go_at_call 46; refine (c_isFinite _ _).mono ?_; rintro en w2 ⟨rfl, hw2⟩; clear hc hres hst; replace hS := Stays.trans hS hw2; clear hw2; obtain ⟨hc, hres, hst⟩ := hA.out _ hS) | ((with_reducible refine wpList_fop rfl _ _ _ _ _ rfl rfl _ _ _ rfl rfl ?_); intro r n hr) | ((refine wpList_store_row rfl _ _ _ rfl _ _ _ rfl rfl hres ?hi ?ho ?h1 ?hB hst ?_); (case hi => kernel_rfl); (case ho => rfl); (case h1 => first | rfl | simp [Value.oneCell']); (case hB => first | omega | (simp <;> omega)); intro w2 hw2 hq2 _ _) | ((refine wpList_store_row rfl _ _ _ rfl _ _ _ rfl rfl hres ?hi ?ho ?h1 ?hB (Stays.drewN hst _) ?_); (case hi => kernel_rfl); (case ho => rfl); (case h1 => first | rfl | simp [Value.oneCell']); (case hB => first | omega | (simp <;> omega)); intro w2 hw2 hq2 _ _))
    apply end_agg_tmp rfl rfl rfl Try.underlying28 rfl (t := 28)
    case hg => exact hq2
    case hi => kernel_rfl
    case hR => first | exact ⟨_, rfl, unit_bad HZ.out HF.out rfl, hw2⟩ | exact ⟨_, rfl, unit_ok HZ.out HF.out hy ‹_› ‹_› hr, hw2⟩
theorem c_specUnitOf (a b c : Nat) (w : World) :
    Calls Try.prog 38 #[.agg #[.float .f32 a, .float .f32 b, .float .f32 c]] w fun en w' => ∃ v, en = .returned v ∧ r_UnitOf a b c v ∧ Stays w w' := by
  have u0 : ((w.alloc (.cells #[.float .f32 a, .float .f32 b, .float .f32 c] 28)).alloc (.cells #[.float .f32 0, .float .f32 0, .float .f32 0] 28)).heap[w.heap.size]? = some (.cells #[.float .f32 a, .float .f32 b, .float .f32 c] 28 (0, 0)) := by (repeat (first | (refine heap_top _ _ _ ?_; simp; done) | (with_reducible refine heap_drawn _ _ _ ?_) | (with_reducible refine heap_under _ _ _ ?_ ?_; (simp <;> omega))))
  have u1 : ((w.alloc (.cells #[.float .f32 a, .float .f32 b, .float .f32 c] 28)).alloc (.cells #[.float .f32 0, .float .f32 0, .float .f32 0] 28)).heap[w.heap.size + 1]? = some (.cells #[.float .f32 0, .float .f32 0, .float .f32 0] 28 (0, 0)) := by (repeat (first | (refine heap_top _ _ _ ?_; simp; done) | (with_reducible refine heap_drawn _ _ _ ?_) | (with_reducible refine heap_under _ _ _ ?_ ?_; (simp <;> omega))))
  have hA : Hid (∀ w1, Stays ((w.alloc (.cells #[.float .f32 a, .float .f32 b, .float .f32 c] 28)).alloc (.cells #[.float .f32 0, .float .f32 0, .float .f32 0] 28)) w1 →
    (∀ i, w1.cell? ⟨w.heap.size, i, none⟩ = #[.float .f32 a, .float .f32 b, .float .f32 c][i]?) ∧ w1.heap[w.heap.size + 1]? = some (.cells #[.float .f32 0, .float .f32 0, .float .f32 0] 28 (0, 0)) ∧ Stays w w1) :=
    fun w1 h => ⟨row_of h u0, h.heap (in_heap u1) u1, Stays.trans (by (repeat (first | exact Stays.refl _ | (with_reducible refine Stays.drewN ?_ _) | (with_reducible refine Stays.alloc ?_ _) | (with_reducible refine Stays.drew ?_) | (refine Stays.trans ?_ ‹Stays _ _›)))) h⟩
  clear u0 u1
  have hS : Stays ((w.alloc (.cells #[.float .f32 a, .float .f32 b, .float .f32 c] 28)).alloc (.cells #[.float .f32 0, .float .f32 0, .float .f32 0] 28)) ((w.alloc (.cells #[.float .f32 a, .float .f32 b, .float .f32 c] 28)).alloc (.cells #[.float .f32 0, .float .f32 0, .float .f32 0] 28)) := Stays.refl _
  cases hz : (ford .f32 (flen a b c) (some 0) == some Ordering.eq) <;> cases hf : finB (flen a b c)
  all_goals
    have HZ : Hid ((ford .f32 (flen a b c) (some 0) == some Ordering.eq) = _) := hz
    have HF : Hid (finB (flen a b c) = _) := hf
    clear hz hf
    go_enter Try.func38, Try.ntmps38
    go_wp2_with (first | (go_at_call 49; refine (c_specl01Dot _ _ _ _ _ _ _).mono ?_; rintro en w1 ⟨v, rfl, ⟨x0, rfl, hx0⟩, hw1⟩; replace hS := Stays.trans hS hw1; clear hw1) | (go_at_call 51; refine (c_l01Root _ _).mono ?_; rintro en w1 ⟨v, rfl, ⟨L, rfl, hy0⟩, hw1⟩; have hy : FIs .f32 L (flen a b c) := hy0.of_eq (by unfold flen; rw [hx0.out]); clear hy0 hx0; have hzy : (FloatKind.f32.format.order L 0 == some Ordering.eq) = _ := (congrArg (· == some Ordering.eq) (by rw [order_can, hy.out]; rfl : FloatKind.f32.format.order L 0 = ford .f32 (flen a b c) (some 0))).trans HZ.out; have hfy : finB (can .f32 L) = _ := (congrArg finB hy.out).trans HF.out; replace hS := Stays.trans hS hw1; clear hw1; obtain ⟨hc, hres, hst⟩ := hA.out _ hS) | (go_at_call 53; refine (c_l01Finite _ _).mono ?_; rintro en w2 ⟨rfl, hw2⟩; clear hc hres hst; replace hS := Stays.trans hS hw2; clear hw2; obtain ⟨hc, hres, hst⟩ := hA.out _ hS) | ((with_reducible refine wpList_fop rfl _ _ _ _ _ rfl rfl _ _ _ rfl rfl ?_); intro r n hr) | ((refine wpList_store_row rfl _ _ _ rfl _ _ _ rfl rfl hres ?hi ?ho ?h1 ?hB hst ?_); (case hi => kernel_rfl); (case ho => rfl); (case h1 => first | rfl | simp [Value.oneCell']); (case hB => first | omega | (simp <;> omega)); intro w2 hw2 hq2 _ _) | ((refine wpList_store_row rfl _ _ _ rfl _ _ _ rfl rfl hres ?hi ?ho ?h1 ?hB (Stays.drewN hst _) ?_); (case hi => kernel_rfl); (case ho => rfl); (case h1 => first | rfl | simp [Value.oneCell']); (case hB => first | omega | (simp <;> omega)); intro w2 hw2 hq2 _ _))
    apply end_agg_tmp rfl rfl rfl Try.underlying28 rfl (t := 28)
    case hg => exact hq2
    case hi => kernel_rfl
    case hR => first | exact ⟨_, rfl, unit_bad HZ.out HF.out rfl, hw2⟩ | exact ⟨_, rfl, unit_ok HZ.out HF.out hy ‹_› ‹_› hr, hw2⟩
end Go.Proofs.Ytbcnafanjemaeaa
