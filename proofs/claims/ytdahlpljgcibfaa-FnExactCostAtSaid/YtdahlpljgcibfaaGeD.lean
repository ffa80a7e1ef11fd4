/- What is made, or the code of the failure: the function that recovers. No condition. -/
import Derived.Test.YtdahlpljgcibfaaGeC
namespace Go.Proofs.Ytdahlpljgcibfaa
open Go Go.RowKit
set_option linter.unusedVariables false
set_option linter.unusedSimpArgs false

theorem c_code (w : World) : Calls Try.prog 112 #[.agg #[]] w fun e w' => e = .returned (.int .i64 2) ∧ Stays w w' := by
  go_enter Try.func112, Try.ntmps112
  go_wp2
  go_ret
  exact ⟨rfl, by (repeat (first | exact Stays.refl _ | (with_reducible refine Stays.drewN ?_ _) | (with_reducible refine Stays.alloc ?_ _) | (with_reducible refine Stays.drew ?_) | (refine Stays.trans ?_ ‹Stays _ _›)))⟩

set_option maxRecDepth 100000 in
theorem catch_panicking (p : Addr) (z : Value) (w : World) (hc : w.cell? p = some z) (hz : w.frozen? p = false) :
    CallsD Try.prog 83 #[.pointer (some p)] (.panicking noSpotP) w fun e u' w' =>
      e = .returned (.tuple #[]) ∧ u' = .panicking [{ v := .iface 104 (.agg #[]), recovered := true }] ∧ ∃ w1, Stays w w1 ∧ w' = w1.setCell p (.int .i64 2) := by
  unfold noSpotP
  have hta : ∀ w : World, (Instr.typeAssert (.iface 104 (.agg #[])) 20 100 true).run Try.prog w = .ok (.tuple #[.iface 104 (.agg #[]), .bool true]) w := fun _ => by kernel_rfl
  have hme : ∀ w : World, (method 224 104 (.agg #[]) "loop.example/g01204/impl.code").run Try.prog w = .ok (112, .agg #[]) w := fun _ => by kernel_rfl
  have hcc : Hid (∀ w1, Stays w w1 → w1.cell? p = some z ∧ w1.frozen? p = false) := Lib.hid fun w1 h => ⟨(h.cell (World.block_lt_of_cell? _ _ hc)).trans hc, (h.frozen (World.block_lt_of_cell? _ _ hc)).trans hz⟩
  refine callsD_of_wpS Try.func83 rfl fun c₀ cs hu => ?_
  apply wpS_seq
  apply wpS_region
  simp [wpOpsS, go_sem, recoverD, hu, hta, Try.ntmps83, Exit.thenS]
  apply wpS_seq
  apply wpS_region
  simp [wpOpsS, go_sem, Exit.thenS]
  refine wpS_cond (t := true) (by simp [Act.eval, Array.replicate]) ?_
  simp only [if_true]
  refine wpS_of_wp ?_
  have eT : (#[Value.pointer (some p)] ++ (((((((((Array.replicate 10 undef).setIfInBounds 3 (Value.iface 104 (Value.agg #[]))).setIfInBounds 4 (Value.tuple #[Value.iface 104 (Value.agg #[]), Value.bool true])).setIfInBounds 2 (Value.tuple #[Value.iface 104 (Value.agg #[]), Value.bool true])).setIfInBounds 5 (Value.iface 104 (Value.agg #[]))).setIfInBounds 6 (Value.bool true)).setIfInBounds 0 (Value.iface 104 (Value.agg #[]))).setIfInBounds 1 (Value.bool true)).setIfInBounds 7 (Value.bool true)) : Array Value) = #[Value.pointer (some p), Value.iface 104 (Value.agg #[]), Value.bool true, Value.tuple #[Value.iface 104 (Value.agg #[]), Value.bool true], Value.iface 104 (Value.agg #[]), Value.tuple #[Value.iface 104 (Value.agg #[]), Value.bool true], Value.iface 104 (Value.agg #[]), Value.bool true, Value.bool true, undef, undef] := rfl
  rw [eT]
  go_wp2_with (go_at_call 112; refine (c_code _).mono ?_; rintro e w1 ⟨rfl, hw1⟩; have hc1 := hcc.out w1 hw1; obtain ⟨hc1, hz1⟩ := hc1)
  cases c₀
  simp_all [bodyPostS, results, Try.results83]
  exact ⟨w1, hw1, rfl⟩

set_option maxRecDepth 100000 in
theorem catch_idle (p : Addr) (w : World) :
    CallsD Try.prog 83 #[.pointer (some p)] .returning w fun e u' w' => e = .returned (.tuple #[]) ∧ u' = .returning ∧ w' = w := by
  have hta : ∀ w : World, (Instr.typeAssert .nilIface 20 100 true).run Try.prog w = .ok (.tuple #[.nilIface, .bool false]) w := fun _ => by kernel_rfl
  refine callsD_of_wpS Try.func83 rfl fun c₀ cs hu => ?_
  apply wpS_seq
  apply wpS_region
  simp [wpOpsS, go_sem, recoverD, hu, hta, Try.ntmps83, Exit.thenS]
  apply wpS_seq
  apply wpS_region
  simp [wpOpsS, go_sem, Exit.thenS]
  refine wpS_cond (t := false) (by simp [Act.eval, Array.replicate]) ?_
  simp only [Bool.false_eq_true, if_false]
  refine wpS_of_wp (wp_skip ?_)
  cases c₀
  simp_all [bodyPostS, results, Try.results83]

set_option maxRecDepth 100000 in
set_option maxHeartbeats 800000 in
theorem c_made (caps : Array Value) (z : Int) (w : World) (hF : ∀ W, Stays w W → Calls Try.prog 59 caps W fun e w' => e = .returned (.int .u8 z) ∧ Stays W w') :
    Calls Try.prog 58 #[.func (Fn.func 59) #[] caps] w fun e w' => e = .returned (.tuple #[.int .u8 z, .int .i64 0]) ∧ Stays w w' := by
  have hmf : ∀ (fn : Fn) (first cap : Array Value) (w : World), (Instr.makeFunc fn first cap).run Try.prog w = .ok (.func fn first cap) w := fun _ _ _ _ => rfl
  have hb := heap_alloc_new w (.cells #[.int .i64 0] 2)
  have hst : Stays w (w.alloc (.cells #[.int .i64 0] 2)) := by (repeat (first | exact Stays.refl _ | (with_reducible refine Stays.drewN ?_ _) | (with_reducible refine Stays.alloc ?_ _) | (with_reducible refine Stays.drew ?_) | (refine Stays.trans ?_ ‹Stays _ _›)))
  have hC : Hid (∀ w1, Stays (w.alloc (.cells #[.int .i64 0] 2)) w1 → w1.cell? ⟨w.heap.size, 0, none⟩ = some (.int .i64 0) ∧ w1.frozen? ⟨w.heap.size, 0, none⟩ = false) := Lib.hid fun w1 h => ⟨row_of h hb 0, by rw [h.frozen (p := ⟨w.heap.size, 0, none⟩) (in_heap hb)]; exact frozen_of_row _ _ _ _ _ hb⟩
  have kF := Lib.hid (hF _ hst)
  replace hst := Lib.hid hst
  clear hF hb
  go_enter_defers Try.func58, Try.ntmps58
  go_wp2_with (go_at_call 59; refine kF.out.mono ?_; rintro e w1 ⟨rfl, hw1⟩; obtain ⟨hc1, hz1⟩ := hC.out w1 hw1)
  have hc2 : (w1.setCell ⟨w.heap.size, 0, none⟩ (.int .i64 0)).cell? ⟨w.heap.size, 0, none⟩ = some (.int .i64 0) := World.cell?_setCell_same _ _ _ (by rw [hc1])
  have hfin : Stays w (w1.setCell ⟨w.heap.size, 0, none⟩ (.int .i64 0)) := (show Below w.heap.size w w1 from hst.out.trans hw1).setCell (Nat.le_refl _) _
  refine leaves_cons (f := 83) (args := #[.pointer (some ⟨w.heap.size, 0, none⟩)]) (by simp) (by simp [go_sem]) ?_
  refine (catch_idle _ _).mono ?_
  rintro e u' w'' ⟨rfl, rfl, rfl⟩
  simp [Leaves, settle, results, Try.results58, go_sem, hc2, hfin]

set_option maxRecDepth 100000 in
set_option maxHeartbeats 800000 in
theorem c_madeP (caps : Array Value) (w : World) (hF : ∀ W, Stays w W → Calls Try.prog 59 caps W fun e w' => e = .panicked noSpotP ∧ Stays W w') :
    Calls Try.prog 58 #[.func (Fn.func 59) #[] caps] w fun e w' => e = .returned (.tuple #[.int .u8 0, .int .i64 2]) ∧ Stays w w' := by
  have hmf : ∀ (fn : Fn) (first cap : Array Value) (w : World), (Instr.makeFunc fn first cap).run Try.prog w = .ok (.func fn first cap) w := fun _ _ _ _ => rfl
  have hb := heap_alloc_new w (.cells #[.int .i64 0] 2)
  have hst : Stays w (w.alloc (.cells #[.int .i64 0] 2)) := by (repeat (first | exact Stays.refl _ | (with_reducible refine Stays.drewN ?_ _) | (with_reducible refine Stays.alloc ?_ _) | (with_reducible refine Stays.drew ?_) | (refine Stays.trans ?_ ‹Stays _ _›)))
  have hC : Hid (∀ w1, Stays (w.alloc (.cells #[.int .i64 0] 2)) w1 → w1.cell? ⟨w.heap.size, 0, none⟩ = some (.int .i64 0) ∧ w1.frozen? ⟨w.heap.size, 0, none⟩ = false) := Lib.hid fun w1 h => ⟨row_of h hb 0, by rw [h.frozen (p := ⟨w.heap.size, 0, none⟩) (in_heap hb)]; exact frozen_of_row _ _ _ _ _ hb⟩
  have kF := Lib.hid (hF _ hst)
  replace hst := Lib.hid hst
  clear hF hb
  go_enter_defers Try.func58, Try.ntmps58
  go_wp2_with (go_at_call 59; refine kF.out.mono ?_; rintro e w1 ⟨rfl, hw1⟩)
  obtain ⟨hc1, hz1⟩ := hC.out w1 hw1
  refine leaves_cons (f := 83) (args := #[.pointer (some ⟨w.heap.size, 0, none⟩)]) (by simp) (by simp [go_sem]) ?_
  refine (catch_panicking _ _ _ hc1 hz1).mono ?_
  rintro e u' w'' ⟨rfl, rfl, w2, hw2, rfl⟩
  have hc3 : w2.cell? ⟨w.heap.size, 0, none⟩ = some (.int .i64 0) := (hC.out w2 (hw1.trans hw2)).1
  have hc2 : (w2.setCell ⟨w.heap.size, 0, none⟩ (.int .i64 2)).cell? ⟨w.heap.size, 0, none⟩ = some (.int .i64 2) := World.cell?_setCell_same _ _ _ (by rw [hc3])
  have hfin : Stays w (w2.setCell ⟨w.heap.size, 0, none⟩ (.int .i64 2)) := (show Below w.heap.size w w2 from hst.out.trans (hw1.trans hw2)).setCell (Nat.le_refl _) _
  simp [Leaves, settle, results, Try.results58, go_sem, hc2, hfin]
end Go.Proofs.Ytdahlpljgcibfaa
