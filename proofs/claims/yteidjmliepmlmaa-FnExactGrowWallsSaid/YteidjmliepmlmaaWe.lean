/- A grid with another cost, as the program makes it. No condition. -/
import Derived.Test.YteidjmliepmlmaaWc
import Derived.Test.YteidjmliepmlmaaWd
import Derived.Test.YteidjmliepmlmaaGeD
namespace Go.Proofs.Yteidjmliepmlmaa
open Go Go.RowKit
set_option linter.unusedVariables false
set_option linter.unusedSimpArgs false

theorem add_zero_b (g m : Nat) : (⟨g, 0, none⟩ : Addr).add m = ⟨g, m, none⟩ := by unfold Addr.add; split <;> simp_all

set_option maxRecDepth 100000 in
theorem catchG_panicking (p : Addr) (z : Value) (w : World) (hc : w.cell? p = some z) (hz : w.frozen? p = false) :
    CallsD Try.prog 87 #[.pointer (some p)] (.panicking noSpotP) w fun e u' w' =>
      e = .returned (.tuple #[]) ∧ u' = .panicking [{ v := .iface 111 (.agg #[]), recovered := true }] ∧ ∃ w1, Stays w w1 ∧ w' = w1.setCell p (.int .i64 2) := by
  unfold noSpotP
  have hta : ∀ w : World, (Instr.typeAssert (.iface 111 (.agg #[])) 20 107 true).run Try.prog w = .ok (.tuple #[.iface 111 (.agg #[]), .bool true]) w := fun _ => by kernel_rfl
  have hme : ∀ w : World, (method 235 111 (.agg #[]) "loop.example/g01204/impl.code").run Try.prog w = .ok (121, .agg #[]) w := fun _ => by kernel_rfl
  have hcc : Hid (∀ w1, Stays w w1 → w1.cell? p = some z ∧ w1.frozen? p = false) := Lib.hid fun w1 h => ⟨(h.cell (World.block_lt_of_cell? _ _ hc)).trans hc, (h.frozen (World.block_lt_of_cell? _ _ hc)).trans hz⟩
  refine callsD_of_wpS Try.func87 rfl fun c₀ cs hu => ?_
  apply wpS_seq
  apply wpS_region
  simp [wpOpsS, go_sem, recoverD, hu, hta, Try.ntmps87, Exit.thenS]
  apply wpS_seq
  apply wpS_region
  simp [wpOpsS, go_sem, Exit.thenS]
  refine wpS_cond (t := true) (by simp [Act.eval, Array.replicate]) ?_
  simp only [if_true]
  refine wpS_of_wp ?_
  have eT : (#[Value.pointer (some p)] ++ (((((((((Array.replicate 10 undef).setIfInBounds 3 (Value.iface 111 (Value.agg #[]))).setIfInBounds 4 (Value.tuple #[Value.iface 111 (Value.agg #[]), Value.bool true])).setIfInBounds 2 (Value.tuple #[Value.iface 111 (Value.agg #[]), Value.bool true])).setIfInBounds 5 (Value.iface 111 (Value.agg #[]))).setIfInBounds 6 (Value.bool true)).setIfInBounds 0 (Value.iface 111 (Value.agg #[]))).setIfInBounds 1 (Value.bool true)).setIfInBounds 7 (Value.bool true)) : Array Value) = #[Value.pointer (some p), Value.iface 111 (Value.agg #[]), Value.bool true, Value.tuple #[Value.iface 111 (Value.agg #[]), Value.bool true], Value.iface 111 (Value.agg #[]), Value.tuple #[Value.iface 111 (Value.agg #[]), Value.bool true], Value.iface 111 (Value.agg #[]), Value.bool true, Value.bool true, undef, undef] := rfl
  rw [eT]
  go_wp2_with (go_at_call 121; refine (c_code _).mono ?_; rintro e w1 ⟨rfl, hw1⟩; have hc1 := hcc.out w1 hw1; obtain ⟨hc1, hz1⟩ := hc1)
  cases c₀
  simp_all [bodyPostS, results, Try.results87]
  exact ⟨w1, hw1, rfl⟩

set_option maxRecDepth 100000 in
theorem catchG_idle (p : Addr) (w : World) :
    CallsD Try.prog 87 #[.pointer (some p)] .returning w fun e u' w' => e = .returned (.tuple #[]) ∧ u' = .returning ∧ w' = w := by
  have hta : ∀ w : World, (Instr.typeAssert .nilIface 20 107 true).run Try.prog w = .ok (.tuple #[.nilIface, .bool false]) w := fun _ => by kernel_rfl
  refine callsD_of_wpS Try.func87 rfl fun c₀ cs hu => ?_
  apply wpS_seq
  apply wpS_region
  simp [wpOpsS, go_sem, recoverD, hu, hta, Try.ntmps87, Exit.thenS]
  apply wpS_seq
  apply wpS_region
  simp [wpOpsS, go_sem, Exit.thenS]
  refine wpS_cond (t := false) (by simp [Act.eval, Array.replicate]) ?_
  simp only [Bool.false_eq_true, if_false]
  refine wpS_of_wp (wp_skip ?_)
  cases c₀
  simp_all [bodyPostS, results, Try.results87]


set_option maxRecDepth 100000 in
set_option maxHeartbeats 800000 in
theorem c_madeG (a b : Int) (xs : List Int) (caps : Array Value) (w : World) (hF : ∀ W, Stays w W → Calls Try.prog 52 caps W (CDone W a b xs)) :
    Calls Try.prog 51 #[.func (Fn.func 52) #[] caps] w (GDone w a b xs 0) := by
  have hmf : ∀ (fn : Fn) (first cap : Array Value) (w : World), (Instr.makeFunc fn first cap).run Try.prog w = .ok (.func fn first cap) w := fun _ _ _ _ => rfl
  have hb0 : ((w.alloc (.cells #[.int .i64 0, .int .i64 0, .slice none 0 0] 28)).alloc (.cells #[.int .i64 0] 2)).heap[w.heap.size]? = some (.cells #[.int .i64 0, .int .i64 0, .slice none 0 0] 28 (0, 0)) := by (repeat (first | (refine heap_top _ _ _ ?_; simp; done) | (with_reducible refine heap_drawn _ _ _ ?_) | (with_reducible refine heap_under _ _ _ ?_ ?_; (simp <;> omega))))
  have hb1 : ((w.alloc (.cells #[.int .i64 0, .int .i64 0, .slice none 0 0] 28)).alloc (.cells #[.int .i64 0] 2)).heap[w.heap.size + 1]? = some (.cells #[.int .i64 0] 2 (0, 0)) := by (repeat (first | (refine heap_top _ _ _ ?_; simp; done) | (with_reducible refine heap_drawn _ _ _ ?_) | (with_reducible refine heap_under _ _ _ ?_ ?_; (simp <;> omega))))
  have hst : Stays w ((w.alloc (.cells #[.int .i64 0, .int .i64 0, .slice none 0 0] 28)).alloc (.cells #[.int .i64 0] 2)) := by (repeat (first | exact Stays.refl _ | (with_reducible refine Stays.drewN ?_ _) | (with_reducible refine Stays.alloc ?_ _) | (with_reducible refine Stays.drew ?_) | (refine Stays.trans ?_ ‹Stays _ _›)))
  have hsz : ((w.alloc (.cells #[.int .i64 0, .int .i64 0, .slice none 0 0] 28)).alloc (.cells #[.int .i64 0] 2)).heap.size = w.heap.size + 1 + 1 := by simp
  have kF := Lib.hid (hF _ hst)
  replace hst := Lib.hid hst
  replace hb0 := Lib.hid hb0
  replace hb1 := Lib.hid hb1
  replace hsz := Lib.hid hsz
  clear hF
  go_enter_defers Try.func51, Try.ntmps51
  go_wp2_with fail
  refine kF.out.mono ?_
  rintro e w1 ⟨g, c', rfl, hw1, ⟨hge, hgl⟩, hL, hcap⟩
  have hge2 : w.heap.size + 1 + 1 ≤ g := by have := hsz.out; omega
  have hres := (Below.block hw1 _ (in_heap hb0.out)).trans hb0.out
  have hr1 := (Below.block hw1 _ (in_heap hb1.out)).trans hb1.out
  have hst1 : Stays w w1 := hst.out.trans hw1
  replace hL := Lib.hid hL
  replace hge2 := Lib.hid hge2
  replace hgl := Lib.hid hgl
  replace hr1 := Lib.hid hr1
  clear hw1 hge hcap hst hb0 hb1 hsz kF
  go_wp2_with (refine wpList_store_row rfl _ _ _ rfl _ _ _ rfl rfl hres ?hi ?ho ?h1 ?hB hst1 ?_; (case hi => kernel_rfl); (case ho => rfl); (case h1 => first | rfl | simp [Value.oneCell']); (case hB => first | omega | (simp <;> omega)); intro w2 hw2 hq2 hother hsame; have hr2 := (hother (w.heap.size + 1) (in_heap hr1.out) (by omega)).trans hr1.out; have hg2 := Lib.hid (hother g hgl.out (by have := hge2.out; omega)); have c2 : w2.cell? ⟨w.heap.size + 1, 0, none⟩ = some (.int .i64 0) := cell_of_row _ _ _ _ _ _ hr2; have d2 : w2.frozen? ⟨w.heap.size + 1, 0, none⟩ = false := frozen_of_row _ _ _ _ _ hr2; have hlt2 := Lib.hid (show g < w2.heap.size from by have := hgl.out; omega); have hsz2 := Lib.hid (show w1.heap.size ≤ w2.heap.size from by omega))
  have hc2 : (w2.setCell ⟨w.heap.size + 1, 0, none⟩ (.int .i64 0)).cell? ⟨w.heap.size + 1, 0, none⟩ = some (.int .i64 0) := World.cell?_setCell_same _ _ _ (by rw [c2])
  have hq3 := (heap_setCell_other w2 ⟨w.heap.size + 1, 0, none⟩ w.heap.size (.int .i64 0) (by simp)).trans hq2
  have hlv := fun d hu hd hi => run_loadVar_row (P := Try.prog) (w2.setCell ⟨w.heap.size + 1, 0, none⟩ (.int .i64 0)) w.heap.size 28 28 _ (0, 0) d hq3 hu hd hi
  replace hlv := hlv _ Try.underlying28 rfl (by kernel_rfl)
  have y0 : w2.cell? ⟨w.heap.size, 0, none⟩ = some (.int .i64 a) := cell_of_row _ _ _ _ _ _ hq2
  have y1 : w2.cell? ⟨w.heap.size, 1, none⟩ = some (.int .i64 b) := cell_of_row _ _ _ _ _ _ hq2
  have y2 : w2.cell? ⟨w.heap.size, 2, none⟩ = some (.slice (some ⟨g, 0, none⟩) xs.length c') := cell_of_row _ _ _ _ _ _ hq2
  have hfin : Stays w (w2.setCell ⟨w.heap.size + 1, 0, none⟩ (.int .i64 0)) := Below.setCell hw2 (by show w.heap.size ≤ w.heap.size + 1; omega) _
  have hL2 : LiesB (w2.setCell ⟨w.heap.size + 1, 0, none⟩ (.int .i64 0)) g (.slice (some ⟨g, 0, none⟩) xs.length c') xs := LiesR.on hL.out fun _ => (block_same hg2.out hsz2.out).trans (same_sets (w.heap.size + 1) g 0 [.int .i64 0] w2 (by have := hge2.out; omega))
  have hlt3 : g < (w2.setCell ⟨w.heap.size + 1, 0, none⟩ (.int .i64 0)).heap.size := by simp [World.setCell]; exact hlt2.out
  refine leaves_cons (f := 87) (args := #[.pointer (some ⟨w.heap.size + 1, 0, none⟩)]) (by simp) (by simp [go_sem]) ?_
  refine (catchG_idle _ _).mono ?_
  rintro e u' w'' ⟨rfl, rfl, rfl⟩
  simp [Leaves, settle, results, Try.results51, go_sem, hc2, y0, y1, y2]
  trace_state
  exact ⟨g, some ⟨g, 0, none⟩, c', rfl, hfin, ⟨by have := hge2.out; omega, hlt3⟩, hL2⟩

set_option maxRecDepth 100000 in
set_option maxHeartbeats 800000 in
theorem c_madeGP (caps : Array Value) (w : World) (hF : ∀ W, Stays w W → Calls Try.prog 52 caps W fun e w' => e = .panicked noSpotP ∧ Stays W w') :
    Calls Try.prog 51 #[.func (Fn.func 52) #[] caps] w (GDone w 0 0 [] 2) := by
  have hmf : ∀ (fn : Fn) (first cap : Array Value) (w : World), (Instr.makeFunc fn first cap).run Try.prog w = .ok (.func fn first cap) w := fun _ _ _ _ => rfl
  have hb0 : ((w.alloc (.cells #[.int .i64 0, .int .i64 0, .slice none 0 0] 28)).alloc (.cells #[.int .i64 0] 2)).heap[w.heap.size]? = some (.cells #[.int .i64 0, .int .i64 0, .slice none 0 0] 28 (0, 0)) := by (repeat (first | (refine heap_top _ _ _ ?_; simp; done) | (with_reducible refine heap_drawn _ _ _ ?_) | (with_reducible refine heap_under _ _ _ ?_ ?_; (simp <;> omega))))
  have hb1 : ((w.alloc (.cells #[.int .i64 0, .int .i64 0, .slice none 0 0] 28)).alloc (.cells #[.int .i64 0] 2)).heap[w.heap.size + 1]? = some (.cells #[.int .i64 0] 2 (0, 0)) := by (repeat (first | (refine heap_top _ _ _ ?_; simp; done) | (with_reducible refine heap_drawn _ _ _ ?_) | (with_reducible refine heap_under _ _ _ ?_ ?_; (simp <;> omega))))
  have hst : Stays w ((w.alloc (.cells #[.int .i64 0, .int .i64 0, .slice none 0 0] 28)).alloc (.cells #[.int .i64 0] 2)) := by (repeat (first | exact Stays.refl _ | (with_reducible refine Stays.drewN ?_ _) | (with_reducible refine Stays.alloc ?_ _) | (with_reducible refine Stays.drew ?_) | (refine Stays.trans ?_ ‹Stays _ _›)))
  have HR := Lib.hid fun W (h : Stays ((w.alloc (.cells #[.int .i64 0, .int .i64 0, .slice none 0 0] 28)).alloc (.cells #[.int .i64 0] 2)) W) => And.intro ((Below.block h _ (in_heap hb0)).trans hb0) ((Below.block h _ (in_heap hb1)).trans hb1)
  have kF := Lib.hid (hF _ hst)
  replace hst := Lib.hid hst
  clear hF hb0 hb1
  go_enter_defers Try.func51, Try.ntmps51
  go_wp2_with (go_at_call 52; refine kF.out.mono ?_; rintro e w1 ⟨rfl, hw1⟩)
  have hr1 := (HR.out w1 hw1).2
  have hc1 : w1.cell? ⟨w.heap.size + 1, 0, none⟩ = some (.int .i64 0) := cell_of_row _ _ _ _ _ _ hr1
  have hz1 : w1.frozen? ⟨w.heap.size + 1, 0, none⟩ = false := frozen_of_row _ _ _ _ _ hr1
  refine leaves_cons (f := 87) (args := #[.pointer (some ⟨w.heap.size + 1, 0, none⟩)]) (by simp) (by simp [go_sem]) ?_
  refine (catchG_panicking _ _ _ hc1 hz1).mono ?_
  rintro e u' w'' ⟨rfl, rfl, w2, hw2, rfl⟩
  obtain ⟨hq2, hr2⟩ := HR.out w2 (hw1.trans hw2)
  have c2 : w2.cell? ⟨w.heap.size + 1, 0, none⟩ = some (.int .i64 0) := cell_of_row _ _ _ _ _ _ hr2
  have hc2 : (w2.setCell ⟨w.heap.size + 1, 0, none⟩ (.int .i64 2)).cell? ⟨w.heap.size + 1, 0, none⟩ = some (.int .i64 2) := World.cell?_setCell_same _ _ _ (by rw [c2])
  have hq3 := (heap_setCell_other w2 ⟨w.heap.size + 1, 0, none⟩ w.heap.size (.int .i64 2) (by simp)).trans hq2
  have hlv := run_loadVar_row (P := Try.prog) (w2.setCell ⟨w.heap.size + 1, 0, none⟩ (.int .i64 2)) w.heap.size 28 28 _ (0, 0) _ hq3 Try.underlying28 rfl (by kernel_rfl)
  have y0 : w2.cell? ⟨w.heap.size, 0, none⟩ = some (.int .i64 0) := cell_of_row _ _ _ _ _ _ hq2
  have y1 : w2.cell? ⟨w.heap.size, 1, none⟩ = some (.int .i64 0) := cell_of_row _ _ _ _ _ _ hq2
  have y2 : w2.cell? ⟨w.heap.size, 2, none⟩ = some (.slice none 0 0) := cell_of_row _ _ _ _ _ _ hq2
  have hfin : Stays w (w2.setCell ⟨w.heap.size + 1, 0, none⟩ (.int .i64 2)) := Below.setCell (show Below w.heap.size w w2 from hst.out.trans (hw1.trans hw2)) (by show w.heap.size ≤ w.heap.size + 1; omega) _
  have hin := in_heap hq3
  simp [Leaves, settle, results, Try.results51, go_sem, hc2, y0, y1, y2]
  trace_state
  exact ⟨w.heap.size, none, 0, rfl, hfin, ⟨Nat.le_refl _, hin⟩, lies_nil _ _⟩
end Go.Proofs.Yteidjmliepmlmaa
