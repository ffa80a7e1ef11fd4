/- Rows of three numbers; the vector of counts. The mean of a feed, as the program has it. The mean of a feed, as the document has it. The law on the mean of a feed. No condition. -/
import Derived.Test.YtmcbeaihjdnelaaFz
import Derived.Test.YtmcbeaihjdnelaaScw
import Derived.Test.YtmcbeaihjdnelaaLk
import Derived.Test.YtmcbeaihjdnelaaLi
import Derived.Test.YtmcbeaihjdnelaaGz
namespace Go.Proofs.Ytmcbeaihjdnelaa
open Go Go.RowKit
set_option linter.unusedVariables false
set_option linter.unusedSimpArgs false


def V3 (a b c : Option Nat) (v : Value) : Prop := ∃ x y z, v = .agg #[.float .f32 x, .float .f32 y, .float .f32 z] ∧ FIs .f32 x a ∧ FIs .f32 y b ∧ FIs .f32 z c
def V3Done (w : World) (code : Int) (a b c : Option Nat) (e : Ending) (w' : World) : Prop := ∃ x y z, e = .returned (.tuple #[.agg #[.float .f32 x, .float .f32 y, .float .f32 z], .int .i64 code]) ∧ FIs .f32 x a ∧ FIs .f32 y b ∧ FIs .f32 z c ∧ Stays w w'

set_option maxRecDepth 100000 in
set_option maxHeartbeats 4000000 in
theorem c_AddV (ax ay az bx by_ bz : Nat) (w : World) :
    Calls Try.prog 59 #[.agg #[.float .f32 ax, .float .f32 ay, .float .f32 az], .agg #[.float .f32 bx, .float .f32 by_, .float .f32 bz]] w fun e w' => ∃ v, e = .returned v ∧ V3 (fop .add .f32 (can .f32 ax) (can .f32 bx)) (fop .add .f32 (can .f32 ay) (can .f32 by_)) (fop .add .f32 (can .f32 az) (can .f32 bz)) v ∧ Stays w w' := by
  have hst : Stays w (((w.alloc (.cells #[.float .f32 ax, .float .f32 ay, .float .f32 az] 28)).alloc (.cells #[.float .f32 bx, .float .f32 by_, .float .f32 bz] 28)).alloc (.cells #[.float .f32 0, .float .f32 0, .float .f32 0] 28)) := by (repeat (first | exact Stays.refl _ | (with_reducible refine Stays.drewN ?_ _) | (with_reducible refine Stays.alloc ?_ _) | (with_reducible refine Stays.drew ?_) | (refine Stays.trans ?_ ‹Stays _ _›)))
  have hres : (((w.alloc (.cells #[.float .f32 ax, .float .f32 ay, .float .f32 az] 28)).alloc (.cells #[.float .f32 bx, .float .f32 by_, .float .f32 bz] 28)).alloc (.cells #[.float .f32 0, .float .f32 0, .float .f32 0] 28)).heap[w.heap.size + 1 + 1]? = some (.cells #[.float .f32 0, .float .f32 0, .float .f32 0] 28 (0, 0)) := by (repeat (first | (refine heap_top _ _ _ ?_; simp; done) | (with_reducible refine heap_drawn _ _ _ ?_) | (with_reducible refine heap_under _ _ _ ?_ ?_; (simp <;> omega))))
  have hresn := fun n => (show ((((w.alloc (.cells #[.float .f32 ax, .float .f32 ay, .float .f32 az] 28)).alloc (.cells #[.float .f32 bx, .float .f32 by_, .float .f32 bz] 28)).alloc (.cells #[.float .f32 0, .float .f32 0, .float .f32 0] 28)).drewN n).heap[w.heap.size + 1 + 1]? = _ from hres)
  have hstn := fun n => hst.drewN n
  have u0 : (((w.alloc (.cells #[.float .f32 ax, .float .f32 ay, .float .f32 az] 28)).alloc (.cells #[.float .f32 bx, .float .f32 by_, .float .f32 bz] 28)).alloc (.cells #[.float .f32 0, .float .f32 0, .float .f32 0] 28)).heap[w.heap.size]? = some (.cells #[.float .f32 ax, .float .f32 ay, .float .f32 az] 28 (0, 0)) := by (repeat (first | (refine heap_top _ _ _ ?_; simp; done) | (with_reducible refine heap_drawn _ _ _ ?_) | (with_reducible refine heap_under _ _ _ ?_ ?_; (simp <;> omega))))
  have c0 := fun n (j : Nat) => cell_of_row ((((w.alloc (.cells #[.float .f32 ax, .float .f32 ay, .float .f32 az] 28)).alloc (.cells #[.float .f32 bx, .float .f32 by_, .float .f32 bz] 28)).alloc (.cells #[.float .f32 0, .float .f32 0, .float .f32 0] 28)).drewN n) _ j _ _ _ u0
  have u1 : (((w.alloc (.cells #[.float .f32 ax, .float .f32 ay, .float .f32 az] 28)).alloc (.cells #[.float .f32 bx, .float .f32 by_, .float .f32 bz] 28)).alloc (.cells #[.float .f32 0, .float .f32 0, .float .f32 0] 28)).heap[w.heap.size + 1]? = some (.cells #[.float .f32 bx, .float .f32 by_, .float .f32 bz] 28 (0, 0)) := by (repeat (first | (refine heap_top _ _ _ ?_; simp; done) | (with_reducible refine heap_drawn _ _ _ ?_) | (with_reducible refine heap_under _ _ _ ?_ ?_; (simp <;> omega))))
  go_enter Try.func59, Try.ntmps59
  go_wp2_with (first | ((with_reducible refine wpList_fop rfl _ _ _ _ _ rfl rfl _ _ _ rfl rfl ?_); intro r n hr; have hs := Lib.hid hr; clear hr) | ((refine wpList_store_row rfl _ _ _ rfl _ _ _ rfl rfl (hresn _) ?hi ?ho ?h1 ?hB (hstn _) ?_); (case hi => kernel_rfl); (case ho => rfl); (case h1 => first | rfl | simp [Value.oneCell']); (case hB => first | omega | (simp <;> omega)); intro w9 hw9 hq9 _ _))
  apply end_agg rfl rfl rfl Try.underlying28 rfl (t := 28)
  case hg => exact hq9
  case hi => kernel_rfl
  case hR =>
  rename_i r1 n1 h1 r2 n2 h2 e1 e2
  exact ⟨_, rfl, ⟨_, _, _, rfl, h1.out, h2.out, hs.out⟩, hw9⟩

set_option maxRecDepth 100000 in
set_option maxHeartbeats 4000000 in
theorem c_DivV (ax ay az s : Nat) (w : World) :
    Calls Try.prog 60 #[.agg #[.float .f32 ax, .float .f32 ay, .float .f32 az], .float .f32 s] w fun e w' => ∃ v, e = .returned v ∧ V3 (fop .quo .f32 (can .f32 ax) (can .f32 s)) (fop .quo .f32 (can .f32 ay) (can .f32 s)) (fop .quo .f32 (can .f32 az) (can .f32 s)) v ∧ Stays w w' := by
  have hst : Stays w ((w.alloc (.cells #[.float .f32 ax, .float .f32 ay, .float .f32 az] 28)).alloc (.cells #[.float .f32 0, .float .f32 0, .float .f32 0] 28)) := by (repeat (first | exact Stays.refl _ | (with_reducible refine Stays.drewN ?_ _) | (with_reducible refine Stays.alloc ?_ _) | (with_reducible refine Stays.drew ?_) | (refine Stays.trans ?_ ‹Stays _ _›)))
  have hres : ((w.alloc (.cells #[.float .f32 ax, .float .f32 ay, .float .f32 az] 28)).alloc (.cells #[.float .f32 0, .float .f32 0, .float .f32 0] 28)).heap[w.heap.size + 1]? = some (.cells #[.float .f32 0, .float .f32 0, .float .f32 0] 28 (0, 0)) := by (repeat (first | (refine heap_top _ _ _ ?_; simp; done) | (with_reducible refine heap_drawn _ _ _ ?_) | (with_reducible refine heap_under _ _ _ ?_ ?_; (simp <;> omega))))
  have hresn := fun n => (show (((w.alloc (.cells #[.float .f32 ax, .float .f32 ay, .float .f32 az] 28)).alloc (.cells #[.float .f32 0, .float .f32 0, .float .f32 0] 28)).drewN n).heap[w.heap.size + 1]? = _ from hres)
  have hstn := fun n => hst.drewN n
  have u0 : ((w.alloc (.cells #[.float .f32 ax, .float .f32 ay, .float .f32 az] 28)).alloc (.cells #[.float .f32 0, .float .f32 0, .float .f32 0] 28)).heap[w.heap.size]? = some (.cells #[.float .f32 ax, .float .f32 ay, .float .f32 az] 28 (0, 0)) := by (repeat (first | (refine heap_top _ _ _ ?_; simp; done) | (with_reducible refine heap_drawn _ _ _ ?_) | (with_reducible refine heap_under _ _ _ ?_ ?_; (simp <;> omega))))
  have c0 := fun n (j : Nat) => cell_of_row (((w.alloc (.cells #[.float .f32 ax, .float .f32 ay, .float .f32 az] 28)).alloc (.cells #[.float .f32 0, .float .f32 0, .float .f32 0] 28)).drewN n) _ j _ _ _ u0
  go_enter Try.func60, Try.ntmps60
  go_wp2_with (first | ((with_reducible refine wpList_fop rfl _ _ _ _ _ rfl rfl _ _ _ rfl rfl ?_); intro r n hr; have hs := Lib.hid hr; clear hr) | ((refine wpList_store_row rfl _ _ _ rfl _ _ _ rfl rfl (hresn _) ?hi ?ho ?h1 ?hB (hstn _) ?_); (case hi => kernel_rfl); (case ho => rfl); (case h1 => first | rfl | simp [Value.oneCell']); (case hB => first | omega | (simp <;> omega)); intro w9 hw9 hq9 _ _))
  apply end_agg rfl rfl rfl Try.underlying28 rfl (t := 28)
  case hg => exact hq9
  case hi => kernel_rfl
  case hR =>
  rename_i r1 n1 h1 r2 n2 h2 e1 e2
  exact ⟨_, rfl, ⟨_, _, _, rfl, h1.out, h2.out, hs.out⟩, hw9⟩

/-- A count as a number. -/
noncomputable def cvO (s o : Option Nat) (c : Int) : Option Nat := fop .add .f32 (fop .mul .f32 (can .f32 (floatOfInt .f32 c)) s) o

theorem sen_cells {w : World} {p : Nat} {r0 r1 r2 r3 r4 r5 : Nat} {ev d : Int} (hg : w.heap[p]? = some (.cells (senCells r0 r1 r2 r3 r4 r5 ev d) 32 (0, 0))) : ∀ W, Stays w W → (W.cell? ⟨p, 0, none⟩ = some (.float .f32 r0) ∧ W.cell? ⟨p, 1, none⟩ = some (.float .f32 r1) ∧ W.cell? ⟨p, 2, none⟩ = some (.float .f32 r2)) ∧ (W.cell? ⟨p, 3, none⟩ = some (.float .f32 r3) ∧ W.cell? ⟨p, 4, none⟩ = some (.float .f32 r4) ∧ W.cell? ⟨p, 5, none⟩ = some (.float .f32 r5)) ∧ (W.cell? ⟨p, 6, none⟩ = some (.int .i64 ev) ∧ W.cell? ⟨p, 7, none⟩ = some (.int .i64 d)) := fun W hW =>
  ⟨⟨row_of hW hg 0, row_of hW hg 1, row_of hW hg 2⟩, ⟨row_of hW hg 3, row_of hW hg 4, row_of hW hg 5⟩, row_of hW hg 6, row_of hW hg 7⟩

theorem bs {p : Nat} {w0 w1 w2 : World} (h : Below p w0 w1) (hp : p ≤ w0.heap.size) (h2 : Stays w1 w2) : Below p w0 w2 := h.trans (Below.mono h2 (Nat.le_trans hp h.size))

set_option maxRecDepth 100000 in
set_option maxHeartbeats 4000000 in
theorem c_vecOf (r0 r1 r2 r3 r4 r5 : Nat) (ev d a b c : Int) (w : World) :
    Calls Try.prog 58 #[.agg (senCells r0 r1 r2 r3 r4 r5 ev d), .agg #[.int .i16 a, .int .i16 b, .int .i16 c]] w fun e w' => ∃ v, e = .returned v ∧ V3 (cvO (can .f32 r0) (can .f32 r3) a) (cvO (can .f32 r1) (can .f32 r4) b) (cvO (can .f32 r2) (can .f32 r5) c) v ∧ Stays w w' := by
  have hst : Stays w ((((w.alloc (.cells #[.float .f32 r0, .float .f32 r1, .float .f32 r2, .float .f32 r3, .float .f32 r4, .float .f32 r5, .int .i64 ev, .int .i64 d] 32)).alloc (.cells #[.int .i16 a, .int .i16 b, .int .i16 c] 81)).alloc (.cells #[.float .f32 0, .float .f32 0, .float .f32 0] 28)).alloc (.cells #[.float .f32 0, .float .f32 0, .float .f32 0] 28)) := by (repeat (first | exact Stays.refl _ | (with_reducible refine Stays.drewN ?_ _) | (with_reducible refine Stays.alloc ?_ _) | (with_reducible refine Stays.drew ?_) | (refine Stays.trans ?_ ‹Stays _ _›)))
  have uS : ((((w.alloc (.cells #[.float .f32 r0, .float .f32 r1, .float .f32 r2, .float .f32 r3, .float .f32 r4, .float .f32 r5, .int .i64 ev, .int .i64 d] 32)).alloc (.cells #[.int .i16 a, .int .i16 b, .int .i16 c] 81)).alloc (.cells #[.float .f32 0, .float .f32 0, .float .f32 0] 28)).alloc (.cells #[.float .f32 0, .float .f32 0, .float .f32 0] 28)).heap[w.heap.size]? = some (.cells (senCells r0 r1 r2 r3 r4 r5 ev d) 32 (0, 0)) := by (repeat (first | (refine heap_top _ _ _ ?_; simp; done) | (with_reducible refine heap_drawn _ _ _ ?_) | (with_reducible refine heap_under _ _ _ ?_ ?_; (simp <;> omega))))
  have uC : ((((w.alloc (.cells #[.float .f32 r0, .float .f32 r1, .float .f32 r2, .float .f32 r3, .float .f32 r4, .float .f32 r5, .int .i64 ev, .int .i64 d] 32)).alloc (.cells #[.int .i16 a, .int .i16 b, .int .i16 c] 81)).alloc (.cells #[.float .f32 0, .float .f32 0, .float .f32 0] 28)).alloc (.cells #[.float .f32 0, .float .f32 0, .float .f32 0] 28)).heap[w.heap.size + 1]? = some (.cells #[.int .i16 a, .int .i16 b, .int .i16 c] 81 (0, 0)) := by (repeat (first | (refine heap_top _ _ _ ?_; simp; done) | (with_reducible refine heap_drawn _ _ _ ?_) | (with_reducible refine heap_under _ _ _ ?_ ?_; (simp <;> omega))))
  have uR : ((((w.alloc (.cells #[.float .f32 r0, .float .f32 r1, .float .f32 r2, .float .f32 r3, .float .f32 r4, .float .f32 r5, .int .i64 ev, .int .i64 d] 32)).alloc (.cells #[.int .i16 a, .int .i16 b, .int .i16 c] 81)).alloc (.cells #[.float .f32 0, .float .f32 0, .float .f32 0] 28)).alloc (.cells #[.float .f32 0, .float .f32 0, .float .f32 0] 28)).heap[w.heap.size + 1 + 1]? = some (.cells #[.float .f32 0, .float .f32 0, .float .f32 0] 28 (0, 0)) := by (repeat (first | (refine heap_top _ _ _ ?_; simp; done) | (with_reducible refine heap_drawn _ _ _ ?_) | (with_reducible refine heap_under _ _ _ ?_ ?_; (simp <;> omega))))
  have uP : ((((w.alloc (.cells #[.float .f32 r0, .float .f32 r1, .float .f32 r2, .float .f32 r3, .float .f32 r4, .float .f32 r5, .int .i64 ev, .int .i64 d] 32)).alloc (.cells #[.int .i16 a, .int .i16 b, .int .i16 c] 81)).alloc (.cells #[.float .f32 0, .float .f32 0, .float .f32 0] 28)).alloc (.cells #[.float .f32 0, .float .f32 0, .float .f32 0] 28)).heap[w.heap.size + 1 + 1 + 1]? = some (.cells #[.float .f32 0, .float .f32 0, .float .f32 0] 28 (0, 0)) := by (repeat (first | (refine heap_top _ _ _ ?_; simp; done) | (with_reducible refine heap_drawn _ _ _ ?_) | (with_reducible refine heap_under _ _ _ ?_ ?_; (simp <;> omega))))
  have hB := Lib.hid fun W (hW : Below (w.heap.size + 1 + 1 + 1) ((((w.alloc (.cells #[.float .f32 r0, .float .f32 r1, .float .f32 r2, .float .f32 r3, .float .f32 r4, .float .f32 r5, .int .i64 ev, .int .i64 d] 32)).alloc (.cells #[.int .i16 a, .int .i16 b, .int .i16 c] 81)).alloc (.cells #[.float .f32 0, .float .f32 0, .float .f32 0] 28)).alloc (.cells #[.float .f32 0, .float .f32 0, .float .f32 0] 28)) W) => And.intro (And.intro (cell_of_row W _ 0 _ _ _ ((hW.block _ (by omega)).trans uC)) (And.intro (cell_of_row W _ 1 _ _ _ ((hW.block _ (by omega)).trans uC)) (cell_of_row W _ 2 _ _ _ ((hW.block _ (by omega)).trans uC)))) (And.intro ((hW.block _ (by omega)).trans uR) ((hW.block _ (by omega)).trans uS))
  have hsz := Lib.hid (show w.heap.size + 1 + 1 + 1 ≤ ((((w.alloc (.cells #[.float .f32 r0, .float .f32 r1, .float .f32 r2, .float .f32 r3, .float .f32 r4, .float .f32 r5, .int .i64 ev, .int .i64 d] 32)).alloc (.cells #[.int .i16 a, .int .i16 b, .int .i16 c] 81)).alloc (.cells #[.float .f32 0, .float .f32 0, .float .f32 0] 28)).alloc (.cells #[.float .f32 0, .float .f32 0, .float .f32 0] 28)).heap.size from Nat.le_of_lt (in_heap uP))
  have hrow := Lib.hid uP
  have hst' := Lib.hid hst
  have hs := Lib.hid (Below.refl (w.heap.size + 1 + 1 + 1) ((((w.alloc (.cells #[.float .f32 r0, .float .f32 r1, .float .f32 r2, .float .f32 r3, .float .f32 r4, .float .f32 r5, .int .i64 ev, .int .i64 d] 32)).alloc (.cells #[.int .i16 a, .int .i16 b, .int .i16 c] 81)).alloc (.cells #[.float .f32 0, .float .f32 0, .float .f32 0] 28)).alloc (.cells #[.float .f32 0, .float .f32 0, .float .f32 0] 28)))
  have ei0 : ∀ W, (Instr.index 81 (.agg #[.int .i16 a, .int .i16 b, .int .i16 c]) (.int .i64 0)).run Try.prog W = .ok (.int .i16 a) W := fun _ => by kernel_rfl
  have ei1 : ∀ W, (Instr.index 81 (.agg #[.int .i16 a, .int .i16 b, .int .i16 c]) (.int .i64 1)).run Try.prog W = .ok (.int .i16 b) W := fun _ => by kernel_rfl
  have ei2 : ∀ W, (Instr.index 81 (.agg #[.int .i16 a, .int .i16 b, .int .i16 c]) (.int .i64 2)).run Try.prog W = .ok (.int .i16 c) W := fun _ => by kernel_rfl
  have w_lt : w.heap.size ≤ w.heap.size + 1 + 1 + 1 := by omega
  have hge0 := Lib.hid (Nat.le_refl (w.heap.size + 1 + 1 + 1))
  obtain ⟨⟨q0, q1, q2⟩, _⟩ := hB.out _ hs.out
  clear uC uR uP hst uS
  go_enter Try.func58, Try.ntmps58
  go_wp2
  generalize ((((w.alloc (.cells #[.float .f32 r0, .float .f32 r1, .float .f32 r2, .float .f32 r3, .float .f32 r4, .float .f32 r5, .int .i64 ev, .int .i64 d] 32)).alloc (.cells #[.int .i16 a, .int .i16 b, .int .i16 c] 81)).alloc (.cells #[.float .f32 0, .float .f32 0, .float .f32 0] 28)).alloc (.cells #[.float .f32 0, .float .f32 0, .float .f32 0] 28)) = W4 at hB hs hsz hrow hst' q0 q1 q2 ⊢
  generalize w.heap.size + 1 + 1 + 1 = p0 at hB hs hsz hrow w_lt hge0 ⊢
  replace w_lt := Lib.hid w_lt
  clear q0 q1 q2
  refine wp_loop_rounds 4 ?_
  rw [rounds_succ]
  go_upto_region 5 with fail
  have hcells := fun W (hW : Stays W4 W) => And.intro (hB.out W (bs hs.out hsz.out hW)).1 (sen_cells (hB.out W (bs hs.out hsz.out hW)).2.2 W (Stays.refl _))
  refine wp_region_soft_tail 14 (Stays.refl _) (fun _ _ _ => False) [] (by kernel_rfl) (by kernel_rfl) (fun _ h => by cases h) ?_
  simp only [List.take_succ_cons, List.take_zero, List.drop_succ_cons, List.drop_zero]
  repeat ((with_reducible apply soft_detG); (case hwa => rfl); (case hA => rfl); (case h => (intro w1 hw1; have hc := hcells w1 hw1; go_simp; exact rfl)); go_simp)
  ((with_reducible refine soft_fop rfl ?hA _ _ _ _ _ rfl rfl _ _ _ rfl rfl ?_); (case hA => rfl); intro r0a hr0a; go_simp)
  repeat ((with_reducible apply soft_detG); (case hwa => rfl); (case hA => rfl); (case h => (intro w1 hw1; have hc := hcells w1 hw1; go_simp; exact rfl)); go_simp)
  ((with_reducible refine soft_fop rfl ?hA _ _ _ _ _ rfl rfl _ _ _ rfl rfl ?_); (case hA => rfl); intro r0b hr0b; go_simp)
  repeat ((with_reducible apply soft_detG); (case hwa => rfl); (case hA => rfl); (case h => (intro w1 hw1; have hc := hcells w1 hw1; go_simp; exact rfl)); go_simp)
  refine soft_nil ?_
  rintro v0 ⟨hv, _⟩
  have hp0 := Lib.hid (show FIs .f32 r0b (cvO (can .f32 r0) (can .f32 r3) a) from hr0b.of_eq (by rw [hr0a.out]; rfl))
  replace hrow := Lib.hid ((Below.block hv _ (in_heap hrow.out)).trans hrow.out)
  replace hs := Lib.hid (bs hs.out hsz.out hv)
  clear hcells hv hr0a hr0b
  have c9 := cell_of_row _ _ 0 _ _ _ hrow.out
  have f9 := frozen_of_row _ _ 0 _ _ hrow.out
  go_wp2
  clear c9 f9
  have hrowN : (v0.setCell ⟨p0, 0, none⟩ (.float .f32 r0b)).heap[p0]? = some (.cells #[.float .f32 r0b, .float .f32 0, .float .f32 0] 28 (0, 0)) := heap_setCell_same v0 p0 0 _ _ (.float .f32 r0b) hrow.out
  have hsN : Below p0 W4 (v0.setCell ⟨p0, 0, none⟩ (.float .f32 r0b)) := Below.setCell hs.out hge0.out _
  replace hrow := Lib.hid hrowN
  replace hs := Lib.hid hsN
  clear hrowN hsN
  generalize (v0.setCell ⟨p0, 0, none⟩ (.float .f32 r0b)) = u0 at hrow hs ⊢
  rw [rounds_succ]
  go_upto_region 5 with fail
  have hcells := fun W (hW : Stays u0 W) => And.intro (hB.out W (bs hs.out hsz.out hW)).1 (sen_cells (hB.out W (bs hs.out hsz.out hW)).2.2 W (Stays.refl _))
  refine wp_region_soft_tail 14 (Stays.refl _) (fun _ _ _ => False) [] (by kernel_rfl) (by kernel_rfl) (fun _ h => by cases h) ?_
  simp only [List.take_succ_cons, List.take_zero, List.drop_succ_cons, List.drop_zero]
  repeat ((with_reducible apply soft_detG); (case hwa => rfl); (case hA => rfl); (case h => (intro w1 hw1; have hc := hcells w1 hw1; go_simp; exact rfl)); go_simp)
  ((with_reducible refine soft_fop rfl ?hA _ _ _ _ _ rfl rfl _ _ _ rfl rfl ?_); (case hA => rfl); intro r1a hr1a; go_simp)
  repeat ((with_reducible apply soft_detG); (case hwa => rfl); (case hA => rfl); (case h => (intro w1 hw1; have hc := hcells w1 hw1; go_simp; exact rfl)); go_simp)
  ((with_reducible refine soft_fop rfl ?hA _ _ _ _ _ rfl rfl _ _ _ rfl rfl ?_); (case hA => rfl); intro r1b hr1b; go_simp)
  repeat ((with_reducible apply soft_detG); (case hwa => rfl); (case hA => rfl); (case h => (intro w1 hw1; have hc := hcells w1 hw1; go_simp; exact rfl)); go_simp)
  refine soft_nil ?_
  rintro v1 ⟨hv, _⟩
  have hp1 := Lib.hid (show FIs .f32 r1b (cvO (can .f32 r1) (can .f32 r4) b) from hr1b.of_eq (by rw [hr1a.out]; rfl))
  replace hrow := Lib.hid ((Below.block hv _ (in_heap hrow.out)).trans hrow.out)
  replace hs := Lib.hid (bs hs.out hsz.out hv)
  clear hcells hv hr1a hr1b
  have c9 := cell_of_row _ _ 1 _ _ _ hrow.out
  have f9 := frozen_of_row _ _ 1 _ _ hrow.out
  go_wp2
  clear c9 f9
  have hrowN : (v1.setCell ⟨p0, 1, none⟩ (.float .f32 r1b)).heap[p0]? = some (.cells #[.float .f32 r0b, .float .f32 r1b, .float .f32 0] 28 (0, 0)) := heap_setCell_same v1 p0 1 _ _ (.float .f32 r1b) hrow.out
  have hsN : Below p0 W4 (v1.setCell ⟨p0, 1, none⟩ (.float .f32 r1b)) := Below.setCell hs.out hge0.out _
  replace hrow := Lib.hid hrowN
  replace hs := Lib.hid hsN
  clear hrowN hsN
  generalize (v1.setCell ⟨p0, 1, none⟩ (.float .f32 r1b)) = u1 at hrow hs ⊢
  rw [rounds_succ]
  go_upto_region 5 with fail
  have hcells := fun W (hW : Stays u1 W) => And.intro (hB.out W (bs hs.out hsz.out hW)).1 (sen_cells (hB.out W (bs hs.out hsz.out hW)).2.2 W (Stays.refl _))
  refine wp_region_soft_tail 14 (Stays.refl _) (fun _ _ _ => False) [] (by kernel_rfl) (by kernel_rfl) (fun _ h => by cases h) ?_
  simp only [List.take_succ_cons, List.take_zero, List.drop_succ_cons, List.drop_zero]
  repeat ((with_reducible apply soft_detG); (case hwa => rfl); (case hA => rfl); (case h => (intro w1 hw1; have hc := hcells w1 hw1; go_simp; exact rfl)); go_simp)
  ((with_reducible refine soft_fop rfl ?hA _ _ _ _ _ rfl rfl _ _ _ rfl rfl ?_); (case hA => rfl); intro r2a hr2a; go_simp)
  repeat ((with_reducible apply soft_detG); (case hwa => rfl); (case hA => rfl); (case h => (intro w1 hw1; have hc := hcells w1 hw1; go_simp; exact rfl)); go_simp)
  ((with_reducible refine soft_fop rfl ?hA _ _ _ _ _ rfl rfl _ _ _ rfl rfl ?_); (case hA => rfl); intro r2b hr2b; go_simp)
  repeat ((with_reducible apply soft_detG); (case hwa => rfl); (case hA => rfl); (case h => (intro w1 hw1; have hc := hcells w1 hw1; go_simp; exact rfl)); go_simp)
  refine soft_nil ?_
  rintro v2 ⟨hv, _⟩
  have hp2 := Lib.hid (show FIs .f32 r2b (cvO (can .f32 r2) (can .f32 r5) c) from hr2b.of_eq (by rw [hr2a.out]; rfl))
  replace hrow := Lib.hid ((Below.block hv _ (in_heap hrow.out)).trans hrow.out)
  replace hs := Lib.hid (bs hs.out hsz.out hv)
  clear hcells hv hr2a hr2b
  have c9 := cell_of_row _ _ 2 _ _ _ hrow.out
  have f9 := frozen_of_row _ _ 2 _ _ hrow.out
  go_wp2
  clear c9 f9
  have hrowN : (v2.setCell ⟨p0, 2, none⟩ (.float .f32 r2b)).heap[p0]? = some (.cells #[.float .f32 r0b, .float .f32 r1b, .float .f32 r2b] 28 (0, 0)) := heap_setCell_same v2 p0 2 _ _ (.float .f32 r2b) hrow.out
  have hsN : Below p0 W4 (v2.setCell ⟨p0, 2, none⟩ (.float .f32 r2b)) := Below.setCell hs.out hge0.out _
  replace hrow := Lib.hid hrowN
  replace hs := Lib.hid hsN
  clear hrowN hsN
  generalize (v2.setCell ⟨p0, 2, none⟩ (.float .f32 r2b)) = u2 at hrow hs ⊢
  rw [rounds_succ]
  have g0 := cell_of_row _ _ 0 _ _ _ hrow.out
  have g1 := cell_of_row _ _ 1 _ _ _ hrow.out
  have g2 := cell_of_row _ _ 2 _ _ _ hrow.out
  have hres := (hB.out u2 hs.out).2.1
  have hst : Stays w u2 := Below.trans (show Below w.heap.size w W4 from hst'.out) (Below.mono hs.out w_lt.out)
  go_wp2_with ((refine wpList_store_row rfl _ _ _ rfl _ _ _ rfl rfl hres ?hi ?ho ?h1 ?hB hst ?_); (case hi => kernel_rfl); (case ho => rfl); (case h1 => first | rfl | simp [Value.oneCell']); (case hB => first | omega | (simp <;> omega)); intro w9 hw9 hq9 ho9 hsz9)
  apply end_agg rfl rfl rfl Try.underlying28 rfl (t := 28)
  case hg => exact hq9
  case hi => kernel_rfl
  case hR => exact ⟨_, rfl, ⟨_, _, _, rfl, hp0.out, hp1.out, hp2.out⟩, hw9⟩

set_option maxRecDepth 100000 in
set_option maxHeartbeats 4000000 in
theorem c_l04Vec (p : Nat) (r0 r1 r2 r3 r4 r5 : Nat) (ev d a b c : Int) (w : World) (hg : w.heap[p]? = some (.cells (senCells r0 r1 r2 r3 r4 r5 ev d) 32 (0, 0))) :
    Calls Try.prog 54 #[.pointer (some ⟨p, 0, none⟩), .agg #[.int .i16 a, .int .i16 b, .int .i16 c]] w fun e w' => ∃ v, e = .returned v ∧ V3 (cvO (can .f32 r0) (can .f32 r3) a) (cvO (can .f32 r1) (can .f32 r4) b) (cvO (can .f32 r2) (can .f32 r5) c) v ∧ Stays w w' := by
  have hst : Stays w (((w.alloc (.cells #[.int .i16 a, .int .i16 b, .int .i16 c] 81)).alloc (.cells #[.float .f32 0, .float .f32 0, .float .f32 0] 28)).alloc (.cells #[.float .f32 0, .float .f32 0, .float .f32 0] 28)) := by (repeat (first | exact Stays.refl _ | (with_reducible refine Stays.drewN ?_ _) | (with_reducible refine Stays.alloc ?_ _) | (with_reducible refine Stays.drew ?_) | (refine Stays.trans ?_ ‹Stays _ _›)))
  have hp' := in_heap hg
  have uS : (((w.alloc (.cells #[.int .i16 a, .int .i16 b, .int .i16 c] 81)).alloc (.cells #[.float .f32 0, .float .f32 0, .float .f32 0] 28)).alloc (.cells #[.float .f32 0, .float .f32 0, .float .f32 0] 28)).heap[p]? = some (.cells (senCells r0 r1 r2 r3 r4 r5 ev d) 32 (0, 0)) := (Below.block hst _ hp').trans hg
  have uC : (((w.alloc (.cells #[.int .i16 a, .int .i16 b, .int .i16 c] 81)).alloc (.cells #[.float .f32 0, .float .f32 0, .float .f32 0] 28)).alloc (.cells #[.float .f32 0, .float .f32 0, .float .f32 0] 28)).heap[w.heap.size]? = some (.cells #[.int .i16 a, .int .i16 b, .int .i16 c] 81 (0, 0)) := by (repeat (first | (refine heap_top _ _ _ ?_; simp; done) | (with_reducible refine heap_drawn _ _ _ ?_) | (with_reducible refine heap_under _ _ _ ?_ ?_; (simp <;> omega))))
  have uR : (((w.alloc (.cells #[.int .i16 a, .int .i16 b, .int .i16 c] 81)).alloc (.cells #[.float .f32 0, .float .f32 0, .float .f32 0] 28)).alloc (.cells #[.float .f32 0, .float .f32 0, .float .f32 0] 28)).heap[w.heap.size + 1]? = some (.cells #[.float .f32 0, .float .f32 0, .float .f32 0] 28 (0, 0)) := by (repeat (first | (refine heap_top _ _ _ ?_; simp; done) | (with_reducible refine heap_drawn _ _ _ ?_) | (with_reducible refine heap_under _ _ _ ?_ ?_; (simp <;> omega))))
  have uP : (((w.alloc (.cells #[.int .i16 a, .int .i16 b, .int .i16 c] 81)).alloc (.cells #[.float .f32 0, .float .f32 0, .float .f32 0] 28)).alloc (.cells #[.float .f32 0, .float .f32 0, .float .f32 0] 28)).heap[w.heap.size + 1 + 1]? = some (.cells #[.float .f32 0, .float .f32 0, .float .f32 0] 28 (0, 0)) := by (repeat (first | (refine heap_top _ _ _ ?_; simp; done) | (with_reducible refine heap_drawn _ _ _ ?_) | (with_reducible refine heap_under _ _ _ ?_ ?_; (simp <;> omega))))
  have hB := Lib.hid fun W (hW : Below (w.heap.size + 1 + 1) (((w.alloc (.cells #[.int .i16 a, .int .i16 b, .int .i16 c] 81)).alloc (.cells #[.float .f32 0, .float .f32 0, .float .f32 0] 28)).alloc (.cells #[.float .f32 0, .float .f32 0, .float .f32 0] 28)) W) => And.intro (And.intro (cell_of_row W _ 0 _ _ _ ((hW.block _ (by omega)).trans uC)) (And.intro (cell_of_row W _ 1 _ _ _ ((hW.block _ (by omega)).trans uC)) (cell_of_row W _ 2 _ _ _ ((hW.block _ (by omega)).trans uC)))) (And.intro ((hW.block _ (by omega)).trans uR) ((hW.block _ (by omega)).trans uS))
  have hsz := Lib.hid (show w.heap.size + 1 + 1 ≤ (((w.alloc (.cells #[.int .i16 a, .int .i16 b, .int .i16 c] 81)).alloc (.cells #[.float .f32 0, .float .f32 0, .float .f32 0] 28)).alloc (.cells #[.float .f32 0, .float .f32 0, .float .f32 0] 28)).heap.size from Nat.le_of_lt (in_heap uP))
  have hrow := Lib.hid uP
  have hst' := Lib.hid hst
  have hs := Lib.hid (Below.refl (w.heap.size + 1 + 1) (((w.alloc (.cells #[.int .i16 a, .int .i16 b, .int .i16 c] 81)).alloc (.cells #[.float .f32 0, .float .f32 0, .float .f32 0] 28)).alloc (.cells #[.float .f32 0, .float .f32 0, .float .f32 0] 28)))
  have w_lt : w.heap.size ≤ w.heap.size + 1 + 1 := by omega
  have hge0 := Lib.hid (Nat.le_refl (w.heap.size + 1 + 1))
  obtain ⟨⟨q0, q1, q2⟩, _⟩ := hB.out _ hs.out
  clear uC uR uP hst uS
  go_enter Try.func54, Try.ntmps54
  go_wp2
  generalize (((w.alloc (.cells #[.int .i16 a, .int .i16 b, .int .i16 c] 81)).alloc (.cells #[.float .f32 0, .float .f32 0, .float .f32 0] 28)).alloc (.cells #[.float .f32 0, .float .f32 0, .float .f32 0] 28)) = W4 at hB hs hsz hrow hst' q0 q1 q2 ⊢
  generalize w.heap.size + 1 + 1 = p0 at hB hs hsz hrow w_lt hge0 ⊢
  replace w_lt := Lib.hid w_lt
  clear q0 q1 q2
  refine wp_loop_rounds 4 ?_
  rw [rounds_succ]
  go_upto_region 5 with fail
  have hcells := fun W (hW : Stays W4 W) => And.intro (hB.out W (bs hs.out hsz.out hW)).1 (sen_cells (hB.out W (bs hs.out hsz.out hW)).2.2 W (Stays.refl _))
  refine wp_region_soft_tail 20 (Stays.refl _) (fun _ _ _ => False) [] (by kernel_rfl) (by kernel_rfl) (fun _ h => by cases h) ?_
  simp only [List.take_succ_cons, List.take_zero, List.drop_succ_cons, List.drop_zero]
  repeat ((with_reducible apply soft_detG); (case hwa => rfl); (case hA => rfl); (case h => (intro w1 hw1; have hc := hcells w1 hw1; go_simp; exact rfl)); go_simp)
  ((with_reducible refine soft_fop rfl ?hA _ _ _ _ _ rfl rfl _ _ _ rfl rfl ?_); (case hA => rfl); intro r0a hr0a; go_simp)
  repeat ((with_reducible apply soft_detG); (case hwa => rfl); (case hA => rfl); (case h => (intro w1 hw1; have hc := hcells w1 hw1; go_simp; exact rfl)); go_simp)
  ((with_reducible refine soft_fop rfl ?hA _ _ _ _ _ rfl rfl _ _ _ rfl rfl ?_); (case hA => rfl); intro r0b hr0b; go_simp)
  repeat ((with_reducible apply soft_detG); (case hwa => rfl); (case hA => rfl); (case h => (intro w1 hw1; have hc := hcells w1 hw1; go_simp; exact rfl)); go_simp)
  refine soft_nil ?_
  rintro v0 ⟨hv, _⟩
  have hp0 := Lib.hid (show FIs .f32 r0b (cvO (can .f32 r0) (can .f32 r3) a) from hr0b.of_eq (by rw [hr0a.out]; rfl))
  replace hrow := Lib.hid ((Below.block hv _ (in_heap hrow.out)).trans hrow.out)
  replace hs := Lib.hid (bs hs.out hsz.out hv)
  clear hcells hv hr0a hr0b
  have c9 := cell_of_row _ _ 0 _ _ _ hrow.out
  have f9 := frozen_of_row _ _ 0 _ _ hrow.out
  go_wp2
  clear c9 f9
  have hrowN : (v0.setCell ⟨p0, 0, none⟩ (.float .f32 r0b)).heap[p0]? = some (.cells #[.float .f32 r0b, .float .f32 0, .float .f32 0] 28 (0, 0)) := heap_setCell_same v0 p0 0 _ _ (.float .f32 r0b) hrow.out
  have hsN : Below p0 W4 (v0.setCell ⟨p0, 0, none⟩ (.float .f32 r0b)) := Below.setCell hs.out hge0.out _
  replace hrow := Lib.hid hrowN
  replace hs := Lib.hid hsN
  clear hrowN hsN
  generalize (v0.setCell ⟨p0, 0, none⟩ (.float .f32 r0b)) = u0 at hrow hs ⊢
  rw [rounds_succ]
  go_upto_region 5 with fail
  have hcells := fun W (hW : Stays u0 W) => And.intro (hB.out W (bs hs.out hsz.out hW)).1 (sen_cells (hB.out W (bs hs.out hsz.out hW)).2.2 W (Stays.refl _))
  refine wp_region_soft_tail 20 (Stays.refl _) (fun _ _ _ => False) [] (by kernel_rfl) (by kernel_rfl) (fun _ h => by cases h) ?_
  simp only [List.take_succ_cons, List.take_zero, List.drop_succ_cons, List.drop_zero]
  repeat ((with_reducible apply soft_detG); (case hwa => rfl); (case hA => rfl); (case h => (intro w1 hw1; have hc := hcells w1 hw1; go_simp; exact rfl)); go_simp)
  ((with_reducible refine soft_fop rfl ?hA _ _ _ _ _ rfl rfl _ _ _ rfl rfl ?_); (case hA => rfl); intro r1a hr1a; go_simp)
  repeat ((with_reducible apply soft_detG); (case hwa => rfl); (case hA => rfl); (case h => (intro w1 hw1; have hc := hcells w1 hw1; go_simp; exact rfl)); go_simp)
  ((with_reducible refine soft_fop rfl ?hA _ _ _ _ _ rfl rfl _ _ _ rfl rfl ?_); (case hA => rfl); intro r1b hr1b; go_simp)
  repeat ((with_reducible apply soft_detG); (case hwa => rfl); (case hA => rfl); (case h => (intro w1 hw1; have hc := hcells w1 hw1; go_simp; exact rfl)); go_simp)
  refine soft_nil ?_
  rintro v1 ⟨hv, _⟩
  have hp1 := Lib.hid (show FIs .f32 r1b (cvO (can .f32 r1) (can .f32 r4) b) from hr1b.of_eq (by rw [hr1a.out]; rfl))
  replace hrow := Lib.hid ((Below.block hv _ (in_heap hrow.out)).trans hrow.out)
  replace hs := Lib.hid (bs hs.out hsz.out hv)
  clear hcells hv hr1a hr1b
  have c9 := cell_of_row _ _ 1 _ _ _ hrow.out
  have f9 := frozen_of_row _ _ 1 _ _ hrow.out
  go_wp2
  clear c9 f9
  have hrowN : (v1.setCell ⟨p0, 1, none⟩ (.float .f32 r1b)).heap[p0]? = some (.cells #[.float .f32 r0b, .float .f32 r1b, .float .f32 0] 28 (0, 0)) := heap_setCell_same v1 p0 1 _ _ (.float .f32 r1b) hrow.out
  have hsN : Below p0 W4 (v1.setCell ⟨p0, 1, none⟩ (.float .f32 r1b)) := Below.setCell hs.out hge0.out _
  replace hrow := Lib.hid hrowN
  replace hs := Lib.hid hsN
  clear hrowN hsN
  generalize (v1.setCell ⟨p0, 1, none⟩ (.float .f32 r1b)) = u1 at hrow hs ⊢
  rw [rounds_succ]
  go_upto_region 5 with fail
  have hcells := fun W (hW : Stays u1 W) => And.intro (hB.out W (bs hs.out hsz.out hW)).1 (sen_cells (hB.out W (bs hs.out hsz.out hW)).2.2 W (Stays.refl _))
  refine wp_region_soft_tail 20 (Stays.refl _) (fun _ _ _ => False) [] (by kernel_rfl) (by kernel_rfl) (fun _ h => by cases h) ?_
  simp only [List.take_succ_cons, List.take_zero, List.drop_succ_cons, List.drop_zero]
  repeat ((with_reducible apply soft_detG); (case hwa => rfl); (case hA => rfl); (case h => (intro w1 hw1; have hc := hcells w1 hw1; go_simp; exact rfl)); go_simp)
  ((with_reducible refine soft_fop rfl ?hA _ _ _ _ _ rfl rfl _ _ _ rfl rfl ?_); (case hA => rfl); intro r2a hr2a; go_simp)
  repeat ((with_reducible apply soft_detG); (case hwa => rfl); (case hA => rfl); (case h => (intro w1 hw1; have hc := hcells w1 hw1; go_simp; exact rfl)); go_simp)
  ((with_reducible refine soft_fop rfl ?hA _ _ _ _ _ rfl rfl _ _ _ rfl rfl ?_); (case hA => rfl); intro r2b hr2b; go_simp)
  repeat ((with_reducible apply soft_detG); (case hwa => rfl); (case hA => rfl); (case h => (intro w1 hw1; have hc := hcells w1 hw1; go_simp; exact rfl)); go_simp)
  refine soft_nil ?_
  rintro v2 ⟨hv, _⟩
  have hp2 := Lib.hid (show FIs .f32 r2b (cvO (can .f32 r2) (can .f32 r5) c) from hr2b.of_eq (by rw [hr2a.out]; rfl))
  replace hrow := Lib.hid ((Below.block hv _ (in_heap hrow.out)).trans hrow.out)
  replace hs := Lib.hid (bs hs.out hsz.out hv)
  clear hcells hv hr2a hr2b
  have c9 := cell_of_row _ _ 2 _ _ _ hrow.out
  have f9 := frozen_of_row _ _ 2 _ _ hrow.out
  go_wp2
  clear c9 f9
  have hrowN : (v2.setCell ⟨p0, 2, none⟩ (.float .f32 r2b)).heap[p0]? = some (.cells #[.float .f32 r0b, .float .f32 r1b, .float .f32 r2b] 28 (0, 0)) := heap_setCell_same v2 p0 2 _ _ (.float .f32 r2b) hrow.out
  have hsN : Below p0 W4 (v2.setCell ⟨p0, 2, none⟩ (.float .f32 r2b)) := Below.setCell hs.out hge0.out _
  replace hrow := Lib.hid hrowN
  replace hs := Lib.hid hsN
  clear hrowN hsN
  generalize (v2.setCell ⟨p0, 2, none⟩ (.float .f32 r2b)) = u2 at hrow hs ⊢
  rw [rounds_succ]
  have g0 := cell_of_row _ _ 0 _ _ _ hrow.out
  have g1 := cell_of_row _ _ 1 _ _ _ hrow.out
  have g2 := cell_of_row _ _ 2 _ _ _ hrow.out
  have hres := (hB.out u2 hs.out).2.1
  have hst : Stays w u2 := Below.trans (show Below w.heap.size w W4 from hst'.out) (Below.mono hs.out w_lt.out)
  go_wp2_with ((refine wpList_store_row rfl _ _ _ rfl _ _ _ rfl rfl hres ?hi ?ho ?h1 ?hB hst ?_); (case hi => kernel_rfl); (case ho => rfl); (case h1 => first | rfl | simp [Value.oneCell']); (case hB => first | omega | (simp <;> omega)); intro w9 hw9 hq9 ho9 hsz9)
  apply end_agg rfl rfl rfl Try.underlying28 rfl (t := 28)
  case hg => exact hq9
  case hi => kernel_rfl
  case hR => exact ⟨_, rfl, ⟨_, _, _, rfl, hp0.out, hp1.out, hp2.out⟩, hw9⟩

end Go.Proofs.Ytmcbeaihjdnelaa

namespace Go.Proofs.Ytmcbeaihjdnelaa
open Go Go.RowKit
set_option linter.unusedVariables false
set_option linter.unusedSimpArgs false


def rd0 : Rd := ⟨0, 0, 0, 0⟩
/-- A sum over the first readings. -/
def sumR (f : Rd → Option Nat) (rs : List Rd) : Nat → Option Nat
  | 0 => none
  | k + 1 => if k = 0 then f (rs.getD 0 rd0) else fop .add .f32 (sumR f rs k) (f (rs.getD k rd0))
theorem sumR_one {f : Rd → Option Nat} {rs : List Rd} {m : Rd} (h : rs[0]? = some m) : sumR f rs 1 = f m := by
  show (if 0 = 0 then f (rs.getD 0 rd0) else _) = _
  rw [if_pos rfl, List.getD_eq_getElem?_getD, h]; rfl
theorem sumR_next {f : Rd → Option Nat} {rs : List Rd} {m : Rd} {k : Nat} (hk : 0 < k) (h : rs[k]? = some m) : sumR f rs (k + 1) = fop .add .f32 (sumR f rs k) (f m) := by
  show (if k = 0 then f (rs.getD 0 rd0) else fop .add .f32 (sumR f rs k) (f (rs.getD k rd0))) = _
  rw [if_neg (by omega), List.getD_eq_getElem?_getD, h]; rfl
noncomputable def vX (r s : Nat) (m : Rd) : Option Nat := cvO (can .f32 r) (can .f32 s) m.a
noncomputable def vY (r s : Nat) (m : Rd) : Option Nat := cvO (can .f32 r) (can .f32 s) m.b
noncomputable def vZ (r s : Nat) (m : Rd) : Option Nat := cvO (can .f32 r) (can .f32 s) m.c
noncomputable def meanK (f : Rd → Option Nat) (rs : List Rd) : Option Nat := fop .quo .f32 (sumR f rs rs.length) (can .f32 (floatOfInt .f32 rs.length))
noncomputable def mnC (ok : Bool) (rs : List Rd) : Int := if ok then (if rs.length = 0 then 6 else 0) else 1
noncomputable def mnV (f : Rd → Option Nat) (ok : Bool) (rs : List Rd) : Option Nat := if ok then (if rs.length = 0 then can .f32 0 else meanK f rs) else can .f32 0
noncomputable def feedB (rs : List Rd) : Bool := feedOK (rs.map (·.t)) && decide (rs.length ≤ 256)

/-- A box that is still empty; a row that was made into a box. -/
structure ZPQ (w : World) (B p : Nat) : Prop where
  ge : B ≤ p
  row : w.heap[p]? = some (.cells #[.float .f32 0, .float .f32 0, .float .f32 0] 28 (0, 0))
theorem ZPQ.new {B : Nat} (w : World) (h : B ≤ w.heap.size) : ZPQ (w.alloc (.cells #[.float .f32 0, .float .f32 0, .float .f32 0] 28)) B w.heap.size := ⟨h, heap_alloc_new w _⟩
theorem ZPQ.newD (w : World) : ZPQ (w.drew.alloc (.cells #[.float .f32 0, .float .f32 0, .float .f32 0] 28)) w.heap.size w.heap.size := ZPQ.new w.drew (Nat.le_refl _)
theorem ZPQ.below {w w' : World} {B p : Nat} (h : ZPQ w B p) (hb : Stays w w') : ZPQ w' B p := ⟨h.ge, (Below.block hb _ (in_heap h.row)).trans h.row⟩
theorem ZPQ.cells {w : World} {B p : Nat} (h : ZPQ w B p) : (w.cell? ⟨p, 0, none⟩ = some (.float .f32 0) ∧ w.cell? ⟨p, 1, none⟩ = some (.float .f32 0) ∧ w.cell? ⟨p, 2, none⟩ = some (.float .f32 0)) ∧ w.frozen? ⟨p, 0, none⟩ = false ∧ w.frozen? ⟨p, 1, none⟩ = false ∧ w.frozen? ⟨p, 2, none⟩ = false :=
  ⟨⟨cell_of_row _ _ _ _ _ _ h.row, cell_of_row _ _ _ _ _ _ h.row, cell_of_row _ _ _ _ _ _ h.row⟩, frozen_of_row _ _ _ _ _ h.row, frozen_of_row _ _ _ _ _ h.row, frozen_of_row _ _ _ _ _ h.row⟩
def MadeQ (W : World) (o1 o2 o3 : Option Nat) (s : Value) (w : World) : Prop := ∃ p rx ry rz, s = .pointer (some ⟨p, 0, none⟩) ∧ W.heap.size ≤ p ∧ w.heap[p]? = some (.cells #[.float .f32 rx, .float .f32 ry, .float .f32 rz] 28 (0, 0)) ∧ (FIs .f32 rx o1 ∧ FIs .f32 ry o2 ∧ FIs .f32 rz o3) ∧ Stays W w
theorem MadeQ.alloc {W w : World} {o1 o2 o3 : Option Nat} {rx ry rz : Nat} (h : Stays W w) (hf : FIs .f32 rx o1 ∧ FIs .f32 ry o2 ∧ FIs .f32 rz o3) : MadeQ W o1 o2 o3 (.pointer (some ⟨w.heap.size, 0, none⟩)) (w.alloc (.cells #[.float .f32 rx, .float .f32 ry, .float .f32 rz] 28)) :=
  ⟨_, rx, ry, rz, rfl, h.size, heap_alloc_new w _, hf, h.trans (by (repeat (first | exact Stays.refl _ | (with_reducible refine Stays.drewN ?_ _) | (with_reducible refine Stays.alloc ?_ _) | (with_reducible refine Stays.drew ?_) | (refine Stays.trans ?_ ‹Stays _ _›))))⟩
theorem ZPQ.stays {W w : World} {p : Nat} (h : Stays W w) (hz : ZPQ w W.heap.size p) (rx ry rz : Nat) : Stays W (((w.setCell ⟨p, 0, none⟩ (.float .f32 rx)).setCell ⟨p, 1, none⟩ (.float .f32 ry)).setCell ⟨p, 2, none⟩ (.float .f32 rz)) :=
  (Below.setCell (Below.setCell (Below.setCell (show Below W.heap.size W w from h) hz.ge _) hz.ge _) hz.ge _)
theorem MadeQ.sets {W w : World} {o1 o2 o3 : Option Nat} {p rx ry rz : Nat} (h : Stays W w) (hz : ZPQ w W.heap.size p) (hf : FIs .f32 rx o1 ∧ FIs .f32 ry o2 ∧ FIs .f32 rz o3) : MadeQ W o1 o2 o3 (.pointer (some ⟨p, 0, none⟩)) (((w.setCell ⟨p, 0, none⟩ (.float .f32 rx)).setCell ⟨p, 1, none⟩ (.float .f32 ry)).setCell ⟨p, 2, none⟩ (.float .f32 rz)) := by
  have m1 := heap_setCell_same _ p 0 _ _ (.float .f32 rx) hz.row
  have m2 := heap_setCell_same _ p 1 _ _ (.float .f32 ry) m1
  have m3 := heap_setCell_same _ p 2 _ _ (.float .f32 rz) m2
  exact ⟨p, rx, ry, rz, rfl, hz.ge, m3, hf, hz.stays h rx ry rz⟩

theorem feed_tail {ad : Addr} {n c : Nat} (h1 : 1 ≤ n) (hc : n ≤ c) : ∃ A', (∀ w, (Instr.slice 34 (.slice (some ad) n c) (some (.int .i64 1)) none none).run Try.prog w = .ok (.slice A' (n - 1) (c - 1)) w) ∧ (1 < n → A' = some (ad.add 4)) := by
  have hsz : ∀ w : World, (sizeOf (Try.prog.elem 34)).run Try.prog w = .ok 4 w := fun w => by kernel_rfl
  have hel : Try.prog.elem 34 = 83 := by kernel_rfl
  refine ⟨if c = 1 then some ad else some (ad.add 4), fun w => ?_, fun h => if_neg (by omega)⟩
  rw [run_slice_l w 34 (some ad) n c (by rw [hel]; exact Try.underlying34) .i64 1 (by decide) (by omega), hsz]
  by_cases h : c = 1
  · subst h; rfl
  · simp [Result.andThen, sliced, h]
theorem rd_next (a : Addr) (k : Nat) : (a.add 4).add (k * 4) = a.add ((k + 1) * 4) := by
  have e1 : a.add 4 = ⟨a.block, a.off + 4, none⟩ := rfl
  have e2 : a.add ((k + 1) * 4) = ⟨a.block, a.off + (k + 1) * 4, none⟩ := by
    unfold Addr.add
    rw [if_neg (by omega)]
  rw [e1, e2]
  unfold Addr.add
  split
  · congr 1; omega
  · congr 1
    show a.off + 4 + k * 4 = _
    omega

def svM (F G : FuncId) (f : FuncId) (args : Array Value) (v : Value) : Prop := (f = F → ∀ r0 r1 r2 r3 r4 r5 ev d a b c, args = #[.agg (senCells r0 r1 r2 r3 r4 r5 ev d), .agg #[.int .i16 a, .int .i16 b, .int .i16 c]] → V3 (cvO (can .f32 r0) (can .f32 r3) a) (cvO (can .f32 r1) (can .f32 r4) b) (cvO (can .f32 r2) (can .f32 r5) c) v) ∧ (f = G → ∀ a b c x y z, args = #[.agg #[.float .f32 a, .float .f32 b, .float .f32 c], .agg #[.float .f32 x, .float .f32 y, .float .f32 z]] → V3 (fop .add .f32 (can .f32 a) (can .f32 x)) (fop .add .f32 (can .f32 b) (can .f32 y)) (fop .add .f32 (can .f32 c) (can .f32 z)) v)
theorem svM_1 {F G : FuncId} (hne : F ≠ G) {r0 r1 r2 r3 r4 r5 : Nat} {ev d a b c : Int} {v : Value} : svM F G F #[.agg (senCells r0 r1 r2 r3 r4 r5 ev d), .agg #[.int .i16 a, .int .i16 b, .int .i16 c]] v ↔ V3 (cvO (can .f32 r0) (can .f32 r3) a) (cvO (can .f32 r1) (can .f32 r4) b) (cvO (can .f32 r2) (can .f32 r5) c) v :=
  ⟨fun h => h.1 rfl _ _ _ _ _ _ _ _ _ _ _ rfl, fun h => ⟨fun _ r0 r1 r2 r3 r4 r5 ev d a b c e => by cases e; exact h, fun e => absurd e hne⟩⟩
theorem svM_2 {F G : FuncId} (hne : F ≠ G) {a b c x y z : Nat} {v : Value} : svM F G G #[.agg #[.float .f32 a, .float .f32 b, .float .f32 c], .agg #[.float .f32 x, .float .f32 y, .float .f32 z]] v ↔ V3 (fop .add .f32 (can .f32 a) (can .f32 x)) (fop .add .f32 (can .f32 b) (can .f32 y)) (fop .add .f32 (can .f32 c) (can .f32 z)) v :=
  ⟨fun h => h.2 rfl _ _ _ _ _ _ rfl, fun h => ⟨fun e => absurd e.symm hne, fun _ a' b' c' x' y' z' e => by cases e; exact h⟩⟩

/-- The words of a sensor. -/
def sw (v : Value) (i : Nat) : Nat := match v with
  | .agg cs => match cs[i]? with
    | some (.float _ b) => b
    | _ => 0
  | _ => 0

set_option maxRecDepth 100000 in
set_option maxHeartbeats 4000000 in
theorem c_implMean (v : Value) (ins : List NV) (hs : Sen v ins) (A : Option Addr) (c : Nat) (rs : List Rd) (w : World) (h : Feed w w.heap.size A rs) (hn : rs.length ≤ 1048576) (hcap : rs.length ≤ c) :
    Calls Try.prog 15 #[v, .slice A rs.length c] w (V3Done w (mnC (sensB ins && feedB rs) rs) (mnV (vX (sw v 0) (sw v 3)) (sensB ins && feedB rs) rs) (mnV (vY (sw v 1) (sw v 4)) (sensB ins && feedB rs) rs) (mnV (vZ (sw v 2) (sw v 5)) (sensB ins && feedB rs) rs)) := by
  obtain ⟨r0, r1, r2, r3, r4, r5, ev, d, rfl, hdd⟩ := hs.cells
  clear hdd
  have hst : Stays w ((w.alloc (.cells (senCells r0 r1 r2 r3 r4 r5 ev d) 32)).alloc (.cells #[.float .f32 0, .float .f32 0, .float .f32 0] 28)) := by (repeat (first | exact Stays.refl _ | (with_reducible refine Stays.drewN ?_ _) | (with_reducible refine Stays.alloc ?_ _) | (with_reducible refine Stays.drew ?_) | (refine Stays.trans ?_ ‹Stays _ _›)))
  have uS : ((w.alloc (.cells (senCells r0 r1 r2 r3 r4 r5 ev d) 32)).alloc (.cells #[.float .f32 0, .float .f32 0, .float .f32 0] 28)).heap[w.heap.size]? = some (.cells (senCells r0 r1 r2 r3 r4 r5 ev d) 32 (0, 0)) := by (repeat (first | (refine heap_top _ _ _ ?_; simp; done) | (with_reducible refine heap_drawn _ _ _ ?_) | (with_reducible refine heap_under _ _ _ ?_ ?_; (simp <;> omega))))
  have uR : ((w.alloc (.cells (senCells r0 r1 r2 r3 r4 r5 ev d) 32)).alloc (.cells #[.float .f32 0, .float .f32 0, .float .f32 0] 28)).heap[w.heap.size + 1]? = some (.cells #[.float .f32 0, .float .f32 0, .float .f32 0] 28 (0, 0)) := by (repeat (first | (refine heap_top _ _ _ ?_; simp; done) | (with_reducible refine heap_drawn _ _ _ ?_) | (with_reducible refine heap_under _ _ _ ?_ ?_; (simp <;> omega))))
  have HW := Lib.hid fun W (hW : Stays ((w.alloc (.cells (senCells r0 r1 r2 r3 r4 r5 ev d) 32)).alloc (.cells #[.float .f32 0, .float .f32 0, .float .f32 0] 28)) W) => And.intro (sen_cells uS W hW) (And.intro (hst.trans hW) (And.intro ((Below.block hW _ (in_heap uR)).trans uR) ((Below.block hW _ (in_heap uS)).trans uS)))
  have hFd := fun W (hW : Stays ((w.alloc (.cells (senCells r0 r1 r2 r3 r4 r5 ev d) 32)).alloc (.cells #[.float .f32 0, .float .f32 0, .float .f32 0] 28)) W) => ((h.below (show Below w.heap.size w W from hst.trans hW)).more (hst.trans hW).size)
  have kS := Lib.hid fun W (hW : Stays ((w.alloc (.cells (senCells r0 r1 r2 r3 r4 r5 ev d) 32)).alloc (.cells #[.float .f32 0, .float .f32 0, .float .f32 0] 28)) W) => c_ValidSensor (.agg (senCells r0 r1 r2 r3 r4 r5 ev d)) ins W hs
  have kF := Lib.hid fun W (hW : Stays ((w.alloc (.cells (senCells r0 r1 r2 r3 r4 r5 ev d) 32)).alloc (.cells #[.float .f32 0, .float .f32 0, .float .f32 0] 28)) W) => show Calls Try.prog 57 #[.slice A rs.length c] W fun e w2 => e = .returned (.bool (feedB rs)) ∧ Below W.heap.size W w2 from c_ValidFeed A c rs W (hFd W hW) hn
  have H := Lib.hid fun W (hW : Stays ((w.alloc (.cells (senCells r0 r1 r2 r3 r4 r5 ev d) 32)).alloc (.cells #[.float .f32 0, .float .f32 0, .float .f32 0] 28)) W) ad (e : A = some ad) k m (hk : rs[k]? = some m) => show ad.block < W.heap.size ∧ ∀ W', Stays W W' → (W'.cell? (ad.add (k * 4)) = some (.int .i64 m.t) ∧ W'.cell? ⟨((ad.add (k * 4))).block, ((ad.add (k * 4))).off + 1, none⟩ = some (.int .i16 m.a) ∧ W'.cell? ⟨((ad.add (k * 4))).block, ((ad.add (k * 4))).off + 2, none⟩ = some (.int .i16 m.b) ∧ W'.cell? ⟨((ad.add (k * 4))).block, ((ad.add (k * 4))).off + 3, none⟩ = some (.int .i16 m.c)) from by
    obtain ⟨ad', e', hbl, c1, c2, c3, c4⟩ := hFd W hW k m hk
    rw [e] at e'
    cases e'
    have hb : (ad.add (k * 4)).block < W.heap.size := by rw [block_add]; exact hbl
    exact ⟨hbl, fun W' hW' => ⟨(hW'.cell (p := ad.add (k * 4)) hb).trans c1, (hW'.cell (p := ⟨(ad.add (k * 4)).block, (ad.add (k * 4)).off + 1, none⟩) hb).trans c2, (hW'.cell (p := ⟨(ad.add (k * 4)).block, (ad.add (k * 4)).off + 2, none⟩) hb).trans c3, (hW'.cell (p := ⟨(ad.add (k * 4)).block, (ad.add (k * 4)).off + 3, none⟩) hb).trans c4⟩⟩
  have hA : 0 < rs.length → ∃ ad, A = some ad := fun hp => by
    obtain ⟨ad, e, _⟩ := h 0 rs[0] (List.getElem?_eq_getElem hp)
    exact ⟨ad, e⟩
  clear uS uR hFd h hs hst
  unfold mnC mnV
  generalize sensB ins = sb at kS ⊢
  generalize feedB rs = fb at kF ⊢
  cases sb with
  | false =>
    simp only [Bool.false_and, Bool.false_eq_true, if_false]
    clear hA
    go_enter Try.func15, Try.ntmps15
    obtain ⟨⟨⟨q0, q1, q2⟩, ⟨q3, q4, q5⟩, q6, q7⟩, _⟩ := HW.out _ (Stays.refl _)
    go_wp2_with fail
    generalize ((w.alloc (.cells #[.float .f32 r0, .float .f32 r1, .float .f32 r2, .float .f32 r3, .float .f32 r4, .float .f32 r5, .int .i64 ev, .int .i64 d] 32)).alloc (.cells #[.float .f32 0, .float .f32 0, .float .f32 0] 28)) = W0 at HW kS kF H q0 q1 q2 q3 q4 q5 q6 q7 ⊢
    with_reducible refine (kS.out W0 (Stays.refl _)).mono ?_
    rintro e w1 ⟨rfl, hb⟩
    replace hb := Lib.hid (show Stays W0 w1 from hb)
    clear q0 q1 q2 q3 q4 q5 q6 q7
    obtain ⟨_, hst, hres, _⟩ := HW.out _ hb.out
    clear kS kF
    go_wp2_with ((refine wpList_store_row rfl _ _ _ rfl _ _ _ rfl rfl hres ?hi ?ho ?h1 ?hB hst ?_); (case hi => kernel_rfl); (case ho => rfl); (case h1 => first | rfl | simp [Value.oneCell']); (case hB => first | omega | (simp <;> omega)); intro w9 hw9 hq9 ho9 hsz9)
    apply end_gd rfl rfl rfl Try.underlying28 rfl (t := 28)
    case hg => exact hq9
    case hi => kernel_rfl
    case hR => exact ⟨_, _, _, rfl, FIs.self (by decide), FIs.self (by decide), FIs.self (by decide), hw9⟩
  | true =>
    cases fb with
    | false =>
      simp only [Bool.and_false, Bool.false_eq_true, if_false]
      clear hA
      go_enter Try.func15, Try.ntmps15
      obtain ⟨⟨⟨q0, q1, q2⟩, ⟨q3, q4, q5⟩, q6, q7⟩, _⟩ := HW.out _ (Stays.refl _)
      go_wp2_with fail
      generalize ((w.alloc (.cells #[.float .f32 r0, .float .f32 r1, .float .f32 r2, .float .f32 r3, .float .f32 r4, .float .f32 r5, .int .i64 ev, .int .i64 d] 32)).alloc (.cells #[.float .f32 0, .float .f32 0, .float .f32 0] 28)) = W0 at HW kS kF H q0 q1 q2 q3 q4 q5 q6 q7 ⊢
      with_reducible refine (kS.out W0 (Stays.refl _)).mono ?_
      rintro e w1 ⟨rfl, hb⟩
      replace hb := Lib.hid (show Stays W0 w1 from hb)
      clear q0 q1 q2 q3 q4 q5 q6 q7
      go_wp2_with fail
      with_reducible refine (kF.out w1 hb.out).mono ?_
      rintro e w1' ⟨rfl, hb'⟩
      replace hb := Lib.hid (hb.out.trans (show Stays w1 w1' from hb'))
      clear hb'
      obtain ⟨_, hst, hres, _⟩ := HW.out _ hb.out
      clear kS kF
      go_wp2_with ((refine wpList_store_row rfl _ _ _ rfl _ _ _ rfl rfl hres ?hi ?ho ?h1 ?hB hst ?_); (case hi => kernel_rfl); (case ho => rfl); (case h1 => first | rfl | simp [Value.oneCell']); (case hB => first | omega | (simp <;> omega)); intro w9 hw9 hq9 ho9 hsz9)
      apply end_gd rfl rfl rfl Try.underlying28 rfl (t := 28)
      case hg => exact hq9
      case hi => kernel_rfl
      case hR => exact ⟨_, _, _, rfl, FIs.self (by decide), FIs.self (by decide), FIs.self (by decide), hw9⟩
    | true =>
      simp only [Bool.and_true, if_true]
      by_cases h0 : rs.length = 0
      · have h0' : (((rs.length : Nat) : Int) == 0) = true := by rw [h0]; rfl
        simp only [if_pos h0]
        replace h0 := Lib.hid h0
        clear hA
        go_enter Try.func15, Try.ntmps15
        obtain ⟨⟨⟨q0, q1, q2⟩, ⟨q3, q4, q5⟩, q6, q7⟩, _⟩ := HW.out _ (Stays.refl _)
        go_wp2_with fail
        generalize ((w.alloc (.cells #[.float .f32 r0, .float .f32 r1, .float .f32 r2, .float .f32 r3, .float .f32 r4, .float .f32 r5, .int .i64 ev, .int .i64 d] 32)).alloc (.cells #[.float .f32 0, .float .f32 0, .float .f32 0] 28)) = W0 at HW kS kF H q0 q1 q2 q3 q4 q5 q6 q7 ⊢
        with_reducible refine (kS.out W0 (Stays.refl _)).mono ?_
        rintro e w1 ⟨rfl, hb⟩
        replace hb := Lib.hid (show Stays W0 w1 from hb)
        clear q0 q1 q2 q3 q4 q5 q6 q7
        go_wp2_with fail
        with_reducible refine (kF.out w1 hb.out).mono ?_
        rintro e w1' ⟨rfl, hb'⟩
        replace hb := Lib.hid (hb.out.trans (show Stays w1 w1' from hb'))
        clear hb'
        obtain ⟨_, hst, hres, _⟩ := HW.out _ hb.out
        clear kS kF
        go_wp2_with ((refine wpList_store_row rfl _ _ _ rfl _ _ _ rfl rfl hres ?hi ?ho ?h1 ?hB hst ?_); (case hi => kernel_rfl); (case ho => rfl); (case h1 => first | rfl | simp [Value.oneCell']); (case hB => first | omega | (simp <;> omega)); intro w9 hw9 hq9 ho9 hsz9)
        apply end_gd rfl rfl rfl Try.underlying28 rfl (t := 28)
        case hg => exact hq9
        case hi => kernel_rfl
        case hR => exact ⟨_, _, _, rfl, FIs.self (by decide), FIs.self (by decide), FIs.self (by decide), hw9⟩
      · have h0' : (((rs.length : Nat) : Int) == 0) = false := beq_eq_false_iff_ne.2 (by omega)
        have hpos : 0 < rs.length := by omega
        have hpos' : (0 : Int) < (rs.length : Int) := by omega
        simp only [if_neg h0]
        obtain ⟨ad, rfl⟩ := hA hpos
        clear hA
        obtain ⟨A', hsl, hA'⟩ := feed_tail (ad := ad) (n := rs.length) (c := c) (by omega) hcap
        replace hA' := Lib.hid hA'
        have hpos1 : (1 : Int) ≤ (rs.length : Int) := by omega
        go_enter Try.func15, Try.ntmps15
        obtain ⟨⟨⟨q0, q1, q2⟩, ⟨q3, q4, q5⟩, q6, q7⟩, _⟩ := HW.out _ (Stays.refl _)
        go_wp2_with fail
        generalize ((w.alloc (.cells #[.float .f32 r0, .float .f32 r1, .float .f32 r2, .float .f32 r3, .float .f32 r4, .float .f32 r5, .int .i64 ev, .int .i64 d] 32)).alloc (.cells #[.float .f32 0, .float .f32 0, .float .f32 0] 28)) = W0 at HW kS kF H q0 q1 q2 q3 q4 q5 q6 q7 ⊢
        with_reducible refine (kS.out W0 (Stays.refl _)).mono ?_
        rintro e w1 ⟨rfl, hb⟩
        replace hb := Lib.hid (show Stays W0 w1 from hb)
        clear q0 q1 q2 q3 q4 q5 q6 q7
        go_wp2_with fail
        with_reducible refine (kF.out w1 hb.out).mono ?_
        rintro e w1' ⟨rfl, hb'⟩
        replace hb := Lib.hid (hb.out.trans (show Stays w1 w1' from hb'))
        clear hb'
        obtain ⟨_, hst, hres, _⟩ := HW.out _ hb.out
        clear kS kF
        clear hst hres
        go_upto_region 5 with fail
        generalize w1' = w2 at hb ⊢
        have hg0 : rs[0]? = some rs[0] := List.getElem?_eq_getElem hpos
        obtain ⟨hbl, hm⟩ := H.out w2 hb.out ad rfl 0 _ hg0
        have hone := Lib.hid (And.intro (sumR_one (f := vX r0 r3) hg0) (And.intro (sumR_one (f := vY r1 r4) hg0) (sumR_one (f := vZ r2 r5) hg0)))
        generalize rs[0] = m at hm hone
        have e0 : ad.add (0 * 4) = ad := rfl
        rw [e0] at hm
        clear hg0 e0 hbl
        have hC := Lib.hid fun W (hW : Stays w2 W) => (show (((W.cell? ⟨w.heap.size, 0, none⟩ = some (.float .f32 r0) ∧ W.cell? ⟨w.heap.size, 1, none⟩ = some (.float .f32 r1) ∧ W.cell? ⟨w.heap.size, 2, none⟩ = some (.float .f32 r2)) ∧ (W.cell? ⟨w.heap.size, 3, none⟩ = some (.float .f32 r3) ∧ W.cell? ⟨w.heap.size, 4, none⟩ = some (.float .f32 r4) ∧ W.cell? ⟨w.heap.size, 5, none⟩ = some (.float .f32 r5)) ∧ (W.cell? ⟨w.heap.size, 6, none⟩ = some (.int .i64 ev) ∧ W.cell? ⟨w.heap.size, 7, none⟩ = some (.int .i64 d))) ∧ (W.cell? ad = some (.int .i64 m.t) ∧ W.cell? ⟨(ad).block, (ad).off + 1, none⟩ = some (.int .i16 m.a) ∧ W.cell? ⟨(ad).block, (ad).off + 2, none⟩ = some (.int .i16 m.b) ∧ W.cell? ⟨(ad).block, (ad).off + 3, none⟩ = some (.int .i16 m.c))) from ⟨(HW.out W (hb.out.trans hW)).1, hm W hW⟩)
        clear hm
        go_cut [6] from 22 to 27 (fun s6 wx => MadeQ w2 (sumR (vX r0 r3) rs 1) (sumR (vY r1 r4) rs 1) (sumR (vZ r2 r5) rs 1) s6 wx)
        case first =>
          have h1 := Lib.hid (show Stays w2 w2.drew from (Stays.refl w2).drew)
          go_region_held (fun w' => (((w'.cell? ⟨w.heap.size, 0, none⟩ = some (.float .f32 r0) ∧ w'.cell? ⟨w.heap.size, 1, none⟩ = some (.float .f32 r1) ∧ w'.cell? ⟨w.heap.size, 2, none⟩ = some (.float .f32 r2)) ∧ (w'.cell? ⟨w.heap.size, 3, none⟩ = some (.float .f32 r3) ∧ w'.cell? ⟨w.heap.size, 4, none⟩ = some (.float .f32 r4) ∧ w'.cell? ⟨w.heap.size, 5, none⟩ = some (.float .f32 r5)) ∧ (w'.cell? ⟨w.heap.size, 6, none⟩ = some (.int .i64 ev) ∧ w'.cell? ⟨w.heap.size, 7, none⟩ = some (.int .i64 d))) ∧ (w'.cell? ad = some (.int .i64 m.t) ∧ w'.cell? ⟨(ad).block, (ad).off + 1, none⟩ = some (.int .i16 m.a) ∧ w'.cell? ⟨(ad).block, (ad).off + 2, none⟩ = some (.int .i16 m.b) ∧ w'.cell? ⟨(ad).block, (ad).off + 3, none⟩ = some (.int .i16 m.c)))) (first | exact hC.out _ h1.out | exact hC.out _ h2.out | exact hC.out _ (h1.out.alloc _) | exact hC.out _ (h2.out.alloc _) | exact hC.out _ (ZPQ.stays h2.out hz.out _ _ _))
            (first
              | (go_at_call 58; first | ((with_reducible refine (c_vecOf r0 r1 r2 r3 r4 r5 ev d m.a m.b m.c _).mono ?_); rintro e w4 ⟨_, rfl, ⟨sx, sy, sz, rfl, fs0, fs1, fs2⟩, hb⟩; have h2 := Lib.hid (h1.out.trans hb); have hF := Lib.hid (show FIs .f32 sx (sumR (vX r0 r3) rs 1) ∧ FIs .f32 sy (sumR (vY r1 r4) rs 1) ∧ FIs .f32 sz (sumR (vZ r2 r5) rs 1) from ⟨fs0.of_eq hone.out.1.symm, fs1.of_eq hone.out.2.1.symm, fs2.of_eq hone.out.2.2.symm⟩); clear hb) | ((with_reducible refine (c_vecOf r0 r1 r2 r3 r4 r5 ev d m.a m.b m.c _).mono ?_); rintro e w4 ⟨_, rfl, ⟨sx, sy, sz, rfl, fs0, fs1, fs2⟩, hb⟩; have hz := Lib.hid ((ZPQ.newD w2).below hb); obtain ⟨⟨z0, z1, z2⟩, f0, f1, f2⟩ := hz.out.cells; have h2 := Lib.hid ((h1.out.alloc _).trans hb); have hF := Lib.hid (show FIs .f32 sx (sumR (vX r0 r3) rs 1) ∧ FIs .f32 sy (sumR (vY r1 r4) rs 1) ∧ FIs .f32 sz (sumR (vZ r2 r5) rs 1) from ⟨fs0.of_eq hone.out.1.symm, fs1.of_eq hone.out.2.1.symm, fs2.of_eq hone.out.2.2.symm⟩); clear hb) | ((with_reducible refine (c_vecOf r0 r1 r2 r3 r4 r5 ev d m.a m.b m.c _).mono ?_); rintro e w4 ⟨_, rfl, ⟨sx, sy, sz, rfl, fs0, fs1, fs2⟩, hb⟩; have hz := Lib.hid (((ZPQ.new (B := w2.heap.size) _ (Nat.le_refl _)).below (Stays.refl _).drew).below hb); obtain ⟨⟨z0, z1, z2⟩, f0, f1, f2⟩ := hz.out.cells; have h2 := Lib.hid ((((Stays.refl w2).alloc _).drew).trans hb); have hF := Lib.hid (show FIs .f32 sx (sumR (vX r0 r3) rs 1) ∧ FIs .f32 sy (sumR (vY r1 r4) rs 1) ∧ FIs .f32 sz (sumR (vZ r2 r5) rs 1) from ⟨fs0.of_eq hone.out.1.symm, fs1.of_eq hone.out.2.1.symm, fs2.of_eq hone.out.2.2.symm⟩); clear hb)))
          all_goals (go_wp2_with fail; go_meet; (first | exact MadeQ.sets h2.out hz.out hF.out | exact MadeQ.alloc h2.out hF.out))
        case rest =>
        obtain ⟨p0, x0, y0, z0, rfl, hge0, hrow0, hf0, hs0⟩ := hcut
        rename World => w3
        replace hrow0 := Lib.hid hrow0
        replace hf0 := Lib.hid hf0
        replace hge0 := Lib.hid hge0
        replace hs0 := Lib.hid hs0
        clear hC hone
        go_wp2
        go_loopw [31] (fun iv wr => ∃ (k x y z : Nat), k ≤ rs.length - 1 ∧ iv = .int .i64 k ∧ Hid (wr.heap[p0]? = some (.cells #[.float .f32 x, .float .f32 y, .float .f32 z] 28 (0, 0))) ∧ Hid (FIs .f32 x (sumR (vX r0 r3) rs (k + 1)) ∧ FIs .f32 y (sumR (vY r1 r4) rs (k + 1)) ∧ FIs .f32 z (sumR (vZ r2 r5) rs (k + 1))) ∧ Hid (Stays w2 wr)) (fun iv _ => rs.length - (intOf iv).toNat)
        case atStart => exact ⟨0, x0, y0, z0, Nat.zero_le _, rfl, hrow0, hf0, hs0⟩
        case round =>
          obtain ⟨k, x, y, z, hk, rfl, hrow, hf, hs⟩ := hrel
          by_cases hlt : k < rs.length - 1
          · have hlt' : (k : Int) < ((rs.length - 1 : Nat) : Int) := by omega
            have hk9 : IntKind.i64.wrap ((k : Int) + 1) = (k : Int) + 1 := IntWalk.i64_in _ (by omega)
            have hAe := hA'.out (by omega)
            subst hAe
            have hkl : k + 1 < rs.length := by omega
            have hgk : rs[k + 1]? = some rs[k + 1] := List.getElem?_eq_getElem hkl
            obtain ⟨_, hm⟩ := H.out wr (hb.out.trans hs.out) ad rfl (k + 1) _ hgk
            have nx := Lib.hid (And.intro (sumR_next (f := vX r0 r3) (Nat.succ_pos k) hgk) (And.intro (sumR_next (f := vY r1 r4) (Nat.succ_pos k) hgk) (sumR_next (f := vZ r2 r5) (Nat.succ_pos k) hgk)))
            generalize rs[k + 1] = m at hm nx
            rw [← rd_next] at hm
            obtain ⟨m1, m2, m3, m4⟩ := hm wr (Stays.refl _)
            have ha := heap_alloc_new wr (.cells #[.int .i64 m.t, .int .i16 m.a, .int .i16 m.b, .int .i16 m.c] 83)
            have hsA : Stays wr (wr.alloc (.cells #[.int .i64 m.t, .int .i16 m.a, .int .i16 m.b, .int .i16 m.c] 83)) := by (repeat (first | exact Stays.refl _ | (with_reducible refine Stays.drewN ?_ _) | (with_reducible refine Stays.alloc ?_ _) | (with_reducible refine Stays.drew ?_) | (refine Stays.trans ?_ ‹Stays _ _›)))
            have hcells : ∀ W, Stays (wr.alloc (.cells #[.int .i64 m.t, .int .i16 m.a, .int .i16 m.b, .int .i16 m.c] 83)) W → (W.cell? ⟨p0, 0, none⟩ = some (.float .f32 x) ∧ W.cell? ⟨p0, 1, none⟩ = some (.float .f32 y) ∧ W.cell? ⟨p0, 2, none⟩ = some (.float .f32 z)) ∧ (W.cell? ⟨wr.heap.size, 1, none⟩ = some (.int .i16 m.a) ∧ W.cell? ⟨wr.heap.size, 2, none⟩ = some (.int .i16 m.b) ∧ W.cell? ⟨wr.heap.size, 3, none⟩ = some (.int .i16 m.c)) ∧ ((W.cell? ⟨w.heap.size, 0, none⟩ = some (.float .f32 r0) ∧ W.cell? ⟨w.heap.size, 1, none⟩ = some (.float .f32 r1) ∧ W.cell? ⟨w.heap.size, 2, none⟩ = some (.float .f32 r2)) ∧ (W.cell? ⟨w.heap.size, 3, none⟩ = some (.float .f32 r3) ∧ W.cell? ⟨w.heap.size, 4, none⟩ = some (.float .f32 r4) ∧ W.cell? ⟨w.heap.size, 5, none⟩ = some (.float .f32 r5)) ∧ (W.cell? ⟨w.heap.size, 6, none⟩ = some (.int .i64 ev) ∧ W.cell? ⟨w.heap.size, 7, none⟩ = some (.int .i64 d))) := fun W hW => by
              have e := (Below.block (hsA.trans hW) _ (in_heap hrow.out)).trans hrow.out
              exact ⟨⟨cell_of_row _ _ _ _ _ _ e, cell_of_row _ _ _ _ _ _ e, cell_of_row _ _ _ _ _ _ e⟩, ⟨row_of hW ha 1, row_of hW ha 2, row_of hW ha 3⟩, (HW.out W (hb.out.trans (hs.out.trans (hsA.trans hW)))).1⟩
            have hrows := Lib.hid fun W (hW : Stays (wr.alloc (.cells #[.int .i64 m.t, .int .i16 m.a, .int .i16 m.b, .int .i16 m.c] 83)) W) => ((Below.block (hsA.trans hW) _ (in_heap hrow.out)).trans hrow.out)
            have hne := Lib.hid (show p0 < wr.heap.size from in_heap hrow.out)
            replace hsA := Lib.hid (hs.out.trans hsA)
            clear hm ha hgk hkl
            generalize ad.add 4 = ad4 at m1 m2 m3 m4 ⊢
            go_upto_region 9 with fail
            clear m1 m2 m3 m4
            generalize hWA : (wr.alloc (.cells #[.int .i64 m.t, .int .i16 m.a, .int .i16 m.b, .int .i16 m.c] 83)) = WA at hcells hrows hsA ⊢
            clear hWA
            refine wp_region_soft_tail 6 (Stays.refl _) (svM 58 59) [] (by kernel_rfl) (by kernel_rfl) (fun _ h => by cases h) ?_
            simp only [List.take_succ_cons, List.take_zero, List.drop_succ_cons, List.drop_zero]
            repeat ((with_reducible apply soft_detG); (case hwa => rfl); (case hA => rfl); (case h => (intro w1 hw1; have hc := hcells w1 hw1; go_simp; exact rfl)); go_simp)
            refine soft_callW (A0 := #[.agg (senCells r0 r1 r2 r3 r4 r5 ev d), .agg #[.int .i16 m.a, .int .i16 m.b, .int .i16 m.c]]) (by rfl) rfl ?h (fun w2 _ => c_vecOf r0 r1 r2 r3 r4 r5 ev d m.a m.b m.c w2) (fun v hv => (svM_1 (by decide)).2 hv) (fun v hv => (svM_1 (by decide)).1 hv) ?_
            case h => (intro w1 hw1; have hc := hcells w1 hw1; go_simp; try exact ⟨rfl, rfl⟩)
            rintro v ⟨sx, sy, sz, rfl, f1, f2, f3⟩
            go_simp
            repeat ((with_reducible apply soft_detG); (case hwa => rfl); (case hA => rfl); (case h => (intro w1 hw1; have hc := hcells w1 hw1; go_simp; exact rfl)); go_simp)
            refine soft_callW (A0 := #[.agg #[.float .f32 x, .float .f32 y, .float .f32 z], .agg #[.float .f32 sx, .float .f32 sy, .float .f32 sz]]) (by rfl) rfl ?h (fun w2 _ => c_AddV x y z sx sy sz w2) (fun v hv => (svM_2 (by decide)).2 hv) (fun v hv => (svM_2 (by decide)).1 hv) ?_
            case h => (intro w1 hw1; have hc := hcells w1 hw1; go_simp; try exact ⟨rfl, rfl⟩)
            rintro v ⟨tx, ty, tz, rfl, g1, g2, g3⟩
            go_simp
            repeat ((with_reducible apply soft_detG); (case hwa => rfl); (case hA => rfl); (case h => (intro w1 hw1; have hc := hcells w1 hw1; go_simp; exact rfl)); go_simp)
            refine soft_nil ?_
            rintro w5 ⟨hw5, _⟩
            have hres := hrows.out w5 hw5
            have hst := hsA.out.trans hw5
            have hB0 := hge0.out
            have hX := Lib.hid (show (FIs .f32 tx (sumR (vX r0 r3) rs (k + 1 + 1)) ∧ FIs .f32 ty (sumR (vY r1 r4) rs (k + 1 + 1)) ∧ FIs .f32 tz (sumR (vZ r2 r5) rs (k + 1 + 1))) from ⟨g1.of_eq (by rw [nx.out.1, f1.out, hf.out.1.out]; rfl), g2.of_eq (by rw [nx.out.2.1, f2.out, hf.out.2.1.out]; rfl), g3.of_eq (by rw [nx.out.2.2, f3.out, hf.out.2.2.out]; rfl)⟩)
            clear f1 f2 f3 g1 g2 g3 hcells
            go_wp2_with ((refine wpList_store_row rfl _ _ _ rfl _ _ _ rfl rfl hres ?hi ?ho ?h1 ?hB hst ?_); (case hi => kernel_rfl); (case ho => rfl); (case h1 => first | rfl | simp [Value.oneCell']); (case hB => first | omega | (simp <;> omega)); intro w9 hw9 hq9 ho9 hsz9)
            replace hw9 := Lib.hid hw9
            replace hq9 := Lib.hid hq9
            clear hres hst ho9 hsz9 hw5 hB0
            go_roundw
            case rel => exact ⟨k + 1, tx, ty, tz, by omega, by go_num, hq9, hX, hw9⟩
            case measure => simp [intOf]; omega
          · have ek : k + 1 = rs.length := by omega
            have hlt2 : ¬ (k : Int) < ((rs.length - 1 : Nat) : Int) := by omega
            rw [ek] at hf
            replace ek := Lib.hid ek
            have g0 := cell_of_row _ _ 0 _ _ _ hrow.out
            have g1 := cell_of_row _ _ 1 _ _ _ hrow.out
            have g2 := cell_of_row _ _ 2 _ _ _ hrow.out
            go_wp2_with fail
            refine (c_DivV x y z (floatOfInt .f32 rs.length) _).mono ?_
            rintro e w8 ⟨_, rfl, ⟨vx, vy, vz, rfl, f1, f2, f3⟩, hw8⟩
            obtain ⟨_, hst, hres, _⟩ := HW.out w8 (hb.out.trans (hs.out.trans hw8))
            have hfin := Lib.hid (show FIs .f32 vx (meanK (vX r0 r3) rs) ∧ FIs .f32 vy (meanK (vY r1 r4) rs) ∧ FIs .f32 vz (meanK (vZ r2 r5) rs) from ⟨f1.of_eq (by unfold meanK; rw [hf.out.1.out]), f2.of_eq (by unfold meanK; rw [hf.out.2.1.out]), f3.of_eq (by unfold meanK; rw [hf.out.2.2.out])⟩)
            clear f1 f2 f3 hw8 g0 g1 g2
            go_wp2_with ((refine wpList_store_row rfl _ _ _ rfl _ _ _ rfl rfl hres ?hi ?ho ?h1 ?hB hst ?_); (case hi => kernel_rfl); (case ho => rfl); (case h1 => first | rfl | simp [Value.oneCell']); (case hB => first | omega | (simp <;> omega)); intro w9 hw9 hq9 ho9 hsz9)
            apply end_gd rfl rfl rfl Try.underlying28 rfl (t := 28)
            case hg => exact hq9
            case hi => kernel_rfl
            case hR => exact ⟨_, _, _, rfl, hfin.out.1, hfin.out.2.1, hfin.out.2.2, hw9⟩

end Go.Proofs.Ytmcbeaihjdnelaa

namespace Go.Proofs.Ytmcbeaihjdnelaa
open Go Go.RowKit
set_option linter.unusedVariables false
set_option linter.unusedSimpArgs false

set_option maxRecDepth 100000 in
set_option maxHeartbeats 4000000 in
theorem c_specMean (v : Value) (ins : List NV) (hs : Sen v ins) (A : Option Addr) (c : Nat) (rs : List Rd) (w : World) (h : Feed w w.heap.size A rs) (hn : rs.length ≤ 1048576) :
    Calls Try.prog 12 #[v, .slice A rs.length c] w (V3Done w (mnC (sensB ins && feedB rs) rs) (mnV (vX (sw v 0) (sw v 3)) (sensB ins && feedB rs) rs) (mnV (vY (sw v 1) (sw v 4)) (sensB ins && feedB rs) rs) (mnV (vZ (sw v 2) (sw v 5)) (sensB ins && feedB rs) rs)) := by
  obtain ⟨r0, r1, r2, r3, r4, r5, ev, d, rfl, hdd⟩ := hs.cells
  clear hdd
  have hst : Stays w ((w.alloc (.cells (senCells r0 r1 r2 r3 r4 r5 ev d) 32)).alloc (.cells #[.float .f32 0, .float .f32 0, .float .f32 0] 28)) := by (repeat (first | exact Stays.refl _ | (with_reducible refine Stays.drewN ?_ _) | (with_reducible refine Stays.alloc ?_ _) | (with_reducible refine Stays.drew ?_) | (refine Stays.trans ?_ ‹Stays _ _›)))
  have uS : ((w.alloc (.cells (senCells r0 r1 r2 r3 r4 r5 ev d) 32)).alloc (.cells #[.float .f32 0, .float .f32 0, .float .f32 0] 28)).heap[w.heap.size]? = some (.cells (senCells r0 r1 r2 r3 r4 r5 ev d) 32 (0, 0)) := by (repeat (first | (refine heap_top _ _ _ ?_; simp; done) | (with_reducible refine heap_drawn _ _ _ ?_) | (with_reducible refine heap_under _ _ _ ?_ ?_; (simp <;> omega))))
  have uR : ((w.alloc (.cells (senCells r0 r1 r2 r3 r4 r5 ev d) 32)).alloc (.cells #[.float .f32 0, .float .f32 0, .float .f32 0] 28)).heap[w.heap.size + 1]? = some (.cells #[.float .f32 0, .float .f32 0, .float .f32 0] 28 (0, 0)) := by (repeat (first | (refine heap_top _ _ _ ?_; simp; done) | (with_reducible refine heap_drawn _ _ _ ?_) | (with_reducible refine heap_under _ _ _ ?_ ?_; (simp <;> omega))))
  have HW := Lib.hid fun W (hW : Stays ((w.alloc (.cells (senCells r0 r1 r2 r3 r4 r5 ev d) 32)).alloc (.cells #[.float .f32 0, .float .f32 0, .float .f32 0] 28)) W) => And.intro (sen_cells uS W hW) (And.intro (hst.trans hW) (And.intro ((Below.block hW _ (in_heap uR)).trans uR) ((Below.block hW _ (in_heap uS)).trans uS)))
  have hFd := fun W (hW : Stays ((w.alloc (.cells (senCells r0 r1 r2 r3 r4 r5 ev d) 32)).alloc (.cells #[.float .f32 0, .float .f32 0, .float .f32 0] 28)) W) => ((h.below (show Below w.heap.size w W from hst.trans hW)).more (hst.trans hW).size)
  have kS := Lib.hid fun W (hW : Stays ((w.alloc (.cells (senCells r0 r1 r2 r3 r4 r5 ev d) 32)).alloc (.cells #[.float .f32 0, .float .f32 0, .float .f32 0] 28)) W) => c_l04Sensor w.heap.size (senCells r0 r1 r2 r3 r4 r5 ev d) ins W ((Below.block hW _ (in_heap uS)).trans uS) hs
  have kF := Lib.hid fun W (hW : Stays ((w.alloc (.cells (senCells r0 r1 r2 r3 r4 r5 ev d) 32)).alloc (.cells #[.float .f32 0, .float .f32 0, .float .f32 0] 28)) W) => show Calls Try.prog 53 #[.slice A rs.length c] W fun e w2 => e = .returned (.bool (feedB rs)) ∧ Below W.heap.size W w2 from by
    have := c_l04Feed A c (rs.map (·.t)) W (hFd W hW).times (by simpa using hn)
    rw [List.length_map] at this
    refine this.mono ?_
    rintro e w2 ⟨rfl, m, rfl⟩
    exact ⟨rfl, below_drewN W m⟩
  have H := Lib.hid fun W (hW : Stays ((w.alloc (.cells (senCells r0 r1 r2 r3 r4 r5 ev d) 32)).alloc (.cells #[.float .f32 0, .float .f32 0, .float .f32 0] 28)) W) ad (e : A = some ad) k m (hk : rs[k]? = some m) => show ad.block < W.heap.size ∧ ∀ W', Stays W W' → (W'.cell? (ad.add (k * 4)) = some (.int .i64 m.t) ∧ W'.cell? ⟨((ad.add (k * 4))).block, ((ad.add (k * 4))).off + 1, none⟩ = some (.int .i16 m.a) ∧ W'.cell? ⟨((ad.add (k * 4))).block, ((ad.add (k * 4))).off + 2, none⟩ = some (.int .i16 m.b) ∧ W'.cell? ⟨((ad.add (k * 4))).block, ((ad.add (k * 4))).off + 3, none⟩ = some (.int .i16 m.c)) from by
    obtain ⟨ad', e', hbl, c1, c2, c3, c4⟩ := hFd W hW k m hk
    rw [e] at e'
    cases e'
    have hb : (ad.add (k * 4)).block < W.heap.size := by rw [block_add]; exact hbl
    exact ⟨hbl, fun W' hW' => ⟨(hW'.cell (p := ad.add (k * 4)) hb).trans c1, (hW'.cell (p := ⟨(ad.add (k * 4)).block, (ad.add (k * 4)).off + 1, none⟩) hb).trans c2, (hW'.cell (p := ⟨(ad.add (k * 4)).block, (ad.add (k * 4)).off + 2, none⟩) hb).trans c3, (hW'.cell (p := ⟨(ad.add (k * 4)).block, (ad.add (k * 4)).off + 3, none⟩) hb).trans c4⟩⟩
  have hA : 0 < rs.length → ∃ ad, A = some ad := fun hp => by
    obtain ⟨ad, e, _⟩ := h 0 rs[0] (List.getElem?_eq_getElem hp)
    exact ⟨ad, e⟩
  clear uS uR hFd h hs hst
  unfold mnC mnV
  generalize sensB ins = sb at kS ⊢
  generalize feedB rs = fb at kF ⊢
  cases sb with
  | false =>
    simp only [Bool.false_and, Bool.false_eq_true, if_false]
    clear hA
    go_enter Try.func12, Try.ntmps12
    go_wp2_with fail
    generalize ((w.alloc (.cells #[.float .f32 r0, .float .f32 r1, .float .f32 r2, .float .f32 r3, .float .f32 r4, .float .f32 r5, .int .i64 ev, .int .i64 d] 32)).alloc (.cells #[.float .f32 0, .float .f32 0, .float .f32 0] 28)) = W0 at HW kS kF H ⊢
    with_reducible refine (kS.out W0 (Stays.refl _)).mono ?_
    rintro e w1 ⟨rfl, hb⟩
    replace hb := Lib.hid (show Stays W0 w1 from hb)
    obtain ⟨_, hst, hres, _⟩ := HW.out _ hb.out
    clear kS kF
    go_wp2_with ((refine wpList_store_row rfl _ _ _ rfl _ _ _ rfl rfl hres ?hi ?ho ?h1 ?hB hst ?_); (case hi => kernel_rfl); (case ho => rfl); (case h1 => first | rfl | simp [Value.oneCell']); (case hB => first | omega | (simp <;> omega)); intro w9 hw9 hq9 ho9 hsz9)
    apply end_gd rfl rfl rfl Try.underlying28 rfl (t := 28)
    case hg => exact hq9
    case hi => kernel_rfl
    case hR => exact ⟨_, _, _, rfl, FIs.self (by decide), FIs.self (by decide), FIs.self (by decide), hw9⟩
  | true =>
    cases fb with
    | false =>
      simp only [Bool.and_false, Bool.false_eq_true, if_false]
      clear hA
      go_enter Try.func12, Try.ntmps12
      go_wp2_with fail
      generalize ((w.alloc (.cells #[.float .f32 r0, .float .f32 r1, .float .f32 r2, .float .f32 r3, .float .f32 r4, .float .f32 r5, .int .i64 ev, .int .i64 d] 32)).alloc (.cells #[.float .f32 0, .float .f32 0, .float .f32 0] 28)) = W0 at HW kS kF H ⊢
      with_reducible refine (kS.out W0 (Stays.refl _)).mono ?_
      rintro e w1 ⟨rfl, hb⟩
      replace hb := Lib.hid (show Stays W0 w1 from hb)
      go_wp2_with fail
      with_reducible refine (kF.out w1 hb.out).mono ?_
      rintro e w1' ⟨rfl, hb'⟩
      replace hb := Lib.hid (hb.out.trans (show Stays w1 w1' from hb'))
      clear hb'
      obtain ⟨_, hst, hres, _⟩ := HW.out _ hb.out
      clear kS kF
      go_wp2_with ((refine wpList_store_row rfl _ _ _ rfl _ _ _ rfl rfl hres ?hi ?ho ?h1 ?hB hst ?_); (case hi => kernel_rfl); (case ho => rfl); (case h1 => first | rfl | simp [Value.oneCell']); (case hB => first | omega | (simp <;> omega)); intro w9 hw9 hq9 ho9 hsz9)
      apply end_gd rfl rfl rfl Try.underlying28 rfl (t := 28)
      case hg => exact hq9
      case hi => kernel_rfl
      case hR => exact ⟨_, _, _, rfl, FIs.self (by decide), FIs.self (by decide), FIs.self (by decide), hw9⟩
    | true =>
      simp only [Bool.and_true, if_true]
      by_cases h0 : rs.length = 0
      · have h0' : (((rs.length : Nat) : Int) == 0) = true := by rw [h0]; rfl
        simp only [if_pos h0]
        replace h0 := Lib.hid h0
        clear hA
        go_enter Try.func12, Try.ntmps12
        go_wp2_with fail
        generalize ((w.alloc (.cells #[.float .f32 r0, .float .f32 r1, .float .f32 r2, .float .f32 r3, .float .f32 r4, .float .f32 r5, .int .i64 ev, .int .i64 d] 32)).alloc (.cells #[.float .f32 0, .float .f32 0, .float .f32 0] 28)) = W0 at HW kS kF H ⊢
        with_reducible refine (kS.out W0 (Stays.refl _)).mono ?_
        rintro e w1 ⟨rfl, hb⟩
        replace hb := Lib.hid (show Stays W0 w1 from hb)
        go_wp2_with fail
        with_reducible refine (kF.out w1 hb.out).mono ?_
        rintro e w1' ⟨rfl, hb'⟩
        replace hb := Lib.hid (hb.out.trans (show Stays w1 w1' from hb'))
        clear hb'
        obtain ⟨_, hst, hres, _⟩ := HW.out _ hb.out
        clear kS kF
        go_wp2_with ((refine wpList_store_row rfl _ _ _ rfl _ _ _ rfl rfl hres ?hi ?ho ?h1 ?hB hst ?_); (case hi => kernel_rfl); (case ho => rfl); (case h1 => first | rfl | simp [Value.oneCell']); (case hB => first | omega | (simp <;> omega)); intro w9 hw9 hq9 ho9 hsz9)
        apply end_gd rfl rfl rfl Try.underlying28 rfl (t := 28)
        case hg => exact hq9
        case hi => kernel_rfl
        case hR => exact ⟨_, _, _, rfl, FIs.self (by decide), FIs.self (by decide), FIs.self (by decide), hw9⟩
      · have h0' : (((rs.length : Nat) : Int) == 0) = false := beq_eq_false_iff_ne.2 (by omega)
        have hpos : 0 < rs.length := by omega
        have hpos' : (0 : Int) < (rs.length : Int) := by omega
        simp only [if_neg h0]
        obtain ⟨ad, rfl⟩ := hA hpos
        clear hA
        go_enter Try.func12, Try.ntmps12
        go_wp2_with fail
        generalize ((w.alloc (.cells #[.float .f32 r0, .float .f32 r1, .float .f32 r2, .float .f32 r3, .float .f32 r4, .float .f32 r5, .int .i64 ev, .int .i64 d] 32)).alloc (.cells #[.float .f32 0, .float .f32 0, .float .f32 0] 28)) = W0 at HW kS kF H ⊢
        with_reducible refine (kS.out W0 (Stays.refl _)).mono ?_
        rintro e w1 ⟨rfl, hb⟩
        replace hb := Lib.hid (show Stays W0 w1 from hb)
        go_wp2_with fail
        with_reducible refine (kF.out w1 hb.out).mono ?_
        rintro e w1' ⟨rfl, hb'⟩
        replace hb := Lib.hid (hb.out.trans (show Stays w1 w1' from hb'))
        clear hb'
        obtain ⟨_, hst, hres, _⟩ := HW.out _ hb.out
        clear kS kF
        clear hst hres
        go_upto_region 5 with fail
        generalize w1' = w2 at hb ⊢
        have hg0 : rs[0]? = some rs[0] := List.getElem?_eq_getElem hpos
        obtain ⟨hbl, hm⟩ := H.out w2 hb.out ad rfl 0 _ hg0
        have hone := Lib.hid (And.intro (sumR_one (f := vX r0 r3) hg0) (And.intro (sumR_one (f := vY r1 r4) hg0) (sumR_one (f := vZ r2 r5) hg0)))
        generalize rs[0] = m at hm hone
        have e0 : ad.add (0 * 4) = ad := rfl
        rw [e0] at hm
        clear hg0 e0 hbl
        obtain ⟨m1, m2, m3, m4⟩ := hm w2 (Stays.refl _)
        go_wp2_with fail
        clear m1 m2 m3 m4 hm
        refine (c_l04Vec w.heap.size r0 r1 r2 r3 r4 r5 ev d m.a m.b m.c w2 (HW.out w2 hb.out).2.2.2).mono ?_
        rintro e w3 ⟨_, rfl, ⟨x0, y0, z0, rfl, fx, fy, fz⟩, hw3⟩
        have hrow0 := Lib.hid (heap_alloc_new w3 (.cells #[.float .f32 x0, .float .f32 y0, .float .f32 z0] 28))
        have hsA : Stays w3 (w3.alloc (.cells #[.float .f32 x0, .float .f32 y0, .float .f32 z0] 28)) := by (repeat (first | exact Stays.refl _ | (with_reducible refine Stays.drewN ?_ _) | (with_reducible refine Stays.alloc ?_ _) | (with_reducible refine Stays.drew ?_) | (refine Stays.trans ?_ ‹Stays _ _›)))
        have hs0 := Lib.hid (hw3.trans hsA)
        have hge0 := Lib.hid hw3.size
        have hf0 := Lib.hid (show FIs .f32 x0 (sumR (vX r0 r3) rs 1) ∧ FIs .f32 y0 (sumR (vY r1 r4) rs 1) ∧ FIs .f32 z0 (sumR (vZ r2 r5) rs 1) from ⟨fx.of_eq hone.out.1.symm, fy.of_eq hone.out.2.1.symm, fz.of_eq hone.out.2.2.symm⟩)
        clear fx fy fz hw3 hsA hone
        go_wp2
        generalize (w3.alloc (.cells #[.float .f32 x0, .float .f32 y0, .float .f32 z0] 28)) = w5 at hrow0 hs0 ⊢
        generalize w3.heap.size = p0 at hrow0 hge0 ⊢
        go_loopw [7] (fun iv wr => ∃ (k x y z : Nat), k + 1 ≤ rs.length ∧ iv = .int .i64 (k + 1) ∧ Hid (wr.heap[p0]? = some (.cells #[.float .f32 x, .float .f32 y, .float .f32 z] 28 (0, 0))) ∧ Hid (FIs .f32 x (sumR (vX r0 r3) rs (k + 1)) ∧ FIs .f32 y (sumR (vY r1 r4) rs (k + 1)) ∧ FIs .f32 z (sumR (vZ r2 r5) rs (k + 1))) ∧ Hid (Stays w2 wr)) (fun iv _ => rs.length - (intOf iv).toNat)
        case atStart => exact ⟨0, x0, y0, z0, by omega, rfl, hrow0, hf0, hs0⟩
        case round =>
          obtain ⟨k, x, y, z, hk, rfl, hrow, hf, hs⟩ := hrel
          clear hrow0 hf0 hs0
          by_cases hlt : k + 1 < rs.length
          · have hlt' : (k : Int) + 1 < (rs.length : Int) := by omega
            have hk9 : IntKind.i64.wrap ((k : Int) + 1 + 1) = (k : Int) + 1 + 1 := IntWalk.i64_in _ (by omega)
            have hk8 : ((k : Int) + 1).toNat = k + 1 := by omega
            have hgk : rs[k + 1]? = some rs[k + 1] := List.getElem?_eq_getElem hlt
            obtain ⟨_, hm⟩ := H.out wr (hb.out.trans hs.out) ad rfl (k + 1) _ hgk
            have nx := Lib.hid (And.intro (sumR_next (f := vX r0 r3) (Nat.succ_pos k) hgk) (And.intro (sumR_next (f := vY r1 r4) (Nat.succ_pos k) hgk) (sumR_next (f := vZ r2 r5) (Nat.succ_pos k) hgk)))
            generalize rs[k + 1] = m at hm nx
            obtain ⟨m1, m2, m3, m4⟩ := hm wr (Stays.refl _)
            clear hm hgk
            go_wp2_with fail
            clear m1 m2 m3 m4
            refine (c_l04Vec w.heap.size r0 r1 r2 r3 r4 r5 ev d m.a m.b m.c wr (HW.out wr (hb.out.trans hs.out)).2.2.2).mono ?_
            rintro e w4 ⟨_, rfl, ⟨sx, sy, sz, rfl, f1, f2, f3⟩, hw4⟩
            have hrv := Lib.hid (heap_alloc_new w4 (.cells #[.float .f32 sx, .float .f32 sy, .float .f32 sz] 28))
            have hsB : Stays wr (w4.alloc (.cells #[.float .f32 sx, .float .f32 sy, .float .f32 sz] 28)) := Stays.trans hw4 (by (repeat (first | exact Stays.refl _ | (with_reducible refine Stays.drewN ?_ _) | (with_reducible refine Stays.alloc ?_ _) | (with_reducible refine Stays.drew ?_) | (refine Stays.trans ?_ ‹Stays _ _›))))
            have hne := Lib.hid (show p0 < w4.heap.size from Nat.lt_of_lt_of_le (in_heap hrow.out) hw4.size)
            replace hrow := Lib.hid ((Below.block hsB _ (in_heap hrow.out)).trans hrow.out)
            replace hs := Lib.hid (hs.out.trans hsB)
            have hfm := Lib.hid (And.intro f1 (And.intro f2 f3))
            clear hw4 hsB f1 f2 f3
            go_wp2
            generalize (w4.alloc (.cells #[.float .f32 sx, .float .f32 sy, .float .f32 sz] 28)) = WA at hrow hrv hs ⊢
            generalize w4.heap.size = pv at hrv hne ⊢
            refine wp_loop_rounds 4 ?_
            rw [rounds_succ]
            go_upto_region 13 with fail
            have hcells := fun W (hW : Stays WA W) => And.intro (cell_of_row W _ 0 _ _ _ ((Below.block hW _ (in_heap hrow.out)).trans hrow.out)) (cell_of_row W _ 0 _ _ _ ((Below.block hW _ (in_heap hrv.out)).trans hrv.out))
            refine wp_region_soft_tail 9 (Stays.refl _) (fun _ _ _ => False) [] (by kernel_rfl) (by kernel_rfl) (fun _ h => by cases h) ?_
            simp only [List.take_succ_cons, List.take_zero, List.drop_succ_cons, List.drop_zero]
            repeat ((with_reducible apply soft_detG); (case hwa => rfl); (case hA => rfl); (case h => (intro w1 hw1; have hc := hcells w1 hw1; go_simp; exact rfl)); go_simp)
            ((with_reducible refine soft_fop rfl ?hA _ _ _ _ _ rfl rfl _ _ _ rfl rfl ?_); (case hA => rfl); intro r0a hr0a; go_simp)
            repeat ((with_reducible apply soft_detG); (case hwa => rfl); (case hA => rfl); (case h => (intro w1 hw1; have hc := hcells w1 hw1; go_simp; exact rfl)); go_simp)
            refine soft_nil ?_
            rintro v0 ⟨hv, _⟩
            replace hrow := Lib.hid ((Below.block hv _ (in_heap hrow.out)).trans hrow.out)
            replace hrv := Lib.hid ((Below.block hv _ (in_heap hrv.out)).trans hrv.out)
            replace hs := Lib.hid (hs.out.trans hv)
            clear hcells hv
            have hp0 := Lib.hid hr0a
            clear hr0a
            have c9 := cell_of_row _ _ 0 _ _ _ hrow.out
            have f9 := frozen_of_row _ _ 0 _ _ hrow.out
            go_wp2
            clear c9 f9
            have hrvN := (heap_setCell_other v0 ⟨p0, 0, none⟩ pv (.float .f32 r0a) (by simp; have := hne.out; omega)).trans hrv.out
            replace hrv := Lib.hid hrvN
            clear hrvN
            have hrowN : (v0.setCell ⟨p0, 0, none⟩ (.float .f32 r0a)).heap[p0]? = some (.cells #[.float .f32 r0a, .float .f32 y, .float .f32 z] 28 (0, 0)) := heap_setCell_same v0 p0 0 _ _ (.float .f32 r0a) hrow.out
            have hsN : Stays w2 (v0.setCell ⟨p0, 0, none⟩ (.float .f32 r0a)) := hs.out.setCell _ _ hge0.out
            replace hrow := Lib.hid hrowN
            replace hs := Lib.hid hsN
            clear hrowN hsN
            generalize (v0.setCell ⟨p0, 0, none⟩ (.float .f32 r0a)) = u0 at hrow hrv hs ⊢
            rw [rounds_succ]
            go_upto_region 13 with fail
            have hcells := fun W (hW : Stays u0 W) => And.intro (cell_of_row W _ 1 _ _ _ ((Below.block hW _ (in_heap hrow.out)).trans hrow.out)) (cell_of_row W _ 1 _ _ _ ((Below.block hW _ (in_heap hrv.out)).trans hrv.out))
            refine wp_region_soft_tail 9 (Stays.refl _) (fun _ _ _ => False) [] (by kernel_rfl) (by kernel_rfl) (fun _ h => by cases h) ?_
            simp only [List.take_succ_cons, List.take_zero, List.drop_succ_cons, List.drop_zero]
            repeat ((with_reducible apply soft_detG); (case hwa => rfl); (case hA => rfl); (case h => (intro w1 hw1; have hc := hcells w1 hw1; go_simp; exact rfl)); go_simp)
            ((with_reducible refine soft_fop rfl ?hA _ _ _ _ _ rfl rfl _ _ _ rfl rfl ?_); (case hA => rfl); intro r1a hr1a; go_simp)
            repeat ((with_reducible apply soft_detG); (case hwa => rfl); (case hA => rfl); (case h => (intro w1 hw1; have hc := hcells w1 hw1; go_simp; exact rfl)); go_simp)
            refine soft_nil ?_
            rintro v1 ⟨hv, _⟩
            replace hrow := Lib.hid ((Below.block hv _ (in_heap hrow.out)).trans hrow.out)
            replace hrv := Lib.hid ((Below.block hv _ (in_heap hrv.out)).trans hrv.out)
            replace hs := Lib.hid (hs.out.trans hv)
            clear hcells hv
            have hp1 := Lib.hid hr1a
            clear hr1a
            have c9 := cell_of_row _ _ 1 _ _ _ hrow.out
            have f9 := frozen_of_row _ _ 1 _ _ hrow.out
            go_wp2
            clear c9 f9
            have hrvN := (heap_setCell_other v1 ⟨p0, 1, none⟩ pv (.float .f32 r1a) (by simp; have := hne.out; omega)).trans hrv.out
            replace hrv := Lib.hid hrvN
            clear hrvN
            have hrowN : (v1.setCell ⟨p0, 1, none⟩ (.float .f32 r1a)).heap[p0]? = some (.cells #[.float .f32 r0a, .float .f32 r1a, .float .f32 z] 28 (0, 0)) := heap_setCell_same v1 p0 1 _ _ (.float .f32 r1a) hrow.out
            have hsN : Stays w2 (v1.setCell ⟨p0, 1, none⟩ (.float .f32 r1a)) := hs.out.setCell _ _ hge0.out
            replace hrow := Lib.hid hrowN
            replace hs := Lib.hid hsN
            clear hrowN hsN
            generalize (v1.setCell ⟨p0, 1, none⟩ (.float .f32 r1a)) = u1 at hrow hrv hs ⊢
            rw [rounds_succ]
            go_upto_region 13 with fail
            have hcells := fun W (hW : Stays u1 W) => And.intro (cell_of_row W _ 2 _ _ _ ((Below.block hW _ (in_heap hrow.out)).trans hrow.out)) (cell_of_row W _ 2 _ _ _ ((Below.block hW _ (in_heap hrv.out)).trans hrv.out))
            refine wp_region_soft_tail 9 (Stays.refl _) (fun _ _ _ => False) [] (by kernel_rfl) (by kernel_rfl) (fun _ h => by cases h) ?_
            simp only [List.take_succ_cons, List.take_zero, List.drop_succ_cons, List.drop_zero]
            repeat ((with_reducible apply soft_detG); (case hwa => rfl); (case hA => rfl); (case h => (intro w1 hw1; have hc := hcells w1 hw1; go_simp; exact rfl)); go_simp)
            ((with_reducible refine soft_fop rfl ?hA _ _ _ _ _ rfl rfl _ _ _ rfl rfl ?_); (case hA => rfl); intro r2a hr2a; go_simp)
            repeat ((with_reducible apply soft_detG); (case hwa => rfl); (case hA => rfl); (case h => (intro w1 hw1; have hc := hcells w1 hw1; go_simp; exact rfl)); go_simp)
            refine soft_nil ?_
            rintro v2 ⟨hv, _⟩
            replace hrow := Lib.hid ((Below.block hv _ (in_heap hrow.out)).trans hrow.out)
            replace hrv := Lib.hid ((Below.block hv _ (in_heap hrv.out)).trans hrv.out)
            replace hs := Lib.hid (hs.out.trans hv)
            clear hcells hv
            have hp2 := Lib.hid hr2a
            clear hr2a
            have c9 := cell_of_row _ _ 2 _ _ _ hrow.out
            have f9 := frozen_of_row _ _ 2 _ _ hrow.out
            go_wp2
            clear c9 f9
            have hrvN := (heap_setCell_other v2 ⟨p0, 2, none⟩ pv (.float .f32 r2a) (by simp; have := hne.out; omega)).trans hrv.out
            replace hrv := Lib.hid hrvN
            clear hrvN
            have hrowN : (v2.setCell ⟨p0, 2, none⟩ (.float .f32 r2a)).heap[p0]? = some (.cells #[.float .f32 r0a, .float .f32 r1a, .float .f32 r2a] 28 (0, 0)) := heap_setCell_same v2 p0 2 _ _ (.float .f32 r2a) hrow.out
            have hsN : Stays w2 (v2.setCell ⟨p0, 2, none⟩ (.float .f32 r2a)) := hs.out.setCell _ _ hge0.out
            replace hrow := Lib.hid hrowN
            replace hs := Lib.hid hsN
            clear hrowN hsN
            generalize (v2.setCell ⟨p0, 2, none⟩ (.float .f32 r2a)) = u2 at hrow hrv hs ⊢
            rw [rounds_succ]
            have hX := Lib.hid (show FIs .f32 r0a (sumR (vX r0 r3) rs (k + 1 + 1)) ∧ FIs .f32 r1a (sumR (vY r1 r4) rs (k + 1 + 1)) ∧ FIs .f32 r2a (sumR (vZ r2 r5) rs (k + 1 + 1)) from ⟨hp0.out.of_eq (by rw [nx.out.1, hf.out.1.out, hfm.out.1.out]; rfl), hp1.out.of_eq (by rw [nx.out.2.1, hf.out.2.1.out, hfm.out.2.1.out]; rfl), hp2.out.of_eq (by rw [nx.out.2.2, hf.out.2.2.out, hfm.out.2.2.out]; rfl)⟩)
            clear hp0 hp1 hp2
            go_wp2
            go_roundw
            case rel => exact ⟨k + 1, r0a, r1a, r2a, by omega, by go_num, hrow, hX, hs⟩
            case measure => simp [intOf]; omega
          · have ek : k + 1 = rs.length := by omega
            have hlt2 : ¬ (k : Int) + 1 < (rs.length : Int) := by omega
            rw [ek] at hf
            replace ek := Lib.hid ek
            go_wp2
            refine wp_loop_rounds 4 ?_
            rw [rounds_succ]
            have c9 := fun n => cell_of_row (wr.drewN n) _ 0 _ _ _ hrow.out
            have f9 := fun n => frozen_of_row (wr.drewN n) _ 0 _ _ hrow.out
            have c8 := cell_of_row _ _ 0 _ _ _ hrow.out
            go_wp2_with ((with_reducible refine wpList_fop rfl _ _ _ _ _ rfl rfl _ _ _ rfl rfl ?_); intro q0 n0 hq0; have hs0' := Lib.hid hq0; clear hq0)
            clear c8 c9 f9
            have hrowN : ((wr.setCell ⟨p0, 0, none⟩ (.float .f32 q0)).drewN n0).heap[p0]? = some (.cells #[.float .f32 q0, .float .f32 y, .float .f32 z] 28 (0, 0)) := heap_setCell_same wr p0 0 _ _ (.float .f32 q0) hrow.out
            have hsN : Stays w2 ((wr.setCell ⟨p0, 0, none⟩ (.float .f32 q0)).drewN n0) := (hs.out.setCell _ _ hge0.out).drewN _
            replace hrow := Lib.hid hrowN
            replace hs := Lib.hid hsN
            clear hrowN hsN
            generalize ((wr.setCell ⟨p0, 0, none⟩ (.float .f32 q0)).drewN n0) = u0 at hrow hs ⊢
            rw [rounds_succ]
            have c9 := fun n => cell_of_row (u0.drewN n) _ 1 _ _ _ hrow.out
            have f9 := fun n => frozen_of_row (u0.drewN n) _ 1 _ _ hrow.out
            have c8 := cell_of_row _ _ 1 _ _ _ hrow.out
            go_wp2_with ((with_reducible refine wpList_fop rfl _ _ _ _ _ rfl rfl _ _ _ rfl rfl ?_); intro q1 n1 hq1; have hs1' := Lib.hid hq1; clear hq1)
            clear c8 c9 f9
            have hrowN : ((u0.setCell ⟨p0, 1, none⟩ (.float .f32 q1)).drewN n1).heap[p0]? = some (.cells #[.float .f32 q0, .float .f32 q1, .float .f32 z] 28 (0, 0)) := heap_setCell_same u0 p0 1 _ _ (.float .f32 q1) hrow.out
            have hsN : Stays w2 ((u0.setCell ⟨p0, 1, none⟩ (.float .f32 q1)).drewN n1) := (hs.out.setCell _ _ hge0.out).drewN _
            replace hrow := Lib.hid hrowN
            replace hs := Lib.hid hsN
            clear hrowN hsN
            generalize ((u0.setCell ⟨p0, 1, none⟩ (.float .f32 q1)).drewN n1) = u1 at hrow hs ⊢
            rw [rounds_succ]
            have c9 := fun n => cell_of_row (u1.drewN n) _ 2 _ _ _ hrow.out
            have f9 := fun n => frozen_of_row (u1.drewN n) _ 2 _ _ hrow.out
            have c8 := cell_of_row _ _ 2 _ _ _ hrow.out
            go_wp2_with ((with_reducible refine wpList_fop rfl _ _ _ _ _ rfl rfl _ _ _ rfl rfl ?_); intro q2 n2 hq2; have hs2' := Lib.hid hq2; clear hq2)
            clear c8 c9 f9
            have hrowN : ((u1.setCell ⟨p0, 2, none⟩ (.float .f32 q2)).drewN n2).heap[p0]? = some (.cells #[.float .f32 q0, .float .f32 q1, .float .f32 q2] 28 (0, 0)) := heap_setCell_same u1 p0 2 _ _ (.float .f32 q2) hrow.out
            have hsN : Stays w2 ((u1.setCell ⟨p0, 2, none⟩ (.float .f32 q2)).drewN n2) := (hs.out.setCell _ _ hge0.out).drewN _
            replace hrow := Lib.hid hrowN
            replace hs := Lib.hid hsN
            clear hrowN hsN
            generalize ((u1.setCell ⟨p0, 2, none⟩ (.float .f32 q2)).drewN n2) = u2 at hrow hs ⊢
            rw [rounds_succ]
            have g0 := cell_of_row _ _ 0 _ _ _ hrow.out
            have g1 := cell_of_row _ _ 1 _ _ _ hrow.out
            have g2 := cell_of_row _ _ 2 _ _ _ hrow.out
            obtain ⟨_, hst, hres, _⟩ := HW.out u2 (hb.out.trans hs.out)
            have hfin := Lib.hid (show FIs .f32 q0 (meanK (vX r0 r3) rs) ∧ FIs .f32 q1 (meanK (vY r1 r4) rs) ∧ FIs .f32 q2 (meanK (vZ r2 r5) rs) from ⟨hs0'.out.of_eq (by unfold meanK; rw [hf.out.1.out]), hs1'.out.of_eq (by unfold meanK; rw [hf.out.2.1.out]), hs2'.out.of_eq (by unfold meanK; rw [hf.out.2.2.out])⟩)
            clear hs0' hs1' hs2'
            go_wp2_with ((refine wpList_store_row rfl _ _ _ rfl _ _ _ rfl rfl hres ?hi ?ho ?h1 ?hB hst ?_); (case hi => kernel_rfl); (case ho => rfl); (case h1 => first | rfl | simp [Value.oneCell']); (case hB => first | omega | (simp <;> omega)); intro w9 hw9 hq9 ho9 hsz9)
            apply end_gd rfl rfl rfl Try.underlying28 rfl (t := 28)
            case hg => exact hq9
            case hi => kernel_rfl
            case hR => exact ⟨_, _, _, rfl, hfin.out.1, hfin.out.2.1, hfin.out.2.2, hw9⟩

end Go.Proofs.Ytmcbeaihjdnelaa

namespace Go.Proofs.Ytmcbeaihjdnelaa
open Go Go.ChangeShapes Go.WideShapes Go.RowKit
set_option linter.unusedVariables false
set_option linter.unusedSimpArgs false

abbrev KCeV : List Kd := [.f .f32, .f .f32, .f .f32]

noncomputable def wkECeV : DT (SV × St) := callDT tb ftab otb 60 40 0 16 [inSh 0 (.agg KCeV), inSh 0 (.agg KCeV)] ⟨.nil, [], []⟩
noncomputable def nsECeV : List Df := wkECeV.gather []
theorem wfECeV : wfT (withIds nsECeV) [] = true := by kernel_rfl
theorem chECeV : wkECeV.chk nsECeV [] (endIs (.one (.lit (.bool true)))) = true := by kernel_rfl

theorem c_eqCeV (v v' : Value) (r : List NV) (w : World) (h : ShM (.agg KCeV) v r) (h' : ShM (.agg KCeV) v' r) : Calls Try.prog 16 #[v, v'] w fun e w' => e = .returned (.bool true) ∧ Below w.heap.size w w' := by
  have hl : r.length = 3 := by obtain ⟨cs, _, hk⟩ := h; exact KMs_rlen hk
  have hl' : r.length ≤ 1000 := by omega
  refine (walk_args (args := [inSh 0 (.agg KCeV), inSh 0 (.agg KCeV)]) (vs := #[v, v']) (ins := r) (r := .one (.lit (.bool true))) tb_ok mixed ftab_ok (otb_ok baseΦ_ok) wfECeV chECeV (by kernel_rfl) ⟨inSh_ok h fun j hj => ins_at hl' j hj, inSh_ok h' fun j hj => ins_at hl' j hj, trivial⟩).mono ?_
  rintro e w' ⟨v2, γ, rfl, hm, hs⟩
  exact ⟨congrArg _ hm, hs⟩

/-- A number of a sensor. -/
def sn (ins : List NV) (i : Nat) : Option Nat := (ins.getD i (.i 0)).gf
theorem sen_can {v : Value} {ins : List NV} (h : Sen v ins) : (can .f32 (sw v 0) = sn ins 0 ∧ can .f32 (sw v 1) = sn ins 1 ∧ can .f32 (sw v 2) = sn ins 2) ∧ (can .f32 (sw v 3) = sn ins 3 ∧ can .f32 (sw v 4) = sn ins 4 ∧ can .f32 (sw v 5) = sn ins 5) := by
  obtain ⟨cs, rfl, hk⟩ := h
  obtain ⟨l⟩ := cs
  obtain ⟨v0, l0, x0, m0, e0, f0, ⟨r0, k0, g0⟩, hk⟩ := KMs_cons hk
  obtain ⟨v1, l1, x1, m1, e1, f1, ⟨r1, k1, g1⟩, hk⟩ := KMs_cons hk
  obtain ⟨v2, l2, x2, m2, e2, f2, ⟨r2, k2, g2⟩, hk⟩ := KMs_cons hk
  obtain ⟨v3, l3, x3, m3, e3, f3, ⟨r3, k3, g3⟩, hk⟩ := KMs_cons hk
  obtain ⟨v4, l4, x4, m4, e4, f4, ⟨r4, k4, g4⟩, hk⟩ := KMs_cons hk
  obtain ⟨v5, l5, x5, m5, e5, f5, ⟨r5, k5, g5⟩, hk⟩ := KMs_cons hk
  have e0 : l = v0 :: l0 := e0
  subst e5 e4 e3 e2 e1 e0 f5 f4 f3 f2 f1 f0 k0 k1 k2 k3 k4 k5
  exact ⟨⟨g0.out, g1.out, g2.out⟩, g3.out, g4.out, g5.out⟩

noncomputable def vXo (s o : Option Nat) (m : Rd) : Option Nat := cvO s o m.a
noncomputable def vYo (s o : Option Nat) (m : Rd) : Option Nat := cvO s o m.b
noncomputable def vZo (s o : Option Nat) (m : Rd) : Option Nat := cvO s o m.c
theorem mean_by {v : Value} {ins : List NV} (h : Sen v ins) (ok : Bool) (rs : List Rd) : mnV (vX (sw v 0) (sw v 3)) ok rs = mnV (vXo (sn ins 0) (sn ins 3)) ok rs ∧ mnV (vY (sw v 1) (sw v 4)) ok rs = mnV (vYo (sn ins 1) (sn ins 4)) ok rs ∧ mnV (vZ (sw v 2) (sw v 5)) ok rs = mnV (vZo (sn ins 2) (sn ins 5)) ok rs := by
  obtain ⟨⟨e0, e1, e2⟩, e3, e4, e5⟩ := sen_can h
  unfold vX vY vZ vXo vYo vZo
  rw [e0, e1, e2, e3, e4, e5]
  exact ⟨rfl, rfl, rfl⟩

/-- A sensor in a block, cell by cell. -/
structure Boxed (w : World) (p : Nat) (r0 r1 r2 r3 r4 r5 : Nat) (ev d : Int) : Prop where
  c0 : w.cell? ⟨p, 0, none⟩ = some (.float .f32 r0)
  c1 : w.cell? ⟨p, 1, none⟩ = some (.float .f32 r1)
  c2 : w.cell? ⟨p, 2, none⟩ = some (.float .f32 r2)
  c3 : w.cell? ⟨p, 3, none⟩ = some (.float .f32 r3)
  c4 : w.cell? ⟨p, 4, none⟩ = some (.float .f32 r4)
  c5 : w.cell? ⟨p, 5, none⟩ = some (.float .f32 r5)
  c6 : w.cell? ⟨p, 6, none⟩ = some (.int .i64 ev)
  c7 : w.cell? ⟨p, 7, none⟩ = some (.int .i64 d)

theorem Boxed.on {w w' : World} {p B r0 r1 r2 r3 r4 r5 : Nat} {ev d : Int} (h : Boxed w p r0 r1 r2 r3 r4 r5 ev d) (hb : Below B w w') (hp : p < B) : Boxed w' p r0 r1 r2 r3 r4 r5 ev d := by
  have k : ∀ o, w'.cell? ⟨p, o, none⟩ = w.cell? ⟨p, o, none⟩ := fun o => hb.cell (p := ⟨p, o, none⟩) hp
  exact ⟨(k 0).trans h.c0, (k 1).trans h.c1, (k 2).trans h.c2, (k 3).trans h.c3, (k 4).trans h.c4, (k 5).trans h.c5, (k 6).trans h.c6, (k 7).trans h.c7⟩

set_option maxRecDepth 100000 in
set_option maxHeartbeats 2000000 in
theorem c_lawMeanOfFeed (vs : Value) (ins : List NV) (hs : Sen vs ins) (A : Option Addr) (c : Nat) (rs : List Rd) (w : World) (h : Feed w w.heap.size A rs) (hn : rs.length ≤ 9223372036854775807) :
    Calls Try.prog 3 #[vs, .slice A rs.length c] w fun e w' => e = .returned (.bool true) ∧ Below w.heap.size w w' := by
  obtain ⟨r0, r1, r2, r3, r4, r5, ev, d, rfl, hdd⟩ := hs.cells
  clear hdd
  obtain ⟨wa, hwa⟩ : ∃ wa, wa = w.alloc (.cells (senCells r0 r1 r2 r3 r4 r5 ev d) 25) := ⟨_, rfl⟩
  have hal : Below w.heap.size w wa := by rw [hwa]; exact (Below.refl _ _).alloc (Nat.le_refl _) _
  have hbox : wa.heap[w.heap.size]? = some (.cells (senCells r0 r1 r2 r3 r4 r5 ev d) 25 (0, 0)) := by rw [hwa]; exact heap_alloc_new w _
  have hlt : w.heap.size < wa.heap.size := (Array.getElem?_eq_some_iff.1 hbox).1
  have hbx : Boxed wa w.heap.size r0 r1 r2 r3 r4 r5 ev d := by
    have k : ∀ o, wa.cell? ⟨w.heap.size, o, none⟩ = (senCells r0 r1 r2 r3 r4 r5 ev d)[o]? := fun o => cell_of_row _ _ o _ _ _ hbox
    exact ⟨k 0, k 1, k 2, k 3, k 4, k 5, k 6, k 7⟩
  have H := Lib.hid ((h.below hal).more hal.size)
  have hs := Lib.hid hs
  have hal := Lib.hid hal
  have hlt := Lib.hid hlt
  have hbx := Lib.hid hbx
  clear h hbox
  go_enter Try.func3, Try.ntmps3
  go_wp2_with fail
  rw [show w.alloc (.cells #[.float .f32 r0, .float .f32 r1, .float .f32 r2, .float .f32 r3, .float .f32 r4, .float .f32 r5, .int .i64 ev, .int .i64 d] 25) = wa from hwa.symm]
  clear hwa
  refine (c_szReadingS A c rs.length _ _ hn (by omega) (by omega)).mono ?_
  rintro e w' ⟨rfl, rfl⟩
  by_cases hl : rs.length ≤ 1048576
  · have hl1 : ¬ ((1048576 : Int) - (rs.length : Nat) < 0) := by omega
    rw [if_neg hl1]
    have hS := fun v (hv : Sen v ins) A c w h => c_specMean v ins hv A c rs w h hl
    have hI := fun v (hv : Sen v ins) A c w h hc => c_implMean v ins hv A c rs w h hl hc
    have hE := fun v (hv : Sen v ins) => mean_by hv (sensB ins && feedB rs) rs
    replace hS := fun v (hv : Sen v ins) A c w h => show Calls Try.prog 12 #[v, .slice A rs.length c] w (V3Done w (mnC (sensB ins && feedB rs) rs) (mnV (vXo (sn ins 0) (sn ins 3)) (sensB ins && feedB rs) rs) (mnV (vYo (sn ins 1) (sn ins 4)) (sensB ins && feedB rs) rs) (mnV (vZo (sn ins 2) (sn ins 5)) (sensB ins && feedB rs) rs)) from by
      have := hS v hv A c w h
      rw [(hE v hv).1, (hE v hv).2.1, (hE v hv).2.2] at this
      exact this
    replace hI := fun v (hv : Sen v ins) A c w h hc => show Calls Try.prog 15 #[v, .slice A rs.length c] w (V3Done w (mnC (sensB ins && feedB rs) rs) (mnV (vXo (sn ins 0) (sn ins 3)) (sensB ins && feedB rs) rs) (mnV (vYo (sn ins 1) (sn ins 4)) (sensB ins && feedB rs) rs) (mnV (vZo (sn ins 2) (sn ins 5)) (sensB ins && feedB rs) rs)) from by
      have := hI v hv A c w h hc
      rw [(hE v hv).1, (hE v hv).2.1, (hE v hv).2.2] at this
      exact this
    clear hE
    generalize mnC (sensB ins && feedB rs) rs = code at hS hI
    generalize mnV (vXo (sn ins 0) (sn ins 3)) (sensB ins && feedB rs) rs = oa at hS hI
    generalize mnV (vYo (sn ins 1) (sn ins 4)) (sensB ins && feedB rs) rs = ob at hS hI
    generalize mnV (vZo (sn ins 2) (sn ins 5)) (sensB ins && feedB rs) rs = oc at hS hI
    replace hS := Lib.hid hS
    replace hI := Lib.hid hI
    obtain ⟨b0, b1, b2, b3, b4, b5, b6, b7⟩ := hbx.out
    have hvv : (code != code) = false := by simp
    go_wp2_with fail
    refine (c_toSensor _ _ wa hs.out).mono ?_
    clear b0 b1 b2 b3 b4 b5 b6 b7
    rintro e w0 ⟨s0, rfl, hs0, hw0⟩
    have hs0 := Lib.hid hs0
    have hB0 := Lib.hid hw0
    clear hw0
    go_wp2_with fail
    refine (c_toReadingS A c rs w0 ((H.out.below hB0.out).more hB0.out.size) hl).mono ?_
    rintro e w1 ⟨rfl, h1⟩
    have h1 := Lib.hid h1
    have hB1 : Hid (Below wa.heap.size wa w1) := Lib.hid (hB0.out.trans (h1.out.below.mono hB0.out.size))
    go_wp2_with fail
    refine (hS.out _ hs0.out _ _ w1 h1.out.feed).mono ?_
    rintro e w2 ⟨ax, ay, az, rfl, fa, fb, fc, h2⟩
    have hrow0 := Lib.hid (heap_alloc_new w2 (.cells #[.float .f32 ax, .float .f32 ay, .float .f32 az] 28))
    have h2' : Stays w1 (w2.alloc (.cells #[.float .f32 ax, .float .f32 ay, .float .f32 az] 28)) := Stays.trans h2 (by (repeat (first | exact Stays.refl _ | (with_reducible refine Stays.drewN ?_ _) | (with_reducible refine Stays.alloc ?_ _) | (with_reducible refine Stays.drew ?_) | (refine Stays.trans ?_ ‹Stays _ _›))))
    have hB2 := Lib.hid (hB1.out.trans (Below.mono h2' hB1.out.size))
    have hfa := Lib.hid (And.intro fa (And.intro fb fc))
    clear h2 h2' fa fb fc h1 hs0
    go_wp2_with fail
    generalize (w2.alloc (.cells #[.float .f32 ax, .float .f32 ay, .float .f32 az] 28)) = W2 at hB2 hrow0 ⊢
    generalize w2.heap.size = pa at hrow0 ⊢
    refine (c_toReadingS A c rs W2 ((H.out.below hB2.out).more hB2.out.size) hl).mono ?_
    rintro e w3 ⟨rfl, h3⟩
    have h3 := Lib.hid h3
    have hB3 : Hid (Below wa.heap.size wa w3) := Lib.hid (hB2.out.trans (h3.out.below.mono hB2.out.size))
    have hLx := Lib.hid h3.out.lies
    replace hrow0 := Lib.hid ((Below.block h3.out.below _ (in_heap hrow0.out)).trans hrow0.out)
    obtain ⟨b0, b1, b2, b3, b4, b5, b6, b7⟩ := hbx.out.on hB3.out hlt.out
    go_wp2_with fail
    refine (c_toSensor _ _ w3 hs.out).mono ?_
    clear b0 b1 b2 b3 b4 b5 b6 b7
    rintro e w3' ⟨s1, rfl, hs1, hw3⟩
    have hs1 := Lib.hid hs1
    have hw3 := Lib.hid hw3
    have hB3' : Hid (Below wa.heap.size wa w3') := Lib.hid (hB3.out.trans (hw3.out.mono hB3.out.size))
    have hLx := Lib.hid (hLx.out.below hw3.out)
    replace hrow0 := Lib.hid ((Below.block hw3.out _ (in_heap hrow0.out)).trans hrow0.out)
    go_wp2_with fail
    refine (hI.out _ hs1.out _ _ w3' ((h3.out.feed.below hw3.out).more hw3.out.size) (Nat.le_refl _)).mono ?_
    rintro e w4 ⟨jx, jy, jz, rfl, fa, fb, fc, h4⟩
    have h4' : Stays w3' (w4.alloc (.cells #[.float .f32 jx, .float .f32 jy, .float .f32 jz] 28)) := Stays.trans h4 (by (repeat (first | exact Stays.refl _ | (with_reducible refine Stays.drewN ?_ _) | (with_reducible refine Stays.alloc ?_ _) | (with_reducible refine Stays.drew ?_) | (refine Stays.trans ?_ ‹Stays _ _›))))
    have hrow1 := Lib.hid (heap_alloc_new w4 (.cells #[.float .f32 jx, .float .f32 jy, .float .f32 jz] 28))
    have hB4 := Lib.hid (hB3'.out.trans (Below.mono h4' hB3'.out.size))
    have hLx := Lib.hid (hLx.out.below h4')
    replace hrow0 := Lib.hid ((Below.block h4' _ (in_heap hrow0.out)).trans hrow0.out)
    have hfb := Lib.hid (And.intro fa (And.intro fb fc))
    clear h4 h4' fa fb fc h3 hs1
    have c0 := cell_of_row _ _ 0 _ _ _ hrow0.out
    have c1 := cell_of_row _ _ 1 _ _ _ hrow0.out
    have c2 := cell_of_row _ _ 2 _ _ _ hrow0.out
    have d0 := cell_of_row _ _ 0 _ _ _ hrow1.out
    have d1 := cell_of_row _ _ 1 _ _ _ hrow1.out
    have d2 := cell_of_row _ _ 2 _ _ _ hrow1.out
    go_wp2_with fail
    refine (c_eqCeV (.agg #[.float .f32 jx, .float .f32 jy, .float .f32 jz]) (.agg #[.float .f32 ax, .float .f32 ay, .float .f32 az]) [.f oa, .f ob, .f oc] _ ⟨_, rfl, ⟨_, rfl, hfb.out.1⟩, ⟨_, rfl, hfb.out.2.1⟩, ⟨_, rfl, hfb.out.2.2⟩, trivial⟩ ⟨_, rfl, ⟨_, rfl, hfa.out.1⟩, ⟨_, rfl, hfa.out.2.1⟩, ⟨_, rfl, hfa.out.2.2⟩, trivial⟩).mono ?_
    rintro e w5 ⟨rfl, h5⟩
    have hB5 : Hid (Below wa.heap.size wa w5) := Lib.hid (hB4.out.trans (h5.mono hB4.out.size))
    have hLx := Lib.hid (hLx.out.below h5)
    clear h5 c0 c1 c2 d0 d1 d2 hrow0 hrow1
    go_wp2_with fail
    refine (c_toReadingS A c rs w5 ((H.out.below hB5.out).more hB5.out.size) hl).mono ?_
    rintro e w6 ⟨rfl, h6⟩
    have h6 := Lib.hid h6
    have hB6 : Hid (Below wa.heap.size wa w6) := Lib.hid (hB5.out.trans (h6.out.below.mono hB5.out.size))
    have hLx := Lib.hid (hLx.out.below h6.out.below)
    go_wp2_with fail
    refine (c_eqReadingS _ _ _ _ rs w6 hLx.out.feedAt h6.out.feed hl).mono ?_
    rintro e w7 ⟨rfl, h7⟩
    have hB7 : Hid (Below wa.heap.size wa w7) := Lib.hid (hB6.out.trans (h7.mono hB6.out.size))
    clear h7 h6
    go_wp2
    go_ret
    exact ⟨rfl, hal.out.trans (hB7.out.mono hal.out.size)⟩
  · have hl1 : (1048576 : Int) - (rs.length : Nat) < 0 := by omega
    rw [if_pos hl1]
    go_wp2
    go_ret
    exact ⟨rfl, hal.out⟩

end Go.Proofs.Ytmcbeaihjdnelaa
