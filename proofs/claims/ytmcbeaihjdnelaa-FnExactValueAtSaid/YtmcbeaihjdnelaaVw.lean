/- Rows of three numbers; the vector of counts. The mean of a feed, as the program has it. The mean of a feed, as the document has it. The law on the mean of a feed. A search among readings; the value between two of them. A region that draws its order, walked softly, in a round of a loop: where a slot that is written holds the last round's pointer. A region that draws its order, walked softly, that makes several blocks: they differ. The value at a time, as the document has it. The value at a time, as the program has it. The law on values at times. No condition. -/
import Derived.Test.YtmcbeaihjdnelaaFz
import Derived.Test.YtmcbeaihjdnelaaScw
import Derived.Test.YtmcbeaihjdnelaaLk
import Derived.Test.YtmcbeaihjdnelaaLi
import Derived.Test.YtmcbeaihjdnelaaGz
import Derived.Test.YtmcbeaihjdnelaaSo
namespace Go.Proofs.Ytmcbeaihjdnelaa
open Go Go.RowKit
set_option linter.unusedVariables false
set_option linter.unusedSimpArgs false


def V3 (a b c : Option Nat) (v : Value) : Prop := ∃ x y z, v = .agg #[.float .f32 x, .float .f32 y, .float .f32 z] ∧ FIs .f32 x a ∧ FIs .f32 y b ∧ FIs .f32 z c
def V3Done (w : World) (code : Int) (a b c : Option Nat) (e : Ending) (w' : World) : Prop := ∃ x y z, e = .returned (.tuple #[.agg #[.float .f32 x, .float .f32 y, .float .f32 z], .int .i64 code]) ∧ FIs .f32 x a ∧ FIs .f32 y b ∧ FIs .f32 z c ∧ Stays w w'

set_option maxRecDepth 100000 in
set_option maxHeartbeats 4000000 in
theorem c_AddV (ax ay az bx by_ bz : Nat) (w : World) :
    Calls Try.prog 59 #[.agg #[.float .f32 ax, .float .f32 ay, .float .f32 az], .agg #[.float .f32 bx, .float .f32 by_, .float .f32 bz]] w fun e w' => ∃ v, e = .returned v ∧ V3 (fop .add .f32 (can .f32 ax) (can .f32 bx)) (fop .add .f32 (can .f32 ay) (can .f32 by_)) (fop .add .f32 (can .f32 az) (can .f32 bz)) v ∧ Stays w w' := by
  have hst : Stays w (((w.alloc (.cells #[.float .f32 ax, .float .f32 ay, .float .f32 az] 28)).alloc (.cells #[.float .f32 bx, .float .f32 by_, .float .f32 bz] 28)).alloc (.cells #[.float .f32 0, .float .f32 0, .float .f32 0] 28)) := by (repeat (first | exact Stays.refl _ | (with_reducible refine Stays.drewN ?_ _) | (with_reducible refine Stays.alloc ?_ _) | (with_reducible refine Stays.drew ?_) | (refine Stays.trans ?_ ‹Stays _ _›)))
  have hres : (((w.alloc (.cells #[.float .f32 ax, .float .f32 ay, .float .f32 az] 28)).alloc (.cells #[.float .f32 bx, .float .f32 by_, .float .f32 bz] 28)).alloc (.cells #[.float .f32 0, .float .f32 0, .float .f32 0] 28)).heap[w.heap.size + 1 + 1]? = some (.cells #[.float .f32 0, .float .f32 0, .float .f32 0] 28 (0, 0)) := by (repeat (first | (refine heap_top _ _ _ ?_; simp; done) | (with_reducible refine heap_drawn _ _ _ ?_) | (with_reducible refine heap_under _ _ _ ?_ ?_; (simp <;> omega))))
  have hresn := fun n => (show ((((w.alloc (.cells #[.float .f32 ax, .float .f32 ay, .float .f32 az] 28)).alloc (.cells #[.float .f32 bx, .float .f32 by_, .float .f32 bz] 28)).alloc (.cells #[.float .f32 0, .float .f32 0, .float .f32 0] 28)).drewN n).heap[w.heap.size + 1 + 1]? = _ from hres)
  have hstn := fun n => hst.drewN n
  have u0 : (((w.alloc (.cells #[.float .f32 ax, .float .f32 ay, .float .f32 az] 28)).alloc (.cells #[.float .f32 bx, .float .f32 by_, .float .f32 bz] 28)).alloc (.cells #[.float .f32 0, .float .f32 0, .float .f32 0] 28)).heap[w.heap.size]? = some (.cells #[.float .f32 ax, .float .f32 ay, .float .f32 az] 28 (0, 0)) := by (repeat (first | (refine heap_top _ _ _ ?_; simp; done) | (with_reducible refine heap_drawn _ _ _ ?_) | (with_reducible refine heap_under _ _ _ ?_ ?_; (simp <;> omega))))
  have c0 := fun n (j : Nat) => cell_of_row ((((w.alloc (.cells #[.float .f32 ax, .float .f32 ay, .float .f32 az] 28)).alloc (.cells #[.float .f32 bx, .float .f32 by_, .float .f32 bz] 28)).alloc (.cells #[.float .f32 0, .float .f32 0, .float .f32 0] 28)).drewN n) _ j _ _ _ u0
  have u1 : (((w.alloc (.cells #[.float .f32 ax, .float .f32 ay, .float .f32 az] 28)).alloc (.cells #[.float .f32 bx, .float .f32 by_, .float .f32 bz] 28)).alloc (.cells #[.float .f32 0, .float .f32 0, .float .f32 0] 28)).heap[w.heap.size + 1]? = some (.cells #[.float .f32 bx, .float .f32 by_, .float .f32 bz] 28 (0, 0)) := by (repeat (first | (refine heap_top _ _ _ ?_; simp; done) | (with_reducible refine heap_drawn _ _ _ ?_) | (with_reducible refine heap_under _ _ _ ?_ ?_; (simp <;> omega))))
  go_enter Try.func59, Try.ntmps59
  go_wp2_with (first | ((with_reducible refine wpList_fop rfl _ _ _ _ _ rfl rfl _ _ _ rfl rfl ?_); intro r n hr; have hs := Lib.hid hr; clear hr) | ((refine wpList_store_row rfl _ _ _ rfl _ _ _ rfl rfl (hresn _) ?hi ?ho ?h1 ?hB (hstn _) ?_); (case hi => kernel_rfl); (case ho => rfl); (case h1 => first | rfl | simp [Value.oneCell']); (case hB => first | omega | (simp <;> omega)); intro w9 hw9 hq9 _ _))
  apply end_agg rfl rfl rfl Try.underlying28 rfl (t := 28)
  case hg => exact hq9
  case hi => kernel_rfl
  case hR =>
  rename_i r1 n1 h1 r2 n2 h2 e1 e2
  exact ⟨_, rfl, ⟨_, _, _, rfl, h1.out, h2.out, hs.out⟩, hw9⟩

set_option maxRecDepth 100000 in
set_option maxHeartbeats 4000000 in
theorem c_DivV (ax ay az s : Nat) (w : World) :
    Calls Try.prog 60 #[.agg #[.float .f32 ax, .float .f32 ay, .float .f32 az], .float .f32 s] w fun e w' => ∃ v, e = .returned v ∧ V3 (fop .quo .f32 (can .f32 ax) (can .f32 s)) (fop .quo .f32 (can .f32 ay) (can .f32 s)) (fop .quo .f32 (can .f32 az) (can .f32 s)) v ∧ Stays w w' := by
  have hst : Stays w ((w.alloc (.cells #[.float .f32 ax, .float .f32 ay, .float .f32 az] 28)).alloc (.cells #[.float .f32 0, .float .f32 0, .float .f32 0] 28)) := by (repeat (first | exact Stays.refl _ | (with_reducible refine Stays.drewN ?_ _) | (with_reducible refine Stays.alloc ?_ _) | (with_reducible refine Stays.drew ?_) | (refine Stays.trans ?_ ‹Stays _ _›)))
  have hres : ((w.alloc (.cells #[.float .f32 ax, .float .f32 ay, .float .f32 az] 28)).alloc (.cells #[.float .f32 0, .float .f32 0, .float .f32 0] 28)).heap[w.heap.size + 1]? = some (.cells #[.float .f32 0, .float .f32 0, .float .f32 0] 28 (0, 0)) := by (repeat (first | (refine heap_top _ _ _ ?_; simp; done) | (with_reducible refine heap_drawn _ _ _ ?_) | (with_reducible refine heap_under _ _ _ ?_ ?_; (simp <;> omega))))
  have hresn := fun n => (show (((w.alloc (.cells #[.float .f32 ax, .float .f32 ay, .float .f32 az] 28)).alloc (.cells #[.float .f32 0, .float .f32 0, .float .f32 0] 28)).drewN n).heap[w.heap.size + 1]? = _ from hres)
  have hstn := fun n => hst.drewN n
  have u0 : ((w.alloc (.cells #[.float .f32 ax, .float .f32 ay, .float .f32 az] 28)).alloc (.cells #[.float .f32 0, .float .f32 0, .float .f32 0] 28)).heap[w.heap.size]? = some (.cells #[.float .f32 ax, .float .f32 ay, .float .f32 az] 28 (0, 0)) := by (repeat (first | (refine heap_top _ _ _ ?_; simp; done) | (with_reducible refine heap_drawn _ _ _ ?_) | (with_reducible refine heap_under _ _ _ ?_ ?_; (simp <;> omega))))
  have c0 := fun n (j : Nat) => cell_of_row (((w.alloc (.cells #[.float .f32 ax, .float .f32 ay, .float .f32 az] 28)).alloc (.cells #[.float .f32 0, .float .f32 0, .float .f32 0] 28)).drewN n) _ j _ _ _ u0
  go_enter Try.func60, Try.ntmps60
  go_wp2_with (first | ((with_reducible refine wpList_fop rfl _ _ _ _ _ rfl rfl _ _ _ rfl rfl ?_); intro r n hr; have hs := Lib.hid hr; clear hr) | ((refine wpList_store_row rfl _ _ _ rfl _ _ _ rfl rfl (hresn _) ?hi ?ho ?h1 ?hB (hstn _) ?_); (case hi => kernel_rfl); (case ho => rfl); (case h1 => first | rfl | simp [Value.oneCell']); (case hB => first | omega | (simp <;> omega)); intro w9 hw9 hq9 _ _))
  apply end_agg rfl rfl rfl Try.underlying28 rfl (t := 28)
  case hg => exact hq9
  case hi => kernel_rfl
  case hR =>
  rename_i r1 n1 h1 r2 n2 h2 e1 e2
  exact ⟨_, rfl, ⟨_, _, _, rfl, h1.out, h2.out, hs.out⟩, hw9⟩

/-- A count as a number. -/
noncomputable def cvO (s o : Option Nat) (c : Int) : Option Nat := fop .add .f32 (fop .mul .f32 (can .f32 (floatOfInt .f32 c)) s) o

theorem sen_cells {w : World} {p : Nat} {r0 r1 r2 r3 r4 r5 : Nat} {ev d : Int} (hg : w.heap[p]? = some (.cells (senCells r0 r1 r2 r3 r4 r5 ev d) 32 (0, 0))) : ∀ W, Stays w W → (W.cell? ⟨p, 0, none⟩ = some (.float .f32 r0) ∧ W.cell? ⟨p, 1, none⟩ = some (.float .f32 r1) ∧ W.cell? ⟨p, 2, none⟩ = some (.float .f32 r2)) ∧ (W.cell? ⟨p, 3, none⟩ = some (.float .f32 r3) ∧ W.cell? ⟨p, 4, none⟩ = some (.float .f32 r4) ∧ W.cell? ⟨p, 5, none⟩ = some (.float .f32 r5)) ∧ (W.cell? ⟨p, 6, none⟩ = some (.int .i64 ev) ∧ W.cell? ⟨p, 7, none⟩ = some (.int .i64 d)) := fun W hW =>
  ⟨⟨row_of hW hg 0, row_of hW hg 1, row_of hW hg 2⟩, ⟨row_of hW hg 3, row_of hW hg 4, row_of hW hg 5⟩, row_of hW hg 6, row_of hW hg 7⟩

theorem bs {p : Nat} {w0 w1 w2 : World} (h : Below p w0 w1) (hp : p ≤ w0.heap.size) (h2 : Stays w1 w2) : Below p w0 w2 := h.trans (Below.mono h2 (Nat.le_trans hp h.size))

set_option maxRecDepth 100000 in
set_option maxHeartbeats 4000000 in
theorem c_vecOf (r0 r1 r2 r3 r4 r5 : Nat) (ev d a b c : Int) (w : World) :
    Calls Try.prog 58 #[.agg (senCells r0 r1 r2 r3 r4 r5 ev d), .agg #[.int .i16 a, .int .i16 b, .int .i16 c]] w fun e w' => ∃ v, e = .returned v ∧ V3 (cvO (can .f32 r0) (can .f32 r3) a) (cvO (can .f32 r1) (can .f32 r4) b) (cvO (can .f32 r2) (can .f32 r5) c) v ∧ Stays w w' := by
  have hst : Stays w ((((w.alloc (.cells #[.float .f32 r0, .float .f32 r1, .float .f32 r2, .float .f32 r3, .float .f32 r4, .float .f32 r5, .int .i64 ev, .int .i64 d] 32)).alloc (.cells #[.int .i16 a, .int .i16 b, .int .i16 c] 81)).alloc (.cells #[.float .f32 0, .float .f32 0, .float .f32 0] 28)).alloc (.cells #[.float .f32 0, .float .f32 0, .float .f32 0] 28)) := by (repeat (first | exact Stays.refl _ | (with_reducible refine Stays.drewN ?_ _) | (with_reducible refine Stays.alloc ?_ _) | (with_reducible refine Stays.drew ?_) | (refine Stays.trans ?_ ‹Stays _ _›)))
  have uS : ((((w.alloc (.cells #[.float .f32 r0, .float .f32 r1, .float .f32 r2, .float .f32 r3, .float .f32 r4, .float .f32 r5, .int .i64 ev, .int .i64 d] 32)).alloc (.cells #[.int .i16 a, .int .i16 b, .int .i16 c] 81)).alloc (.cells #[.float .f32 0, .float .f32 0, .float .f32 0] 28)).alloc (.cells #[.float .f32 0, .float .f32 0, .float .f32 0] 28)).heap[w.heap.size]? = some (.cells (senCells r0 r1 r2 r3 r4 r5 ev d) 32 (0, 0)) := by (repeat (first | (refine heap_top _ _ _ ?_; simp; done) | (with_reducible refine heap_drawn _ _ _ ?_) | (with_reducible refine heap_under _ _ _ ?_ ?_; (simp <;> omega))))
  have uC : ((((w.alloc (.cells #[.float .f32 r0, .float .f32 r1, .float .f32 r2, .float .f32 r3, .float .f32 r4, .float .f32 r5, .int .i64 ev, .int .i64 d] 32)).alloc (.cells #[.int .i16 a, .int .i16 b, .int .i16 c] 81)).alloc (.cells #[.float .f32 0, .float .f32 0, .float .f32 0] 28)).alloc (.cells #[.float .f32 0, .float .f32 0, .float .f32 0] 28)).heap[w.heap.size + 1]? = some (.cells #[.int .i16 a, .int .i16 b, .int .i16 c] 81 (0, 0)) := by (repeat (first | (refine heap_top _ _ _ ?_; simp; done) | (with_reducible refine heap_drawn _ _ _ ?_) | (with_reducible refine heap_under _ _ _ ?_ ?_; (simp <;> omega))))
  have uR : ((((w.alloc (.cells #[.float .f32 r0, .float .f32 r1, .float .f32 r2, .float .f32 r3, .float .f32 r4, .float .f32 r5, .int .i64 ev, .int .i64 d] 32)).alloc (.cells #[.int .i16 a, .int .i16 b, .int .i16 c] 81)).alloc (.cells #[.float .f32 0, .float .f32 0, .float .f32 0] 28)).alloc (.cells #[.float .f32 0, .float .f32 0, .float .f32 0] 28)).heap[w.heap.size + 1 + 1]? = some (.cells #[.float .f32 0, .float .f32 0, .float .f32 0] 28 (0, 0)) := by (repeat (first | (refine heap_top _ _ _ ?_; simp; done) | (with_reducible refine heap_drawn _ _ _ ?_) | (with_reducible refine heap_under _ _ _ ?_ ?_; (simp <;> omega))))
  have uP : ((((w.alloc (.cells #[.float .f32 r0, .float .f32 r1, .float .f32 r2, .float .f32 r3, .float .f32 r4, .float .f32 r5, .int .i64 ev, .int .i64 d] 32)).alloc (.cells #[.int .i16 a, .int .i16 b, .int .i16 c] 81)).alloc (.cells #[.float .f32 0, .float .f32 0, .float .f32 0] 28)).alloc (.cells #[.float .f32 0, .float .f32 0, .float .f32 0] 28)).heap[w.heap.size + 1 + 1 + 1]? = some (.cells #[.float .f32 0, .float .f32 0, .float .f32 0] 28 (0, 0)) := by (repeat (first | (refine heap_top _ _ _ ?_; simp; done) | (with_reducible refine heap_drawn _ _ _ ?_) | (with_reducible refine heap_under _ _ _ ?_ ?_; (simp <;> omega))))
  have hB := Lib.hid fun W (hW : Below (w.heap.size + 1 + 1 + 1) ((((w.alloc (.cells #[.float .f32 r0, .float .f32 r1, .float .f32 r2, .float .f32 r3, .float .f32 r4, .float .f32 r5, .int .i64 ev, .int .i64 d] 32)).alloc (.cells #[.int .i16 a, .int .i16 b, .int .i16 c] 81)).alloc (.cells #[.float .f32 0, .float .f32 0, .float .f32 0] 28)).alloc (.cells #[.float .f32 0, .float .f32 0, .float .f32 0] 28)) W) => And.intro (And.intro (cell_of_row W _ 0 _ _ _ ((hW.block _ (by omega)).trans uC)) (And.intro (cell_of_row W _ 1 _ _ _ ((hW.block _ (by omega)).trans uC)) (cell_of_row W _ 2 _ _ _ ((hW.block _ (by omega)).trans uC)))) (And.intro ((hW.block _ (by omega)).trans uR) ((hW.block _ (by omega)).trans uS))
  have hsz := Lib.hid (show w.heap.size + 1 + 1 + 1 ≤ ((((w.alloc (.cells #[.float .f32 r0, .float .f32 r1, .float .f32 r2, .float .f32 r3, .float .f32 r4, .float .f32 r5, .int .i64 ev, .int .i64 d] 32)).alloc (.cells #[.int .i16 a, .int .i16 b, .int .i16 c] 81)).alloc (.cells #[.float .f32 0, .float .f32 0, .float .f32 0] 28)).alloc (.cells #[.float .f32 0, .float .f32 0, .float .f32 0] 28)).heap.size from Nat.le_of_lt (in_heap uP))
  have hrow := Lib.hid uP
  have hst' := Lib.hid hst
  have hs := Lib.hid (Below.refl (w.heap.size + 1 + 1 + 1) ((((w.alloc (.cells #[.float .f32 r0, .float .f32 r1, .float .f32 r2, .float .f32 r3, .float .f32 r4, .float .f32 r5, .int .i64 ev, .int .i64 d] 32)).alloc (.cells #[.int .i16 a, .int .i16 b, .int .i16 c] 81)).alloc (.cells #[.float .f32 0, .float .f32 0, .float .f32 0] 28)).alloc (.cells #[.float .f32 0, .float .f32 0, .float .f32 0] 28)))
  have ei0 : ∀ W, (Instr.index 81 (.agg #[.int .i16 a, .int .i16 b, .int .i16 c]) (.int .i64 0)).run Try.prog W = .ok (.int .i16 a) W := fun _ => by kernel_rfl
  have ei1 : ∀ W, (Instr.index 81 (.agg #[.int .i16 a, .int .i16 b, .int .i16 c]) (.int .i64 1)).run Try.prog W = .ok (.int .i16 b) W := fun _ => by kernel_rfl
  have ei2 : ∀ W, (Instr.index 81 (.agg #[.int .i16 a, .int .i16 b, .int .i16 c]) (.int .i64 2)).run Try.prog W = .ok (.int .i16 c) W := fun _ => by kernel_rfl
  have w_lt : w.heap.size ≤ w.heap.size + 1 + 1 + 1 := by omega
  have hge0 := Lib.hid (Nat.le_refl (w.heap.size + 1 + 1 + 1))
  obtain ⟨⟨q0, q1, q2⟩, _⟩ := hB.out _ hs.out
  clear uC uR uP hst uS
  go_enter Try.func58, Try.ntmps58
  go_wp2
  generalize ((((w.alloc (.cells #[.float .f32 r0, .float .f32 r1, .float .f32 r2, .float .f32 r3, .float .f32 r4, .float .f32 r5, .int .i64 ev, .int .i64 d] 32)).alloc (.cells #[.int .i16 a, .int .i16 b, .int .i16 c] 81)).alloc (.cells #[.float .f32 0, .float .f32 0, .float .f32 0] 28)).alloc (.cells #[.float .f32 0, .float .f32 0, .float .f32 0] 28)) = W4 at hB hs hsz hrow hst' q0 q1 q2 ⊢
  generalize w.heap.size + 1 + 1 + 1 = p0 at hB hs hsz hrow w_lt hge0 ⊢
  replace w_lt := Lib.hid w_lt
  clear q0 q1 q2
  refine wp_loop_rounds 4 ?_
  rw [rounds_succ]
  go_upto_region 5 with fail
  have hcells := fun W (hW : Stays W4 W) => And.intro (hB.out W (bs hs.out hsz.out hW)).1 (sen_cells (hB.out W (bs hs.out hsz.out hW)).2.2 W (Stays.refl _))
  refine wp_region_soft_tail 14 (Stays.refl _) (fun _ _ _ => False) [] (by kernel_rfl) (by kernel_rfl) (fun _ h => by cases h) ?_
  simp only [List.take_succ_cons, List.take_zero, List.drop_succ_cons, List.drop_zero]
  repeat ((with_reducible apply soft_detG); (case hwa => rfl); (case hA => rfl); (case h => (intro w1 hw1; have hc := hcells w1 hw1; go_simp; exact rfl)); go_simp)
  ((with_reducible refine soft_fop rfl ?hA _ _ _ _ _ rfl rfl _ _ _ rfl rfl ?_); (case hA => rfl); intro r0a hr0a; go_simp)
  repeat ((with_reducible apply soft_detG); (case hwa => rfl); (case hA => rfl); (case h => (intro w1 hw1; have hc := hcells w1 hw1; go_simp; exact rfl)); go_simp)
  ((with_reducible refine soft_fop rfl ?hA _ _ _ _ _ rfl rfl _ _ _ rfl rfl ?_); (case hA => rfl); intro r0b hr0b; go_simp)
  repeat ((with_reducible apply soft_detG); (case hwa => rfl); (case hA => rfl); (case h => (intro w1 hw1; have hc := hcells w1 hw1; go_simp; exact rfl)); go_simp)
  refine soft_nil ?_
  rintro v0 ⟨hv, _⟩
  have hp0 := Lib.hid (show FIs .f32 r0b (cvO (can .f32 r0) (can .f32 r3) a) from hr0b.of_eq (by rw [hr0a.out]; rfl))
  replace hrow := Lib.hid ((Below.block hv _ (in_heap hrow.out)).trans hrow.out)
  replace hs := Lib.hid (bs hs.out hsz.out hv)
  clear hcells hv hr0a hr0b
  have c9 := cell_of_row _ _ 0 _ _ _ hrow.out
  have f9 := frozen_of_row _ _ 0 _ _ hrow.out
  go_wp2
  clear c9 f9
  have hrowN : (v0.setCell ⟨p0, 0, none⟩ (.float .f32 r0b)).heap[p0]? = some (.cells #[.float .f32 r0b, .float .f32 0, .float .f32 0] 28 (0, 0)) := heap_setCell_same v0 p0 0 _ _ (.float .f32 r0b) hrow.out
  have hsN : Below p0 W4 (v0.setCell ⟨p0, 0, none⟩ (.float .f32 r0b)) := Below.setCell hs.out hge0.out _
  replace hrow := Lib.hid hrowN
  replace hs := Lib.hid hsN
  clear hrowN hsN
  generalize (v0.setCell ⟨p0, 0, none⟩ (.float .f32 r0b)) = u0 at hrow hs ⊢
  rw [rounds_succ]
  go_upto_region 5 with fail
  have hcells := fun W (hW : Stays u0 W) => And.intro (hB.out W (bs hs.out hsz.out hW)).1 (sen_cells (hB.out W (bs hs.out hsz.out hW)).2.2 W (Stays.refl _))
  refine wp_region_soft_tail 14 (Stays.refl _) (fun _ _ _ => False) [] (by kernel_rfl) (by kernel_rfl) (fun _ h => by cases h) ?_
  simp only [List.take_succ_cons, List.take_zero, List.drop_succ_cons, List.drop_zero]
  repeat ((with_reducible apply soft_detG); (case hwa => rfl); (case hA => rfl); (case h => (intro w1 hw1; have hc := hcells w1 hw1; go_simp; exact rfl)); go_simp)
  ((with_reducible refine soft_fop rfl ?hA _ _ _ _ _ rfl rfl _ _ _ rfl rfl ?_); (case hA => rfl); intro r1a hr1a; go_simp)
  repeat ((with_reducible apply soft_detG); (case hwa => rfl); (case hA => rfl); (case h => (intro w1 hw1; have hc := hcells w1 hw1; go_simp; exact rfl)); go_simp)
  ((with_reducible refine soft_fop rfl ?hA _ _ _ _ _ rfl rfl _ _ _ rfl rfl ?_); (case hA => rfl); intro r1b hr1b; go_simp)
  repeat ((with_reducible apply soft_detG); (case hwa => rfl); (case hA => rfl); (case h => (intro w1 hw1; have hc := hcells w1 hw1; go_simp; exact rfl)); go_simp)
  refine soft_nil ?_
  rintro v1 ⟨hv, _⟩
  have hp1 := Lib.hid (show FIs .f32 r1b (cvO (can .f32 r1) (can .f32 r4) b) from hr1b.of_eq (by rw [hr1a.out]; rfl))
  replace hrow := Lib.hid ((Below.block hv _ (in_heap hrow.out)).trans hrow.out)
  replace hs := Lib.hid (bs hs.out hsz.out hv)
  clear hcells hv hr1a hr1b
  have c9 := cell_of_row _ _ 1 _ _ _ hrow.out
  have f9 := frozen_of_row _ _ 1 _ _ hrow.out
  go_wp2
  clear c9 f9
  have hrowN : (v1.setCell ⟨p0, 1, none⟩ (.float .f32 r1b)).heap[p0]? = some (.cells #[.float .f32 r0b, .float .f32 r1b, .float .f32 0] 28 (0, 0)) := heap_setCell_same v1 p0 1 _ _ (.float .f32 r1b) hrow.out
  have hsN : Below p0 W4 (v1.setCell ⟨p0, 1, none⟩ (.float .f32 r1b)) := Below.setCell hs.out hge0.out _
  replace hrow := Lib.hid hrowN
  replace hs := Lib.hid hsN
  clear hrowN hsN
  generalize (v1.setCell ⟨p0, 1, none⟩ (.float .f32 r1b)) = u1 at hrow hs ⊢
  rw [rounds_succ]
  go_upto_region 5 with fail
  have hcells := fun W (hW : Stays u1 W) => And.intro (hB.out W (bs hs.out hsz.out hW)).1 (sen_cells (hB.out W (bs hs.out hsz.out hW)).2.2 W (Stays.refl _))
  refine wp_region_soft_tail 14 (Stays.refl _) (fun _ _ _ => False) [] (by kernel_rfl) (by kernel_rfl) (fun _ h => by cases h) ?_
  simp only [List.take_succ_cons, List.take_zero, List.drop_succ_cons, List.drop_zero]
  repeat ((with_reducible apply soft_detG); (case hwa => rfl); (case hA => rfl); (case h => (intro w1 hw1; have hc := hcells w1 hw1; go_simp; exact rfl)); go_simp)
  ((with_reducible refine soft_fop rfl ?hA _ _ _ _ _ rfl rfl _ _ _ rfl rfl ?_); (case hA => rfl); intro r2a hr2a; go_simp)
  repeat ((with_reducible apply soft_detG); (case hwa => rfl); (case hA => rfl); (case h => (intro w1 hw1; have hc := hcells w1 hw1; go_simp; exact rfl)); go_simp)
  ((with_reducible refine soft_fop rfl ?hA _ _ _ _ _ rfl rfl _ _ _ rfl rfl ?_); (case hA => rfl); intro r2b hr2b; go_simp)
  repeat ((with_reducible apply soft_detG); (case hwa => rfl); (case hA => rfl); (case h => (intro w1 hw1; have hc := hcells w1 hw1; go_simp; exact rfl)); go_simp)
  refine soft_nil ?_
  rintro v2 ⟨hv, _⟩
  have hp2 := Lib.hid (show FIs .f32 r2b (cvO (can .f32 r2) (can .f32 r5) c) from hr2b.of_eq (by rw [hr2a.out]; rfl))
  replace hrow := Lib.hid ((Below.block hv _ (in_heap hrow.out)).trans hrow.out)
  replace hs := Lib.hid (bs hs.out hsz.out hv)
  clear hcells hv hr2a hr2b
  have c9 := cell_of_row _ _ 2 _ _ _ hrow.out
  have f9 := frozen_of_row _ _ 2 _ _ hrow.out
  go_wp2
  clear c9 f9
  have hrowN : (v2.setCell ⟨p0, 2, none⟩ (.float .f32 r2b)).heap[p0]? = some (.cells #[.float .f32 r0b, .float .f32 r1b, .float .f32 r2b] 28 (0, 0)) := heap_setCell_same v2 p0 2 _ _ (.float .f32 r2b) hrow.out
  have hsN : Below p0 W4 (v2.setCell ⟨p0, 2, none⟩ (.float .f32 r2b)) := Below.setCell hs.out hge0.out _
  replace hrow := Lib.hid hrowN
  replace hs := Lib.hid hsN
  clear hrowN hsN
  generalize (v2.setCell ⟨p0, 2, none⟩ (.float .f32 r2b)) = u2 at hrow hs ⊢
  rw [rounds_succ]
  have g0 := cell_of_row _ _ 0 _ _ _ hrow.out
  have g1 := cell_of_row _ _ 1 _ _ _ hrow.out
  have g2 := cell_of_row _ _ 2 _ _ _ hrow.out
  have hres := (hB.out u2 hs.out).2.1
  have hst : Stays w u2 := Below.trans (show Below w.heap.size w W4 from hst'.out) (Below.mono hs.out w_lt.out)
  go_wp2_with ((refine wpList_store_row rfl _ _ _ rfl _ _ _ rfl rfl hres ?hi ?ho ?h1 ?hB hst ?_); (case hi => kernel_rfl); (case ho => rfl); (case h1 => first | rfl | simp [Value.oneCell']); (case hB => first | omega | (simp <;> omega)); intro w9 hw9 hq9 ho9 hsz9)
  apply end_agg rfl rfl rfl Try.underlying28 rfl (t := 28)
  case hg => exact hq9
  case hi => kernel_rfl
  case hR => exact ⟨_, rfl, ⟨_, _, _, rfl, hp0.out, hp1.out, hp2.out⟩, hw9⟩

set_option maxRecDepth 100000 in
set_option maxHeartbeats 4000000 in
theorem c_l04Vec (p : Nat) (r0 r1 r2 r3 r4 r5 : Nat) (ev d a b c : Int) (w : World) (hg : w.heap[p]? = some (.cells (senCells r0 r1 r2 r3 r4 r5 ev d) 32 (0, 0))) :
    Calls Try.prog 54 #[.pointer (some ⟨p, 0, none⟩), .agg #[.int .i16 a, .int .i16 b, .int .i16 c]] w fun e w' => ∃ v, e = .returned v ∧ V3 (cvO (can .f32 r0) (can .f32 r3) a) (cvO (can .f32 r1) (can .f32 r4) b) (cvO (can .f32 r2) (can .f32 r5) c) v ∧ Stays w w' := by
  have hst : Stays w (((w.alloc (.cells #[.int .i16 a, .int .i16 b, .int .i16 c] 81)).alloc (.cells #[.float .f32 0, .float .f32 0, .float .f32 0] 28)).alloc (.cells #[.float .f32 0, .float .f32 0, .float .f32 0] 28)) := by (repeat (first | exact Stays.refl _ | (with_reducible refine Stays.drewN ?_ _) | (with_reducible refine Stays.alloc ?_ _) | (with_reducible refine Stays.drew ?_) | (refine Stays.trans ?_ ‹Stays _ _›)))
  have hp' := in_heap hg
  have uS : (((w.alloc (.cells #[.int .i16 a, .int .i16 b, .int .i16 c] 81)).alloc (.cells #[.float .f32 0, .float .f32 0, .float .f32 0] 28)).alloc (.cells #[.float .f32 0, .float .f32 0, .float .f32 0] 28)).heap[p]? = some (.cells (senCells r0 r1 r2 r3 r4 r5 ev d) 32 (0, 0)) := (Below.block hst _ hp').trans hg
  have uC : (((w.alloc (.cells #[.int .i16 a, .int .i16 b, .int .i16 c] 81)).alloc (.cells #[.float .f32 0, .float .f32 0, .float .f32 0] 28)).alloc (.cells #[.float .f32 0, .float .f32 0, .float .f32 0] 28)).heap[w.heap.size]? = some (.cells #[.int .i16 a, .int .i16 b, .int .i16 c] 81 (0, 0)) := by (repeat (first | (refine heap_top _ _ _ ?_; simp; done) | (with_reducible refine heap_drawn _ _ _ ?_) | (with_reducible refine heap_under _ _ _ ?_ ?_; (simp <;> omega))))
  have uR : (((w.alloc (.cells #[.int .i16 a, .int .i16 b, .int .i16 c] 81)).alloc (.cells #[.float .f32 0, .float .f32 0, .float .f32 0] 28)).alloc (.cells #[.float .f32 0, .float .f32 0, .float .f32 0] 28)).heap[w.heap.size + 1]? = some (.cells #[.float .f32 0, .float .f32 0, .float .f32 0] 28 (0, 0)) := by (repeat (first | (refine heap_top _ _ _ ?_; simp; done) | (with_reducible refine heap_drawn _ _ _ ?_) | (with_reducible refine heap_under _ _ _ ?_ ?_; (simp <;> omega))))
  have uP : (((w.alloc (.cells #[.int .i16 a, .int .i16 b, .int .i16 c] 81)).alloc (.cells #[.float .f32 0, .float .f32 0, .float .f32 0] 28)).alloc (.cells #[.float .f32 0, .float .f32 0, .float .f32 0] 28)).heap[w.heap.size + 1 + 1]? = some (.cells #[.float .f32 0, .float .f32 0, .float .f32 0] 28 (0, 0)) := by (repeat (first | (refine heap_top _ _ _ ?_; simp; done) | (with_reducible refine heap_drawn _ _ _ ?_) | (with_reducible refine heap_under _ _ _ ?_ ?_; (simp <;> omega))))
  have hB := Lib.hid fun W (hW : Below (w.heap.size + 1 + 1) (((w.alloc (.cells #[.int .i16 a, .int .i16 b, .int .i16 c] 81)).alloc (.cells #[.float .f32 0, .float .f32 0, .float .f32 0] 28)).alloc (.cells #[.float .f32 0, .float .f32 0, .float .f32 0] 28)) W) => And.intro (And.intro (cell_of_row W _ 0 _ _ _ ((hW.block _ (by omega)).trans uC)) (And.intro (cell_of_row W _ 1 _ _ _ ((hW.block _ (by omega)).trans uC)) (cell_of_row W _ 2 _ _ _ ((hW.block _ (by omega)).trans uC)))) (And.intro ((hW.block _ (by omega)).trans uR) ((hW.block _ (by omega)).trans uS))
  have hsz := Lib.hid (show w.heap.size + 1 + 1 ≤ (((w.alloc (.cells #[.int .i16 a, .int .i16 b, .int .i16 c] 81)).alloc (.cells #[.float .f32 0, .float .f32 0, .float .f32 0] 28)).alloc (.cells #[.float .f32 0, .float .f32 0, .float .f32 0] 28)).heap.size from Nat.le_of_lt (in_heap uP))
  have hrow := Lib.hid uP
  have hst' := Lib.hid hst
  have hs := Lib.hid (Below.refl (w.heap.size + 1 + 1) (((w.alloc (.cells #[.int .i16 a, .int .i16 b, .int .i16 c] 81)).alloc (.cells #[.float .f32 0, .float .f32 0, .float .f32 0] 28)).alloc (.cells #[.float .f32 0, .float .f32 0, .float .f32 0] 28)))
  have w_lt : w.heap.size ≤ w.heap.size + 1 + 1 := by omega
  have hge0 := Lib.hid (Nat.le_refl (w.heap.size + 1 + 1))
  obtain ⟨⟨q0, q1, q2⟩, _⟩ := hB.out _ hs.out
  clear uC uR uP hst uS
  go_enter Try.func54, Try.ntmps54
  go_wp2
  generalize (((w.alloc (.cells #[.int .i16 a, .int .i16 b, .int .i16 c] 81)).alloc (.cells #[.float .f32 0, .float .f32 0, .float .f32 0] 28)).alloc (.cells #[.float .f32 0, .float .f32 0, .float .f32 0] 28)) = W4 at hB hs hsz hrow hst' q0 q1 q2 ⊢
  generalize w.heap.size + 1 + 1 = p0 at hB hs hsz hrow w_lt hge0 ⊢
  replace w_lt := Lib.hid w_lt
  clear q0 q1 q2
  refine wp_loop_rounds 4 ?_
  rw [rounds_succ]
  go_upto_region 5 with fail
  have hcells := fun W (hW : Stays W4 W) => And.intro (hB.out W (bs hs.out hsz.out hW)).1 (sen_cells (hB.out W (bs hs.out hsz.out hW)).2.2 W (Stays.refl _))
  refine wp_region_soft_tail 20 (Stays.refl _) (fun _ _ _ => False) [] (by kernel_rfl) (by kernel_rfl) (fun _ h => by cases h) ?_
  simp only [List.take_succ_cons, List.take_zero, List.drop_succ_cons, List.drop_zero]
  repeat ((with_reducible apply soft_detG); (case hwa => rfl); (case hA => rfl); (case h => (intro w1 hw1; have hc := hcells w1 hw1; go_simp; exact rfl)); go_simp)
  ((with_reducible refine soft_fop rfl ?hA _ _ _ _ _ rfl rfl _ _ _ rfl rfl ?_); (case hA => rfl); intro r0a hr0a; go_simp)
  repeat ((with_reducible apply soft_detG); (case hwa => rfl); (case hA => rfl); (case h => (intro w1 hw1; have hc := hcells w1 hw1; go_simp; exact rfl)); go_simp)
  ((with_reducible refine soft_fop rfl ?hA _ _ _ _ _ rfl rfl _ _ _ rfl rfl ?_); (case hA => rfl); intro r0b hr0b; go_simp)
  repeat ((with_reducible apply soft_detG); (case hwa => rfl); (case hA => rfl); (case h => (intro w1 hw1; have hc := hcells w1 hw1; go_simp; exact rfl)); go_simp)
  refine soft_nil ?_
  rintro v0 ⟨hv, _⟩
  have hp0 := Lib.hid (show FIs .f32 r0b (cvO (can .f32 r0) (can .f32 r3) a) from hr0b.of_eq (by rw [hr0a.out]; rfl))
  replace hrow := Lib.hid ((Below.block hv _ (in_heap hrow.out)).trans hrow.out)
  replace hs := Lib.hid (bs hs.out hsz.out hv)
  clear hcells hv hr0a hr0b
  have c9 := cell_of_row _ _ 0 _ _ _ hrow.out
  have f9 := frozen_of_row _ _ 0 _ _ hrow.out
  go_wp2
  clear c9 f9
  have hrowN : (v0.setCell ⟨p0, 0, none⟩ (.float .f32 r0b)).heap[p0]? = some (.cells #[.float .f32 r0b, .float .f32 0, .float .f32 0] 28 (0, 0)) := heap_setCell_same v0 p0 0 _ _ (.float .f32 r0b) hrow.out
  have hsN : Below p0 W4 (v0.setCell ⟨p0, 0, none⟩ (.float .f32 r0b)) := Below.setCell hs.out hge0.out _
  replace hrow := Lib.hid hrowN
  replace hs := Lib.hid hsN
  clear hrowN hsN
  generalize (v0.setCell ⟨p0, 0, none⟩ (.float .f32 r0b)) = u0 at hrow hs ⊢
  rw [rounds_succ]
  go_upto_region 5 with fail
  have hcells := fun W (hW : Stays u0 W) => And.intro (hB.out W (bs hs.out hsz.out hW)).1 (sen_cells (hB.out W (bs hs.out hsz.out hW)).2.2 W (Stays.refl _))
  refine wp_region_soft_tail 20 (Stays.refl _) (fun _ _ _ => False) [] (by kernel_rfl) (by kernel_rfl) (fun _ h => by cases h) ?_
  simp only [List.take_succ_cons, List.take_zero, List.drop_succ_cons, List.drop_zero]
  repeat ((with_reducible apply soft_detG); (case hwa => rfl); (case hA => rfl); (case h => (intro w1 hw1; have hc := hcells w1 hw1; go_simp; exact rfl)); go_simp)
  ((with_reducible refine soft_fop rfl ?hA _ _ _ _ _ rfl rfl _ _ _ rfl rfl ?_); (case hA => rfl); intro r1a hr1a; go_simp)
  repeat ((with_reducible apply soft_detG); (case hwa => rfl); (case hA => rfl); (case h => (intro w1 hw1; have hc := hcells w1 hw1; go_simp; exact rfl)); go_simp)
  ((with_reducible refine soft_fop rfl ?hA _ _ _ _ _ rfl rfl _ _ _ rfl rfl ?_); (case hA => rfl); intro r1b hr1b; go_simp)
  repeat ((with_reducible apply soft_detG); (case hwa => rfl); (case hA => rfl); (case h => (intro w1 hw1; have hc := hcells w1 hw1; go_simp; exact rfl)); go_simp)
  refine soft_nil ?_
  rintro v1 ⟨hv, _⟩
  have hp1 := Lib.hid (show FIs .f32 r1b (cvO (can .f32 r1) (can .f32 r4) b) from hr1b.of_eq (by rw [hr1a.out]; rfl))
  replace hrow := Lib.hid ((Below.block hv _ (in_heap hrow.out)).trans hrow.out)
  replace hs := Lib.hid (bs hs.out hsz.out hv)
  clear hcells hv hr1a hr1b
  have c9 := cell_of_row _ _ 1 _ _ _ hrow.out
  have f9 := frozen_of_row _ _ 1 _ _ hrow.out
  go_wp2
  clear c9 f9
  have hrowN : (v1.setCell ⟨p0, 1, none⟩ (.float .f32 r1b)).heap[p0]? = some (.cells #[.float .f32 r0b, .float .f32 r1b, .float .f32 0] 28 (0, 0)) := heap_setCell_same v1 p0 1 _ _ (.float .f32 r1b) hrow.out
  have hsN : Below p0 W4 (v1.setCell ⟨p0, 1, none⟩ (.float .f32 r1b)) := Below.setCell hs.out hge0.out _
  replace hrow := Lib.hid hrowN
  replace hs := Lib.hid hsN
  clear hrowN hsN
  generalize (v1.setCell ⟨p0, 1, none⟩ (.float .f32 r1b)) = u1 at hrow hs ⊢
  rw [rounds_succ]
  go_upto_region 5 with fail
  have hcells := fun W (hW : Stays u1 W) => And.intro (hB.out W (bs hs.out hsz.out hW)).1 (sen_cells (hB.out W (bs hs.out hsz.out hW)).2.2 W (Stays.refl _))
  refine wp_region_soft_tail 20 (Stays.refl _) (fun _ _ _ => False) [] (by kernel_rfl) (by kernel_rfl) (fun _ h => by cases h) ?_
  simp only [List.take_succ_cons, List.take_zero, List.drop_succ_cons, List.drop_zero]
  repeat ((with_reducible apply soft_detG); (case hwa => rfl); (case hA => rfl); (case h => (intro w1 hw1; have hc := hcells w1 hw1; go_simp; exact rfl)); go_simp)
  ((with_reducible refine soft_fop rfl ?hA _ _ _ _ _ rfl rfl _ _ _ rfl rfl ?_); (case hA => rfl); intro r2a hr2a; go_simp)
  repeat ((with_reducible apply soft_detG); (case hwa => rfl); (case hA => rfl); (case h => (intro w1 hw1; have hc := hcells w1 hw1; go_simp; exact rfl)); go_simp)
  ((with_reducible refine soft_fop rfl ?hA _ _ _ _ _ rfl rfl _ _ _ rfl rfl ?_); (case hA => rfl); intro r2b hr2b; go_simp)
  repeat ((with_reducible apply soft_detG); (case hwa => rfl); (case hA => rfl); (case h => (intro w1 hw1; have hc := hcells w1 hw1; go_simp; exact rfl)); go_simp)
  refine soft_nil ?_
  rintro v2 ⟨hv, _⟩
  have hp2 := Lib.hid (show FIs .f32 r2b (cvO (can .f32 r2) (can .f32 r5) c) from hr2b.of_eq (by rw [hr2a.out]; rfl))
  replace hrow := Lib.hid ((Below.block hv _ (in_heap hrow.out)).trans hrow.out)
  replace hs := Lib.hid (bs hs.out hsz.out hv)
  clear hcells hv hr2a hr2b
  have c9 := cell_of_row _ _ 2 _ _ _ hrow.out
  have f9 := frozen_of_row _ _ 2 _ _ hrow.out
  go_wp2
  clear c9 f9
  have hrowN : (v2.setCell ⟨p0, 2, none⟩ (.float .f32 r2b)).heap[p0]? = some (.cells #[.float .f32 r0b, .float .f32 r1b, .float .f32 r2b] 28 (0, 0)) := heap_setCell_same v2 p0 2 _ _ (.float .f32 r2b) hrow.out
  have hsN : Below p0 W4 (v2.setCell ⟨p0, 2, none⟩ (.float .f32 r2b)) := Below.setCell hs.out hge0.out _
  replace hrow := Lib.hid hrowN
  replace hs := Lib.hid hsN
  clear hrowN hsN
  generalize (v2.setCell ⟨p0, 2, none⟩ (.float .f32 r2b)) = u2 at hrow hs ⊢
  rw [rounds_succ]
  have g0 := cell_of_row _ _ 0 _ _ _ hrow.out
  have g1 := cell_of_row _ _ 1 _ _ _ hrow.out
  have g2 := cell_of_row _ _ 2 _ _ _ hrow.out
  have hres := (hB.out u2 hs.out).2.1
  have hst : Stays w u2 := Below.trans (show Below w.heap.size w W4 from hst'.out) (Below.mono hs.out w_lt.out)
  go_wp2_with ((refine wpList_store_row rfl _ _ _ rfl _ _ _ rfl rfl hres ?hi ?ho ?h1 ?hB hst ?_); (case hi => kernel_rfl); (case ho => rfl); (case h1 => first | rfl | simp [Value.oneCell']); (case hB => first | omega | (simp <;> omega)); intro w9 hw9 hq9 ho9 hsz9)
  apply end_agg rfl rfl rfl Try.underlying28 rfl (t := 28)
  case hg => exact hq9
  case hi => kernel_rfl
  case hR => exact ⟨_, rfl, ⟨_, _, _, rfl, hp0.out, hp1.out, hp2.out⟩, hw9⟩

end Go.Proofs.Ytmcbeaihjdnelaa

namespace Go.Proofs.Ytmcbeaihjdnelaa
open Go Go.RowKit
set_option linter.unusedVariables false
set_option linter.unusedSimpArgs false


def rd0 : Rd := ⟨0, 0, 0, 0⟩
/-- A sum over the first readings. -/
def sumR (f : Rd → Option Nat) (rs : List Rd) : Nat → Option Nat
  | 0 => none
  | k + 1 => if k = 0 then f (rs.getD 0 rd0) else fop .add .f32 (sumR f rs k) (f (rs.getD k rd0))
theorem sumR_one {f : Rd → Option Nat} {rs : List Rd} {m : Rd} (h : rs[0]? = some m) : sumR f rs 1 = f m := by
  show (if 0 = 0 then f (rs.getD 0 rd0) else _) = _
  rw [if_pos rfl, List.getD_eq_getElem?_getD, h]; rfl
theorem sumR_next {f : Rd → Option Nat} {rs : List Rd} {m : Rd} {k : Nat} (hk : 0 < k) (h : rs[k]? = some m) : sumR f rs (k + 1) = fop .add .f32 (sumR f rs k) (f m) := by
  show (if k = 0 then f (rs.getD 0 rd0) else fop .add .f32 (sumR f rs k) (f (rs.getD k rd0))) = _
  rw [if_neg (by omega), List.getD_eq_getElem?_getD, h]; rfl
noncomputable def vX (r s : Nat) (m : Rd) : Option Nat := cvO (can .f32 r) (can .f32 s) m.a
noncomputable def vY (r s : Nat) (m : Rd) : Option Nat := cvO (can .f32 r) (can .f32 s) m.b
noncomputable def vZ (r s : Nat) (m : Rd) : Option Nat := cvO (can .f32 r) (can .f32 s) m.c
noncomputable def meanK (f : Rd → Option Nat) (rs : List Rd) : Option Nat := fop .quo .f32 (sumR f rs rs.length) (can .f32 (floatOfInt .f32 rs.length))
noncomputable def mnC (ok : Bool) (rs : List Rd) : Int := if ok then (if rs.length = 0 then 6 else 0) else 1
noncomputable def mnV (f : Rd → Option Nat) (ok : Bool) (rs : List Rd) : Option Nat := if ok then (if rs.length = 0 then can .f32 0 else meanK f rs) else can .f32 0
noncomputable def feedB (rs : List Rd) : Bool := feedOK (rs.map (·.t)) && decide (rs.length ≤ 256)

/-- A box that is still empty; a row that was made into a box. -/
structure ZPQ (w : World) (B p : Nat) : Prop where
  ge : B ≤ p
  row : w.heap[p]? = some (.cells #[.float .f32 0, .float .f32 0, .float .f32 0] 28 (0, 0))
theorem ZPQ.new {B : Nat} (w : World) (h : B ≤ w.heap.size) : ZPQ (w.alloc (.cells #[.float .f32 0, .float .f32 0, .float .f32 0] 28)) B w.heap.size := ⟨h, heap_alloc_new w _⟩
theorem ZPQ.newD (w : World) : ZPQ (w.drew.alloc (.cells #[.float .f32 0, .float .f32 0, .float .f32 0] 28)) w.heap.size w.heap.size := ZPQ.new w.drew (Nat.le_refl _)
theorem ZPQ.below {w w' : World} {B p : Nat} (h : ZPQ w B p) (hb : Stays w w') : ZPQ w' B p := ⟨h.ge, (Below.block hb _ (in_heap h.row)).trans h.row⟩
theorem ZPQ.cells {w : World} {B p : Nat} (h : ZPQ w B p) : (w.cell? ⟨p, 0, none⟩ = some (.float .f32 0) ∧ w.cell? ⟨p, 1, none⟩ = some (.float .f32 0) ∧ w.cell? ⟨p, 2, none⟩ = some (.float .f32 0)) ∧ w.frozen? ⟨p, 0, none⟩ = false ∧ w.frozen? ⟨p, 1, none⟩ = false ∧ w.frozen? ⟨p, 2, none⟩ = false :=
  ⟨⟨cell_of_row _ _ _ _ _ _ h.row, cell_of_row _ _ _ _ _ _ h.row, cell_of_row _ _ _ _ _ _ h.row⟩, frozen_of_row _ _ _ _ _ h.row, frozen_of_row _ _ _ _ _ h.row, frozen_of_row _ _ _ _ _ h.row⟩
def MadeQ (W : World) (o1 o2 o3 : Option Nat) (s : Value) (w : World) : Prop := ∃ p rx ry rz, s = .pointer (some ⟨p, 0, none⟩) ∧ W.heap.size ≤ p ∧ w.heap[p]? = some (.cells #[.float .f32 rx, .float .f32 ry, .float .f32 rz] 28 (0, 0)) ∧ (FIs .f32 rx o1 ∧ FIs .f32 ry o2 ∧ FIs .f32 rz o3) ∧ Stays W w
theorem MadeQ.alloc {W w : World} {o1 o2 o3 : Option Nat} {rx ry rz : Nat} (h : Stays W w) (hf : FIs .f32 rx o1 ∧ FIs .f32 ry o2 ∧ FIs .f32 rz o3) : MadeQ W o1 o2 o3 (.pointer (some ⟨w.heap.size, 0, none⟩)) (w.alloc (.cells #[.float .f32 rx, .float .f32 ry, .float .f32 rz] 28)) :=
  ⟨_, rx, ry, rz, rfl, h.size, heap_alloc_new w _, hf, h.trans (by (repeat (first | exact Stays.refl _ | (with_reducible refine Stays.drewN ?_ _) | (with_reducible refine Stays.alloc ?_ _) | (with_reducible refine Stays.drew ?_) | (refine Stays.trans ?_ ‹Stays _ _›))))⟩
theorem ZPQ.stays {W w : World} {p : Nat} (h : Stays W w) (hz : ZPQ w W.heap.size p) (rx ry rz : Nat) : Stays W (((w.setCell ⟨p, 0, none⟩ (.float .f32 rx)).setCell ⟨p, 1, none⟩ (.float .f32 ry)).setCell ⟨p, 2, none⟩ (.float .f32 rz)) :=
  (Below.setCell (Below.setCell (Below.setCell (show Below W.heap.size W w from h) hz.ge _) hz.ge _) hz.ge _)
theorem MadeQ.sets {W w : World} {o1 o2 o3 : Option Nat} {p rx ry rz : Nat} (h : Stays W w) (hz : ZPQ w W.heap.size p) (hf : FIs .f32 rx o1 ∧ FIs .f32 ry o2 ∧ FIs .f32 rz o3) : MadeQ W o1 o2 o3 (.pointer (some ⟨p, 0, none⟩)) (((w.setCell ⟨p, 0, none⟩ (.float .f32 rx)).setCell ⟨p, 1, none⟩ (.float .f32 ry)).setCell ⟨p, 2, none⟩ (.float .f32 rz)) := by
  have m1 := heap_setCell_same _ p 0 _ _ (.float .f32 rx) hz.row
  have m2 := heap_setCell_same _ p 1 _ _ (.float .f32 ry) m1
  have m3 := heap_setCell_same _ p 2 _ _ (.float .f32 rz) m2
  exact ⟨p, rx, ry, rz, rfl, hz.ge, m3, hf, hz.stays h rx ry rz⟩

theorem feed_tail {ad : Addr} {n c : Nat} (h1 : 1 ≤ n) (hc : n ≤ c) : ∃ A', (∀ w, (Instr.slice 34 (.slice (some ad) n c) (some (.int .i64 1)) none none).run Try.prog w = .ok (.slice A' (n - 1) (c - 1)) w) ∧ (1 < n → A' = some (ad.add 4)) := by
  have hsz : ∀ w : World, (sizeOf (Try.prog.elem 34)).run Try.prog w = .ok 4 w := fun w => by kernel_rfl
  have hel : Try.prog.elem 34 = 83 := by kernel_rfl
  refine ⟨if c = 1 then some ad else some (ad.add 4), fun w => ?_, fun h => if_neg (by omega)⟩
  rw [run_slice_l w 34 (some ad) n c (by rw [hel]; exact Try.underlying34) .i64 1 (by decide) (by omega), hsz]
  by_cases h : c = 1
  · subst h; rfl
  · simp [Result.andThen, sliced, h]
theorem rd_next (a : Addr) (k : Nat) : (a.add 4).add (k * 4) = a.add ((k + 1) * 4) := by
  have e1 : a.add 4 = ⟨a.block, a.off + 4, none⟩ := rfl
  have e2 : a.add ((k + 1) * 4) = ⟨a.block, a.off + (k + 1) * 4, none⟩ := by
    unfold Addr.add
    rw [if_neg (by omega)]
  rw [e1, e2]
  unfold Addr.add
  split
  · congr 1; omega
  · congr 1
    show a.off + 4 + k * 4 = _
    omega

def svM (F G : FuncId) (f : FuncId) (args : Array Value) (v : Value) : Prop := (f = F → ∀ r0 r1 r2 r3 r4 r5 ev d a b c, args = #[.agg (senCells r0 r1 r2 r3 r4 r5 ev d), .agg #[.int .i16 a, .int .i16 b, .int .i16 c]] → V3 (cvO (can .f32 r0) (can .f32 r3) a) (cvO (can .f32 r1) (can .f32 r4) b) (cvO (can .f32 r2) (can .f32 r5) c) v) ∧ (f = G → ∀ a b c x y z, args = #[.agg #[.float .f32 a, .float .f32 b, .float .f32 c], .agg #[.float .f32 x, .float .f32 y, .float .f32 z]] → V3 (fop .add .f32 (can .f32 a) (can .f32 x)) (fop .add .f32 (can .f32 b) (can .f32 y)) (fop .add .f32 (can .f32 c) (can .f32 z)) v)
theorem svM_1 {F G : FuncId} (hne : F ≠ G) {r0 r1 r2 r3 r4 r5 : Nat} {ev d a b c : Int} {v : Value} : svM F G F #[.agg (senCells r0 r1 r2 r3 r4 r5 ev d), .agg #[.int .i16 a, .int .i16 b, .int .i16 c]] v ↔ V3 (cvO (can .f32 r0) (can .f32 r3) a) (cvO (can .f32 r1) (can .f32 r4) b) (cvO (can .f32 r2) (can .f32 r5) c) v :=
  ⟨fun h => h.1 rfl _ _ _ _ _ _ _ _ _ _ _ rfl, fun h => ⟨fun _ r0 r1 r2 r3 r4 r5 ev d a b c e => by cases e; exact h, fun e => absurd e hne⟩⟩
theorem svM_2 {F G : FuncId} (hne : F ≠ G) {a b c x y z : Nat} {v : Value} : svM F G G #[.agg #[.float .f32 a, .float .f32 b, .float .f32 c], .agg #[.float .f32 x, .float .f32 y, .float .f32 z]] v ↔ V3 (fop .add .f32 (can .f32 a) (can .f32 x)) (fop .add .f32 (can .f32 b) (can .f32 y)) (fop .add .f32 (can .f32 c) (can .f32 z)) v :=
  ⟨fun h => h.2 rfl _ _ _ _ _ _ rfl, fun h => ⟨fun e => absurd e.symm hne, fun _ a' b' c' x' y' z' e => by cases e; exact h⟩⟩

/-- The words of a sensor. -/
def sw (v : Value) (i : Nat) : Nat := match v with
  | .agg cs => match cs[i]? with
    | some (.float _ b) => b
    | _ => 0
  | _ => 0

set_option maxRecDepth 100000 in
set_option maxHeartbeats 4000000 in
theorem c_implMean (v : Value) (ins : List NV) (hs : Sen v ins) (A : Option Addr) (c : Nat) (rs : List Rd) (w : World) (h : Feed w w.heap.size A rs) (hn : rs.length ≤ 1048576) (hcap : rs.length ≤ c) :
    Calls Try.prog 15 #[v, .slice A rs.length c] w (V3Done w (mnC (sensB ins && feedB rs) rs) (mnV (vX (sw v 0) (sw v 3)) (sensB ins && feedB rs) rs) (mnV (vY (sw v 1) (sw v 4)) (sensB ins && feedB rs) rs) (mnV (vZ (sw v 2) (sw v 5)) (sensB ins && feedB rs) rs)) := by
  obtain ⟨r0, r1, r2, r3, r4, r5, ev, d, rfl, hdd⟩ := hs.cells
  clear hdd
  have hst : Stays w ((w.alloc (.cells (senCells r0 r1 r2 r3 r4 r5 ev d) 32)).alloc (.cells #[.float .f32 0, .float .f32 0, .float .f32 0] 28)) := by (repeat (first | exact Stays.refl _ | (with_reducible refine Stays.drewN ?_ _) | (with_reducible refine Stays.alloc ?_ _) | (with_reducible refine Stays.drew ?_) | (refine Stays.trans ?_ ‹Stays _ _›)))
  have uS : ((w.alloc (.cells (senCells r0 r1 r2 r3 r4 r5 ev d) 32)).alloc (.cells #[.float .f32 0, .float .f32 0, .float .f32 0] 28)).heap[w.heap.size]? = some (.cells (senCells r0 r1 r2 r3 r4 r5 ev d) 32 (0, 0)) := by (repeat (first | (refine heap_top _ _ _ ?_; simp; done) | (with_reducible refine heap_drawn _ _ _ ?_) | (with_reducible refine heap_under _ _ _ ?_ ?_; (simp <;> omega))))
  have uR : ((w.alloc (.cells (senCells r0 r1 r2 r3 r4 r5 ev d) 32)).alloc (.cells #[.float .f32 0, .float .f32 0, .float .f32 0] 28)).heap[w.heap.size + 1]? = some (.cells #[.float .f32 0, .float .f32 0, .float .f32 0] 28 (0, 0)) := by (repeat (first | (refine heap_top _ _ _ ?_; simp; done) | (with_reducible refine heap_drawn _ _ _ ?_) | (with_reducible refine heap_under _ _ _ ?_ ?_; (simp <;> omega))))
  have HW := Lib.hid fun W (hW : Stays ((w.alloc (.cells (senCells r0 r1 r2 r3 r4 r5 ev d) 32)).alloc (.cells #[.float .f32 0, .float .f32 0, .float .f32 0] 28)) W) => And.intro (sen_cells uS W hW) (And.intro (hst.trans hW) (And.intro ((Below.block hW _ (in_heap uR)).trans uR) ((Below.block hW _ (in_heap uS)).trans uS)))
  have hFd := fun W (hW : Stays ((w.alloc (.cells (senCells r0 r1 r2 r3 r4 r5 ev d) 32)).alloc (.cells #[.float .f32 0, .float .f32 0, .float .f32 0] 28)) W) => ((h.below (show Below w.heap.size w W from hst.trans hW)).more (hst.trans hW).size)
  have kS := Lib.hid fun W (hW : Stays ((w.alloc (.cells (senCells r0 r1 r2 r3 r4 r5 ev d) 32)).alloc (.cells #[.float .f32 0, .float .f32 0, .float .f32 0] 28)) W) => c_ValidSensor (.agg (senCells r0 r1 r2 r3 r4 r5 ev d)) ins W hs
  have kF := Lib.hid fun W (hW : Stays ((w.alloc (.cells (senCells r0 r1 r2 r3 r4 r5 ev d) 32)).alloc (.cells #[.float .f32 0, .float .f32 0, .float .f32 0] 28)) W) => show Calls Try.prog 57 #[.slice A rs.length c] W fun e w2 => e = .returned (.bool (feedB rs)) ∧ Below W.heap.size W w2 from c_ValidFeed A c rs W (hFd W hW) hn
  have H := Lib.hid fun W (hW : Stays ((w.alloc (.cells (senCells r0 r1 r2 r3 r4 r5 ev d) 32)).alloc (.cells #[.float .f32 0, .float .f32 0, .float .f32 0] 28)) W) ad (e : A = some ad) k m (hk : rs[k]? = some m) => show ad.block < W.heap.size ∧ ∀ W', Stays W W' → (W'.cell? (ad.add (k * 4)) = some (.int .i64 m.t) ∧ W'.cell? ⟨((ad.add (k * 4))).block, ((ad.add (k * 4))).off + 1, none⟩ = some (.int .i16 m.a) ∧ W'.cell? ⟨((ad.add (k * 4))).block, ((ad.add (k * 4))).off + 2, none⟩ = some (.int .i16 m.b) ∧ W'.cell? ⟨((ad.add (k * 4))).block, ((ad.add (k * 4))).off + 3, none⟩ = some (.int .i16 m.c)) from by
    obtain ⟨ad', e', hbl, c1, c2, c3, c4⟩ := hFd W hW k m hk
    rw [e] at e'
    cases e'
    have hb : (ad.add (k * 4)).block < W.heap.size := by rw [block_add]; exact hbl
    exact ⟨hbl, fun W' hW' => ⟨(hW'.cell (p := ad.add (k * 4)) hb).trans c1, (hW'.cell (p := ⟨(ad.add (k * 4)).block, (ad.add (k * 4)).off + 1, none⟩) hb).trans c2, (hW'.cell (p := ⟨(ad.add (k * 4)).block, (ad.add (k * 4)).off + 2, none⟩) hb).trans c3, (hW'.cell (p := ⟨(ad.add (k * 4)).block, (ad.add (k * 4)).off + 3, none⟩) hb).trans c4⟩⟩
  have hA : 0 < rs.length → ∃ ad, A = some ad := fun hp => by
    obtain ⟨ad, e, _⟩ := h 0 rs[0] (List.getElem?_eq_getElem hp)
    exact ⟨ad, e⟩
  clear uS uR hFd h hs hst
  unfold mnC mnV
  generalize sensB ins = sb at kS ⊢
  generalize feedB rs = fb at kF ⊢
  cases sb with
  | false =>
    simp only [Bool.false_and, Bool.false_eq_true, if_false]
    clear hA
    go_enter Try.func15, Try.ntmps15
    obtain ⟨⟨⟨q0, q1, q2⟩, ⟨q3, q4, q5⟩, q6, q7⟩, _⟩ := HW.out _ (Stays.refl _)
    go_wp2_with fail
    generalize ((w.alloc (.cells #[.float .f32 r0, .float .f32 r1, .float .f32 r2, .float .f32 r3, .float .f32 r4, .float .f32 r5, .int .i64 ev, .int .i64 d] 32)).alloc (.cells #[.float .f32 0, .float .f32 0, .float .f32 0] 28)) = W0 at HW kS kF H q0 q1 q2 q3 q4 q5 q6 q7 ⊢
    with_reducible refine (kS.out W0 (Stays.refl _)).mono ?_
    rintro e w1 ⟨rfl, hb⟩
    replace hb := Lib.hid (show Stays W0 w1 from hb)
    clear q0 q1 q2 q3 q4 q5 q6 q7
    obtain ⟨_, hst, hres, _⟩ := HW.out _ hb.out
    clear kS kF
    go_wp2_with ((refine wpList_store_row rfl _ _ _ rfl _ _ _ rfl rfl hres ?hi ?ho ?h1 ?hB hst ?_); (case hi => kernel_rfl); (case ho => rfl); (case h1 => first | rfl | simp [Value.oneCell']); (case hB => first | omega | (simp <;> omega)); intro w9 hw9 hq9 ho9 hsz9)
    apply end_gd rfl rfl rfl Try.underlying28 rfl (t := 28)
    case hg => exact hq9
    case hi => kernel_rfl
    case hR => exact ⟨_, _, _, rfl, FIs.self (by decide), FIs.self (by decide), FIs.self (by decide), hw9⟩
  | true =>
    cases fb with
    | false =>
      simp only [Bool.and_false, Bool.false_eq_true, if_false]
      clear hA
      go_enter Try.func15, Try.ntmps15
      obtain ⟨⟨⟨q0, q1, q2⟩, ⟨q3, q4, q5⟩, q6, q7⟩, _⟩ := HW.out _ (Stays.refl _)
      go_wp2_with fail
      generalize ((w.alloc (.cells #[.float .f32 r0, .float .f32 r1, .float .f32 r2, .float .f32 r3, .float .f32 r4, .float .f32 r5, .int .i64 ev, .int .i64 d] 32)).alloc (.cells #[.float .f32 0, .float .f32 0, .float .f32 0] 28)) = W0 at HW kS kF H q0 q1 q2 q3 q4 q5 q6 q7 ⊢
      with_reducible refine (kS.out W0 (Stays.refl _)).mono ?_
      rintro e w1 ⟨rfl, hb⟩
      replace hb := Lib.hid (show Stays W0 w1 from hb)
      clear q0 q1 q2 q3 q4 q5 q6 q7
      go_wp2_with fail
      with_reducible refine (kF.out w1 hb.out).mono ?_
      rintro e w1' ⟨rfl, hb'⟩
      replace hb := Lib.hid (hb.out.trans (show Stays w1 w1' from hb'))
      clear hb'
      obtain ⟨_, hst, hres, _⟩ := HW.out _ hb.out
      clear kS kF
      go_wp2_with ((refine wpList_store_row rfl _ _ _ rfl _ _ _ rfl rfl hres ?hi ?ho ?h1 ?hB hst ?_); (case hi => kernel_rfl); (case ho => rfl); (case h1 => first | rfl | simp [Value.oneCell']); (case hB => first | omega | (simp <;> omega)); intro w9 hw9 hq9 ho9 hsz9)
      apply end_gd rfl rfl rfl Try.underlying28 rfl (t := 28)
      case hg => exact hq9
      case hi => kernel_rfl
      case hR => exact ⟨_, _, _, rfl, FIs.self (by decide), FIs.self (by decide), FIs.self (by decide), hw9⟩
    | true =>
      simp only [Bool.and_true, if_true]
      by_cases h0 : rs.length = 0
      · have h0' : (((rs.length : Nat) : Int) == 0) = true := by rw [h0]; rfl
        simp only [if_pos h0]
        replace h0 := Lib.hid h0
        clear hA
        go_enter Try.func15, Try.ntmps15
        obtain ⟨⟨⟨q0, q1, q2⟩, ⟨q3, q4, q5⟩, q6, q7⟩, _⟩ := HW.out _ (Stays.refl _)
        go_wp2_with fail
        generalize ((w.alloc (.cells #[.float .f32 r0, .float .f32 r1, .float .f32 r2, .float .f32 r3, .float .f32 r4, .float .f32 r5, .int .i64 ev, .int .i64 d] 32)).alloc (.cells #[.float .f32 0, .float .f32 0, .float .f32 0] 28)) = W0 at HW kS kF H q0 q1 q2 q3 q4 q5 q6 q7 ⊢
        with_reducible refine (kS.out W0 (Stays.refl _)).mono ?_
        rintro e w1 ⟨rfl, hb⟩
        replace hb := Lib.hid (show Stays W0 w1 from hb)
        clear q0 q1 q2 q3 q4 q5 q6 q7
        go_wp2_with fail
        with_reducible refine (kF.out w1 hb.out).mono ?_
        rintro e w1' ⟨rfl, hb'⟩
        replace hb := Lib.hid (hb.out.trans (show Stays w1 w1' from hb'))
        clear hb'
        obtain ⟨_, hst, hres, _⟩ := HW.out _ hb.out
        clear kS kF
        go_wp2_with ((refine wpList_store_row rfl _ _ _ rfl _ _ _ rfl rfl hres ?hi ?ho ?h1 ?hB hst ?_); (case hi => kernel_rfl); (case ho => rfl); (case h1 => first | rfl | simp [Value.oneCell']); (case hB => first | omega | (simp <;> omega)); intro w9 hw9 hq9 ho9 hsz9)
        apply end_gd rfl rfl rfl Try.underlying28 rfl (t := 28)
        case hg => exact hq9
        case hi => kernel_rfl
        case hR => exact ⟨_, _, _, rfl, FIs.self (by decide), FIs.self (by decide), FIs.self (by decide), hw9⟩
      · have h0' : (((rs.length : Nat) : Int) == 0) = false := beq_eq_false_iff_ne.2 (by omega)
        have hpos : 0 < rs.length := by omega
        have hpos' : (0 : Int) < (rs.length : Int) := by omega
        simp only [if_neg h0]
        obtain ⟨ad, rfl⟩ := hA hpos
        clear hA
        obtain ⟨A', hsl, hA'⟩ := feed_tail (ad := ad) (n := rs.length) (c := c) (by omega) hcap
        replace hA' := Lib.hid hA'
        have hpos1 : (1 : Int) ≤ (rs.length : Int) := by omega
        go_enter Try.func15, Try.ntmps15
        obtain ⟨⟨⟨q0, q1, q2⟩, ⟨q3, q4, q5⟩, q6, q7⟩, _⟩ := HW.out _ (Stays.refl _)
        go_wp2_with fail
        generalize ((w.alloc (.cells #[.float .f32 r0, .float .f32 r1, .float .f32 r2, .float .f32 r3, .float .f32 r4, .float .f32 r5, .int .i64 ev, .int .i64 d] 32)).alloc (.cells #[.float .f32 0, .float .f32 0, .float .f32 0] 28)) = W0 at HW kS kF H q0 q1 q2 q3 q4 q5 q6 q7 ⊢
        with_reducible refine (kS.out W0 (Stays.refl _)).mono ?_
        rintro e w1 ⟨rfl, hb⟩
        replace hb := Lib.hid (show Stays W0 w1 from hb)
        clear q0 q1 q2 q3 q4 q5 q6 q7
        go_wp2_with fail
        with_reducible refine (kF.out w1 hb.out).mono ?_
        rintro e w1' ⟨rfl, hb'⟩
        replace hb := Lib.hid (hb.out.trans (show Stays w1 w1' from hb'))
        clear hb'
        obtain ⟨_, hst, hres, _⟩ := HW.out _ hb.out
        clear kS kF
        clear hst hres
        go_upto_region 5 with fail
        generalize w1' = w2 at hb ⊢
        have hg0 : rs[0]? = some rs[0] := List.getElem?_eq_getElem hpos
        obtain ⟨hbl, hm⟩ := H.out w2 hb.out ad rfl 0 _ hg0
        have hone := Lib.hid (And.intro (sumR_one (f := vX r0 r3) hg0) (And.intro (sumR_one (f := vY r1 r4) hg0) (sumR_one (f := vZ r2 r5) hg0)))
        generalize rs[0] = m at hm hone
        have e0 : ad.add (0 * 4) = ad := rfl
        rw [e0] at hm
        clear hg0 e0 hbl
        have hC := Lib.hid fun W (hW : Stays w2 W) => (show (((W.cell? ⟨w.heap.size, 0, none⟩ = some (.float .f32 r0) ∧ W.cell? ⟨w.heap.size, 1, none⟩ = some (.float .f32 r1) ∧ W.cell? ⟨w.heap.size, 2, none⟩ = some (.float .f32 r2)) ∧ (W.cell? ⟨w.heap.size, 3, none⟩ = some (.float .f32 r3) ∧ W.cell? ⟨w.heap.size, 4, none⟩ = some (.float .f32 r4) ∧ W.cell? ⟨w.heap.size, 5, none⟩ = some (.float .f32 r5)) ∧ (W.cell? ⟨w.heap.size, 6, none⟩ = some (.int .i64 ev) ∧ W.cell? ⟨w.heap.size, 7, none⟩ = some (.int .i64 d))) ∧ (W.cell? ad = some (.int .i64 m.t) ∧ W.cell? ⟨(ad).block, (ad).off + 1, none⟩ = some (.int .i16 m.a) ∧ W.cell? ⟨(ad).block, (ad).off + 2, none⟩ = some (.int .i16 m.b) ∧ W.cell? ⟨(ad).block, (ad).off + 3, none⟩ = some (.int .i16 m.c))) from ⟨(HW.out W (hb.out.trans hW)).1, hm W hW⟩)
        clear hm
        go_cut [6] from 22 to 27 (fun s6 wx => MadeQ w2 (sumR (vX r0 r3) rs 1) (sumR (vY r1 r4) rs 1) (sumR (vZ r2 r5) rs 1) s6 wx)
        case first =>
          have h1 := Lib.hid (show Stays w2 w2.drew from (Stays.refl w2).drew)
          go_region_held (fun w' => (((w'.cell? ⟨w.heap.size, 0, none⟩ = some (.float .f32 r0) ∧ w'.cell? ⟨w.heap.size, 1, none⟩ = some (.float .f32 r1) ∧ w'.cell? ⟨w.heap.size, 2, none⟩ = some (.float .f32 r2)) ∧ (w'.cell? ⟨w.heap.size, 3, none⟩ = some (.float .f32 r3) ∧ w'.cell? ⟨w.heap.size, 4, none⟩ = some (.float .f32 r4) ∧ w'.cell? ⟨w.heap.size, 5, none⟩ = some (.float .f32 r5)) ∧ (w'.cell? ⟨w.heap.size, 6, none⟩ = some (.int .i64 ev) ∧ w'.cell? ⟨w.heap.size, 7, none⟩ = some (.int .i64 d))) ∧ (w'.cell? ad = some (.int .i64 m.t) ∧ w'.cell? ⟨(ad).block, (ad).off + 1, none⟩ = some (.int .i16 m.a) ∧ w'.cell? ⟨(ad).block, (ad).off + 2, none⟩ = some (.int .i16 m.b) ∧ w'.cell? ⟨(ad).block, (ad).off + 3, none⟩ = some (.int .i16 m.c)))) (first | exact hC.out _ h1.out | exact hC.out _ h2.out | exact hC.out _ (h1.out.alloc _) | exact hC.out _ (h2.out.alloc _) | exact hC.out _ (ZPQ.stays h2.out hz.out _ _ _))
            (first
              | (go_at_call 58; first | ((with_reducible refine (c_vecOf r0 r1 r2 r3 r4 r5 ev d m.a m.b m.c _).mono ?_); rintro e w4 ⟨_, rfl, ⟨sx, sy, sz, rfl, fs0, fs1, fs2⟩, hb⟩; have h2 := Lib.hid (h1.out.trans hb); have hF := Lib.hid (show FIs .f32 sx (sumR (vX r0 r3) rs 1) ∧ FIs .f32 sy (sumR (vY r1 r4) rs 1) ∧ FIs .f32 sz (sumR (vZ r2 r5) rs 1) from ⟨fs0.of_eq hone.out.1.symm, fs1.of_eq hone.out.2.1.symm, fs2.of_eq hone.out.2.2.symm⟩); clear hb) | ((with_reducible refine (c_vecOf r0 r1 r2 r3 r4 r5 ev d m.a m.b m.c _).mono ?_); rintro e w4 ⟨_, rfl, ⟨sx, sy, sz, rfl, fs0, fs1, fs2⟩, hb⟩; have hz := Lib.hid ((ZPQ.newD w2).below hb); obtain ⟨⟨z0, z1, z2⟩, f0, f1, f2⟩ := hz.out.cells; have h2 := Lib.hid ((h1.out.alloc _).trans hb); have hF := Lib.hid (show FIs .f32 sx (sumR (vX r0 r3) rs 1) ∧ FIs .f32 sy (sumR (vY r1 r4) rs 1) ∧ FIs .f32 sz (sumR (vZ r2 r5) rs 1) from ⟨fs0.of_eq hone.out.1.symm, fs1.of_eq hone.out.2.1.symm, fs2.of_eq hone.out.2.2.symm⟩); clear hb) | ((with_reducible refine (c_vecOf r0 r1 r2 r3 r4 r5 ev d m.a m.b m.c _).mono ?_); rintro e w4 ⟨_, rfl, ⟨sx, sy, sz, rfl, fs0, fs1, fs2⟩, hb⟩; have hz := Lib.hid (((ZPQ.new (B := w2.heap.size) _ (Nat.le_refl _)).below (Stays.refl _).drew).below hb); obtain ⟨⟨z0, z1, z2⟩, f0, f1, f2⟩ := hz.out.cells; have h2 := Lib.hid ((((Stays.refl w2).alloc _).drew).trans hb); have hF := Lib.hid (show FIs .f32 sx (sumR (vX r0 r3) rs 1) ∧ FIs .f32 sy (sumR (vY r1 r4) rs 1) ∧ FIs .f32 sz (sumR (vZ r2 r5) rs 1) from ⟨fs0.of_eq hone.out.1.symm, fs1.of_eq hone.out.2.1.symm, fs2.of_eq hone.out.2.2.symm⟩); clear hb)))
          all_goals (go_wp2_with fail; go_meet; (first | exact MadeQ.sets h2.out hz.out hF.out | exact MadeQ.alloc h2.out hF.out))
        case rest =>
        obtain ⟨p0, x0, y0, z0, rfl, hge0, hrow0, hf0, hs0⟩ := hcut
        rename World => w3
        replace hrow0 := Lib.hid hrow0
        replace hf0 := Lib.hid hf0
        replace hge0 := Lib.hid hge0
        replace hs0 := Lib.hid hs0
        clear hC hone
        go_wp2
        go_loopw [31] (fun iv wr => ∃ (k x y z : Nat), k ≤ rs.length - 1 ∧ iv = .int .i64 k ∧ Hid (wr.heap[p0]? = some (.cells #[.float .f32 x, .float .f32 y, .float .f32 z] 28 (0, 0))) ∧ Hid (FIs .f32 x (sumR (vX r0 r3) rs (k + 1)) ∧ FIs .f32 y (sumR (vY r1 r4) rs (k + 1)) ∧ FIs .f32 z (sumR (vZ r2 r5) rs (k + 1))) ∧ Hid (Stays w2 wr)) (fun iv _ => rs.length - (intOf iv).toNat)
        case atStart => exact ⟨0, x0, y0, z0, Nat.zero_le _, rfl, hrow0, hf0, hs0⟩
        case round =>
          obtain ⟨k, x, y, z, hk, rfl, hrow, hf, hs⟩ := hrel
          by_cases hlt : k < rs.length - 1
          · have hlt' : (k : Int) < ((rs.length - 1 : Nat) : Int) := by omega
            have hk9 : IntKind.i64.wrap ((k : Int) + 1) = (k : Int) + 1 := IntWalk.i64_in _ (by omega)
            have hAe := hA'.out (by omega)
            subst hAe
            have hkl : k + 1 < rs.length := by omega
            have hgk : rs[k + 1]? = some rs[k + 1] := List.getElem?_eq_getElem hkl
            obtain ⟨_, hm⟩ := H.out wr (hb.out.trans hs.out) ad rfl (k + 1) _ hgk
            have nx := Lib.hid (And.intro (sumR_next (f := vX r0 r3) (Nat.succ_pos k) hgk) (And.intro (sumR_next (f := vY r1 r4) (Nat.succ_pos k) hgk) (sumR_next (f := vZ r2 r5) (Nat.succ_pos k) hgk)))
            generalize rs[k + 1] = m at hm nx
            rw [← rd_next] at hm
            obtain ⟨m1, m2, m3, m4⟩ := hm wr (Stays.refl _)
            have ha := heap_alloc_new wr (.cells #[.int .i64 m.t, .int .i16 m.a, .int .i16 m.b, .int .i16 m.c] 83)
            have hsA : Stays wr (wr.alloc (.cells #[.int .i64 m.t, .int .i16 m.a, .int .i16 m.b, .int .i16 m.c] 83)) := by (repeat (first | exact Stays.refl _ | (with_reducible refine Stays.drewN ?_ _) | (with_reducible refine Stays.alloc ?_ _) | (with_reducible refine Stays.drew ?_) | (refine Stays.trans ?_ ‹Stays _ _›)))
            have hcells : ∀ W, Stays (wr.alloc (.cells #[.int .i64 m.t, .int .i16 m.a, .int .i16 m.b, .int .i16 m.c] 83)) W → (W.cell? ⟨p0, 0, none⟩ = some (.float .f32 x) ∧ W.cell? ⟨p0, 1, none⟩ = some (.float .f32 y) ∧ W.cell? ⟨p0, 2, none⟩ = some (.float .f32 z)) ∧ (W.cell? ⟨wr.heap.size, 1, none⟩ = some (.int .i16 m.a) ∧ W.cell? ⟨wr.heap.size, 2, none⟩ = some (.int .i16 m.b) ∧ W.cell? ⟨wr.heap.size, 3, none⟩ = some (.int .i16 m.c)) ∧ ((W.cell? ⟨w.heap.size, 0, none⟩ = some (.float .f32 r0) ∧ W.cell? ⟨w.heap.size, 1, none⟩ = some (.float .f32 r1) ∧ W.cell? ⟨w.heap.size, 2, none⟩ = some (.float .f32 r2)) ∧ (W.cell? ⟨w.heap.size, 3, none⟩ = some (.float .f32 r3) ∧ W.cell? ⟨w.heap.size, 4, none⟩ = some (.float .f32 r4) ∧ W.cell? ⟨w.heap.size, 5, none⟩ = some (.float .f32 r5)) ∧ (W.cell? ⟨w.heap.size, 6, none⟩ = some (.int .i64 ev) ∧ W.cell? ⟨w.heap.size, 7, none⟩ = some (.int .i64 d))) := fun W hW => by
              have e := (Below.block (hsA.trans hW) _ (in_heap hrow.out)).trans hrow.out
              exact ⟨⟨cell_of_row _ _ _ _ _ _ e, cell_of_row _ _ _ _ _ _ e, cell_of_row _ _ _ _ _ _ e⟩, ⟨row_of hW ha 1, row_of hW ha 2, row_of hW ha 3⟩, (HW.out W (hb.out.trans (hs.out.trans (hsA.trans hW)))).1⟩
            have hrows := Lib.hid fun W (hW : Stays (wr.alloc (.cells #[.int .i64 m.t, .int .i16 m.a, .int .i16 m.b, .int .i16 m.c] 83)) W) => ((Below.block (hsA.trans hW) _ (in_heap hrow.out)).trans hrow.out)
            have hne := Lib.hid (show p0 < wr.heap.size from in_heap hrow.out)
            replace hsA := Lib.hid (hs.out.trans hsA)
            clear hm ha hgk hkl
            generalize ad.add 4 = ad4 at m1 m2 m3 m4 ⊢
            go_upto_region 9 with fail
            clear m1 m2 m3 m4
            generalize hWA : (wr.alloc (.cells #[.int .i64 m.t, .int .i16 m.a, .int .i16 m.b, .int .i16 m.c] 83)) = WA at hcells hrows hsA ⊢
            clear hWA
            refine wp_region_soft_tail 6 (Stays.refl _) (svM 58 59) [] (by kernel_rfl) (by kernel_rfl) (fun _ h => by cases h) ?_
            simp only [List.take_succ_cons, List.take_zero, List.drop_succ_cons, List.drop_zero]
            repeat ((with_reducible apply soft_detG); (case hwa => rfl); (case hA => rfl); (case h => (intro w1 hw1; have hc := hcells w1 hw1; go_simp; exact rfl)); go_simp)
            refine soft_callW (A0 := #[.agg (senCells r0 r1 r2 r3 r4 r5 ev d), .agg #[.int .i16 m.a, .int .i16 m.b, .int .i16 m.c]]) (by rfl) rfl ?h (fun w2 _ => c_vecOf r0 r1 r2 r3 r4 r5 ev d m.a m.b m.c w2) (fun v hv => (svM_1 (by decide)).2 hv) (fun v hv => (svM_1 (by decide)).1 hv) ?_
            case h => (intro w1 hw1; have hc := hcells w1 hw1; go_simp; try exact ⟨rfl, rfl⟩)
            rintro v ⟨sx, sy, sz, rfl, f1, f2, f3⟩
            go_simp
            repeat ((with_reducible apply soft_detG); (case hwa => rfl); (case hA => rfl); (case h => (intro w1 hw1; have hc := hcells w1 hw1; go_simp; exact rfl)); go_simp)
            refine soft_callW (A0 := #[.agg #[.float .f32 x, .float .f32 y, .float .f32 z], .agg #[.float .f32 sx, .float .f32 sy, .float .f32 sz]]) (by rfl) rfl ?h (fun w2 _ => c_AddV x y z sx sy sz w2) (fun v hv => (svM_2 (by decide)).2 hv) (fun v hv => (svM_2 (by decide)).1 hv) ?_
            case h => (intro w1 hw1; have hc := hcells w1 hw1; go_simp; try exact ⟨rfl, rfl⟩)
            rintro v ⟨tx, ty, tz, rfl, g1, g2, g3⟩
            go_simp
            repeat ((with_reducible apply soft_detG); (case hwa => rfl); (case hA => rfl); (case h => (intro w1 hw1; have hc := hcells w1 hw1; go_simp; exact rfl)); go_simp)
            refine soft_nil ?_
            rintro w5 ⟨hw5, _⟩
            have hres := hrows.out w5 hw5
            have hst := hsA.out.trans hw5
            have hB0 := hge0.out
            have hX := Lib.hid (show (FIs .f32 tx (sumR (vX r0 r3) rs (k + 1 + 1)) ∧ FIs .f32 ty (sumR (vY r1 r4) rs (k + 1 + 1)) ∧ FIs .f32 tz (sumR (vZ r2 r5) rs (k + 1 + 1))) from ⟨g1.of_eq (by rw [nx.out.1, f1.out, hf.out.1.out]; rfl), g2.of_eq (by rw [nx.out.2.1, f2.out, hf.out.2.1.out]; rfl), g3.of_eq (by rw [nx.out.2.2, f3.out, hf.out.2.2.out]; rfl)⟩)
            clear f1 f2 f3 g1 g2 g3 hcells
            go_wp2_with ((refine wpList_store_row rfl _ _ _ rfl _ _ _ rfl rfl hres ?hi ?ho ?h1 ?hB hst ?_); (case hi => kernel_rfl); (case ho => rfl); (case h1 => first | rfl | simp [Value.oneCell']); (case hB => first | omega | (simp <;> omega)); intro w9 hw9 hq9 ho9 hsz9)
            replace hw9 := Lib.hid hw9
            replace hq9 := Lib.hid hq9
            clear hres hst ho9 hsz9 hw5 hB0
            go_roundw
            case rel => exact ⟨k + 1, tx, ty, tz, by omega, by go_num, hq9, hX, hw9⟩
            case measure => simp [intOf]; omega
          · have ek : k + 1 = rs.length := by omega
            have hlt2 : ¬ (k : Int) < ((rs.length - 1 : Nat) : Int) := by omega
            rw [ek] at hf
            replace ek := Lib.hid ek
            have g0 := cell_of_row _ _ 0 _ _ _ hrow.out
            have g1 := cell_of_row _ _ 1 _ _ _ hrow.out
            have g2 := cell_of_row _ _ 2 _ _ _ hrow.out
            go_wp2_with fail
            refine (c_DivV x y z (floatOfInt .f32 rs.length) _).mono ?_
            rintro e w8 ⟨_, rfl, ⟨vx, vy, vz, rfl, f1, f2, f3⟩, hw8⟩
            obtain ⟨_, hst, hres, _⟩ := HW.out w8 (hb.out.trans (hs.out.trans hw8))
            have hfin := Lib.hid (show FIs .f32 vx (meanK (vX r0 r3) rs) ∧ FIs .f32 vy (meanK (vY r1 r4) rs) ∧ FIs .f32 vz (meanK (vZ r2 r5) rs) from ⟨f1.of_eq (by unfold meanK; rw [hf.out.1.out]), f2.of_eq (by unfold meanK; rw [hf.out.2.1.out]), f3.of_eq (by unfold meanK; rw [hf.out.2.2.out])⟩)
            clear f1 f2 f3 hw8 g0 g1 g2
            go_wp2_with ((refine wpList_store_row rfl _ _ _ rfl _ _ _ rfl rfl hres ?hi ?ho ?h1 ?hB hst ?_); (case hi => kernel_rfl); (case ho => rfl); (case h1 => first | rfl | simp [Value.oneCell']); (case hB => first | omega | (simp <;> omega)); intro w9 hw9 hq9 ho9 hsz9)
            apply end_gd rfl rfl rfl Try.underlying28 rfl (t := 28)
            case hg => exact hq9
            case hi => kernel_rfl
            case hR => exact ⟨_, _, _, rfl, hfin.out.1, hfin.out.2.1, hfin.out.2.2, hw9⟩

end Go.Proofs.Ytmcbeaihjdnelaa

namespace Go.Proofs.Ytmcbeaihjdnelaa
open Go Go.RowKit
set_option linter.unusedVariables false
set_option linter.unusedSimpArgs false

set_option maxRecDepth 100000 in
set_option maxHeartbeats 4000000 in
theorem c_specMean (v : Value) (ins : List NV) (hs : Sen v ins) (A : Option Addr) (c : Nat) (rs : List Rd) (w : World) (h : Feed w w.heap.size A rs) (hn : rs.length ≤ 1048576) :
    Calls Try.prog 12 #[v, .slice A rs.length c] w (V3Done w (mnC (sensB ins && feedB rs) rs) (mnV (vX (sw v 0) (sw v 3)) (sensB ins && feedB rs) rs) (mnV (vY (sw v 1) (sw v 4)) (sensB ins && feedB rs) rs) (mnV (vZ (sw v 2) (sw v 5)) (sensB ins && feedB rs) rs)) := by
  obtain ⟨r0, r1, r2, r3, r4, r5, ev, d, rfl, hdd⟩ := hs.cells
  clear hdd
  have hst : Stays w ((w.alloc (.cells (senCells r0 r1 r2 r3 r4 r5 ev d) 32)).alloc (.cells #[.float .f32 0, .float .f32 0, .float .f32 0] 28)) := by (repeat (first | exact Stays.refl _ | (with_reducible refine Stays.drewN ?_ _) | (with_reducible refine Stays.alloc ?_ _) | (with_reducible refine Stays.drew ?_) | (refine Stays.trans ?_ ‹Stays _ _›)))
  have uS : ((w.alloc (.cells (senCells r0 r1 r2 r3 r4 r5 ev d) 32)).alloc (.cells #[.float .f32 0, .float .f32 0, .float .f32 0] 28)).heap[w.heap.size]? = some (.cells (senCells r0 r1 r2 r3 r4 r5 ev d) 32 (0, 0)) := by (repeat (first | (refine heap_top _ _ _ ?_; simp; done) | (with_reducible refine heap_drawn _ _ _ ?_) | (with_reducible refine heap_under _ _ _ ?_ ?_; (simp <;> omega))))
  have uR : ((w.alloc (.cells (senCells r0 r1 r2 r3 r4 r5 ev d) 32)).alloc (.cells #[.float .f32 0, .float .f32 0, .float .f32 0] 28)).heap[w.heap.size + 1]? = some (.cells #[.float .f32 0, .float .f32 0, .float .f32 0] 28 (0, 0)) := by (repeat (first | (refine heap_top _ _ _ ?_; simp; done) | (with_reducible refine heap_drawn _ _ _ ?_) | (with_reducible refine heap_under _ _ _ ?_ ?_; (simp <;> omega))))
  have HW := Lib.hid fun W (hW : Stays ((w.alloc (.cells (senCells r0 r1 r2 r3 r4 r5 ev d) 32)).alloc (.cells #[.float .f32 0, .float .f32 0, .float .f32 0] 28)) W) => And.intro (sen_cells uS W hW) (And.intro (hst.trans hW) (And.intro ((Below.block hW _ (in_heap uR)).trans uR) ((Below.block hW _ (in_heap uS)).trans uS)))
  have hFd := fun W (hW : Stays ((w.alloc (.cells (senCells r0 r1 r2 r3 r4 r5 ev d) 32)).alloc (.cells #[.float .f32 0, .float .f32 0, .float .f32 0] 28)) W) => ((h.below (show Below w.heap.size w W from hst.trans hW)).more (hst.trans hW).size)
  have kS := Lib.hid fun W (hW : Stays ((w.alloc (.cells (senCells r0 r1 r2 r3 r4 r5 ev d) 32)).alloc (.cells #[.float .f32 0, .float .f32 0, .float .f32 0] 28)) W) => c_l04Sensor w.heap.size (senCells r0 r1 r2 r3 r4 r5 ev d) ins W ((Below.block hW _ (in_heap uS)).trans uS) hs
  have kF := Lib.hid fun W (hW : Stays ((w.alloc (.cells (senCells r0 r1 r2 r3 r4 r5 ev d) 32)).alloc (.cells #[.float .f32 0, .float .f32 0, .float .f32 0] 28)) W) => show Calls Try.prog 53 #[.slice A rs.length c] W fun e w2 => e = .returned (.bool (feedB rs)) ∧ Below W.heap.size W w2 from by
    have := c_l04Feed A c (rs.map (·.t)) W (hFd W hW).times (by simpa using hn)
    rw [List.length_map] at this
    refine this.mono ?_
    rintro e w2 ⟨rfl, m, rfl⟩
    exact ⟨rfl, below_drewN W m⟩
  have H := Lib.hid fun W (hW : Stays ((w.alloc (.cells (senCells r0 r1 r2 r3 r4 r5 ev d) 32)).alloc (.cells #[.float .f32 0, .float .f32 0, .float .f32 0] 28)) W) ad (e : A = some ad) k m (hk : rs[k]? = some m) => show ad.block < W.heap.size ∧ ∀ W', Stays W W' → (W'.cell? (ad.add (k * 4)) = some (.int .i64 m.t) ∧ W'.cell? ⟨((ad.add (k * 4))).block, ((ad.add (k * 4))).off + 1, none⟩ = some (.int .i16 m.a) ∧ W'.cell? ⟨((ad.add (k * 4))).block, ((ad.add (k * 4))).off + 2, none⟩ = some (.int .i16 m.b) ∧ W'.cell? ⟨((ad.add (k * 4))).block, ((ad.add (k * 4))).off + 3, none⟩ = some (.int .i16 m.c)) from by
    obtain ⟨ad', e', hbl, c1, c2, c3, c4⟩ := hFd W hW k m hk
    rw [e] at e'
    cases e'
    have hb : (ad.add (k * 4)).block < W.heap.size := by rw [block_add]; exact hbl
    exact ⟨hbl, fun W' hW' => ⟨(hW'.cell (p := ad.add (k * 4)) hb).trans c1, (hW'.cell (p := ⟨(ad.add (k * 4)).block, (ad.add (k * 4)).off + 1, none⟩) hb).trans c2, (hW'.cell (p := ⟨(ad.add (k * 4)).block, (ad.add (k * 4)).off + 2, none⟩) hb).trans c3, (hW'.cell (p := ⟨(ad.add (k * 4)).block, (ad.add (k * 4)).off + 3, none⟩) hb).trans c4⟩⟩
  have hA : 0 < rs.length → ∃ ad, A = some ad := fun hp => by
    obtain ⟨ad, e, _⟩ := h 0 rs[0] (List.getElem?_eq_getElem hp)
    exact ⟨ad, e⟩
  clear uS uR hFd h hs hst
  unfold mnC mnV
  generalize sensB ins = sb at kS ⊢
  generalize feedB rs = fb at kF ⊢
  cases sb with
  | false =>
    simp only [Bool.false_and, Bool.false_eq_true, if_false]
    clear hA
    go_enter Try.func12, Try.ntmps12
    go_wp2_with fail
    generalize ((w.alloc (.cells #[.float .f32 r0, .float .f32 r1, .float .f32 r2, .float .f32 r3, .float .f32 r4, .float .f32 r5, .int .i64 ev, .int .i64 d] 32)).alloc (.cells #[.float .f32 0, .float .f32 0, .float .f32 0] 28)) = W0 at HW kS kF H ⊢
    with_reducible refine (kS.out W0 (Stays.refl _)).mono ?_
    rintro e w1 ⟨rfl, hb⟩
    replace hb := Lib.hid (show Stays W0 w1 from hb)
    obtain ⟨_, hst, hres, _⟩ := HW.out _ hb.out
    clear kS kF
    go_wp2_with ((refine wpList_store_row rfl _ _ _ rfl _ _ _ rfl rfl hres ?hi ?ho ?h1 ?hB hst ?_); (case hi => kernel_rfl); (case ho => rfl); (case h1 => first | rfl | simp [Value.oneCell']); (case hB => first | omega | (simp <;> omega)); intro w9 hw9 hq9 ho9 hsz9)
    apply end_gd rfl rfl rfl Try.underlying28 rfl (t := 28)
    case hg => exact hq9
    case hi => kernel_rfl
    case hR => exact ⟨_, _, _, rfl, FIs.self (by decide), FIs.self (by decide), FIs.self (by decide), hw9⟩
  | true =>
    cases fb with
    | false =>
      simp only [Bool.and_false, Bool.false_eq_true, if_false]
      clear hA
      go_enter Try.func12, Try.ntmps12
      go_wp2_with fail
      generalize ((w.alloc (.cells #[.float .f32 r0, .float .f32 r1, .float .f32 r2, .float .f32 r3, .float .f32 r4, .float .f32 r5, .int .i64 ev, .int .i64 d] 32)).alloc (.cells #[.float .f32 0, .float .f32 0, .float .f32 0] 28)) = W0 at HW kS kF H ⊢
      with_reducible refine (kS.out W0 (Stays.refl _)).mono ?_
      rintro e w1 ⟨rfl, hb⟩
      replace hb := Lib.hid (show Stays W0 w1 from hb)
      go_wp2_with fail
      with_reducible refine (kF.out w1 hb.out).mono ?_
      rintro e w1' ⟨rfl, hb'⟩
      replace hb := Lib.hid (hb.out.trans (show Stays w1 w1' from hb'))
      clear hb'
      obtain ⟨_, hst, hres, _⟩ := HW.out _ hb.out
      clear kS kF
      go_wp2_with ((refine wpList_store_row rfl _ _ _ rfl _ _ _ rfl rfl hres ?hi ?ho ?h1 ?hB hst ?_); (case hi => kernel_rfl); (case ho => rfl); (case h1 => first | rfl | simp [Value.oneCell']); (case hB => first | omega | (simp <;> omega)); intro w9 hw9 hq9 ho9 hsz9)
      apply end_gd rfl rfl rfl Try.underlying28 rfl (t := 28)
      case hg => exact hq9
      case hi => kernel_rfl
      case hR => exact ⟨_, _, _, rfl, FIs.self (by decide), FIs.self (by decide), FIs.self (by decide), hw9⟩
    | true =>
      simp only [Bool.and_true, if_true]
      by_cases h0 : rs.length = 0
      · have h0' : (((rs.length : Nat) : Int) == 0) = true := by rw [h0]; rfl
        simp only [if_pos h0]
        replace h0 := Lib.hid h0
        clear hA
        go_enter Try.func12, Try.ntmps12
        go_wp2_with fail
        generalize ((w.alloc (.cells #[.float .f32 r0, .float .f32 r1, .float .f32 r2, .float .f32 r3, .float .f32 r4, .float .f32 r5, .int .i64 ev, .int .i64 d] 32)).alloc (.cells #[.float .f32 0, .float .f32 0, .float .f32 0] 28)) = W0 at HW kS kF H ⊢
        with_reducible refine (kS.out W0 (Stays.refl _)).mono ?_
        rintro e w1 ⟨rfl, hb⟩
        replace hb := Lib.hid (show Stays W0 w1 from hb)
        go_wp2_with fail
        with_reducible refine (kF.out w1 hb.out).mono ?_
        rintro e w1' ⟨rfl, hb'⟩
        replace hb := Lib.hid (hb.out.trans (show Stays w1 w1' from hb'))
        clear hb'
        obtain ⟨_, hst, hres, _⟩ := HW.out _ hb.out
        clear kS kF
        go_wp2_with ((refine wpList_store_row rfl _ _ _ rfl _ _ _ rfl rfl hres ?hi ?ho ?h1 ?hB hst ?_); (case hi => kernel_rfl); (case ho => rfl); (case h1 => first | rfl | simp [Value.oneCell']); (case hB => first | omega | (simp <;> omega)); intro w9 hw9 hq9 ho9 hsz9)
        apply end_gd rfl rfl rfl Try.underlying28 rfl (t := 28)
        case hg => exact hq9
        case hi => kernel_rfl
        case hR => exact ⟨_, _, _, rfl, FIs.self (by decide), FIs.self (by decide), FIs.self (by decide), hw9⟩
      · have h0' : (((rs.length : Nat) : Int) == 0) = false := beq_eq_false_iff_ne.2 (by omega)
        have hpos : 0 < rs.length := by omega
        have hpos' : (0 : Int) < (rs.length : Int) := by omega
        simp only [if_neg h0]
        obtain ⟨ad, rfl⟩ := hA hpos
        clear hA
        go_enter Try.func12, Try.ntmps12
        go_wp2_with fail
        generalize ((w.alloc (.cells #[.float .f32 r0, .float .f32 r1, .float .f32 r2, .float .f32 r3, .float .f32 r4, .float .f32 r5, .int .i64 ev, .int .i64 d] 32)).alloc (.cells #[.float .f32 0, .float .f32 0, .float .f32 0] 28)) = W0 at HW kS kF H ⊢
        with_reducible refine (kS.out W0 (Stays.refl _)).mono ?_
        rintro e w1 ⟨rfl, hb⟩
        replace hb := Lib.hid (show Stays W0 w1 from hb)
        go_wp2_with fail
        with_reducible refine (kF.out w1 hb.out).mono ?_
        rintro e w1' ⟨rfl, hb'⟩
        replace hb := Lib.hid (hb.out.trans (show Stays w1 w1' from hb'))
        clear hb'
        obtain ⟨_, hst, hres, _⟩ := HW.out _ hb.out
        clear kS kF
        clear hst hres
        go_upto_region 5 with fail
        generalize w1' = w2 at hb ⊢
        have hg0 : rs[0]? = some rs[0] := List.getElem?_eq_getElem hpos
        obtain ⟨hbl, hm⟩ := H.out w2 hb.out ad rfl 0 _ hg0
        have hone := Lib.hid (And.intro (sumR_one (f := vX r0 r3) hg0) (And.intro (sumR_one (f := vY r1 r4) hg0) (sumR_one (f := vZ r2 r5) hg0)))
        generalize rs[0] = m at hm hone
        have e0 : ad.add (0 * 4) = ad := rfl
        rw [e0] at hm
        clear hg0 e0 hbl
        obtain ⟨m1, m2, m3, m4⟩ := hm w2 (Stays.refl _)
        go_wp2_with fail
        clear m1 m2 m3 m4 hm
        refine (c_l04Vec w.heap.size r0 r1 r2 r3 r4 r5 ev d m.a m.b m.c w2 (HW.out w2 hb.out).2.2.2).mono ?_
        rintro e w3 ⟨_, rfl, ⟨x0, y0, z0, rfl, fx, fy, fz⟩, hw3⟩
        have hrow0 := Lib.hid (heap_alloc_new w3 (.cells #[.float .f32 x0, .float .f32 y0, .float .f32 z0] 28))
        have hsA : Stays w3 (w3.alloc (.cells #[.float .f32 x0, .float .f32 y0, .float .f32 z0] 28)) := by (repeat (first | exact Stays.refl _ | (with_reducible refine Stays.drewN ?_ _) | (with_reducible refine Stays.alloc ?_ _) | (with_reducible refine Stays.drew ?_) | (refine Stays.trans ?_ ‹Stays _ _›)))
        have hs0 := Lib.hid (hw3.trans hsA)
        have hge0 := Lib.hid hw3.size
        have hf0 := Lib.hid (show FIs .f32 x0 (sumR (vX r0 r3) rs 1) ∧ FIs .f32 y0 (sumR (vY r1 r4) rs 1) ∧ FIs .f32 z0 (sumR (vZ r2 r5) rs 1) from ⟨fx.of_eq hone.out.1.symm, fy.of_eq hone.out.2.1.symm, fz.of_eq hone.out.2.2.symm⟩)
        clear fx fy fz hw3 hsA hone
        go_wp2
        generalize (w3.alloc (.cells #[.float .f32 x0, .float .f32 y0, .float .f32 z0] 28)) = w5 at hrow0 hs0 ⊢
        generalize w3.heap.size = p0 at hrow0 hge0 ⊢
        go_loopw [7] (fun iv wr => ∃ (k x y z : Nat), k + 1 ≤ rs.length ∧ iv = .int .i64 (k + 1) ∧ Hid (wr.heap[p0]? = some (.cells #[.float .f32 x, .float .f32 y, .float .f32 z] 28 (0, 0))) ∧ Hid (FIs .f32 x (sumR (vX r0 r3) rs (k + 1)) ∧ FIs .f32 y (sumR (vY r1 r4) rs (k + 1)) ∧ FIs .f32 z (sumR (vZ r2 r5) rs (k + 1))) ∧ Hid (Stays w2 wr)) (fun iv _ => rs.length - (intOf iv).toNat)
        case atStart => exact ⟨0, x0, y0, z0, by omega, rfl, hrow0, hf0, hs0⟩
        case round =>
          obtain ⟨k, x, y, z, hk, rfl, hrow, hf, hs⟩ := hrel
          clear hrow0 hf0 hs0
          by_cases hlt : k + 1 < rs.length
          · have hlt' : (k : Int) + 1 < (rs.length : Int) := by omega
            have hk9 : IntKind.i64.wrap ((k : Int) + 1 + 1) = (k : Int) + 1 + 1 := IntWalk.i64_in _ (by omega)
            have hk8 : ((k : Int) + 1).toNat = k + 1 := by omega
            have hgk : rs[k + 1]? = some rs[k + 1] := List.getElem?_eq_getElem hlt
            obtain ⟨_, hm⟩ := H.out wr (hb.out.trans hs.out) ad rfl (k + 1) _ hgk
            have nx := Lib.hid (And.intro (sumR_next (f := vX r0 r3) (Nat.succ_pos k) hgk) (And.intro (sumR_next (f := vY r1 r4) (Nat.succ_pos k) hgk) (sumR_next (f := vZ r2 r5) (Nat.succ_pos k) hgk)))
            generalize rs[k + 1] = m at hm nx
            obtain ⟨m1, m2, m3, m4⟩ := hm wr (Stays.refl _)
            clear hm hgk
            go_wp2_with fail
            clear m1 m2 m3 m4
            refine (c_l04Vec w.heap.size r0 r1 r2 r3 r4 r5 ev d m.a m.b m.c wr (HW.out wr (hb.out.trans hs.out)).2.2.2).mono ?_
            rintro e w4 ⟨_, rfl, ⟨sx, sy, sz, rfl, f1, f2, f3⟩, hw4⟩
            have hrv := Lib.hid (heap_alloc_new w4 (.cells #[.float .f32 sx, .float .f32 sy, .float .f32 sz] 28))
            have hsB : Stays wr (w4.alloc (.cells #[.float .f32 sx, .float .f32 sy, .float .f32 sz] 28)) := Stays.trans hw4 (by (repeat (first | exact Stays.refl _ | (with_reducible refine Stays.drewN ?_ _) | (with_reducible refine Stays.alloc ?_ _) | (with_reducible refine Stays.drew ?_) | (refine Stays.trans ?_ ‹Stays _ _›))))
            have hne := Lib.hid (show p0 < w4.heap.size from Nat.lt_of_lt_of_le (in_heap hrow.out) hw4.size)
            replace hrow := Lib.hid ((Below.block hsB _ (in_heap hrow.out)).trans hrow.out)
            replace hs := Lib.hid (hs.out.trans hsB)
            have hfm := Lib.hid (And.intro f1 (And.intro f2 f3))
            clear hw4 hsB f1 f2 f3
            go_wp2
            generalize (w4.alloc (.cells #[.float .f32 sx, .float .f32 sy, .float .f32 sz] 28)) = WA at hrow hrv hs ⊢
            generalize w4.heap.size = pv at hrv hne ⊢
            refine wp_loop_rounds 4 ?_
            rw [rounds_succ]
            go_upto_region 13 with fail
            have hcells := fun W (hW : Stays WA W) => And.intro (cell_of_row W _ 0 _ _ _ ((Below.block hW _ (in_heap hrow.out)).trans hrow.out)) (cell_of_row W _ 0 _ _ _ ((Below.block hW _ (in_heap hrv.out)).trans hrv.out))
            refine wp_region_soft_tail 9 (Stays.refl _) (fun _ _ _ => False) [] (by kernel_rfl) (by kernel_rfl) (fun _ h => by cases h) ?_
            simp only [List.take_succ_cons, List.take_zero, List.drop_succ_cons, List.drop_zero]
            repeat ((with_reducible apply soft_detG); (case hwa => rfl); (case hA => rfl); (case h => (intro w1 hw1; have hc := hcells w1 hw1; go_simp; exact rfl)); go_simp)
            ((with_reducible refine soft_fop rfl ?hA _ _ _ _ _ rfl rfl _ _ _ rfl rfl ?_); (case hA => rfl); intro r0a hr0a; go_simp)
            repeat ((with_reducible apply soft_detG); (case hwa => rfl); (case hA => rfl); (case h => (intro w1 hw1; have hc := hcells w1 hw1; go_simp; exact rfl)); go_simp)
            refine soft_nil ?_
            rintro v0 ⟨hv, _⟩
            replace hrow := Lib.hid ((Below.block hv _ (in_heap hrow.out)).trans hrow.out)
            replace hrv := Lib.hid ((Below.block hv _ (in_heap hrv.out)).trans hrv.out)
            replace hs := Lib.hid (hs.out.trans hv)
            clear hcells hv
            have hp0 := Lib.hid hr0a
            clear hr0a
            have c9 := cell_of_row _ _ 0 _ _ _ hrow.out
            have f9 := frozen_of_row _ _ 0 _ _ hrow.out
            go_wp2
            clear c9 f9
            have hrvN := (heap_setCell_other v0 ⟨p0, 0, none⟩ pv (.float .f32 r0a) (by simp; have := hne.out; omega)).trans hrv.out
            replace hrv := Lib.hid hrvN
            clear hrvN
            have hrowN : (v0.setCell ⟨p0, 0, none⟩ (.float .f32 r0a)).heap[p0]? = some (.cells #[.float .f32 r0a, .float .f32 y, .float .f32 z] 28 (0, 0)) := heap_setCell_same v0 p0 0 _ _ (.float .f32 r0a) hrow.out
            have hsN : Stays w2 (v0.setCell ⟨p0, 0, none⟩ (.float .f32 r0a)) := hs.out.setCell _ _ hge0.out
            replace hrow := Lib.hid hrowN
            replace hs := Lib.hid hsN
            clear hrowN hsN
            generalize (v0.setCell ⟨p0, 0, none⟩ (.float .f32 r0a)) = u0 at hrow hrv hs ⊢
            rw [rounds_succ]
            go_upto_region 13 with fail
            have hcells := fun W (hW : Stays u0 W) => And.intro (cell_of_row W _ 1 _ _ _ ((Below.block hW _ (in_heap hrow.out)).trans hrow.out)) (cell_of_row W _ 1 _ _ _ ((Below.block hW _ (in_heap hrv.out)).trans hrv.out))
            refine wp_region_soft_tail 9 (Stays.refl _) (fun _ _ _ => False) [] (by kernel_rfl) (by kernel_rfl) (fun _ h => by cases h) ?_
            simp only [List.take_succ_cons, List.take_zero, List.drop_succ_cons, List.drop_zero]
            repeat ((with_reducible apply soft_detG); (case hwa => rfl); (case hA => rfl); (case h => (intro w1 hw1; have hc := hcells w1 hw1; go_simp; exact rfl)); go_simp)
            ((with_reducible refine soft_fop rfl ?hA _ _ _ _ _ rfl rfl _ _ _ rfl rfl ?_); (case hA => rfl); intro r1a hr1a; go_simp)
            repeat ((with_reducible apply soft_detG); (case hwa => rfl); (case hA => rfl); (case h => (intro w1 hw1; have hc := hcells w1 hw1; go_simp; exact rfl)); go_simp)
            refine soft_nil ?_
            rintro v1 ⟨hv, _⟩
            replace hrow := Lib.hid ((Below.block hv _ (in_heap hrow.out)).trans hrow.out)
            replace hrv := Lib.hid ((Below.block hv _ (in_heap hrv.out)).trans hrv.out)
            replace hs := Lib.hid (hs.out.trans hv)
            clear hcells hv
            have hp1 := Lib.hid hr1a
            clear hr1a
            have c9 := cell_of_row _ _ 1 _ _ _ hrow.out
            have f9 := frozen_of_row _ _ 1 _ _ hrow.out
            go_wp2
            clear c9 f9
            have hrvN := (heap_setCell_other v1 ⟨p0, 1, none⟩ pv (.float .f32 r1a) (by simp; have := hne.out; omega)).trans hrv.out
            replace hrv := Lib.hid hrvN
            clear hrvN
            have hrowN : (v1.setCell ⟨p0, 1, none⟩ (.float .f32 r1a)).heap[p0]? = some (.cells #[.float .f32 r0a, .float .f32 r1a, .float .f32 z] 28 (0, 0)) := heap_setCell_same v1 p0 1 _ _ (.float .f32 r1a) hrow.out
            have hsN : Stays w2 (v1.setCell ⟨p0, 1, none⟩ (.float .f32 r1a)) := hs.out.setCell _ _ hge0.out
            replace hrow := Lib.hid hrowN
            replace hs := Lib.hid hsN
            clear hrowN hsN
            generalize (v1.setCell ⟨p0, 1, none⟩ (.float .f32 r1a)) = u1 at hrow hrv hs ⊢
            rw [rounds_succ]
            go_upto_region 13 with fail
            have hcells := fun W (hW : Stays u1 W) => And.intro (cell_of_row W _ 2 _ _ _ ((Below.block hW _ (in_heap hrow.out)).trans hrow.out)) (cell_of_row W _ 2 _ _ _ ((Below.block hW _ (in_heap hrv.out)).trans hrv.out))
            refine wp_region_soft_tail 9 (Stays.refl _) (fun _ _ _ => False) [] (by kernel_rfl) (by kernel_rfl) (fun _ h => by cases h) ?_
            simp only [List.take_succ_cons, List.take_zero, List.drop_succ_cons, List.drop_zero]
            repeat ((with_reducible apply soft_detG); (case hwa => rfl); (case hA => rfl); (case h => (intro w1 hw1; have hc := hcells w1 hw1; go_simp; exact rfl)); go_simp)
            ((with_reducible refine soft_fop rfl ?hA _ _ _ _ _ rfl rfl _ _ _ rfl rfl ?_); (case hA => rfl); intro r2a hr2a; go_simp)
            repeat ((with_reducible apply soft_detG); (case hwa => rfl); (case hA => rfl); (case h => (intro w1 hw1; have hc := hcells w1 hw1; go_simp; exact rfl)); go_simp)
            refine soft_nil ?_
            rintro v2 ⟨hv, _⟩
            replace hrow := Lib.hid ((Below.block hv _ (in_heap hrow.out)).trans hrow.out)
            replace hrv := Lib.hid ((Below.block hv _ (in_heap hrv.out)).trans hrv.out)
            replace hs := Lib.hid (hs.out.trans hv)
            clear hcells hv
            have hp2 := Lib.hid hr2a
            clear hr2a
            have c9 := cell_of_row _ _ 2 _ _ _ hrow.out
            have f9 := frozen_of_row _ _ 2 _ _ hrow.out
            go_wp2
            clear c9 f9
            have hrvN := (heap_setCell_other v2 ⟨p0, 2, none⟩ pv (.float .f32 r2a) (by simp; have := hne.out; omega)).trans hrv.out
            replace hrv := Lib.hid hrvN
            clear hrvN
            have hrowN : (v2.setCell ⟨p0, 2, none⟩ (.float .f32 r2a)).heap[p0]? = some (.cells #[.float .f32 r0a, .float .f32 r1a, .float .f32 r2a] 28 (0, 0)) := heap_setCell_same v2 p0 2 _ _ (.float .f32 r2a) hrow.out
            have hsN : Stays w2 (v2.setCell ⟨p0, 2, none⟩ (.float .f32 r2a)) := hs.out.setCell _ _ hge0.out
            replace hrow := Lib.hid hrowN
            replace hs := Lib.hid hsN
            clear hrowN hsN
            generalize (v2.setCell ⟨p0, 2, none⟩ (.float .f32 r2a)) = u2 at hrow hrv hs ⊢
            rw [rounds_succ]
            have hX := Lib.hid (show FIs .f32 r0a (sumR (vX r0 r3) rs (k + 1 + 1)) ∧ FIs .f32 r1a (sumR (vY r1 r4) rs (k + 1 + 1)) ∧ FIs .f32 r2a (sumR (vZ r2 r5) rs (k + 1 + 1)) from ⟨hp0.out.of_eq (by rw [nx.out.1, hf.out.1.out, hfm.out.1.out]; rfl), hp1.out.of_eq (by rw [nx.out.2.1, hf.out.2.1.out, hfm.out.2.1.out]; rfl), hp2.out.of_eq (by rw [nx.out.2.2, hf.out.2.2.out, hfm.out.2.2.out]; rfl)⟩)
            clear hp0 hp1 hp2
            go_wp2
            go_roundw
            case rel => exact ⟨k + 1, r0a, r1a, r2a, by omega, by go_num, hrow, hX, hs⟩
            case measure => simp [intOf]; omega
          · have ek : k + 1 = rs.length := by omega
            have hlt2 : ¬ (k : Int) + 1 < (rs.length : Int) := by omega
            rw [ek] at hf
            replace ek := Lib.hid ek
            go_wp2
            refine wp_loop_rounds 4 ?_
            rw [rounds_succ]
            have c9 := fun n => cell_of_row (wr.drewN n) _ 0 _ _ _ hrow.out
            have f9 := fun n => frozen_of_row (wr.drewN n) _ 0 _ _ hrow.out
            have c8 := cell_of_row _ _ 0 _ _ _ hrow.out
            go_wp2_with ((with_reducible refine wpList_fop rfl _ _ _ _ _ rfl rfl _ _ _ rfl rfl ?_); intro q0 n0 hq0; have hs0' := Lib.hid hq0; clear hq0)
            clear c8 c9 f9
            have hrowN : ((wr.setCell ⟨p0, 0, none⟩ (.float .f32 q0)).drewN n0).heap[p0]? = some (.cells #[.float .f32 q0, .float .f32 y, .float .f32 z] 28 (0, 0)) := heap_setCell_same wr p0 0 _ _ (.float .f32 q0) hrow.out
            have hsN : Stays w2 ((wr.setCell ⟨p0, 0, none⟩ (.float .f32 q0)).drewN n0) := (hs.out.setCell _ _ hge0.out).drewN _
            replace hrow := Lib.hid hrowN
            replace hs := Lib.hid hsN
            clear hrowN hsN
            generalize ((wr.setCell ⟨p0, 0, none⟩ (.float .f32 q0)).drewN n0) = u0 at hrow hs ⊢
            rw [rounds_succ]
            have c9 := fun n => cell_of_row (u0.drewN n) _ 1 _ _ _ hrow.out
            have f9 := fun n => frozen_of_row (u0.drewN n) _ 1 _ _ hrow.out
            have c8 := cell_of_row _ _ 1 _ _ _ hrow.out
            go_wp2_with ((with_reducible refine wpList_fop rfl _ _ _ _ _ rfl rfl _ _ _ rfl rfl ?_); intro q1 n1 hq1; have hs1' := Lib.hid hq1; clear hq1)
            clear c8 c9 f9
            have hrowN : ((u0.setCell ⟨p0, 1, none⟩ (.float .f32 q1)).drewN n1).heap[p0]? = some (.cells #[.float .f32 q0, .float .f32 q1, .float .f32 z] 28 (0, 0)) := heap_setCell_same u0 p0 1 _ _ (.float .f32 q1) hrow.out
            have hsN : Stays w2 ((u0.setCell ⟨p0, 1, none⟩ (.float .f32 q1)).drewN n1) := (hs.out.setCell _ _ hge0.out).drewN _
            replace hrow := Lib.hid hrowN
            replace hs := Lib.hid hsN
            clear hrowN hsN
            generalize ((u0.setCell ⟨p0, 1, none⟩ (.float .f32 q1)).drewN n1) = u1 at hrow hs ⊢
            rw [rounds_succ]
            have c9 := fun n => cell_of_row (u1.drewN n) _ 2 _ _ _ hrow.out
            have f9 := fun n => frozen_of_row (u1.drewN n) _ 2 _ _ hrow.out
            have c8 := cell_of_row _ _ 2 _ _ _ hrow.out
            go_wp2_with ((with_reducible refine wpList_fop rfl _ _ _ _ _ rfl rfl _ _ _ rfl rfl ?_); intro q2 n2 hq2; have hs2' := Lib.hid hq2; clear hq2)
            clear c8 c9 f9
            have hrowN : ((u1.setCell ⟨p0, 2, none⟩ (.float .f32 q2)).drewN n2).heap[p0]? = some (.cells #[.float .f32 q0, .float .f32 q1, .float .f32 q2] 28 (0, 0)) := heap_setCell_same u1 p0 2 _ _ (.float .f32 q2) hrow.out
            have hsN : Stays w2 ((u1.setCell ⟨p0, 2, none⟩ (.float .f32 q2)).drewN n2) := (hs.out.setCell _ _ hge0.out).drewN _
            replace hrow := Lib.hid hrowN
            replace hs := Lib.hid hsN
            clear hrowN hsN
            generalize ((u1.setCell ⟨p0, 2, none⟩ (.float .f32 q2)).drewN n2) = u2 at hrow hs ⊢
            rw [rounds_succ]
            have g0 := cell_of_row _ _ 0 _ _ _ hrow.out
            have g1 := cell_of_row _ _ 1 _ _ _ hrow.out
            have g2 := cell_of_row _ _ 2 _ _ _ hrow.out
            obtain ⟨_, hst, hres, _⟩ := HW.out u2 (hb.out.trans hs.out)
            have hfin := Lib.hid (show FIs .f32 q0 (meanK (vX r0 r3) rs) ∧ FIs .f32 q1 (meanK (vY r1 r4) rs) ∧ FIs .f32 q2 (meanK (vZ r2 r5) rs) from ⟨hs0'.out.of_eq (by unfold meanK; rw [hf.out.1.out]), hs1'.out.of_eq (by unfold meanK; rw [hf.out.2.1.out]), hs2'.out.of_eq (by unfold meanK; rw [hf.out.2.2.out])⟩)
            clear hs0' hs1' hs2'
            go_wp2_with ((refine wpList_store_row rfl _ _ _ rfl _ _ _ rfl rfl hres ?hi ?ho ?h1 ?hB hst ?_); (case hi => kernel_rfl); (case ho => rfl); (case h1 => first | rfl | simp [Value.oneCell']); (case hB => first | omega | (simp <;> omega)); intro w9 hw9 hq9 ho9 hsz9)
            apply end_gd rfl rfl rfl Try.underlying28 rfl (t := 28)
            case hg => exact hq9
            case hi => kernel_rfl
            case hR => exact ⟨_, _, _, rfl, hfin.out.1, hfin.out.2.1, hfin.out.2.2, hw9⟩

end Go.Proofs.Ytmcbeaihjdnelaa

namespace Go.Proofs.Ytmcbeaihjdnelaa
open Go Go.ChangeShapes Go.WideShapes Go.RowKit
set_option linter.unusedVariables false
set_option linter.unusedSimpArgs false

abbrev KCeV : List Kd := [.f .f32, .f .f32, .f .f32]

noncomputable def wkECeV : DT (SV × St) := callDT tb ftab otb 60 40 0 16 [inSh 0 (.agg KCeV), inSh 0 (.agg KCeV)] ⟨.nil, [], []⟩
noncomputable def nsECeV : List Df := wkECeV.gather []
theorem wfECeV : wfT (withIds nsECeV) [] = true := by kernel_rfl
theorem chECeV : wkECeV.chk nsECeV [] (endIs (.one (.lit (.bool true)))) = true := by kernel_rfl

theorem c_eqCeV (v v' : Value) (r : List NV) (w : World) (h : ShM (.agg KCeV) v r) (h' : ShM (.agg KCeV) v' r) : Calls Try.prog 16 #[v, v'] w fun e w' => e = .returned (.bool true) ∧ Below w.heap.size w w' := by
  have hl : r.length = 3 := by obtain ⟨cs, _, hk⟩ := h; exact KMs_rlen hk
  have hl' : r.length ≤ 1000 := by omega
  refine (walk_args (args := [inSh 0 (.agg KCeV), inSh 0 (.agg KCeV)]) (vs := #[v, v']) (ins := r) (r := .one (.lit (.bool true))) tb_ok mixed ftab_ok (otb_ok baseΦ_ok) wfECeV chECeV (by kernel_rfl) ⟨inSh_ok h fun j hj => ins_at hl' j hj, inSh_ok h' fun j hj => ins_at hl' j hj, trivial⟩).mono ?_
  rintro e w' ⟨v2, γ, rfl, hm, hs⟩
  exact ⟨congrArg _ hm, hs⟩

/-- A number of a sensor. -/
def sn (ins : List NV) (i : Nat) : Option Nat := (ins.getD i (.i 0)).gf
theorem sen_can {v : Value} {ins : List NV} (h : Sen v ins) : (can .f32 (sw v 0) = sn ins 0 ∧ can .f32 (sw v 1) = sn ins 1 ∧ can .f32 (sw v 2) = sn ins 2) ∧ (can .f32 (sw v 3) = sn ins 3 ∧ can .f32 (sw v 4) = sn ins 4 ∧ can .f32 (sw v 5) = sn ins 5) := by
  obtain ⟨cs, rfl, hk⟩ := h
  obtain ⟨l⟩ := cs
  obtain ⟨v0, l0, x0, m0, e0, f0, ⟨r0, k0, g0⟩, hk⟩ := KMs_cons hk
  obtain ⟨v1, l1, x1, m1, e1, f1, ⟨r1, k1, g1⟩, hk⟩ := KMs_cons hk
  obtain ⟨v2, l2, x2, m2, e2, f2, ⟨r2, k2, g2⟩, hk⟩ := KMs_cons hk
  obtain ⟨v3, l3, x3, m3, e3, f3, ⟨r3, k3, g3⟩, hk⟩ := KMs_cons hk
  obtain ⟨v4, l4, x4, m4, e4, f4, ⟨r4, k4, g4⟩, hk⟩ := KMs_cons hk
  obtain ⟨v5, l5, x5, m5, e5, f5, ⟨r5, k5, g5⟩, hk⟩ := KMs_cons hk
  have e0 : l = v0 :: l0 := e0
  subst e5 e4 e3 e2 e1 e0 f5 f4 f3 f2 f1 f0 k0 k1 k2 k3 k4 k5
  exact ⟨⟨g0.out, g1.out, g2.out⟩, g3.out, g4.out, g5.out⟩

noncomputable def vXo (s o : Option Nat) (m : Rd) : Option Nat := cvO s o m.a
noncomputable def vYo (s o : Option Nat) (m : Rd) : Option Nat := cvO s o m.b
noncomputable def vZo (s o : Option Nat) (m : Rd) : Option Nat := cvO s o m.c
theorem mean_by {v : Value} {ins : List NV} (h : Sen v ins) (ok : Bool) (rs : List Rd) : mnV (vX (sw v 0) (sw v 3)) ok rs = mnV (vXo (sn ins 0) (sn ins 3)) ok rs ∧ mnV (vY (sw v 1) (sw v 4)) ok rs = mnV (vYo (sn ins 1) (sn ins 4)) ok rs ∧ mnV (vZ (sw v 2) (sw v 5)) ok rs = mnV (vZo (sn ins 2) (sn ins 5)) ok rs := by
  obtain ⟨⟨e0, e1, e2⟩, e3, e4, e5⟩ := sen_can h
  unfold vX vY vZ vXo vYo vZo
  rw [e0, e1, e2, e3, e4, e5]
  exact ⟨rfl, rfl, rfl⟩

/-- A sensor in a block, cell by cell. -/
structure Boxed (w : World) (p : Nat) (r0 r1 r2 r3 r4 r5 : Nat) (ev d : Int) : Prop where
  c0 : w.cell? ⟨p, 0, none⟩ = some (.float .f32 r0)
  c1 : w.cell? ⟨p, 1, none⟩ = some (.float .f32 r1)
  c2 : w.cell? ⟨p, 2, none⟩ = some (.float .f32 r2)
  c3 : w.cell? ⟨p, 3, none⟩ = some (.float .f32 r3)
  c4 : w.cell? ⟨p, 4, none⟩ = some (.float .f32 r4)
  c5 : w.cell? ⟨p, 5, none⟩ = some (.float .f32 r5)
  c6 : w.cell? ⟨p, 6, none⟩ = some (.int .i64 ev)
  c7 : w.cell? ⟨p, 7, none⟩ = some (.int .i64 d)

theorem Boxed.on {w w' : World} {p B r0 r1 r2 r3 r4 r5 : Nat} {ev d : Int} (h : Boxed w p r0 r1 r2 r3 r4 r5 ev d) (hb : Below B w w') (hp : p < B) : Boxed w' p r0 r1 r2 r3 r4 r5 ev d := by
  have k : ∀ o, w'.cell? ⟨p, o, none⟩ = w.cell? ⟨p, o, none⟩ := fun o => hb.cell (p := ⟨p, o, none⟩) hp
  exact ⟨(k 0).trans h.c0, (k 1).trans h.c1, (k 2).trans h.c2, (k 3).trans h.c3, (k 4).trans h.c4, (k 5).trans h.c5, (k 6).trans h.c6, (k 7).trans h.c7⟩

set_option maxRecDepth 100000 in
set_option maxHeartbeats 2000000 in
theorem c_lawMeanOfFeed (vs : Value) (ins : List NV) (hs : Sen vs ins) (A : Option Addr) (c : Nat) (rs : List Rd) (w : World) (h : Feed w w.heap.size A rs) (hn : rs.length ≤ 9223372036854775807) :
    Calls Try.prog 3 #[vs, .slice A rs.length c] w fun e w' => e = .returned (.bool true) ∧ Below w.heap.size w w' := by
  obtain ⟨r0, r1, r2, r3, r4, r5, ev, d, rfl, hdd⟩ := hs.cells
  clear hdd
  obtain ⟨wa, hwa⟩ : ∃ wa, wa = w.alloc (.cells (senCells r0 r1 r2 r3 r4 r5 ev d) 25) := ⟨_, rfl⟩
  have hal : Below w.heap.size w wa := by rw [hwa]; exact (Below.refl _ _).alloc (Nat.le_refl _) _
  have hbox : wa.heap[w.heap.size]? = some (.cells (senCells r0 r1 r2 r3 r4 r5 ev d) 25 (0, 0)) := by rw [hwa]; exact heap_alloc_new w _
  have hlt : w.heap.size < wa.heap.size := (Array.getElem?_eq_some_iff.1 hbox).1
  have hbx : Boxed wa w.heap.size r0 r1 r2 r3 r4 r5 ev d := by
    have k : ∀ o, wa.cell? ⟨w.heap.size, o, none⟩ = (senCells r0 r1 r2 r3 r4 r5 ev d)[o]? := fun o => cell_of_row _ _ o _ _ _ hbox
    exact ⟨k 0, k 1, k 2, k 3, k 4, k 5, k 6, k 7⟩
  have H := Lib.hid ((h.below hal).more hal.size)
  have hs := Lib.hid hs
  have hal := Lib.hid hal
  have hlt := Lib.hid hlt
  have hbx := Lib.hid hbx
  clear h hbox
  go_enter Try.func3, Try.ntmps3
  go_wp2_with fail
  rw [show w.alloc (.cells #[.float .f32 r0, .float .f32 r1, .float .f32 r2, .float .f32 r3, .float .f32 r4, .float .f32 r5, .int .i64 ev, .int .i64 d] 25) = wa from hwa.symm]
  clear hwa
  refine (c_szReadingS A c rs.length _ _ hn (by omega) (by omega)).mono ?_
  rintro e w' ⟨rfl, rfl⟩
  by_cases hl : rs.length ≤ 1048576
  · have hl1 : ¬ ((1048576 : Int) - (rs.length : Nat) < 0) := by omega
    rw [if_neg hl1]
    have hS := fun v (hv : Sen v ins) A c w h => c_specMean v ins hv A c rs w h hl
    have hI := fun v (hv : Sen v ins) A c w h hc => c_implMean v ins hv A c rs w h hl hc
    have hE := fun v (hv : Sen v ins) => mean_by hv (sensB ins && feedB rs) rs
    replace hS := fun v (hv : Sen v ins) A c w h => show Calls Try.prog 12 #[v, .slice A rs.length c] w (V3Done w (mnC (sensB ins && feedB rs) rs) (mnV (vXo (sn ins 0) (sn ins 3)) (sensB ins && feedB rs) rs) (mnV (vYo (sn ins 1) (sn ins 4)) (sensB ins && feedB rs) rs) (mnV (vZo (sn ins 2) (sn ins 5)) (sensB ins && feedB rs) rs)) from by
      have := hS v hv A c w h
      rw [(hE v hv).1, (hE v hv).2.1, (hE v hv).2.2] at this
      exact this
    replace hI := fun v (hv : Sen v ins) A c w h hc => show Calls Try.prog 15 #[v, .slice A rs.length c] w (V3Done w (mnC (sensB ins && feedB rs) rs) (mnV (vXo (sn ins 0) (sn ins 3)) (sensB ins && feedB rs) rs) (mnV (vYo (sn ins 1) (sn ins 4)) (sensB ins && feedB rs) rs) (mnV (vZo (sn ins 2) (sn ins 5)) (sensB ins && feedB rs) rs)) from by
      have := hI v hv A c w h hc
      rw [(hE v hv).1, (hE v hv).2.1, (hE v hv).2.2] at this
      exact this
    clear hE
    generalize mnC (sensB ins && feedB rs) rs = code at hS hI
    generalize mnV (vXo (sn ins 0) (sn ins 3)) (sensB ins && feedB rs) rs = oa at hS hI
    generalize mnV (vYo (sn ins 1) (sn ins 4)) (sensB ins && feedB rs) rs = ob at hS hI
    generalize mnV (vZo (sn ins 2) (sn ins 5)) (sensB ins && feedB rs) rs = oc at hS hI
    replace hS := Lib.hid hS
    replace hI := Lib.hid hI
    obtain ⟨b0, b1, b2, b3, b4, b5, b6, b7⟩ := hbx.out
    have hvv : (code != code) = false := by simp
    go_wp2_with fail
    refine (c_toSensor _ _ wa hs.out).mono ?_
    clear b0 b1 b2 b3 b4 b5 b6 b7
    rintro e w0 ⟨s0, rfl, hs0, hw0⟩
    have hs0 := Lib.hid hs0
    have hB0 := Lib.hid hw0
    clear hw0
    go_wp2_with fail
    refine (c_toReadingS A c rs w0 ((H.out.below hB0.out).more hB0.out.size) hl).mono ?_
    rintro e w1 ⟨rfl, h1⟩
    have h1 := Lib.hid h1
    have hB1 : Hid (Below wa.heap.size wa w1) := Lib.hid (hB0.out.trans (h1.out.below.mono hB0.out.size))
    go_wp2_with fail
    refine (hS.out _ hs0.out _ _ w1 h1.out.feed).mono ?_
    rintro e w2 ⟨ax, ay, az, rfl, fa, fb, fc, h2⟩
    have hrow0 := Lib.hid (heap_alloc_new w2 (.cells #[.float .f32 ax, .float .f32 ay, .float .f32 az] 28))
    have h2' : Stays w1 (w2.alloc (.cells #[.float .f32 ax, .float .f32 ay, .float .f32 az] 28)) := Stays.trans h2 (by (repeat (first | exact Stays.refl _ | (with_reducible refine Stays.drewN ?_ _) | (with_reducible refine Stays.alloc ?_ _) | (with_reducible refine Stays.drew ?_) | (refine Stays.trans ?_ ‹Stays _ _›))))
    have hB2 := Lib.hid (hB1.out.trans (Below.mono h2' hB1.out.size))
    have hfa := Lib.hid (And.intro fa (And.intro fb fc))
    clear h2 h2' fa fb fc h1 hs0
    go_wp2_with fail
    generalize (w2.alloc (.cells #[.float .f32 ax, .float .f32 ay, .float .f32 az] 28)) = W2 at hB2 hrow0 ⊢
    generalize w2.heap.size = pa at hrow0 ⊢
    refine (c_toReadingS A c rs W2 ((H.out.below hB2.out).more hB2.out.size) hl).mono ?_
    rintro e w3 ⟨rfl, h3⟩
    have h3 := Lib.hid h3
    have hB3 : Hid (Below wa.heap.size wa w3) := Lib.hid (hB2.out.trans (h3.out.below.mono hB2.out.size))
    have hLx := Lib.hid h3.out.lies
    replace hrow0 := Lib.hid ((Below.block h3.out.below _ (in_heap hrow0.out)).trans hrow0.out)
    obtain ⟨b0, b1, b2, b3, b4, b5, b6, b7⟩ := hbx.out.on hB3.out hlt.out
    go_wp2_with fail
    refine (c_toSensor _ _ w3 hs.out).mono ?_
    clear b0 b1 b2 b3 b4 b5 b6 b7
    rintro e w3' ⟨s1, rfl, hs1, hw3⟩
    have hs1 := Lib.hid hs1
    have hw3 := Lib.hid hw3
    have hB3' : Hid (Below wa.heap.size wa w3') := Lib.hid (hB3.out.trans (hw3.out.mono hB3.out.size))
    have hLx := Lib.hid (hLx.out.below hw3.out)
    replace hrow0 := Lib.hid ((Below.block hw3.out _ (in_heap hrow0.out)).trans hrow0.out)
    go_wp2_with fail
    refine (hI.out _ hs1.out _ _ w3' ((h3.out.feed.below hw3.out).more hw3.out.size) (Nat.le_refl _)).mono ?_
    rintro e w4 ⟨jx, jy, jz, rfl, fa, fb, fc, h4⟩
    have h4' : Stays w3' (w4.alloc (.cells #[.float .f32 jx, .float .f32 jy, .float .f32 jz] 28)) := Stays.trans h4 (by (repeat (first | exact Stays.refl _ | (with_reducible refine Stays.drewN ?_ _) | (with_reducible refine Stays.alloc ?_ _) | (with_reducible refine Stays.drew ?_) | (refine Stays.trans ?_ ‹Stays _ _›))))
    have hrow1 := Lib.hid (heap_alloc_new w4 (.cells #[.float .f32 jx, .float .f32 jy, .float .f32 jz] 28))
    have hB4 := Lib.hid (hB3'.out.trans (Below.mono h4' hB3'.out.size))
    have hLx := Lib.hid (hLx.out.below h4')
    replace hrow0 := Lib.hid ((Below.block h4' _ (in_heap hrow0.out)).trans hrow0.out)
    have hfb := Lib.hid (And.intro fa (And.intro fb fc))
    clear h4 h4' fa fb fc h3 hs1
    have c0 := cell_of_row _ _ 0 _ _ _ hrow0.out
    have c1 := cell_of_row _ _ 1 _ _ _ hrow0.out
    have c2 := cell_of_row _ _ 2 _ _ _ hrow0.out
    have d0 := cell_of_row _ _ 0 _ _ _ hrow1.out
    have d1 := cell_of_row _ _ 1 _ _ _ hrow1.out
    have d2 := cell_of_row _ _ 2 _ _ _ hrow1.out
    go_wp2_with fail
    refine (c_eqCeV (.agg #[.float .f32 jx, .float .f32 jy, .float .f32 jz]) (.agg #[.float .f32 ax, .float .f32 ay, .float .f32 az]) [.f oa, .f ob, .f oc] _ ⟨_, rfl, ⟨_, rfl, hfb.out.1⟩, ⟨_, rfl, hfb.out.2.1⟩, ⟨_, rfl, hfb.out.2.2⟩, trivial⟩ ⟨_, rfl, ⟨_, rfl, hfa.out.1⟩, ⟨_, rfl, hfa.out.2.1⟩, ⟨_, rfl, hfa.out.2.2⟩, trivial⟩).mono ?_
    rintro e w5 ⟨rfl, h5⟩
    have hB5 : Hid (Below wa.heap.size wa w5) := Lib.hid (hB4.out.trans (h5.mono hB4.out.size))
    have hLx := Lib.hid (hLx.out.below h5)
    clear h5 c0 c1 c2 d0 d1 d2 hrow0 hrow1
    go_wp2_with fail
    refine (c_toReadingS A c rs w5 ((H.out.below hB5.out).more hB5.out.size) hl).mono ?_
    rintro e w6 ⟨rfl, h6⟩
    have h6 := Lib.hid h6
    have hB6 : Hid (Below wa.heap.size wa w6) := Lib.hid (hB5.out.trans (h6.out.below.mono hB5.out.size))
    have hLx := Lib.hid (hLx.out.below h6.out.below)
    go_wp2_with fail
    refine (c_eqReadingS _ _ _ _ rs w6 hLx.out.feedAt h6.out.feed hl).mono ?_
    rintro e w7 ⟨rfl, h7⟩
    have hB7 : Hid (Below wa.heap.size wa w7) := Lib.hid (hB6.out.trans (h7.mono hB6.out.size))
    clear h7 h6
    go_wp2
    go_ret
    exact ⟨rfl, hal.out.trans (hB7.out.mono hal.out.size)⟩
  · have hl1 : (1048576 : Int) - (rs.length : Nat) < 0 := by omega
    rw [if_pos hl1]
    go_wp2
    go_ret
    exact ⟨rfl, hal.out⟩

end Go.Proofs.Ytmcbeaihjdnelaa

namespace Go.Proofs.Ytmcbeaihjdnelaa
open Go Go.RowKit
set_option linter.unusedVariables false
set_option linter.unusedSimpArgs false


/-- What a search finds. -/
def Parts (cf : Nat → Int) (n i : Nat) : Prop := i ≤ n ∧ (∀ t, t < i → cf t < 0) ∧ (∀ t, i ≤ t → t < n → 0 ≤ cf t)

set_option maxRecDepth 100000 in
set_option maxHeartbeats 2000000 in
theorem c_bsRd (fid : FuncId) (caps : Array Value) (hE : ∀ args w, (callFunc fid args).run Try.prog w = .ok (.enter fid args) w) (tv : Int) (cf : Nat → Int) (A : Option Addr) (n c : Nat) (vv : Nat → Rd) (w : World)
    (hcell : ∀ W, Stays w W → ∀ k, k < n → ∃ ad, A = some ad ∧ (W.cell? (ad.add (k * 4)) = some (.int .i64 (vv k).t) ∧ W.cell? ⟨((ad.add (k * 4))).block, ((ad.add (k * 4))).off + 1, none⟩ = some (.int .i16 (vv k).a) ∧ W.cell? ⟨((ad.add (k * 4))).block, ((ad.add (k * 4))).off + 2, none⟩ = some (.int .i16 (vv k).b) ∧ W.cell? ⟨((ad.add (k * 4))).block, ((ad.add (k * 4))).off + 3, none⟩ = some (.int .i16 (vv k).c)))
    (hcl : ∀ W, Stays w W → ∀ k, k < n → Calls Try.prog fid (#[.agg #[.int .i64 (vv k).t, .int .i16 (vv k).a, .int .i16 (vv k).b, .int .i16 (vv k).c], .int .i64 tv] ++ caps) W fun e w' => e = .returned (.int .i64 (cf k)) ∧ Stays W w')
    (hmono : ∀ a b, a ≤ b → b < n → cf b < 0 → cf a < 0) (hn : n ≤ 1048576) :
    Calls Try.prog 86 #[.slice A n c, .int .i64 tv, .func (Fn.func fid) #[] caps] w fun e w' => ∃ i, Parts cf n i ∧ e = .returned (.tuple #[.int .i64 (i : Nat), .bool (decide (i < n) && decide (cf i = 0))]) ∧ Stays w w' := by
  have HE := Lib.hid hE
  have HC := Lib.hid hcell
  have HF := Lib.hid hcl
  have HM := Lib.hid hmono
  clear hE hcell hcl hmono
  go_enter Try.func86, Try.ntmps86
  go_wp2
  go_loopw [9, 10] (fun s9 s10 wr => ∃ lo hi : Nat, s9 = .int .i64 lo ∧ s10 = .int .i64 hi ∧ lo ≤ hi ∧ hi ≤ n ∧ Hid (Stays w wr) ∧ Hid ((∀ t, t < lo → cf t < 0) ∧ (∀ t, hi ≤ t → t < n → 0 ≤ cf t))) (fun s9 s10 _ => (intOf s10).toNat - (intOf s9).toNat)
  case atStart => exact ⟨0, n, rfl, rfl, Nat.zero_le _, Nat.le_refl _, Lib.hid (Stays.refl _), Lib.hid ⟨fun t ht => absurd ht (Nat.not_lt_zero _), fun t h1 h2 => by omega⟩⟩
  case round =>
    obtain ⟨lo, hi, rfl, rfl, hlh, hin, hs, I⟩ := hrel
    by_cases hlt : lo < hi
    · obtain ⟨ad, rfl, hc, hc1, hc2, hc3⟩ := HC.out wr hs.out ((lo + hi) / 2) (by omega)
      have hcall := HF.out wr hs.out ((lo + hi) / 2) (by omega)
      generalize hcm : cf ((lo + hi) / 2) = cm at hcall
      have CM := Lib.hid hcm
      clear hcm
      generalize vv ((lo + hi) / 2) = y at hcall hc hc1 hc2 hc3
      have hlt' : (lo : Int) < (hi : Int) := by omega
      by_cases hneg : cm < 0
      · go_wp2_with fail
        rw [HE.out]
        refine hcall.mono ?_
        rintro e w' ⟨rfl, hw'⟩
        have hs2 := Lib.hid (hs.out.trans hw')
        clear hw' hc hc1 hc2 hc3
        go_wp2
        go_roundw
        case rel =>
          exact ⟨(lo + hi) / 2 + 1, hi, by go_num, rfl, by omega, hin, hs2, Lib.hid ⟨fun t ht => HM.out t ((lo + hi) / 2) (by omega) (by omega) (by rw [CM.out]; exact hneg), I.out.2⟩⟩
        case measure => simp [intOf]; omega
      · go_wp2_with fail
        rw [HE.out]
        refine hcall.mono ?_
        rintro e w' ⟨rfl, hw'⟩
        have hs2 := Lib.hid (hs.out.trans hw')
        clear hw' hc hc1 hc2 hc3
        go_wp2
        go_roundw
        case rel =>
          exact ⟨lo, (lo + hi) / 2, rfl, by go_num, by omega, by omega, hs2, Lib.hid ⟨I.out.1, fun t ht htn => Int.not_lt.1 fun h => by have := HM.out ((lo + hi) / 2) t ht htn h; rw [CM.out] at this; omega⟩⟩
        case measure => simp [intOf]; omega
    · obtain rfl : hi = lo := by omega
      have P := Lib.hid (show Parts cf n hi from ⟨hin, I.out.1, I.out.2⟩)
      by_cases hn2 : hi < n
      · obtain ⟨ad, rfl, hc, hc1, hc2, hc3⟩ := HC.out wr hs.out hi hn2
        have hcall := HF.out wr hs.out hi hn2
        have hn2' : (hi : Int) < (n : Int) := by omega
        generalize hcm : cf hi = cm at hcall
        generalize vv hi = y at hcall hc hc1 hc2 hc3
        have hfin : (decide (hi < n) && decide (cf hi = 0)) = decide (cm = 0) := by rw [hcm, decide_eq_true hn2]; rfl
        replace hfin := Lib.hid hfin
        clear hcm
        by_cases hz : cm = 0
        · go_wp2_with fail
          rw [HE.out]
          refine hcall.mono ?_
          rintro e w' ⟨rfl, hw'⟩
          have hs2 := Lib.hid (hs.out.trans hw')
          clear hw' hc hc1 hc2 hc3
          go_wp2
          go_ret2
          exact ⟨hi, P.out, by rw [hfin.out, decide_eq_true hz]; rfl, hs2.out⟩
        · have hz' : (cm == 0) = false := beq_eq_false_iff_ne.2 hz
          go_wp2_with fail
          rw [HE.out]
          refine hcall.mono ?_
          rintro e w' ⟨rfl, hw'⟩
          have hs2 := Lib.hid (hs.out.trans hw')
          clear hw' hc hc1 hc2 hc3
          go_wp2
          go_ret2
          exact ⟨hi, P.out, by rw [hfin.out, decide_eq_false hz]; rfl, hs2.out⟩
      · have hn2' : ¬ (hi : Int) < (n : Int) := by omega
        go_wp2
        go_ret2
        exact ⟨hi, P.out, by rw [decide_eq_false hn2]; rfl, hs.out⟩

def icmp (a b : Int) : Int := if a < b then -1 else if b < a then 1 else 0

theorem c_isNaN64 (a : Int) (w : World) : Calls Try.prog 121 #[.int .i64 a] w fun e w' => e = .returned (.bool false) ∧ w = w' := by
  have h : (a != a) = false := by simp
  go_enter Try.func121, Try.ntmps121
  go_wp2
  go_ret
  exact ⟨rfl, rfl⟩

theorem c_cmp64 (a b : Int) (w : World) : Calls Try.prog 88 #[.int .i64 a, .int .i64 b] w fun e w' => e = .returned (.int .i64 (icmp a b)) ∧ w = w' := by
  unfold icmp
  by_cases h1 : a < b
  · rw [if_pos h1]
    go_enter Try.func88, Try.ntmps88
    go_wp2_with (go_at_call 121; refine (c_isNaN64 _ _).mono ?_; rintro e w' ⟨rfl, rfl⟩)
    go_ret
    exact ⟨rfl, rfl⟩
  · rw [if_neg h1]
    by_cases h2 : b < a
    · rw [if_pos h2]
      go_enter Try.func88, Try.ntmps88
      go_wp2_with (go_at_call 121; refine (c_isNaN64 _ _).mono ?_; rintro e w' ⟨rfl, rfl⟩)
      go_ret
      exact ⟨rfl, rfl⟩
    · rw [if_neg h2]
      go_enter Try.func88, Try.ntmps88
      go_wp2_with (go_at_call 121; refine (c_isNaN64 _ _).mono ?_; rintro e w' ⟨rfl, rfl⟩)
      go_ret
      exact ⟨rfl, rfl⟩

theorem c_va1 (r : Rd) (time : Int) (w : World) : Calls Try.prog 87 #[.agg #[.int .i64 r.t, .int .i16 r.a, .int .i16 r.b, .int .i16 r.c], .int .i64 time] w fun e w' => e = .returned (.int .i64 (icmp r.t time)) ∧ Stays w w' := by
  generalize hi : icmp r.t time = i
  have hc := Lib.hid fun W => c_cmp64 r.t time W
  rw [hi] at hc
  clear hi
  go_enter Try.func87, Try.ntmps87
  go_wp2_with (go_at_call 88; refine (hc.out _).mono ?_; rintro e w' ⟨rfl, rfl⟩)
  go_ret
  exact ⟨rfl, by (repeat (first | exact Stays.refl _ | (with_reducible refine Stays.drewN ?_ _) | (with_reducible refine Stays.alloc ?_ _) | (with_reducible refine Stays.drew ?_) | (refine Stays.trans ?_ ‹Stays _ _›)))⟩

def tAt (rs : List Rd) (i : Nat) : Int := (rs.getD i rd0).t
theorem getD_of {rs : List Rd} {i : Nat} {m : Rd} (h : rs[i]? = some m) : rs.getD i rd0 = m := by rw [List.getD_eq_getElem?_getD, h]; rfl
def vaR (rs : List Rd) (time : Int) : Prop := 0 < rs.length ∧ tAt rs 0 ≤ time ∧ time ≤ tAt rs (rs.length - 1)
def VaI (rs : List Rd) (time : Int) (i : Nat) : Prop := i < rs.length ∧ (∀ j, j ≤ i → tAt rs j ≤ time) ∧ (i + 1 < rs.length → time < tAt rs (i + 1))
theorem VaI.one {rs : List Rd} {time : Int} {i j : Nat} (h : VaI rs time i) (h' : VaI rs time j) : i = j := by
  rcases Nat.lt_trichotomy i j with g | g | g
  · have h1 := h'.2.1 (i + 1) (by omega)
    have h2 := h.2.2 (by have := h'.1; omega)
    omega
  · exact g
  · have h1 := h.2.1 (j + 1) (by omega)
    have h2 := h'.2.2 (by have := h.1; omega)
    omega
noncomputable def vaI (rs : List Rd) (time : Int) : Nat := @dite _ (∃ i, VaI rs time i) (Classical.propDecidable _) (fun h => Classical.choose h) (fun _ => 0)
theorem vaI_eq {rs : List Rd} {time : Int} {i : Nat} (h : VaI rs time i) : vaI rs time = i := by
  unfold vaI
  rw [dif_pos ⟨i, h⟩]
  exact (Classical.choose_spec (⟨i, h⟩ : ∃ i, VaI rs time i)).one h

def betW (a b s : Option Nat) : Option Nat := fop .add .f32 a (fop .mul .f32 (fop .sub .f32 b a) s)
noncomputable def vaQ (rs : List Rd) (time : Int) (i : Nat) : Option Nat := fop .quo .f32 (can .f32 (floatOfInt .f32 (time - tAt rs i))) (can .f32 (floatOfInt .f32 (tAt rs (i + 1) - tAt rs i)))
noncomputable def vaX (f : Rd → Option Nat) (rs : List Rd) (time : Int) (i : Nat) : Option Nat := if tAt rs i = time then f (rs.getD i rd0) else betW (f (rs.getD i rd0)) (f (rs.getD (i + 1) rd0)) (vaQ rs time i)
noncomputable def vaC (sb fb tb : Bool) (rs : List Rd) (time : Int) : Int := if codeOf sb fb tb = 0 then (@ite _ (vaR rs time) (Classical.propDecidable _) 0 6) else codeOf sb fb tb
noncomputable def vaV (f : Rd → Option Nat) (sb fb tb : Bool) (rs : List Rd) (time : Int) : Option Nat := if codeOf sb fb tb = 0 then (@ite _ (vaR rs time) (Classical.propDecidable _) (vaX f rs time (vaI rs time)) (can .f32 0)) else can .f32 0

theorem feed_step {rs : List Rd} (h : feedB rs = true) {j : Nat} (hj : j + 1 < rs.length) : tAt rs j < tAt rs (j + 1) := by
  unfold feedB at h
  rw [Bool.and_eq_true] at h
  have g := feedOK_iff.1 h.1 (j + 1)
  have e1 : (rs.map (·.t))[j + 1]? = some (tAt rs (j + 1)) := by
    rw [List.getElem?_map, List.getElem?_eq_getElem hj]
    unfold tAt
    rw [getD_of (List.getElem?_eq_getElem hj)]; rfl
  have e0 : (rs.map (·.t))[j]? = some (tAt rs j) := by
    have hj' : j < rs.length := by omega
    rw [List.getElem?_map, List.getElem?_eq_getElem hj']
    unfold tAt
    rw [getD_of (List.getElem?_eq_getElem hj')]; rfl
  exact (g _ e1).2 _ (by omega) e0
theorem feed_time {rs : List Rd} (h : feedB rs = true) {j : Nat} (hj : j < rs.length) : 0 ≤ tAt rs j ∧ tAt rs j ≤ 1000000000 := by
  unfold feedB at h
  rw [Bool.and_eq_true] at h
  have g := feedOK_iff.1 h.1 j
  have e0 : (rs.map (·.t))[j]? = some (tAt rs j) := by
    rw [List.getElem?_map, List.getElem?_eq_getElem hj]
    unfold tAt
    rw [getD_of (List.getElem?_eq_getElem hj)]; rfl
  have := (g _ e0).1
  unfold okTime at this
  simp only [Bool.and_eq_true, decide_eq_true_eq] at this
  exact this
theorem feed_mono {rs : List Rd} (h : feedB rs = true) : ∀ d a, a + d < rs.length → tAt rs a ≤ tAt rs (a + d)
  | 0, a, _ => Int.le_refl _
  | d + 1, a, hd => by
    have h1 := feed_mono h d a (by omega)
    have h2 := feed_step h (show a + d + 1 < rs.length by omega)
    rw [show a + (d + 1) = a + d + 1 by omega]
    omega

theorem c_betw (a b s : Nat) (w : World) : Calls Try.prog 82 #[.float .f32 a, .float .f32 b, .float .f32 s] w fun e w' => ∃ x, e = .returned (.float .f32 x) ∧ FIs .f32 x (betW (can .f32 a) (can .f32 b) (can .f32 s)) ∧ Stays w w' := by
  go_enter Try.func82, Try.ntmps82
  go_wp2_with ((with_reducible refine wpList_fop rfl _ _ _ _ _ rfl rfl _ _ _ rfl rfl ?_); intro r n hr; have hs := Lib.hid hr; clear hr)
  go_ret
  rename_i r1 n1 h1 r2 n2 h2
  exact ⟨_, rfl, hs.out.of_eq (by rw [h2.out.out, h1.out.out]; rfl), by (repeat (first | exact Stays.refl _ | (with_reducible refine Stays.drewN ?_ _) | (with_reducible refine Stays.alloc ?_ _) | (with_reducible refine Stays.drew ?_) | (refine Stays.trans ?_ ‹Stays _ _›)))⟩

end Go.Proofs.Ytmcbeaihjdnelaa

namespace Go.Proofs.Ytmcbeaihjdnelaa
open Go Go.RowKit
set_option linter.unusedVariables false

section
variable {P : Program} {ops : Array Oper} {md : Region.Mode} {W : World} {S : FuncId → Array Value → Value → Prop} {A : List (Tmp × Array Value × TypeId)}

/-- The world keeps what there was, and the blocks that the listed temporaries lead to. -/
def Keep2 (W : World) (A : List (Tmp × Array Value × TypeId)) (a : Act) (w : World) : Prop :=
  Stays W w ∧ ∀ e ∈ A, ∀ p, W.heap.size ≤ p → a.tmps.getD e.1 undef = .pointer (some ⟨p, 0, none⟩) → w.heap[p]? = some (.cells e.2.1 e.2.2 (0, 0))

theorem Keep2.on {a : Act} {w w' : World} (h : Keep2 W A a w) (hw : Stays w w') : Keep2 W A a w' :=
  ⟨h.1.trans hw, fun e he p hge hp => by
    have hg := h.2 e he p hge hp
    have hlt : p < w.heap.size := (Array.getElem?_eq_some_iff.1 hg).1
    exact hw.heap hlt hg⟩

theorem Keep2.put {a : Act} {w : World} {d : Option Tmp} {v : Value} (h : Keep2 W A a w) (hd : ∀ e ∈ A, d ≠ some e.1) : Keep2 W A (a.put d v) w :=
  ⟨h.1, fun e he p hge hp => h.2 e he p hge (by rwa [put_getD_ne a d v e.1 (hd e he)] at hp)⟩

/-- Behind the making of a block. (Of two entries with one temporary both are asked.) -/
theorem Keep2.made {a : Act} {w : World} {t : Tmp} {o : Obj} (h : Keep2 W A a w) (ho : ∀ e ∈ A, t = e.1 → o = .cells e.2.1 e.2.2) :
    Keep2 W A (a.put (some t) (.pointer (some ⟨w.heap.size, 0, none⟩))) (w.alloc o) :=
  ⟨h.1.alloc o, fun e he p hge hp => by
    by_cases ht : t = e.1
    · have ho' := ho e he ht
      subst ht
      rcases put_getD_same a (.pointer (some ⟨w.heap.size, 0, none⟩)) e.1 with hx | hx
      · rw [hx] at hp
        simp at hp
        rw [← hp, ho']
        exact heap_top w _ _ rfl
      · rw [hx] at hp; cases hp
    · have hp' : a.tmps.getD e.1 undef = .pointer (some ⟨p, 0, none⟩) := by rwa [put_getD_ne a (some t) _ e.1 (fun e' => ht (Option.some.inj e'))] at hp
      have hg := h.2 e he p hge hp'
      exact heap_under w o p (Array.getElem?_eq_some_iff.1 hg).1 hg⟩

theorem soft2_to_wp {o : Oper} {a : Act} {K : Act → Prop} {K' : Act → World → Prop} {Q' : Exit → Act → World → Prop} {w : World} (hw : Keep2 W A a w) (hK : ∀ a w', Keep2 W A a w' → K a → K' a w')
    (hwa : Region.wanted o (yielded ops a.tmps) = true) (h : Soft P ops W S A o K a) : o.wp P a w K' Q' := by
  have h2 : ∀ u, oneOf S u ((execOp a.eval o).run P w) → K (a.put o.dst u) := fun u hu => h.next u (Or.inl ⟨hwa, w, hw.1, hu⟩)
  by_cases hA : ∃ e ∈ A, o.dst = some e.1
  · obtain ⟨e, he, hd⟩ := hA
    obtain ⟨_, hm⟩ := h.makes e he hd
    have hr := hm w hw.1
    unfold Oper.wp
    rw [hr] at h2 ⊢
    refine hK _ _ ?_ (h2 _ rfl)
    rw [hd]
    refine hw.made fun e' he' ht => ?_
    obtain ⟨_, hm'⟩ := h.makes e' he' (by rw [hd, ht])
    have := hm' w hw.1
    rw [hr] at this
    simp only [Result.ok.injEq, true_and] at this
    have h3 := congrArg (fun x : World => x.heap[w.heap.size]?) this
    simp only [heap_top w _ _ rfl] at h3
    exact Option.some.inj h3
  · have hd : ∀ e ∈ A, o.dst ≠ some e.1 := fun e he hd => hA ⟨e, he, hd⟩
    have h1 := h.ok hwa w hw.1
    unfold Oper.wp
    revert h1 h2
    generalize (execOp a.eval o).run P w = r
    intro h2 h1
    match r, h1, h2 with
    | .ok (.value x) w', h1, h2 => exact hK _ _ ((hw.on h1).put hd) (h2 x rfl)
    | .ok .skip w', h1, h2 => exact hK _ _ ((hw.on h1).put hd) (h2 undef rfl)
    | .ok (.enter f args) w', ⟨e, hc⟩, h2 =>
      subst e
      exact hc.mono fun e w'' ⟨v, he, hv, hw''⟩ => by subst he; exact hK _ _ ((hw.on hw'').put hd) (h2 v hv)

theorem softAt2_to_wp {i : Nat} {a : Act} {K : Act → Prop} {K' : Act → World → Prop} {Q' : Exit → Act → World → Prop} {w : World} (hw : Keep2 W A a w) (hK : ∀ a w', Keep2 W A a w' → K a → K' a w')
    (h : softAt P ops W S A i K a) : wpOp P ops Q' i K' a w := by
  unfold softAt at h
  unfold wpOp
  cases ho : ops[i]? with
  | none => rw [ho] at h; exact hK _ _ hw h
  | some o =>
    rw [ho] at h
    simp only
    split
    · rename_i hwa
      exact Or.inl (soft2_to_wp hw hK hwa h)
    · rename_i hwa
      have hd : ∀ e ∈ A, o.dst ≠ some e.1 := fun e he hd => hwa (h.makes e he hd).1
      exact hK _ _ (hw.put hd) (h.next undef (Or.inr ⟨by simpa using hwa, rfl⟩))

theorem headSoft2_to_wp {n g : Nat} {L : Array Bool → Act → Prop} {Q' : Exit → Act → World → Prop} (hL : ∀ listed a w, Keep2 W A a w → L listed a → wpAny P md ops Q' g listed a w) :
    ∀ (f : Nat) (listed : Array Bool) (a : Act) (w : World), Keep2 W A a w → headSoft P md ops W S A n L f listed a → wpAny P md ops Q' (f + g) listed a w
  | 0, listed, a, w, hw, h => by rw [Nat.zero_add]; exact hL _ _ _ hw h
  | f + 1, listed, a, w, hw, h => by
    rw [show f + 1 + g = (f + g) + 1 by omega]
    exact ⟨fun h0 => absurd h0 h.1, fun i hi => softAt2_to_wp hw (fun a' w' hw' h' => headSoft2_to_wp hL f _ a' w' hw' h') (h.2 i hi).2⟩

/-- The first n operations softly, the others in turn. -/
theorem wp_region_soft_tail2 {W : World} {id : Nat} {Q : Exit → Act → World → Prop} {a : Act} {w : World} {l : List Oper} (n : Nat) (hW : Stays W w) (S : FuncId → Array Value → Value → Prop) (A : List (Tmp × Array Value × TypeId))
    (hm : P.follows .mixedOrders = true) (hB : Region.lexTailB .any l.toArray n = true) (hA : ∀ e ∈ A, ∀ p, a.tmps.getD e.1 undef = .pointer (some ⟨p, 0, none⟩) → p < W.heap.size)
    (h : wpSoft P l.toArray W S A (fun a' => ∀ w', Keep2 W A a' w' → wpList P l.toArray Q (l.drop n) a' w') (l.take n) a) : (Code.region id l.toArray true).wp P Q a w := by
  simp only [Region.lexTailB, Bool.and_eq_true, decide_eq_true_eq] at hB
  obtain ⟨⟨⟨⟨hsel, hn⟩, hs⟩, hc⟩, hlex⟩ := hB
  have hn' : n < l.length := by simpa using hn
  have htl : (l.take n).length = n := by simp; omega
  have hdl : (l.drop n).length = l.toArray.size - n := by simp
  have inv0 : HeadInv .any l.toArray n (Array.replicate l.toArray.size false) :=
    ⟨by simp, fun j oj _ hl => (by rw [getD_replicate_false] at hl; cases hl), fun t _ ht => getD_in (by simpa using ht) (getD_replicate_false _ _)⟩
  have H := headSoft_lex (W := W) (S := S) (A := A) (md := .any) (g := l.toArray.size - n) hsel hs hc hn (l.take n) 0 _ a (fun j hj => by
    have hj' : j < n := by rw [htl] at hj; exact hj
    simp [hj']) (by simpa using htl) inv0 (by rw [htl]; exact hlex) h
  refine wp_region_any hm ?_
  have := headSoft2_to_wp (W := W) (S := S) (A := A) (Q' := Q) (g := l.toArray.size - n) (fun listed a' w' hw' hL => by
    have := wpAny_of_seq (md := .any) (Q' := Q) (l.drop n) n listed a' w' (fun j => by simp [List.getElem?_drop]) (by rw [hdl]; exact hL.1) (hL.2 w' hw')
    rwa [hdl] at this) _ _ _ _ ⟨hW.drewN 1, fun e he p hge hp => absurd (hA e he p hp) (Nat.not_lt.2 hge)⟩ H
  rw [htl, show n + (l.toArray.size - n) = l.toArray.size by omega] at this
  exact this
end

end Go.Proofs.Ytmcbeaihjdnelaa

namespace Go.Proofs.Ytmcbeaihjdnelaa
open Go Go.RowKit
set_option linter.unusedVariables false

section
variable {P : Program} {ops : Array Oper} {md : Region.Mode} {W : World} {S : FuncId → Array Value → Value → Prop} {A : List (Tmp × Array Value × TypeId)}

/-- Blocks that are made are kept, and differ. -/
def Keep3 (W : World) (A : List (Tmp × Array Value × TypeId)) (a : Act) (w : World) : Prop :=
  Keep2 W A a w ∧ ∀ e ∈ A, ∀ e' ∈ A, e.1 ≠ e'.1 → ∀ p, W.heap.size ≤ p → a.tmps.getD e.1 undef = .pointer (some ⟨p, 0, none⟩) → a.tmps.getD e'.1 undef ≠ .pointer (some ⟨p, 0, none⟩)
theorem Keep3.on {a : Act} {w w' : World} (h : Keep3 W A a w) (hw : Stays w w') : Keep3 W A a w' := ⟨h.1.on hw, h.2⟩
theorem Keep3.put {a : Act} {w : World} {d : Option Tmp} {v : Value} (h : Keep3 W A a w) (hd : ∀ e ∈ A, d ≠ some e.1) : Keep3 W A (a.put d v) w :=
  ⟨h.1.put hd, fun e he e' he' hne p hge hp => by
    rw [put_getD_ne a d v e.1 (hd e he)] at hp
    rw [put_getD_ne a d v e'.1 (hd e' he')]
    exact h.2 e he e' he' hne p hge hp⟩
theorem Keep3.made {a : Act} {w : World} {t : Tmp} {o : Obj} (h : Keep3 W A a w) (ho : ∀ e ∈ A, t = e.1 → o = .cells e.2.1 e.2.2) :
    Keep3 W A (a.put (some t) (.pointer (some ⟨w.heap.size, 0, none⟩))) (w.alloc o) :=
  ⟨h.1.made ho, fun e he e' he' hne p hge hp hp' => by
    by_cases ht : t = e.1
    · have ht' : t ≠ e'.1 := fun g => hne (ht.symm.trans g)
      rw [put_getD_ne a (some t) _ e'.1 (fun g => ht' (Option.some.inj g))] at hp'
      subst ht
      rcases put_getD_same a (.pointer (some ⟨w.heap.size, 0, none⟩)) e.1 with hx | hx
      · rw [hx] at hp
        simp at hp
        have := (Array.getElem?_eq_some_iff.1 (h.1.2 e' he' p hge hp')).1
        omega
      · rw [hx] at hp; cases hp
    · rw [put_getD_ne a (some t) _ e.1 (fun g => ht (Option.some.inj g))] at hp
      by_cases ht' : t = e'.1
      · subst ht'
        rcases put_getD_same a (.pointer (some ⟨w.heap.size, 0, none⟩)) e'.1 with hx | hx
        · rw [hx] at hp'
          simp at hp'
          have := (Array.getElem?_eq_some_iff.1 (h.1.2 e he p hge hp)).1
          omega
        · rw [hx] at hp'; cases hp'
      · rw [put_getD_ne a (some t) _ e'.1 (fun g => ht' (Option.some.inj g))] at hp'
        exact h.2 e he e' he' hne p hge hp hp'⟩

theorem soft3_to_wp {o : Oper} {a : Act} {K : Act → Prop} {K' : Act → World → Prop} {Q' : Exit → Act → World → Prop} {w : World} (hw : Keep3 W A a w) (hK : ∀ a w', Keep3 W A a w' → K a → K' a w')
    (hwa : Region.wanted o (yielded ops a.tmps) = true) (h : Soft P ops W S A o K a) : o.wp P a w K' Q' := by
  have h2 : ∀ u, oneOf S u ((execOp a.eval o).run P w) → K (a.put o.dst u) := fun u hu => h.next u (Or.inl ⟨hwa, w, hw.1.1, hu⟩)
  by_cases hA : ∃ e ∈ A, o.dst = some e.1
  · obtain ⟨e, he, hd⟩ := hA
    obtain ⟨_, hm⟩ := h.makes e he hd
    have hr := hm w hw.1.1
    unfold Oper.wp
    rw [hr] at h2 ⊢
    refine hK _ _ ?_ (h2 _ rfl)
    rw [hd]
    refine hw.made fun e' he' ht => ?_
    obtain ⟨_, hm'⟩ := h.makes e' he' (by rw [hd, ht])
    have := hm' w hw.1.1
    rw [hr] at this
    simp only [Result.ok.injEq, true_and] at this
    have h3 := congrArg (fun x : World => x.heap[w.heap.size]?) this
    simp only [heap_top w _ _ rfl] at h3
    exact Option.some.inj h3
  · have hd : ∀ e ∈ A, o.dst ≠ some e.1 := fun e he hd => hA ⟨e, he, hd⟩
    have h1 := h.ok hwa w hw.1.1
    unfold Oper.wp
    revert h1 h2
    generalize (execOp a.eval o).run P w = r
    intro h2 h1
    match r, h1, h2 with
    | .ok (.value x) w', h1, h2 => exact hK _ _ ((hw.on h1).put hd) (h2 x rfl)
    | .ok .skip w', h1, h2 => exact hK _ _ ((hw.on h1).put hd) (h2 undef rfl)
    | .ok (.enter f args) w', ⟨e, hc⟩, h2 =>
      subst e
      exact hc.mono fun e w'' ⟨v, he, hv, hw''⟩ => by subst he; exact hK _ _ ((hw.on hw'').put hd) (h2 v hv)

theorem softAt3_to_wp {i : Nat} {a : Act} {K : Act → Prop} {K' : Act → World → Prop} {Q' : Exit → Act → World → Prop} {w : World} (hw : Keep3 W A a w) (hK : ∀ a w', Keep3 W A a w' → K a → K' a w')
    (h : softAt P ops W S A i K a) : wpOp P ops Q' i K' a w := by
  unfold softAt at h
  unfold wpOp
  cases ho : ops[i]? with
  | none => rw [ho] at h; exact hK _ _ hw h
  | some o =>
    rw [ho] at h
    simp only
    split
    · rename_i hwa
      exact Or.inl (soft3_to_wp hw hK hwa h)
    · rename_i hwa
      have hd : ∀ e ∈ A, o.dst ≠ some e.1 := fun e he hd => hwa (h.makes e he hd).1
      exact hK _ _ (hw.put hd) (h.next undef (Or.inr ⟨by simpa using hwa, rfl⟩))

theorem headSoft3_to_wp {n g : Nat} {L : Array Bool → Act → Prop} {Q' : Exit → Act → World → Prop} (hL : ∀ listed a w, Keep3 W A a w → L listed a → wpAny P md ops Q' g listed a w) :
    ∀ (f : Nat) (listed : Array Bool) (a : Act) (w : World), Keep3 W A a w → headSoft P md ops W S A n L f listed a → wpAny P md ops Q' (f + g) listed a w
  | 0, listed, a, w, hw, h => by rw [Nat.zero_add]; exact hL _ _ _ hw h
  | f + 1, listed, a, w, hw, h => by
    rw [show f + 1 + g = (f + g) + 1 by omega]
    exact ⟨fun h0 => absurd h0 h.1, fun i hi => softAt3_to_wp hw (fun a' w' hw' h' => headSoft3_to_wp hL f _ a' w' hw' h') (h.2 i hi).2⟩

/-- The first n operations softly, the others in turn. -/
theorem wp_region_soft_tail3 {W : World} {id : Nat} {Q : Exit → Act → World → Prop} {a : Act} {w : World} {l : List Oper} (n : Nat) (hW : Stays W w) (S : FuncId → Array Value → Value → Prop) (A : List (Tmp × Array Value × TypeId))
    (hm : P.follows .mixedOrders = true) (hB : Region.lexTailB .any l.toArray n = true) (hA : ∀ e ∈ A, ∀ p, a.tmps.getD e.1 undef = .pointer (some ⟨p, 0, none⟩) → p < W.heap.size)
    (h : wpSoft P l.toArray W S A (fun a' => ∀ w', Keep3 W A a' w' → wpList P l.toArray Q (l.drop n) a' w') (l.take n) a) : (Code.region id l.toArray true).wp P Q a w := by
  simp only [Region.lexTailB, Bool.and_eq_true, decide_eq_true_eq] at hB
  obtain ⟨⟨⟨⟨hsel, hn⟩, hs⟩, hc⟩, hlex⟩ := hB
  have hn' : n < l.length := by simpa using hn
  have htl : (l.take n).length = n := by simp; omega
  have hdl : (l.drop n).length = l.toArray.size - n := by simp
  have inv0 : HeadInv .any l.toArray n (Array.replicate l.toArray.size false) :=
    ⟨by simp, fun j oj _ hl => (by rw [getD_replicate_false] at hl; cases hl), fun t _ ht => getD_in (by simpa using ht) (getD_replicate_false _ _)⟩
  have H := headSoft_lex (W := W) (S := S) (A := A) (md := .any) (g := l.toArray.size - n) hsel hs hc hn (l.take n) 0 _ a (fun j hj => by
    have hj' : j < n := by rw [htl] at hj; exact hj
    simp [hj']) (by simpa using htl) inv0 (by rw [htl]; exact hlex) h
  refine wp_region_any hm ?_
  have := headSoft3_to_wp (W := W) (S := S) (A := A) (Q' := Q) (g := l.toArray.size - n) (fun listed a' w' hw' hL => by
    have := wpAny_of_seq (md := .any) (Q' := Q) (l.drop n) n listed a' w' (fun j => by simp [List.getElem?_drop]) (by rw [hdl]; exact hL.1) (hL.2 w' hw')
    rwa [hdl] at this) _ _ _ _ ⟨⟨hW.drewN 1, fun e he p hge hp => absurd (hA e he p hp) (Nat.not_lt.2 hge)⟩, fun e he e' he' hne p hge hp => absurd (hA e he p hp) (Nat.not_lt.2 hge)⟩ H
  rw [htl, show n + (l.toArray.size - n) = l.toArray.size by omega] at this
  exact this
end

end Go.Proofs.Ytmcbeaihjdnelaa

namespace Go.Proofs.Ytmcbeaihjdnelaa
open Go Go.RowKit
set_option linter.unusedVariables false
set_option linter.unusedSimpArgs false

theorem ad_next (ad : Addr) (k : Nat) : ad.add ((k + 1) * 4) = ⟨ad.block, ad.off + (k + 1) * 4, none⟩ := by
  unfold Addr.add
  rw [if_neg (by omega)]

set_option maxRecDepth 100000 in
set_option maxHeartbeats 4000000 in
theorem c_specValueAt (v : Value) (ins : List NV) (hs : Sen v ins) (A : Option Addr) (c : Nat) (time : Int) (rs : List Rd) (w : World) (h : Feed w w.heap.size A rs) (hn : rs.length ≤ 1048576) :
    Calls Try.prog 34 #[v, .slice A rs.length c, .int .i64 time] w (V3Done w (vaC (sensB ins) (feedB rs) (okTime time) rs time) (vaV (vX (sw v 0) (sw v 3)) (sensB ins) (feedB rs) (okTime time) rs time) (vaV (vY (sw v 1) (sw v 4)) (sensB ins) (feedB rs) (okTime time) rs time) (vaV (vZ (sw v 2) (sw v 5)) (sensB ins) (feedB rs) (okTime time) rs time)) := by
  obtain ⟨r0, r1, r2, r3, r4, r5, ev, d, rfl, hdd⟩ := hs.cells
  clear hdd
  have hst : Stays w ((w.alloc (.cells (senCells r0 r1 r2 r3 r4 r5 ev d) 32)).alloc (.cells #[.float .f32 0, .float .f32 0, .float .f32 0] 28)) := by (repeat (first | exact Stays.refl _ | (with_reducible refine Stays.drewN ?_ _) | (with_reducible refine Stays.alloc ?_ _) | (with_reducible refine Stays.drew ?_) | (refine Stays.trans ?_ ‹Stays _ _›)))
  have uS : ((w.alloc (.cells (senCells r0 r1 r2 r3 r4 r5 ev d) 32)).alloc (.cells #[.float .f32 0, .float .f32 0, .float .f32 0] 28)).heap[w.heap.size]? = some (.cells (senCells r0 r1 r2 r3 r4 r5 ev d) 32 (0, 0)) := by (repeat (first | (refine heap_top _ _ _ ?_; simp; done) | (with_reducible refine heap_drawn _ _ _ ?_) | (with_reducible refine heap_under _ _ _ ?_ ?_; (simp <;> omega))))
  have uR : ((w.alloc (.cells (senCells r0 r1 r2 r3 r4 r5 ev d) 32)).alloc (.cells #[.float .f32 0, .float .f32 0, .float .f32 0] 28)).heap[w.heap.size + 1]? = some (.cells #[.float .f32 0, .float .f32 0, .float .f32 0] 28 (0, 0)) := by (repeat (first | (refine heap_top _ _ _ ?_; simp; done) | (with_reducible refine heap_drawn _ _ _ ?_) | (with_reducible refine heap_under _ _ _ ?_ ?_; (simp <;> omega))))
  have HW := Lib.hid fun W (hW : Stays ((w.alloc (.cells (senCells r0 r1 r2 r3 r4 r5 ev d) 32)).alloc (.cells #[.float .f32 0, .float .f32 0, .float .f32 0] 28)) W) => And.intro (sen_cells uS W hW) (And.intro (hst.trans hW) (And.intro ((Below.block hW _ (in_heap uR)).trans uR) ((Below.block hW _ (in_heap uS)).trans uS)))
  have hFd := fun W (hW : Stays ((w.alloc (.cells (senCells r0 r1 r2 r3 r4 r5 ev d) 32)).alloc (.cells #[.float .f32 0, .float .f32 0, .float .f32 0] 28)) W) => ((h.below (show Below w.heap.size w W from hst.trans hW)).more (hst.trans hW).size)
  have kB := Lib.hid fun W (hW : Stays ((w.alloc (.cells (senCells r0 r1 r2 r3 r4 r5 ev d) 32)).alloc (.cells #[.float .f32 0, .float .f32 0, .float .f32 0] 28)) W) => show Calls Try.prog 84 #[.pointer (some ⟨w.heap.size, 0, none⟩), .slice A rs.length c, .int .i64 time] W fun e w' => e = .returned (.int .i64 (codeOf (sensB ins) (feedB rs) (okTime time))) ∧ Below W.heap.size W w' from c_l04Both w.heap.size c (senCells r0 r1 r2 r3 r4 r5 ev d) ins A rs time W ((Below.block hW _ (in_heap uS)).trans uS) hs (hFd W hW) hn
  have H := Lib.hid fun W (hW : Stays ((w.alloc (.cells (senCells r0 r1 r2 r3 r4 r5 ev d) 32)).alloc (.cells #[.float .f32 0, .float .f32 0, .float .f32 0] 28)) W) ad (e : A = some ad) k m (hk : rs[k]? = some m) => show ad.block < W.heap.size ∧ ∀ W', Stays W W' → (W'.cell? (ad.add (k * 4)) = some (.int .i64 m.t) ∧ W'.cell? ⟨((ad.add (k * 4))).block, ((ad.add (k * 4))).off + 1, none⟩ = some (.int .i16 m.a) ∧ W'.cell? ⟨((ad.add (k * 4))).block, ((ad.add (k * 4))).off + 2, none⟩ = some (.int .i16 m.b) ∧ W'.cell? ⟨((ad.add (k * 4))).block, ((ad.add (k * 4))).off + 3, none⟩ = some (.int .i16 m.c)) from by
    obtain ⟨ad', e', hbl, c1, c2, c3, c4⟩ := hFd W hW k m hk
    rw [e] at e'
    cases e'
    have hb : (ad.add (k * 4)).block < W.heap.size := by rw [block_add]; exact hbl
    exact ⟨hbl, fun W' hW' => ⟨(hW'.cell (p := ad.add (k * 4)) hb).trans c1, (hW'.cell (p := ⟨(ad.add (k * 4)).block, (ad.add (k * 4)).off + 1, none⟩) hb).trans c2, (hW'.cell (p := ⟨(ad.add (k * 4)).block, (ad.add (k * 4)).off + 2, none⟩) hb).trans c3, (hW'.cell (p := ⟨(ad.add (k * 4)).block, (ad.add (k * 4)).off + 3, none⟩) hb).trans c4⟩⟩
  have hA : 0 < rs.length → ∃ ad, A = some ad := fun hp => by
    obtain ⟨ad, e, _⟩ := h 0 rs[0] (List.getElem?_eq_getElem hp)
    exact ⟨ad, e⟩
  clear uS uR hFd h hs hst
  unfold vaC vaV
  by_cases hc : codeOf (sensB ins) (feedB rs) (okTime time) = 0
  · simp only [if_pos hc]
    rw [hc] at kB
    have hfb : feedB rs = true := by
      revert hc
      cases sensB ins <;> cases feedB rs <;> cases okTime time <;> decide
    have hok : 0 ≤ time ∧ time ≤ 1000000000 := by
      have ht : okTime time = true := by
        revert hc
        cases sensB ins <;> cases feedB rs <;> cases okTime time <;> decide
      unfold okTime at ht
      simpa only [Bool.and_eq_true, decide_eq_true_eq] using ht
    clear hc
    have hstep := Lib.hid fun j (hj : j + 1 < rs.length) => feed_step hfb hj
    have htime := Lib.hid fun j (hj : j < rs.length) => feed_time hfb hj
    clear hfb
    have HT := Lib.hid fun W (hW : Stays ((w.alloc (.cells (senCells r0 r1 r2 r3 r4 r5 ev d) 32)).alloc (.cells #[.float .f32 0, .float .f32 0, .float .f32 0] 28)) W) ad (e : A = some ad) k (hk : k < rs.length) => show ∀ W', Stays W W' → W'.cell? (ad.add (k * 4)) = some (.int .i64 (tAt rs k)) from fun W' hW' => by
      have := ((H.out W hW ad e k _ (List.getElem?_eq_getElem hk)).2 W' hW').1
      unfold tAt
      rw [getD_of (List.getElem?_eq_getElem hk)]
      exact this
    by_cases h0 : rs.length = 0
    · have hr : ¬ vaR rs time := fun g => by have := g.1; omega
      simp only [if_neg hr]
      have h0' : (((rs.length : Nat) : Int) == 0) = true := by rw [h0]; rfl
      replace h0 := Lib.hid h0
      clear hA hr
      go_enter Try.func34, Try.ntmps34
      go_wp2_with fail
      generalize ((w.alloc (.cells #[.float .f32 r0, .float .f32 r1, .float .f32 r2, .float .f32 r3, .float .f32 r4, .float .f32 r5, .int .i64 ev, .int .i64 d] 32)).alloc (.cells #[.float .f32 0, .float .f32 0, .float .f32 0] 28)) = W0 at HW kB H ⊢
      with_reducible refine (kB.out W0 (Stays.refl _)).mono ?_
      rintro e w1 ⟨rfl, hb⟩
      replace hb := Lib.hid (show Stays W0 w1 from hb)
      obtain ⟨_, hst, hres, _⟩ := HW.out _ hb.out
      clear kB
      go_wp2_with ((refine wpList_store_row rfl _ _ _ rfl _ _ _ rfl rfl hres ?hi ?ho ?h1 ?hB hst ?_); (case hi => kernel_rfl); (case ho => rfl); (case h1 => first | rfl | simp [Value.oneCell']); (case hB => first | omega | (simp <;> omega)); intro w9 hw9 hq9 ho9 hsz9)
      apply end_gd rfl rfl rfl Try.underlying28 rfl (t := 28)
      case hg => exact hq9
      case hi => kernel_rfl
      case hR => exact ⟨_, _, _, rfl, FIs.self (by decide), FIs.self (by decide), FIs.self (by decide), hw9⟩
    · have h0' : (((rs.length : Nat) : Int) == 0) = false := beq_eq_false_iff_ne.2 (by omega)
      have hpos : 0 < rs.length := by omega
      have hpos' : (0 : Int) < (rs.length : Int) := by omega
      obtain ⟨ad, rfl⟩ := hA hpos
      clear hA
      have hL1 : IntKind.i64.wrap ((rs.length : Int) - 1) = ((rs.length - 1 : Nat) : Int) := by rw [IntWalk.i64_in _ (by omega)]; omega
      have hL2 : ((rs.length - 1 : Nat) : Int) < (rs.length : Int) := by omega
      have hL3 : rs.length - 1 < rs.length := by omega
      have hL4 : (rs.length : Int) - 1 = ((rs.length - 1 : Nat) : Int) := by omega
      by_cases hlo : tAt rs 0 ≤ time
      · have hlo' : ¬ time < tAt rs 0 := by omega
        by_cases hhi : time ≤ tAt rs (rs.length - 1)
        · have hr : vaR rs time := ⟨hpos, hlo, hhi⟩
          simp only [if_pos hr]
          have hhi' : ¬ tAt rs (rs.length - 1) < time := by omega
          clear hr
          go_enter Try.func34, Try.ntmps34
          go_wp2_with fail
          generalize ((w.alloc (.cells #[.float .f32 r0, .float .f32 r1, .float .f32 r2, .float .f32 r3, .float .f32 r4, .float .f32 r5, .int .i64 ev, .int .i64 d] 32)).alloc (.cells #[.float .f32 0, .float .f32 0, .float .f32 0] 28)) = W0 at HW kB H HT ⊢
          with_reducible refine (kB.out W0 (Stays.refl _)).mono ?_
          rintro e w1 ⟨rfl, hb⟩
          replace hb := Lib.hid (show Stays W0 w1 from hb)
          obtain ⟨_, hst, hres, _⟩ := HW.out _ hb.out
          clear kB
          clear hst hres
          have z0 : w1.cell? ad = some (.int .i64 (tAt rs 0)) := HT.out w1 hb.out ad rfl 0 hpos w1 (Stays.refl _)
          have zl := HT.out w1 hb.out ad rfl (rs.length - 1) (by omega) w1 (Stays.refl _)
          go_wp2
          clear z0 zl
          go_loopw [10] (fun iv wr => ∃ k : Nat, k < rs.length ∧ iv = .int .i64 k ∧ Hid (∀ j, j ≤ k → tAt rs j ≤ time) ∧ wr = w1) (fun iv _ => rs.length - (intOf iv).toNat)
          case atStart => exact ⟨0, hpos, rfl, Lib.hid fun j hj => by rw [show j = 0 by omega]; exact hlo, rfl⟩
          case round =>
            obtain ⟨k, hk, rfl, hI, rfl⟩ := hrel
            have hk5 : IntKind.i64.wrap ((k : Int) + 1) = (k : Int) + 1 := IntWalk.i64_in _ (by omega)
            have hk6 : ((k : Int) + 1).toNat = k + 1 := by omega
            have hkI : (k : Int) < (rs.length : Int) := by omega
            by_cases hk1 : k + 1 < rs.length ∧ tAt rs (k + 1) ≤ time
            · have hk2 : (k : Int) + 1 < (rs.length : Int) := by omega
              have hk3 := hk1.1
              have zk := HT.out wr hb.out ad rfl (k + 1) hk1.1 wr (Stays.refl _)
              have hI2 := Lib.hid fun j (hj : j ≤ k + 1) => show tAt rs j ≤ time from by
                by_cases e : j = k + 1
                · rw [e]; exact hk1.2
                · exact hI.out j (by omega)
              have hle := hk1.2
              replace hk1 := Lib.hid hk1
              generalize tAt rs (k + 1) = tn at zk hle
              go_wp2
              go_roundw
              case rel => exact ⟨k + 1, hk3, by go_num, hI2, by first | rfl | trivial⟩
              case measure => simp [intOf]; omega
            · have hV : VaI rs time k := ⟨hk, hI.out, fun h => by
                refine Int.not_le.1 fun h2 => hk1 ⟨h, h2⟩⟩
              have hvi := Lib.hid (vaI_eq hV)
              have htk := hI.out k (Nat.le_refl _)
              replace hV := Lib.hid hV
              clear hI
              have hgk : rs[k]? = some rs[k] := List.getElem?_eq_getElem hk
              obtain ⟨_, hm⟩ := H.out wr hb.out ad rfl k _ hgk
              have hmk := Lib.hid (getD_of hgk)
              have hmt : Hid (rs[k].t = tAt rs k) := Lib.hid (by unfold tAt; rw [hmk.out])
              generalize rs[k] = m at hm hmk hmt
              have hm := Lib.hid hm
              obtain ⟨m1, m2, m3, m4⟩ := hm.out wr (Stays.refl _)
              have tk1 := htime.out k hk
              rw [← hmt.out] at tk1 htk
              clear hgk
              by_cases hk4 : k + 1 < rs.length
              · have hk2 : (k : Int) + 1 < (rs.length : Int) := by omega
                have zk := HT.out wr hb.out ad rfl (k + 1) hk4 wr (Stays.refl _)
                have hgt : ¬ tAt rs (k + 1) ≤ time := by have := hV.out.2.2 hk4; omega
                replace hk1 := Lib.hid hk1
                generalize tAt rs (k + 1) = tn at zk hgt
                go_wp2_with fail
                clear zk hgt m1 m2 m3 m4
                refine (c_l04Vec w.heap.size r0 r1 r2 r3 r4 r5 ev d m.a m.b m.c wr (HW.out wr hb.out).2.2.2).mono ?_
                rintro e w3 ⟨_, rfl, ⟨x0, y0, z0, rfl, fx, fy, fz⟩, hw3⟩
                have hrow := Lib.hid (heap_alloc_new w3 (.cells #[.float .f32 x0, .float .f32 y0, .float .f32 z0] 28))
                have hsA : Stays w3 (w3.alloc (.cells #[.float .f32 x0, .float .f32 y0, .float .f32 z0] 28)) := by (repeat (first | exact Stays.refl _ | (with_reducible refine Stays.drewN ?_ _) | (with_reducible refine Stays.alloc ?_ _) | (with_reducible refine Stays.drew ?_) | (refine Stays.trans ?_ ‹Stays _ _›)))
                have hs0 := Lib.hid (hw3.trans hsA)
                have hge0 := Lib.hid hw3.size
                have hf0 := Lib.hid (show FIs .f32 x0 (vX r0 r3 m) ∧ FIs .f32 y0 (vY r1 r4 m) ∧ FIs .f32 z0 (vZ r2 r5 m) from ⟨fx, fy, fz⟩)
                clear fx fy fz hw3 hsA
                go_upto_region 11 with fail
                generalize (w3.alloc (.cells #[.float .f32 x0, .float .f32 y0, .float .f32 z0] 28)) = w5 at hrow hs0 ⊢
                generalize w3.heap.size = p0 at hrow hge0 ⊢
                by_cases heq : m.t = time
                · have heq' : (m.t == time) = true := by simpa using heq
                  replace heq := Lib.hid heq
                  obtain ⟨m1, m2, m3, m4⟩ := hm.out w5 hs0.out
                  have g0 := cell_of_row _ _ 0 _ _ _ hrow.out
                  have g1 := cell_of_row _ _ 1 _ _ _ hrow.out
                  have g2 := cell_of_row _ _ 2 _ _ _ hrow.out
                  obtain ⟨_, hst, hres, _⟩ := HW.out w5 (hb.out.trans hs0.out)
                  have hfin := Lib.hid (show FIs .f32 x0 (vaX (vX r0 r3) rs time (vaI rs time)) ∧ FIs .f32 y0 (vaX (vY r1 r4) rs time (vaI rs time)) ∧ FIs .f32 z0 (vaX (vZ r2 r5) rs time (vaI rs time)) from by
                    rw [hvi.out]
                    unfold vaX
                    have e : tAt rs k = time := by rw [← hmt.out]; exact heq.out
                    simp only [if_pos e]
                    rw [hmk.out]
                    exact hf0.out)
                  go_wp2_with ((refine wpList_store_row rfl _ _ _ rfl _ _ _ rfl rfl hres ?hi ?ho ?h1 ?hB hst ?_); (case hi => kernel_rfl); (case ho => rfl); (case h1 => first | rfl | simp [Value.oneCell']); (case hB => first | omega | (simp <;> omega)); intro w9 hw9 hq9 ho9 hsz9)
                  apply end_gd rfl rfl rfl Try.underlying28 rfl (t := 28)
                  case hg => exact hq9
                  case hi => kernel_rfl
                  case hR => exact ⟨_, _, _, rfl, hfin.out.1, hfin.out.2.1, hfin.out.2.2, hw9⟩
                · have heq' : (m.t == time) = false := by simpa using heq
                  replace heq := Lib.hid heq
                  have hgk : rs[k + 1]? = some rs[k + 1] := List.getElem?_eq_getElem hk4
                  obtain ⟨_, hn⟩ := H.out wr hb.out ad rfl (k + 1) _ hgk
                  have hnk := Lib.hid (getD_of hgk)
                  have hnt : Hid (rs[k + 1].t = tAt rs (k + 1)) := Lib.hid (by unfold tAt; rw [hnk.out])
                  generalize rs[k + 1] = m' at hn hnk hnt
                  have tn1 := htime.out (k + 1) hk4
                  rw [← hnt.out] at tn1
                  clear hgk
                  have hn' := fun W (hW : Stays wr W) => hn W hW
                  have hn := Lib.hid hn'
                  clear hn'
                  obtain ⟨m1, m2, m3, m4⟩ := hm.out w5 hs0.out
                  obtain ⟨n1, n2, n3, n4⟩ := hn.out w5 hs0.out
                  go_wp2_with fail
                  clear m1 m2 m3 m4 n1 n2 n3 n4
                  refine (c_l04Vec w.heap.size r0 r1 r2 r3 r4 r5 ev d m'.a m'.b m'.c w5 (HW.out w5 (hb.out.trans hs0.out)).2.2.2).mono ?_
                  rintro e w7 ⟨_, rfl, ⟨x1, y1, z1, rfl, fx, fy, fz⟩, hw7⟩
                  have hrv := Lib.hid (heap_alloc_new w7 (.cells #[.float .f32 x1, .float .f32 y1, .float .f32 z1] 28))
                  have hsB : Stays w5 (w7.alloc (.cells #[.float .f32 x1, .float .f32 y1, .float .f32 z1] 28)) := Stays.trans hw7 (by (repeat (first | exact Stays.refl _ | (with_reducible refine Stays.drewN ?_ _) | (with_reducible refine Stays.alloc ?_ _) | (with_reducible refine Stays.drew ?_) | (refine Stays.trans ?_ ‹Stays _ _›))))
                  have hne := Lib.hid (show p0 < w7.heap.size from Nat.lt_of_lt_of_le (in_heap hrow.out) hw7.size)
                  replace hrow := Lib.hid ((Below.block hsB _ (in_heap hrow.out)).trans hrow.out)
                  have hs := Lib.hid (hs0.out.trans hsB)
                  have hf1 := Lib.hid (show FIs .f32 x1 (vX r0 r3 m') ∧ FIs .f32 y1 (vY r1 r4 m') ∧ FIs .f32 z1 (vZ r2 r5 m') from ⟨fx, fy, fz⟩)
                  clear hw7 hsB fx fy fz hs0
                  have w1_ : IntKind.i64.wrap (time - m.t) = time - m.t := IntWalk.i64_in _ (by omega)
                  have w2_ : IntKind.i64.wrap (m'.t - m.t) = m'.t - m.t := IntWalk.i64_in _ (by omega)
                  go_upto_region 14 with fail
                  generalize (w7.alloc (.cells #[.float .f32 x1, .float .f32 y1, .float .f32 z1] 28)) = WB at hrow hrv hs ⊢
                  generalize w7.heap.size = pv at hrv hne ⊢
                  have hcells := fun W (hW : Stays WB W) => And.intro (hm.out W (hs.out.trans hW)).1 (hn.out W (hs.out.trans hW)).1
                  refine wp_region_soft_tail 22 (Stays.refl _) (fun _ _ _ => False) [] (by kernel_rfl) (by kernel_rfl) (fun _ h => by cases h) ?_
                  simp only [List.take_succ_cons, List.take_zero, List.drop_succ_cons, List.drop_zero]
                  repeat ((with_reducible apply soft_detG); (case hwa => rfl); (case hA => rfl); (case h => (intro w1 hw1; have hc := hcells w1 hw1; go_simp; exact rfl)); go_simp)
                  ((with_reducible refine soft_fop rfl ?hA _ _ _ _ _ rfl rfl _ _ _ rfl rfl ?_); (case hA => rfl); intro rq hrq; go_simp)
                  repeat ((with_reducible apply soft_detG); (case hwa => rfl); (case hA => rfl); (case h => (intro w1 hw1; have hc := hcells w1 hw1; go_simp; exact rfl)); go_simp)
                  refine soft_nil ?_
                  rintro WA ⟨hv, _⟩
                  replace hrow := Lib.hid ((Below.block hv _ (in_heap hrow.out)).trans hrow.out)
                  replace hrv := Lib.hid ((Below.block hv _ (in_heap hrv.out)).trans hrv.out)
                  replace hs := Lib.hid (hs.out.trans hv)
                  clear hcells hv
                  have hq := Lib.hid (show FIs .f32 rq (vaQ rs time k) from hrq.of_eq (by unfold vaQ; rw [← hmt.out, ← hnt.out]))
                  clear hrq w1_ w2_
                  go_wp2
                  refine wp_loop_rounds 4 ?_
                  rw [rounds_succ]
                  go_upto_region 18 with fail
                  have hcells := fun W (hW : Stays WA W) => And.intro (cell_of_row W _ 0 _ _ _ ((Below.block hW _ (in_heap hrow.out)).trans hrow.out)) (cell_of_row W _ 0 _ _ _ ((Below.block hW _ (in_heap hrv.out)).trans hrv.out))
                  refine wp_region_soft_tail 15 (Stays.refl _) (fun _ _ _ => False) [] (by kernel_rfl) (by kernel_rfl) (fun _ h => by cases h) ?_
                  simp only [List.take_succ_cons, List.take_zero, List.drop_succ_cons, List.drop_zero]
                  repeat ((with_reducible apply soft_detG); (case hwa => rfl); (case hA => rfl); (case h => (intro w1 hw1; have hc := hcells w1 hw1; go_simp; exact rfl)); go_simp)
                  ((with_reducible refine soft_fop rfl ?hA _ _ _ _ _ rfl rfl _ _ _ rfl rfl ?_); (case hA => rfl); intro r0a hr0a; go_simp)
                  repeat ((with_reducible apply soft_detG); (case hwa => rfl); (case hA => rfl); (case h => (intro w1 hw1; have hc := hcells w1 hw1; go_simp; exact rfl)); go_simp)
                  ((with_reducible refine soft_fop rfl ?hA _ _ _ _ _ rfl rfl _ _ _ rfl rfl ?_); (case hA => rfl); intro r0b hr0b; go_simp)
                  repeat ((with_reducible apply soft_detG); (case hwa => rfl); (case hA => rfl); (case h => (intro w1 hw1; have hc := hcells w1 hw1; go_simp; exact rfl)); go_simp)
                  ((with_reducible refine soft_fop rfl ?hA _ _ _ _ _ rfl rfl _ _ _ rfl rfl ?_); (case hA => rfl); intro r0c hr0c; go_simp)
                  repeat ((with_reducible apply soft_detG); (case hwa => rfl); (case hA => rfl); (case h => (intro w1 hw1; have hc := hcells w1 hw1; go_simp; exact rfl)); go_simp)
                  refine soft_nil ?_
                  rintro v0 ⟨hv, _⟩
                  replace hrow := Lib.hid ((Below.block hv _ (in_heap hrow.out)).trans hrow.out)
                  replace hrv := Lib.hid ((Below.block hv _ (in_heap hrv.out)).trans hrv.out)
                  replace hs := Lib.hid (hs.out.trans hv)
                  clear hcells hv
                  have hp0 := Lib.hid (show FIs .f32 r0c (betW (can .f32 x0) (can .f32 x1) (can .f32 rq)) from hr0c.of_eq (by rw [hr0b.out, hr0a.out]; rfl))
                  clear hr0a hr0b hr0c
                  have c9 := cell_of_row _ _ 0 _ _ _ hrow.out
                  have f9 := frozen_of_row _ _ 0 _ _ hrow.out
                  go_wp2
                  clear c9 f9
                  have hrvN := (heap_setCell_other v0 ⟨p0, 0, none⟩ pv (.float .f32 r0c) (by simp; have := hne.out; omega)).trans hrv.out
                  replace hrv := Lib.hid hrvN
                  clear hrvN
                  have hrowN : (v0.setCell ⟨p0, 0, none⟩ (.float .f32 r0c)).heap[p0]? = some (.cells #[.float .f32 r0c, .float .f32 y0, .float .f32 z0] 28 (0, 0)) := heap_setCell_same v0 p0 0 _ _ (.float .f32 r0c) hrow.out
                  have hsN : Stays wr (v0.setCell ⟨p0, 0, none⟩ (.float .f32 r0c)) := hs.out.setCell _ _ hge0.out
                  replace hrow := Lib.hid hrowN
                  replace hs := Lib.hid hsN
                  clear hrowN hsN
                  generalize (v0.setCell ⟨p0, 0, none⟩ (.float .f32 r0c)) = u0 at hrow hrv hs ⊢
                  rw [rounds_succ]
                  go_upto_region 18 with fail
                  have hcells := fun W (hW : Stays u0 W) => And.intro (cell_of_row W _ 1 _ _ _ ((Below.block hW _ (in_heap hrow.out)).trans hrow.out)) (cell_of_row W _ 1 _ _ _ ((Below.block hW _ (in_heap hrv.out)).trans hrv.out))
                  refine wp_region_soft_tail 15 (Stays.refl _) (fun _ _ _ => False) [] (by kernel_rfl) (by kernel_rfl) (fun _ h => by cases h) ?_
                  simp only [List.take_succ_cons, List.take_zero, List.drop_succ_cons, List.drop_zero]
                  repeat ((with_reducible apply soft_detG); (case hwa => rfl); (case hA => rfl); (case h => (intro w1 hw1; have hc := hcells w1 hw1; go_simp; exact rfl)); go_simp)
                  ((with_reducible refine soft_fop rfl ?hA _ _ _ _ _ rfl rfl _ _ _ rfl rfl ?_); (case hA => rfl); intro r1a hr1a; go_simp)
                  repeat ((with_reducible apply soft_detG); (case hwa => rfl); (case hA => rfl); (case h => (intro w1 hw1; have hc := hcells w1 hw1; go_simp; exact rfl)); go_simp)
                  ((with_reducible refine soft_fop rfl ?hA _ _ _ _ _ rfl rfl _ _ _ rfl rfl ?_); (case hA => rfl); intro r1b hr1b; go_simp)
                  repeat ((with_reducible apply soft_detG); (case hwa => rfl); (case hA => rfl); (case h => (intro w1 hw1; have hc := hcells w1 hw1; go_simp; exact rfl)); go_simp)
                  ((with_reducible refine soft_fop rfl ?hA _ _ _ _ _ rfl rfl _ _ _ rfl rfl ?_); (case hA => rfl); intro r1c hr1c; go_simp)
                  repeat ((with_reducible apply soft_detG); (case hwa => rfl); (case hA => rfl); (case h => (intro w1 hw1; have hc := hcells w1 hw1; go_simp; exact rfl)); go_simp)
                  refine soft_nil ?_
                  rintro v1 ⟨hv, _⟩
                  replace hrow := Lib.hid ((Below.block hv _ (in_heap hrow.out)).trans hrow.out)
                  replace hrv := Lib.hid ((Below.block hv _ (in_heap hrv.out)).trans hrv.out)
                  replace hs := Lib.hid (hs.out.trans hv)
                  clear hcells hv
                  have hp1 := Lib.hid (show FIs .f32 r1c (betW (can .f32 y0) (can .f32 y1) (can .f32 rq)) from hr1c.of_eq (by rw [hr1b.out, hr1a.out]; rfl))
                  clear hr1a hr1b hr1c
                  have c9 := cell_of_row _ _ 1 _ _ _ hrow.out
                  have f9 := frozen_of_row _ _ 1 _ _ hrow.out
                  go_wp2
                  clear c9 f9
                  have hrvN := (heap_setCell_other v1 ⟨p0, 1, none⟩ pv (.float .f32 r1c) (by simp; have := hne.out; omega)).trans hrv.out
                  replace hrv := Lib.hid hrvN
                  clear hrvN
                  have hrowN : (v1.setCell ⟨p0, 1, none⟩ (.float .f32 r1c)).heap[p0]? = some (.cells #[.float .f32 r0c, .float .f32 r1c, .float .f32 z0] 28 (0, 0)) := heap_setCell_same v1 p0 1 _ _ (.float .f32 r1c) hrow.out
                  have hsN : Stays wr (v1.setCell ⟨p0, 1, none⟩ (.float .f32 r1c)) := hs.out.setCell _ _ hge0.out
                  replace hrow := Lib.hid hrowN
                  replace hs := Lib.hid hsN
                  clear hrowN hsN
                  generalize (v1.setCell ⟨p0, 1, none⟩ (.float .f32 r1c)) = u1 at hrow hrv hs ⊢
                  rw [rounds_succ]
                  go_upto_region 18 with fail
                  have hcells := fun W (hW : Stays u1 W) => And.intro (cell_of_row W _ 2 _ _ _ ((Below.block hW _ (in_heap hrow.out)).trans hrow.out)) (cell_of_row W _ 2 _ _ _ ((Below.block hW _ (in_heap hrv.out)).trans hrv.out))
                  refine wp_region_soft_tail 15 (Stays.refl _) (fun _ _ _ => False) [] (by kernel_rfl) (by kernel_rfl) (fun _ h => by cases h) ?_
                  simp only [List.take_succ_cons, List.take_zero, List.drop_succ_cons, List.drop_zero]
                  repeat ((with_reducible apply soft_detG); (case hwa => rfl); (case hA => rfl); (case h => (intro w1 hw1; have hc := hcells w1 hw1; go_simp; exact rfl)); go_simp)
                  ((with_reducible refine soft_fop rfl ?hA _ _ _ _ _ rfl rfl _ _ _ rfl rfl ?_); (case hA => rfl); intro r2a hr2a; go_simp)
                  repeat ((with_reducible apply soft_detG); (case hwa => rfl); (case hA => rfl); (case h => (intro w1 hw1; have hc := hcells w1 hw1; go_simp; exact rfl)); go_simp)
                  ((with_reducible refine soft_fop rfl ?hA _ _ _ _ _ rfl rfl _ _ _ rfl rfl ?_); (case hA => rfl); intro r2b hr2b; go_simp)
                  repeat ((with_reducible apply soft_detG); (case hwa => rfl); (case hA => rfl); (case h => (intro w1 hw1; have hc := hcells w1 hw1; go_simp; exact rfl)); go_simp)
                  ((with_reducible refine soft_fop rfl ?hA _ _ _ _ _ rfl rfl _ _ _ rfl rfl ?_); (case hA => rfl); intro r2c hr2c; go_simp)
                  repeat ((with_reducible apply soft_detG); (case hwa => rfl); (case hA => rfl); (case h => (intro w1 hw1; have hc := hcells w1 hw1; go_simp; exact rfl)); go_simp)
                  refine soft_nil ?_
                  rintro v2 ⟨hv, _⟩
                  replace hrow := Lib.hid ((Below.block hv _ (in_heap hrow.out)).trans hrow.out)
                  replace hrv := Lib.hid ((Below.block hv _ (in_heap hrv.out)).trans hrv.out)
                  replace hs := Lib.hid (hs.out.trans hv)
                  clear hcells hv
                  have hp2 := Lib.hid (show FIs .f32 r2c (betW (can .f32 z0) (can .f32 z1) (can .f32 rq)) from hr2c.of_eq (by rw [hr2b.out, hr2a.out]; rfl))
                  clear hr2a hr2b hr2c
                  have c9 := cell_of_row _ _ 2 _ _ _ hrow.out
                  have f9 := frozen_of_row _ _ 2 _ _ hrow.out
                  go_wp2
                  clear c9 f9
                  have hrvN := (heap_setCell_other v2 ⟨p0, 2, none⟩ pv (.float .f32 r2c) (by simp; have := hne.out; omega)).trans hrv.out
                  replace hrv := Lib.hid hrvN
                  clear hrvN
                  have hrowN : (v2.setCell ⟨p0, 2, none⟩ (.float .f32 r2c)).heap[p0]? = some (.cells #[.float .f32 r0c, .float .f32 r1c, .float .f32 r2c] 28 (0, 0)) := heap_setCell_same v2 p0 2 _ _ (.float .f32 r2c) hrow.out
                  have hsN : Stays wr (v2.setCell ⟨p0, 2, none⟩ (.float .f32 r2c)) := hs.out.setCell _ _ hge0.out
                  replace hrow := Lib.hid hrowN
                  replace hs := Lib.hid hsN
                  clear hrowN hsN
                  generalize (v2.setCell ⟨p0, 2, none⟩ (.float .f32 r2c)) = u2 at hrow hrv hs ⊢
                  rw [rounds_succ]
                  obtain ⟨_, hst, hres, _⟩ := HW.out u2 (hb.out.trans hs.out)
                  have hneT : ¬ tAt rs k = time := by rw [← hmt.out]; exact heq.out
                  have hfin := Lib.hid (show FIs .f32 r0c (vaX (vX r0 r3) rs time (vaI rs time)) ∧ FIs .f32 r1c (vaX (vY r1 r4) rs time (vaI rs time)) ∧ FIs .f32 r2c (vaX (vZ r2 r5) rs time (vaI rs time)) from by
                    rw [hvi.out]
                    unfold vaX
                    simp only [if_neg hneT]
                    rw [hmk.out, hnk.out, ← hf0.out.1.out, ← hf0.out.2.1.out, ← hf0.out.2.2.out, ← hf1.out.1.out, ← hf1.out.2.1.out, ← hf1.out.2.2.out, ← hq.out.out]
                    exact ⟨hp0.out, hp1.out, hp2.out⟩)
                  clear hp0 hp1 hp2 hneT
                  have g0 := cell_of_row _ _ 0 _ _ _ hrow.out
                  have g1 := cell_of_row _ _ 1 _ _ _ hrow.out
                  have g2 := cell_of_row _ _ 2 _ _ _ hrow.out
                  go_wp2_with ((refine wpList_store_row rfl _ _ _ rfl _ _ _ rfl rfl hres ?hi ?ho ?h1 ?hB hst ?_); (case hi => kernel_rfl); (case ho => rfl); (case h1 => first | rfl | simp [Value.oneCell']); (case hB => first | omega | (simp <;> omega)); intro w9 hw9 hq9 ho9 hsz9)
                  apply end_gd rfl rfl rfl Try.underlying28 rfl (t := 28)
                  case hg => exact hq9
                  case hi => kernel_rfl
                  case hR => exact ⟨_, _, _, rfl, hfin.out.1, hfin.out.2.1, hfin.out.2.2, hw9⟩
              · have hk2 : ¬ (k : Int) + 1 < (rs.length : Int) := by omega
                have heq : m.t = time := by
                  have e : tAt rs (rs.length - 1) = m.t := by rw [show rs.length - 1 = k by omega]; exact hmt.out.symm
                  omega
                replace hk1 := Lib.hid hk1
                go_wp2_with fail
                clear m1 m2 m3 m4
                refine (c_l04Vec w.heap.size r0 r1 r2 r3 r4 r5 ev d m.a m.b m.c wr (HW.out wr hb.out).2.2.2).mono ?_
                rintro e w3 ⟨_, rfl, ⟨x0, y0, z0, rfl, fx, fy, fz⟩, hw3⟩
                have hrow := Lib.hid (heap_alloc_new w3 (.cells #[.float .f32 x0, .float .f32 y0, .float .f32 z0] 28))
                have hsA : Stays w3 (w3.alloc (.cells #[.float .f32 x0, .float .f32 y0, .float .f32 z0] 28)) := by (repeat (first | exact Stays.refl _ | (with_reducible refine Stays.drewN ?_ _) | (with_reducible refine Stays.alloc ?_ _) | (with_reducible refine Stays.drew ?_) | (refine Stays.trans ?_ ‹Stays _ _›)))
                have hs0 := Lib.hid (hw3.trans hsA)
                have hge0 := Lib.hid hw3.size
                have hf0 := Lib.hid (show FIs .f32 x0 (vX r0 r3 m) ∧ FIs .f32 y0 (vY r1 r4 m) ∧ FIs .f32 z0 (vZ r2 r5 m) from ⟨fx, fy, fz⟩)
                clear fx fy fz hw3 hsA
                go_upto_region 11 with fail
                generalize (w3.alloc (.cells #[.float .f32 x0, .float .f32 y0, .float .f32 z0] 28)) = w5 at hrow hs0 ⊢
                generalize w3.heap.size = p0 at hrow hge0 ⊢
                have heq' : (m.t == time) = true := by simpa using heq
                replace heq := Lib.hid heq
                obtain ⟨m1, m2, m3, m4⟩ := hm.out w5 hs0.out
                have g0 := cell_of_row _ _ 0 _ _ _ hrow.out
                have g1 := cell_of_row _ _ 1 _ _ _ hrow.out
                have g2 := cell_of_row _ _ 2 _ _ _ hrow.out
                obtain ⟨_, hst, hres, _⟩ := HW.out w5 (hb.out.trans hs0.out)
                have hfin := Lib.hid (show FIs .f32 x0 (vaX (vX r0 r3) rs time (vaI rs time)) ∧ FIs .f32 y0 (vaX (vY r1 r4) rs time (vaI rs time)) ∧ FIs .f32 z0 (vaX (vZ r2 r5) rs time (vaI rs time)) from by
                  rw [hvi.out]
                  unfold vaX
                  have e : tAt rs k = time := by rw [← hmt.out]; exact heq.out
                  simp only [if_pos e]
                  rw [hmk.out]
                  exact hf0.out)
                go_wp2_with ((refine wpList_store_row rfl _ _ _ rfl _ _ _ rfl rfl hres ?hi ?ho ?h1 ?hB hst ?_); (case hi => kernel_rfl); (case ho => rfl); (case h1 => first | rfl | simp [Value.oneCell']); (case hB => first | omega | (simp <;> omega)); intro w9 hw9 hq9 ho9 hsz9)
                apply end_gd rfl rfl rfl Try.underlying28 rfl (t := 28)
                case hg => exact hq9
                case hi => kernel_rfl
                case hR => exact ⟨_, _, _, rfl, hfin.out.1, hfin.out.2.1, hfin.out.2.2, hw9⟩
        · have hr : ¬ vaR rs time := fun g => hhi g.2.2
          simp only [if_neg hr]
          have hhi' : tAt rs (rs.length - 1) < time := by omega
          replace hhi := Lib.hid hhi
          replace hlo := Lib.hid hlo
          clear hr
          go_enter Try.func34, Try.ntmps34
          go_wp2_with fail
          generalize ((w.alloc (.cells #[.float .f32 r0, .float .f32 r1, .float .f32 r2, .float .f32 r3, .float .f32 r4, .float .f32 r5, .int .i64 ev, .int .i64 d] 32)).alloc (.cells #[.float .f32 0, .float .f32 0, .float .f32 0] 28)) = W0 at HW kB H HT ⊢
          with_reducible refine (kB.out W0 (Stays.refl _)).mono ?_
          rintro e w1 ⟨rfl, hb⟩
          replace hb := Lib.hid (show Stays W0 w1 from hb)
          obtain ⟨_, hst, hres, _⟩ := HW.out _ hb.out
          clear kB
          have z0 : w1.cell? ad = some (.int .i64 (tAt rs 0)) := HT.out w1 hb.out ad rfl 0 hpos w1 (Stays.refl _)
          have zl := HT.out w1 hb.out ad rfl (rs.length - 1) (by omega) w1 (Stays.refl _)
          generalize tAt rs 0 = t0 at z0 hlo'
          generalize tAt rs (rs.length - 1) = tl at zl hhi'
          go_wp2_with ((refine wpList_store_row rfl _ _ _ rfl _ _ _ rfl rfl hres ?hi ?ho ?h1 ?hB hst ?_); (case hi => kernel_rfl); (case ho => rfl); (case h1 => first | rfl | simp [Value.oneCell']); (case hB => first | omega | (simp <;> omega)); intro w9 hw9 hq9 ho9 hsz9)
          apply end_gd rfl rfl rfl Try.underlying28 rfl (t := 28)
          case hg => exact hq9
          case hi => kernel_rfl
          case hR => exact ⟨_, _, _, rfl, FIs.self (by decide), FIs.self (by decide), FIs.self (by decide), hw9⟩
      · have hr : ¬ vaR rs time := fun g => hlo g.2.1
        simp only [if_neg hr]
        have hlo' : time < tAt rs 0 := by omega
        replace hlo := Lib.hid hlo
        clear hr
        go_enter Try.func34, Try.ntmps34
        go_wp2_with fail
        generalize ((w.alloc (.cells #[.float .f32 r0, .float .f32 r1, .float .f32 r2, .float .f32 r3, .float .f32 r4, .float .f32 r5, .int .i64 ev, .int .i64 d] 32)).alloc (.cells #[.float .f32 0, .float .f32 0, .float .f32 0] 28)) = W0 at HW kB H HT ⊢
        with_reducible refine (kB.out W0 (Stays.refl _)).mono ?_
        rintro e w1 ⟨rfl, hb⟩
        replace hb := Lib.hid (show Stays W0 w1 from hb)
        obtain ⟨_, hst, hres, _⟩ := HW.out _ hb.out
        clear kB
        have z0 : w1.cell? ad = some (.int .i64 (tAt rs 0)) := HT.out w1 hb.out ad rfl 0 hpos w1 (Stays.refl _)
        generalize tAt rs 0 = t0 at z0 hlo'
        go_wp2_with ((refine wpList_store_row rfl _ _ _ rfl _ _ _ rfl rfl hres ?hi ?ho ?h1 ?hB hst ?_); (case hi => kernel_rfl); (case ho => rfl); (case h1 => first | rfl | simp [Value.oneCell']); (case hB => first | omega | (simp <;> omega)); intro w9 hw9 hq9 ho9 hsz9)
        apply end_gd rfl rfl rfl Try.underlying28 rfl (t := 28)
        case hg => exact hq9
        case hi => kernel_rfl
        case hR => exact ⟨_, _, _, rfl, FIs.self (by decide), FIs.self (by decide), FIs.self (by decide), hw9⟩
  · simp only [if_neg hc]
    clear hA
    generalize codeOf (sensB ins) (feedB rs) (okTime time) = code at hc kB ⊢
    have hc1 : (code == 0) = false := by simpa using hc
    have hc2 : (code != 0) = true := by simp [bne, hc1]
    replace hc := Lib.hid hc
    go_enter Try.func34, Try.ntmps34
    go_wp2_with fail
    generalize ((w.alloc (.cells #[.float .f32 r0, .float .f32 r1, .float .f32 r2, .float .f32 r3, .float .f32 r4, .float .f32 r5, .int .i64 ev, .int .i64 d] 32)).alloc (.cells #[.float .f32 0, .float .f32 0, .float .f32 0] 28)) = W0 at HW kB H ⊢
    with_reducible refine (kB.out W0 (Stays.refl _)).mono ?_
    rintro e w1 ⟨rfl, hb⟩
    replace hb := Lib.hid (show Stays W0 w1 from hb)
    obtain ⟨_, hst, hres, _⟩ := HW.out _ hb.out
    clear kB
    go_wp2_with ((refine wpList_store_row rfl _ _ _ rfl _ _ _ rfl rfl hres ?hi ?ho ?h1 ?hB hst ?_); (case hi => kernel_rfl); (case ho => rfl); (case h1 => first | rfl | simp [Value.oneCell']); (case hB => first | omega | (simp <;> omega)); intro w9 hw9 hq9 ho9 hsz9)
    apply end_gd rfl rfl rfl Try.underlying28 rfl (t := 28)
    case hg => exact hq9
    case hi => kernel_rfl
    case hR => exact ⟨_, _, _, rfl, FIs.self (by decide), FIs.self (by decide), FIs.self (by decide), hw9⟩

end Go.Proofs.Ytmcbeaihjdnelaa

namespace Go.Proofs.Ytmcbeaihjdnelaa
open Go Go.RowKit
set_option linter.unusedVariables false
set_option linter.unusedSimpArgs false


theorem rd_cells {w : World} {p : Nat} {m : Rd} (h : w.heap[p]? = some (.cells #[.int .i64 m.t, .int .i16 m.a, .int .i16 m.b, .int .i16 m.c] 83 (0, 0))) : ∀ W, Stays w W → W.cell? ⟨p, 0, none⟩ = some (.int .i64 m.t) ∧ W.cell? ⟨p, 1, none⟩ = some (.int .i16 m.a) ∧ W.cell? ⟨p, 2, none⟩ = some (.int .i16 m.b) ∧ W.cell? ⟨p, 3, none⟩ = some (.int .i16 m.c) := fun W hW => ⟨row_of hW h 0, row_of hW h 1, row_of hW h 2, row_of hW h 3⟩
def TwoRd (W : World) (m m' : Rd) (s t : Value) (w : World) : Prop := ∃ p q, s = .pointer (some ⟨p, 0, none⟩) ∧ t = .pointer (some ⟨q, 0, none⟩) ∧ w.heap[p]? = some (.cells #[.int .i64 m.t, .int .i16 m.a, .int .i16 m.b, .int .i16 m.c] 83 (0, 0)) ∧ w.heap[q]? = some (.cells #[.int .i64 m'.t, .int .i16 m'.a, .int .i16 m'.b, .int .i16 m'.c] 83 (0, 0)) ∧ Stays W w
def TwoV (W : World) (o1 o2 o3 u1 u2 u3 : Option Nat) (s t : Value) (w : World) : Prop := ∃ p q x y z x1 y1 z1, s = .pointer (some ⟨p, 0, none⟩) ∧ t = .pointer (some ⟨q, 0, none⟩) ∧ p ≠ q ∧ W.heap.size ≤ p ∧ w.heap[p]? = some (.cells #[.float .f32 x, .float .f32 y, .float .f32 z] 28 (0, 0)) ∧ w.heap[q]? = some (.cells #[.float .f32 x1, .float .f32 y1, .float .f32 z1] 28 (0, 0)) ∧ (FIs .f32 x o1 ∧ FIs .f32 y o2 ∧ FIs .f32 z o3) ∧ (FIs .f32 x1 u1 ∧ FIs .f32 y1 u2 ∧ FIs .f32 z1 u3) ∧ Stays W w
theorem TwoRd.ab {W : World} (m m' : Rd) (h : Stays W W) : TwoRd W m m' (.pointer (some ⟨W.heap.size, 0, none⟩)) (.pointer (some ⟨W.heap.size + 1, 0, none⟩)) (((W.alloc (.cells #[.int .i64 m.t, .int .i16 m.a, .int .i16 m.b, .int .i16 m.c] 83)).alloc (.cells #[.int .i64 m'.t, .int .i16 m'.a, .int .i16 m'.b, .int .i16 m'.c] 83)).drew) := by
  have u0 : (((W.alloc (.cells #[.int .i64 m.t, .int .i16 m.a, .int .i16 m.b, .int .i16 m.c] 83)).alloc (.cells #[.int .i64 m'.t, .int .i16 m'.a, .int .i16 m'.b, .int .i16 m'.c] 83))).heap[W.heap.size]? = some (.cells #[.int .i64 m.t, .int .i16 m.a, .int .i16 m.b, .int .i16 m.c] 83 (0, 0)) := by (repeat (first | (refine heap_top _ _ _ ?_; simp; done) | (with_reducible refine heap_drawn _ _ _ ?_) | (with_reducible refine heap_under _ _ _ ?_ ?_; (simp <;> omega))))
  have u1 : (((W.alloc (.cells #[.int .i64 m.t, .int .i16 m.a, .int .i16 m.b, .int .i16 m.c] 83)).alloc (.cells #[.int .i64 m'.t, .int .i16 m'.a, .int .i16 m'.b, .int .i16 m'.c] 83))).heap[W.heap.size + 1]? = some (.cells #[.int .i64 m'.t, .int .i16 m'.a, .int .i16 m'.b, .int .i16 m'.c] 83 (0, 0)) := by (repeat (first | (refine heap_top _ _ _ ?_; simp; done) | (with_reducible refine heap_drawn _ _ _ ?_) | (with_reducible refine heap_under _ _ _ ?_ ?_; (simp <;> omega))))
  exact ⟨_, _, rfl, rfl, u0, u1, by (repeat (first | exact Stays.refl _ | (with_reducible refine Stays.drewN ?_ _) | (with_reducible refine Stays.alloc ?_ _) | (with_reducible refine Stays.drew ?_) | (refine Stays.trans ?_ ‹Stays _ _›)))⟩
theorem TwoRd.ba {W : World} (m m' : Rd) (h : Stays W W) : TwoRd W m m' (.pointer (some ⟨W.heap.size + 1, 0, none⟩)) (.pointer (some ⟨W.heap.size, 0, none⟩)) (((W.alloc (.cells #[.int .i64 m'.t, .int .i16 m'.a, .int .i16 m'.b, .int .i16 m'.c] 83)).alloc (.cells #[.int .i64 m.t, .int .i16 m.a, .int .i16 m.b, .int .i16 m.c] 83)).drew) := by
  obtain ⟨p, q, e1, e2, u0, u1, hs⟩ := TwoRd.ab m' m h
  exact ⟨q, p, e2, e1, u1, u0, hs⟩
abbrev ZO : Obj := .cells #[.float .f32 0, .float .f32 0, .float .f32 0] 28
abbrev VO (x y z : Nat) : Obj := .cells #[.float .f32 x, .float .f32 y, .float .f32 z] 28
abbrev set3 (w : World) (p x y z : Nat) : World := ((w.setCell ⟨p, 0, none⟩ (.float .f32 x)).setCell ⟨p, 1, none⟩ (.float .f32 y)).setCell ⟨p, 2, none⟩ (.float .f32 z)
/-- Whether a row of three lies in a block. -/
def Lay (w : World) (p x y z : Nat) : Prop := w.heap[p]? = some (.cells #[.float .f32 x, .float .f32 y, .float .f32 z] 28 (0, 0))
theorem Lay.below {w w' : World} {p x y z : Nat} (h : Lay w p x y z) (hb : Stays w w') : Lay w' p x y z := (Below.block hb _ (in_heap h)).trans h
theorem Lay.new (w : World) (x y z : Nat) : Lay (w.alloc (VO x y z)) w.heap.size x y z := heap_alloc_new w _
theorem Lay.alloc {w : World} {p x y z : Nat} (h : Lay w p x y z) (o : Obj) : Lay (w.alloc o) p x y z := h.below (by (repeat (first | exact Stays.refl _ | (with_reducible refine Stays.drewN ?_ _) | (with_reducible refine Stays.alloc ?_ _) | (with_reducible refine Stays.drew ?_) | (refine Stays.trans ?_ ‹Stays _ _›))))
theorem Lay.set {w : World} {p a b c : Nat} (h : Lay w p a b c) (x y z : Nat) : Lay (set3 w p x y z) p x y z :=
  heap_setCell_same _ p 2 _ _ (.float .f32 z) (heap_setCell_same _ p 1 _ _ (.float .f32 y) (heap_setCell_same _ p 0 _ _ (.float .f32 x) h))
theorem Lay.other {w : World} {p q a b c : Nat} (h : Lay w q a b c) (hne : p ≠ q) (x y z : Nat) : Lay (set3 w p x y z) q a b c := by
  have e : ∀ (w : World) i v, (w.setCell ⟨p, i, none⟩ v).heap[q]? = w.heap[q]? := fun w i v => heap_setCell_other w ⟨p, i, none⟩ q v (fun g => hne g.symm)
  show (set3 w p x y z).heap[q]? = _
  unfold set3
  rw [e, e, e]
  exact h
theorem Lay.cells {w : World} {p x y z : Nat} (h : Lay w p x y z) : ((w.cell? ⟨p, 0, none⟩ = some (.float .f32 x) ∧ w.cell? ⟨p, 1, none⟩ = some (.float .f32 y) ∧ w.cell? ⟨p, 2, none⟩ = some (.float .f32 z)) ∧ w.frozen? ⟨p, 0, none⟩ = false ∧ w.frozen? ⟨p, 1, none⟩ = false ∧ w.frozen? ⟨p, 2, none⟩ = false) ∧ p < w.heap.size ∧ p ≠ w.heap.size :=
  ⟨⟨⟨cell_of_row _ _ _ _ _ _ h, cell_of_row _ _ _ _ _ _ h, cell_of_row _ _ _ _ _ _ h⟩, frozen_of_row _ _ _ _ _ h, frozen_of_row _ _ _ _ _ h, frozen_of_row _ _ _ _ _ h⟩, in_heap h, by have := in_heap h; omega⟩
theorem set3_stays {W w : World} {p : Nat} (h : Stays W w) (hp : W.heap.size ≤ p) (x y z : Nat) : Stays W (set3 w p x y z) :=
  Below.setCell (Below.setCell (Below.setCell (show Below W.heap.size W w from h) hp _) hp _) hp _
theorem zero0 {W w4 : World} (hb : Stays W.drew w4) : Stays W w4 := (Stays.refl W).drew.trans hb
theorem zero1 {W w4 : World} (hb : Stays (W.drew.alloc ZO) w4) : Stays W w4 ∧ Lay w4 W.heap.size 0 0 0 := ⟨(Stays.trans (by (repeat (first | exact Stays.refl _ | (with_reducible refine Stays.drewN ?_ _) | (with_reducible refine Stays.alloc ?_ _) | (with_reducible refine Stays.drew ?_) | (refine Stays.trans ?_ ‹Stays _ _›)))) hb), Lay.below (Lay.new W.drew 0 0 0) hb⟩
theorem zero2 {W w4 : World} (hb : Stays ((W.drew.alloc ZO).alloc ZO) w4) : Stays W w4 ∧ Lay w4 W.heap.size 0 0 0 ∧ Lay w4 (W.heap.size + 1) 0 0 0 := by
  have e : (W.drew.alloc ZO).heap.size = W.heap.size + 1 := by simp
  have h2 := Lay.below (Lay.new (W.drew.alloc ZO) 0 0 0) hb
  rw [e] at h2
  exact ⟨(Stays.trans (by (repeat (first | exact Stays.refl _ | (with_reducible refine Stays.drewN ?_ _) | (with_reducible refine Stays.alloc ?_ _) | (with_reducible refine Stays.drew ?_) | (refine Stays.trans ?_ ‹Stays _ _›)))) hb), Lay.below ((Lay.new W.drew 0 0 0).alloc _) hb, h2⟩
theorem zero1a {W w4 : World} (hb : Stays ((W.alloc ZO).drew) w4) : Stays W w4 ∧ Lay w4 W.heap.size 0 0 0 := zero1 hb
theorem zero2a {W w4 : World} (hb : Stays (((W.alloc ZO).drew).alloc ZO) w4) : Stays W w4 ∧ Lay w4 W.heap.size 0 0 0 ∧ Lay w4 (W.heap.size + 1) 0 0 0 := zero2 hb
theorem zero2b {W w4 : World} (hb : Stays (((W.alloc ZO).alloc ZO).drew) w4) : Stays W w4 ∧ Lay w4 W.heap.size 0 0 0 ∧ Lay w4 (W.heap.size + 1) 0 0 0 := zero2 hb
theorem new2 {W w5 : World} {o : Obj} {x y z : Nat} (hb : Stays ((W.alloc o).alloc (VO x y z)) w5) : Lay w5 (W.heap.size + 1) x y z := by
  have e : (W.alloc o).heap.size = W.heap.size + 1 := by simp
  have h2 := Lay.below (Lay.new (W.alloc o) x y z) hb
  rw [e] at h2
  exact h2
theorem more1 {W w5 : World} {x y z : Nat} (hb : Stays (W.alloc (VO x y z)) w5) : Stays W w5 ∧ Lay w5 W.heap.size x y z := ⟨(Stays.trans (by (repeat (first | exact Stays.refl _ | (with_reducible refine Stays.drewN ?_ _) | (with_reducible refine Stays.alloc ?_ _) | (with_reducible refine Stays.drew ?_) | (refine Stays.trans ?_ ‹Stays _ _›)))) hb), Lay.below (Lay.new W x y z) hb⟩
theorem more2 {W w5 : World} {x y z a b c : Nat} (hb : Stays ((W.alloc (VO x y z)).alloc (VO a b c)) w5) : Stays W w5 ∧ Lay w5 W.heap.size x y z ∧ Lay w5 (W.heap.size + 1) a b c := by
  have e : (W.alloc (VO x y z)).heap.size = W.heap.size + 1 := by simp
  have h2 := Lay.below (Lay.new (W.alloc (VO x y z)) a b c) hb
  rw [e] at h2
  exact ⟨(Stays.trans (by (repeat (first | exact Stays.refl _ | (with_reducible refine Stays.drewN ?_ _) | (with_reducible refine Stays.alloc ?_ _) | (with_reducible refine Stays.drew ?_) | (refine Stays.trans ?_ ‹Stays _ _›)))) hb), Lay.below ((Lay.new W x y z).alloc _) hb, h2⟩
theorem st4 {W w : World} {p : Nat} (h : Stays W w) (hp : W.heap.size ≤ p) (a b c d : Value) : Stays W ((((w.setCell ⟨p, 0, none⟩ a).setCell ⟨p, 1, none⟩ b).setCell ⟨p, 2, none⟩ c).setCell ⟨p, 3, none⟩ d) :=
  Below.setCell (Below.setCell (Below.setCell (Below.setCell (show Below W.heap.size W w from h) hp _) hp _) hp _) hp _
set_option maxRecDepth 100000 in
set_option maxHeartbeats 16000000 in
theorem c_implValueAt (v : Value) (ins : List NV) (hs : Sen v ins) (A : Option Addr) (c : Nat) (time : Int) (rs : List Rd) (w : World) (h : Feed w w.heap.size A rs) (hn : rs.length ≤ 1048576) :
    Calls Try.prog 35 #[v, .slice A rs.length c, .int .i64 time] w (V3Done w (vaC (sensB ins) (feedB rs) (okTime time) rs time) (vaV (vX (sw v 0) (sw v 3)) (sensB ins) (feedB rs) (okTime time) rs time) (vaV (vY (sw v 1) (sw v 4)) (sensB ins) (feedB rs) (okTime time) rs time) (vaV (vZ (sw v 2) (sw v 5)) (sensB ins) (feedB rs) (okTime time) rs time)) := by
  obtain ⟨r0, r1, r2, r3, r4, r5, ev, d, rfl, hdd⟩ := hs.cells
  clear hdd
  have hst : Stays w ((w.alloc (.cells (senCells r0 r1 r2 r3 r4 r5 ev d) 32)).alloc (.cells #[.float .f32 0, .float .f32 0, .float .f32 0] 28)) := by (repeat (first | exact Stays.refl _ | (with_reducible refine Stays.drewN ?_ _) | (with_reducible refine Stays.alloc ?_ _) | (with_reducible refine Stays.drew ?_) | (refine Stays.trans ?_ ‹Stays _ _›)))
  have uS : ((w.alloc (.cells (senCells r0 r1 r2 r3 r4 r5 ev d) 32)).alloc (.cells #[.float .f32 0, .float .f32 0, .float .f32 0] 28)).heap[w.heap.size]? = some (.cells (senCells r0 r1 r2 r3 r4 r5 ev d) 32 (0, 0)) := by (repeat (first | (refine heap_top _ _ _ ?_; simp; done) | (with_reducible refine heap_drawn _ _ _ ?_) | (with_reducible refine heap_under _ _ _ ?_ ?_; (simp <;> omega))))
  have uR : ((w.alloc (.cells (senCells r0 r1 r2 r3 r4 r5 ev d) 32)).alloc (.cells #[.float .f32 0, .float .f32 0, .float .f32 0] 28)).heap[w.heap.size + 1]? = some (.cells #[.float .f32 0, .float .f32 0, .float .f32 0] 28 (0, 0)) := by (repeat (first | (refine heap_top _ _ _ ?_; simp; done) | (with_reducible refine heap_drawn _ _ _ ?_) | (with_reducible refine heap_under _ _ _ ?_ ?_; (simp <;> omega))))
  have HW := Lib.hid fun W (hW : Stays ((w.alloc (.cells (senCells r0 r1 r2 r3 r4 r5 ev d) 32)).alloc (.cells #[.float .f32 0, .float .f32 0, .float .f32 0] 28)) W) => And.intro (sen_cells uS W hW) (And.intro (hst.trans hW) (And.intro ((Below.block hW _ (in_heap uR)).trans uR) ((Below.block hW _ (in_heap uS)).trans uS)))
  have hFd := fun W (hW : Stays ((w.alloc (.cells (senCells r0 r1 r2 r3 r4 r5 ev d) 32)).alloc (.cells #[.float .f32 0, .float .f32 0, .float .f32 0] 28)) W) => ((h.below (show Below w.heap.size w W from hst.trans hW)).more (hst.trans hW).size)
  have kS := Lib.hid fun W (hW : Stays ((w.alloc (.cells (senCells r0 r1 r2 r3 r4 r5 ev d) 32)).alloc (.cells #[.float .f32 0, .float .f32 0, .float .f32 0] 28)) W) => c_ValidSensor (.agg (senCells r0 r1 r2 r3 r4 r5 ev d)) ins W hs
  have kF := Lib.hid fun W (hW : Stays ((w.alloc (.cells (senCells r0 r1 r2 r3 r4 r5 ev d) 32)).alloc (.cells #[.float .f32 0, .float .f32 0, .float .f32 0] 28)) W) => show Calls Try.prog 57 #[.slice A rs.length c] W fun e w2 => e = .returned (.bool (feedB rs)) ∧ Below W.heap.size W w2 from c_ValidFeed A c rs W (hFd W hW) hn
  have H := Lib.hid fun W (hW : Stays ((w.alloc (.cells (senCells r0 r1 r2 r3 r4 r5 ev d) 32)).alloc (.cells #[.float .f32 0, .float .f32 0, .float .f32 0] 28)) W) ad (e : A = some ad) k m (hk : rs[k]? = some m) => show ad.block < W.heap.size ∧ ∀ W', Stays W W' → (W'.cell? (ad.add (k * 4)) = some (.int .i64 m.t) ∧ W'.cell? ⟨((ad.add (k * 4))).block, ((ad.add (k * 4))).off + 1, none⟩ = some (.int .i16 m.a) ∧ W'.cell? ⟨((ad.add (k * 4))).block, ((ad.add (k * 4))).off + 2, none⟩ = some (.int .i16 m.b) ∧ W'.cell? ⟨((ad.add (k * 4))).block, ((ad.add (k * 4))).off + 3, none⟩ = some (.int .i16 m.c)) from by
    obtain ⟨ad', e', hbl, c1, c2, c3, c4⟩ := hFd W hW k m hk
    rw [e] at e'
    cases e'
    have hb : (ad.add (k * 4)).block < W.heap.size := by rw [block_add]; exact hbl
    exact ⟨hbl, fun W' hW' => ⟨(hW'.cell (p := ad.add (k * 4)) hb).trans c1, (hW'.cell (p := ⟨(ad.add (k * 4)).block, (ad.add (k * 4)).off + 1, none⟩) hb).trans c2, (hW'.cell (p := ⟨(ad.add (k * 4)).block, (ad.add (k * 4)).off + 2, none⟩) hb).trans c3, (hW'.cell (p := ⟨(ad.add (k * 4)).block, (ad.add (k * 4)).off + 3, none⟩) hb).trans c4⟩⟩
  have hA : 0 < rs.length → ∃ ad, A = some ad := fun hp => by
    obtain ⟨ad, e, _⟩ := h 0 rs[0] (List.getElem?_eq_getElem hp)
    exact ⟨ad, e⟩
  clear uS uR hFd h hs hst
  unfold vaC vaV codeOf
  have hfb := fun (g : feedB rs = true) => g
  have hstepF : feedB rs = true → ∀ j, j + 1 < rs.length → tAt rs j < tAt rs (j + 1) := fun g j hj => feed_step g hj
  have htimeF : feedB rs = true → ∀ j, j < rs.length → 0 ≤ tAt rs j ∧ tAt rs j ≤ 1000000000 := fun g j hj => feed_time g hj
  have hmonoF : feedB rs = true → ∀ d a, a + d < rs.length → tAt rs a ≤ tAt rs (a + d) := fun g d a hd => feed_mono g d a hd
  clear hfb
  generalize sensB ins = sb at kS ⊢
  cases sb with
  | false =>
    simp only [Bool.false_and, Bool.false_eq_true, if_false, if_neg (show ¬ (1 : Int) = 0 by decide)]
    clear hA
    go_enter Try.func35, Try.ntmps35
    obtain ⟨⟨⟨q0, q1, q2⟩, ⟨q3, q4, q5⟩, q6, q7⟩, _⟩ := HW.out _ (Stays.refl _)
    go_wp2_with fail
    generalize ((w.alloc (.cells #[.float .f32 r0, .float .f32 r1, .float .f32 r2, .float .f32 r3, .float .f32 r4, .float .f32 r5, .int .i64 ev, .int .i64 d] 32)).alloc (.cells #[.float .f32 0, .float .f32 0, .float .f32 0] 28)) = W0 at HW kS kF H q0 q1 q2 q3 q4 q5 q6 q7 ⊢
    with_reducible refine (kS.out W0 (Stays.refl _)).mono ?_
    rintro e w1 ⟨rfl, hb⟩
    replace hb := Lib.hid (show Stays W0 w1 from hb)
    clear q0 q1 q2 q3 q4 q5 q6 q7
    obtain ⟨_, hst, hres, _⟩ := HW.out _ hb.out
    clear kS kF
    go_wp2_with ((refine wpList_store_row rfl _ _ _ rfl _ _ _ rfl rfl hres ?hi ?ho ?h1 ?hB hst ?_); (case hi => kernel_rfl); (case ho => rfl); (case h1 => first | rfl | simp [Value.oneCell']); (case hB => first | omega | (simp <;> omega)); intro w9 hw9 hq9 ho9 hsz9)
    apply end_gd rfl rfl rfl Try.underlying28 rfl (t := 28)
    case hg => exact hq9
    case hi => kernel_rfl
    case hR => exact ⟨_, _, _, rfl, FIs.self (by decide), FIs.self (by decide), FIs.self (by decide), hw9⟩
  | true =>
    cases hfd : feedB rs with
    | false =>
      rw [hfd] at kF
      simp only [Bool.and_false, Bool.false_eq_true, if_false, if_neg (show ¬ (1 : Int) = 0 by decide)]
      clear hA hfd
      go_enter Try.func35, Try.ntmps35
      obtain ⟨⟨⟨q0, q1, q2⟩, ⟨q3, q4, q5⟩, q6, q7⟩, _⟩ := HW.out _ (Stays.refl _)
      go_wp2_with fail
      generalize ((w.alloc (.cells #[.float .f32 r0, .float .f32 r1, .float .f32 r2, .float .f32 r3, .float .f32 r4, .float .f32 r5, .int .i64 ev, .int .i64 d] 32)).alloc (.cells #[.float .f32 0, .float .f32 0, .float .f32 0] 28)) = W0 at HW kS kF H q0 q1 q2 q3 q4 q5 q6 q7 ⊢
      with_reducible refine (kS.out W0 (Stays.refl _)).mono ?_
      rintro e w1 ⟨rfl, hb⟩
      replace hb := Lib.hid (show Stays W0 w1 from hb)
      clear q0 q1 q2 q3 q4 q5 q6 q7
      go_wp2_with fail
      with_reducible refine (kF.out w1 hb.out).mono ?_
      rintro e w1' ⟨rfl, hb'⟩
      replace hb := Lib.hid (hb.out.trans (show Stays w1 w1' from hb'))
      clear hb'
      obtain ⟨_, hst, hres, _⟩ := HW.out _ hb.out
      clear kS kF
      go_wp2_with ((refine wpList_store_row rfl _ _ _ rfl _ _ _ rfl rfl hres ?hi ?ho ?h1 ?hB hst ?_); (case hi => kernel_rfl); (case ho => rfl); (case h1 => first | rfl | simp [Value.oneCell']); (case hB => first | omega | (simp <;> omega)); intro w9 hw9 hq9 ho9 hsz9)
      apply end_gd rfl rfl rfl Try.underlying28 rfl (t := 28)
      case hg => exact hq9
      case hi => kernel_rfl
      case hR => exact ⟨_, _, _, rfl, FIs.self (by decide), FIs.self (by decide), FIs.self (by decide), hw9⟩
    | true =>
      rw [hfd] at kF
      have hstep := Lib.hid (hstepF hfd)
      have htime := Lib.hid (htimeF hfd)
      have hmono := Lib.hid (hmonoF hfd)
      clear hstepF htimeF hmonoF hfd
      cases ht : okTime time with
      | false =>
        simp only [Bool.and_true, if_true, Bool.false_eq_true, if_false, if_neg (show ¬ (2 : Int) = 0 by decide)]
        clear hA
        go_enter Try.func35, Try.ntmps35
        obtain ⟨⟨⟨q0, q1, q2⟩, ⟨q3, q4, q5⟩, q6, q7⟩, _⟩ := HW.out _ (Stays.refl _)
        go_wp2_with fail
        generalize ((w.alloc (.cells #[.float .f32 r0, .float .f32 r1, .float .f32 r2, .float .f32 r3, .float .f32 r4, .float .f32 r5, .int .i64 ev, .int .i64 d] 32)).alloc (.cells #[.float .f32 0, .float .f32 0, .float .f32 0] 28)) = W0 at HW kS kF H q0 q1 q2 q3 q4 q5 q6 q7 ⊢
        with_reducible refine (kS.out W0 (Stays.refl _)).mono ?_
        rintro e w1 ⟨rfl, hb⟩
        replace hb := Lib.hid (show Stays W0 w1 from hb)
        clear q0 q1 q2 q3 q4 q5 q6 q7
        go_wp2_with fail
        with_reducible refine (kF.out w1 hb.out).mono ?_
        rintro e w1' ⟨rfl, hb'⟩
        replace hb := Lib.hid (hb.out.trans (show Stays w1 w1' from hb'))
        clear hb'
        obtain ⟨_, hst, hres, _⟩ := HW.out _ hb.out
        clear kS kF
        clear hst hres
        go_wp2_with fail
        with_reducible refine (c_isTime time _).mono ?_
        rintro e wt ⟨rfl, rfl⟩
        rw [ht]
        obtain ⟨_, hst, hres, _⟩ := HW.out _ hb.out
        go_wp2_with ((refine wpList_store_row rfl _ _ _ rfl _ _ _ rfl rfl hres ?hi ?ho ?h1 ?hB hst ?_); (case hi => kernel_rfl); (case ho => rfl); (case h1 => first | rfl | simp [Value.oneCell']); (case hB => first | omega | (simp <;> omega)); intro w9 hw9 hq9 ho9 hsz9)
        apply end_gd rfl rfl rfl Try.underlying28 rfl (t := 28)
        case hg => exact hq9
        case hi => kernel_rfl
        case hR => exact ⟨_, _, _, rfl, FIs.self (by decide), FIs.self (by decide), FIs.self (by decide), hw9⟩
      | true =>
        simp only [Bool.and_true, if_true]
        have hok : 0 ≤ time ∧ time ≤ 1000000000 := by
          unfold okTime at ht
          simpa only [Bool.and_eq_true, decide_eq_true_eq] using ht
        have kB := Lib.hid fun W (hW : Stays ((w.alloc (.cells (senCells r0 r1 r2 r3 r4 r5 ev d) 32)).alloc (.cells #[.float .f32 0, .float .f32 0, .float .f32 0] 28)) W) => c_bsRd 87 #[] (fun _ _ => rfl) time (fun k => icmp (tAt rs k) time) A rs.length c (fun k => rs.getD k rd0) W
          (fun W' hW' k hk => by
            obtain ⟨ad, e⟩ := hA (by omega)
            exact ⟨ad, e, by rw [getD_of (List.getElem?_eq_getElem hk)]; exact (H.out W hW ad e k _ (List.getElem?_eq_getElem hk)).2 W' hW'⟩)
          (fun W' hW' k hk => c_va1 (rs.getD k rd0) time W')
          (fun a b hab hb' hneg => by
            have h1 := hmono.out (b - a) a (by omega)
            rw [show a + (b - a) = b by omega] at h1
            have h2 : tAt rs b < time := by
              unfold icmp at hneg
              by_cases g : tAt rs b < time
              · exact g
              · rw [if_neg g] at hneg; split at hneg <;> omega
            show icmp (tAt rs a) time < 0
            unfold icmp
            rw [if_pos (by omega)]; decide) hn
        by_cases hR : vaR rs time
        · simp only [if_pos hR]
          replace hR := Lib.hid hR
          go_enter Try.func35, Try.ntmps35
          obtain ⟨⟨⟨q0, q1, q2⟩, ⟨q3, q4, q5⟩, q6, q7⟩, _⟩ := HW.out _ (Stays.refl _)
          go_wp2_with fail
          generalize ((w.alloc (.cells #[.float .f32 r0, .float .f32 r1, .float .f32 r2, .float .f32 r3, .float .f32 r4, .float .f32 r5, .int .i64 ev, .int .i64 d] 32)).alloc (.cells #[.float .f32 0, .float .f32 0, .float .f32 0] 28)) = W0 at HW kS kF kB H q0 q1 q2 q3 q4 q5 q6 q7 ⊢
          with_reducible refine (kS.out W0 (Stays.refl _)).mono ?_
          rintro e w1 ⟨rfl, hb⟩
          replace hb := Lib.hid (show Stays W0 w1 from hb)
          clear q0 q1 q2 q3 q4 q5 q6 q7
          go_wp2_with fail
          with_reducible refine (kF.out w1 hb.out).mono ?_
          rintro e w1' ⟨rfl, hb'⟩
          replace hb := Lib.hid (hb.out.trans (show Stays w1 w1' from hb'))
          clear hb'
          obtain ⟨_, hst, hres, _⟩ := HW.out _ hb.out
          clear kS kF
          clear hst hres
          go_wp2_with fail
          with_reducible refine (c_isTime time _).mono ?_
          rintro e wt ⟨rfl, rfl⟩
          rw [ht]
          go_wp2_with fail
          with_reducible refine (kB.out _ hb.out).mono ?_
          rintro e w2 ⟨p, hP, rfl, hw2⟩
          replace hb := Lib.hid (hb.out.trans hw2)
          clear hw2 kB
          have hlt' : ∀ k, icmp (tAt rs k) time < 0 → tAt rs k < time := fun k hneg => by
            unfold icmp at hneg
            by_cases g : tAt rs k < time
            · exact g
            · rw [if_neg g] at hneg; split at hneg <;> omega
          have hge' : ∀ k, 0 ≤ icmp (tAt rs k) time → time ≤ tAt rs k := fun k hneg => by
            unfold icmp at hneg
            by_cases g : tAt rs k < time
            · rw [if_pos g] at hneg; omega
            · omega
          have hz' : ∀ k, icmp (tAt rs k) time = 0 ↔ tAt rs k = time := fun k => by
            unfold icmp
            constructor
            · intro g; split at g
              · omega
              · split at g <;> omega
            · intro g; rw [if_neg (by omega), if_neg (by omega)]
          have hP1 := hP.1
          have hbl := Lib.hid fun t (g : t < p) => hlt' t (hP.2.1 t g)
          have hab := Lib.hid fun t (g : p ≤ t) (g2 : t < rs.length) => hge' t (hP.2.2 t g g2)
          have hfe : (decide (p < rs.length) && decide (icmp (tAt rs p) time = 0)) = decide (p < rs.length ∧ tAt rs p = time) := by
            by_cases g1 : p < rs.length
            · by_cases g2 : tAt rs p = time
              · rw [decide_eq_true g1, decide_eq_true ((hz' p).2 g2), decide_eq_true ⟨g1, g2⟩]; rfl
              · rw [decide_eq_true g1, decide_eq_false (show ¬ icmp (tAt rs p) time = 0 from fun g => g2 ((hz' p).1 g)), decide_eq_false (show ¬ (p < rs.length ∧ tAt rs p = time) from fun g => g2 g.2)]; rfl
            · rw [decide_eq_false g1, decide_eq_false (show ¬ (p < rs.length ∧ tAt rs p = time) from fun g => g1 g.1)]; rfl
          rw [hfe]
          clear hfe hz' hge' hlt' hP
          have hnN : ((rs.length : Nat) : Int) = (rs.length : Int) := rfl
          clear hnN
          by_cases hfnd : p < rs.length ∧ tAt rs p = time
          · rw [decide_eq_true hfnd]
            obtain ⟨ad, rfl⟩ := hA (by omega)
            clear hA
            have hV : VaI rs time p := ⟨hfnd.1, fun j hj => by
              rcases Nat.lt_or_eq_of_le hj with e | e
              · exact Int.le_of_lt (hbl.out j e)
              · rw [e, hfnd.2]; exact Int.le_refl _, fun g => by have := hstep.out p g; have := hfnd.2; omega⟩
            have hvi := Lib.hid (vaI_eq hV)
            have hp' : (p : Int) < (rs.length : Int) := by omega
            have hp2 := hfnd.1
            have hgk : rs[p]? = some rs[p] := List.getElem?_eq_getElem hp2
            obtain ⟨_, hm⟩ := H.out w2 hb.out ad rfl p _ hgk
            have hmk := Lib.hid (getD_of hgk)
            generalize rs[p] = m at hm hmk
            replace hfnd := Lib.hid hfnd
            clear hV hgk hbl hab
            go_upto_region 7 with fail
            have hcells := fun W (hW : Stays w2 W) => And.intro (HW.out W (hb.out.trans hW)).1 (hm W hW)
            refine wp_region_soft_tail 7 (Stays.refl _) (svM 58 59) [] (by kernel_rfl) (by kernel_rfl) (fun _ h => by cases h) ?_
            simp only [List.take_succ_cons, List.take_zero, List.drop_succ_cons, List.drop_zero]
            repeat ((with_reducible apply soft_detG); (case hwa => rfl); (case hA => rfl); (case h => (intro w1 hw1; have hc := hcells w1 hw1; go_simp; exact rfl)); go_simp)
            refine soft_callW (A0 := #[.agg (senCells r0 r1 r2 r3 r4 r5 ev d), .agg #[.int .i16 m.a, .int .i16 m.b, .int .i16 m.c]]) (by rfl) rfl ?h (fun w2 _ => c_vecOf r0 r1 r2 r3 r4 r5 ev d m.a m.b m.c w2) (fun v hv => (svM_1 (by decide)).2 hv) (fun v hv => (svM_1 (by decide)).1 hv) ?_
            case h => (intro w1 hw1; have hc := hcells w1 hw1; go_simp; try exact ⟨rfl, rfl⟩)
            rintro v ⟨sx, sy, sz, rfl, f1, f2, f3⟩
            go_simp
            repeat ((with_reducible apply soft_detG); (case hwa => rfl); (case hA => rfl); (case h => (intro w1 hw1; have hc := hcells w1 hw1; go_simp; exact rfl)); go_simp)
            refine soft_nil ?_
            rintro w5 ⟨hw5, _⟩
            obtain ⟨_, hst, hres, _⟩ := HW.out w5 (hb.out.trans hw5)
            have hfin := Lib.hid (show FIs .f32 sx (vaX (vX r0 r3) rs time (vaI rs time)) ∧ FIs .f32 sy (vaX (vY r1 r4) rs time (vaI rs time)) ∧ FIs .f32 sz (vaX (vZ r2 r5) rs time (vaI rs time)) from by
              rw [hvi.out]
              unfold vaX
              simp only [if_pos hfnd.out.2]
              rw [hmk.out]
              exact ⟨f1, f2, f3⟩)
            clear f1 f2 f3 hcells
            go_wp2_with ((refine wpList_store_row rfl _ _ _ rfl _ _ _ rfl rfl hres ?hi ?ho ?h1 ?hB hst ?_); (case hi => kernel_rfl); (case ho => rfl); (case h1 => first | rfl | simp [Value.oneCell']); (case hB => first | omega | (simp <;> omega)); intro w9 hw9 hq9 ho9 hsz9)
            apply end_gd rfl rfl rfl Try.underlying28 rfl (t := 28)
            case hg => exact hq9
            case hi => kernel_rfl
            case hR => exact ⟨_, _, _, rfl, hfin.out.1, hfin.out.2.1, hfin.out.2.2, hw9⟩
          · rw [decide_eq_false hfnd]
            have hp0 : p ≠ 0 := fun e => by
              have h1 := hab.out 0 (by omega) hR.out.1
              exact hfnd ⟨by have := hR.out.1; omega, by rw [e]; have := hR.out.2.1; omega⟩
            have hpl : p ≠ rs.length := fun e => by
              have h1 := hbl.out (rs.length - 1) (by omega)
              have := hR.out.2.2
              omega
            obtain ⟨k, rfl⟩ : ∃ k, p = k + 1 := ⟨p - 1, by omega⟩
            have hk4 : k + 1 < rs.length := by omega
            have hlt1 := hbl.out k (by omega)
            have hgt1 : time < tAt rs (k + 1) := by
              have h1 := hab.out (k + 1) (Nat.le_refl _) hk4
              have h2 : ¬ tAt rs (k + 1) = time := fun e => hfnd ⟨hk4, e⟩
              omega
            have hV : VaI rs time k := ⟨by omega, fun j hj => Int.le_of_lt (hbl.out j (by omega)), fun _ => hgt1⟩
            have hvi := Lib.hid (vaI_eq hV)
            obtain ⟨ad, rfl⟩ := hA (by omega)
            have hp0' : ((k : Int) + 1 == 0) = false := beq_eq_false_iff_ne.2 (by omega)
            have hp1' : ((k : Int) + 1 == (rs.length : Int)) = false := beq_eq_false_iff_ne.2 (by omega)
            have hk5 : IntKind.i64.wrap ((k : Int) + 1 - 1) = (k : Int) := by rw [show (k : Int) + 1 - 1 = (k : Int) by omega]; exact IntWalk.i64_in _ (by omega)
            have hk6 : (k : Int) + 1 - 1 = (k : Int) := by omega
            have hk7 : (k : Int) < (rs.length : Int) := by omega
            have hk8 : (k : Int) + 1 < (rs.length : Int) := by omega
            have hk9 : ((k : Int) + 1).toNat = k + 1 := by omega
            have hk10 : k < rs.length := by omega
            have hk11 : IntKind.i64.wrap (k : Int) = (k : Int) := IntWalk.i64_in _ (by omega)
            have hk12 : ¬ (k : Int) < 0 := by omega
            have hk13 : (0 : Int) ≤ (k : Int) := by omega
            replace hfnd := Lib.hid hfnd
            have hgk : rs[k]? = some rs[k] := List.getElem?_eq_getElem hk10
            obtain ⟨_, hm⟩ := H.out w2 hb.out ad rfl k _ hgk
            have hmk := Lib.hid (getD_of hgk)
            have hmt : Hid (rs[k].t = tAt rs k) := Lib.hid (by unfold tAt; rw [hmk.out])
            generalize rs[k] = m at hm hmk hmt
            have hgn : rs[k + 1]? = some rs[k + 1] := List.getElem?_eq_getElem hk4
            obtain ⟨_, hn'⟩ := H.out w2 hb.out ad rfl (k + 1) _ hgn
            have hnk := Lib.hid (getD_of hgn)
            have hnt : Hid (rs[k + 1].t = tAt rs (k + 1)) := Lib.hid (by unfold tAt; rw [hnk.out])
            generalize rs[k + 1] = m' at hn' hnk hnt
            have tk1 := htime.out k hk10
            have tn1 := htime.out (k + 1) hk4
            rw [← hmt.out] at tk1 hlt1
            rw [← hnt.out] at tn1 hgt1
            have hC := Lib.hid fun W (hW : Stays w2 W) => And.intro (hm W hW) (hn' W hW)
            clear hV hgk hgn hbl hab hA hm hn'
            go_upto_region 10 with fail
            go_cut [10, 11] from 53 to 61 (fun s10 s11 wx => TwoRd w2 m m' s10 s11 wx)
            case first =>
              have h1 := Lib.hid (show Stays w2 w2.drew from (Stays.refl w2).drew)
              go_region_held (fun w' => ((w'.cell? (ad.add (k * 4)) = some (.int .i64 m.t) ∧ w'.cell? ⟨((ad.add (k * 4))).block, ((ad.add (k * 4))).off + 1, none⟩ = some (.int .i16 m.a) ∧ w'.cell? ⟨((ad.add (k * 4))).block, ((ad.add (k * 4))).off + 2, none⟩ = some (.int .i16 m.b) ∧ w'.cell? ⟨((ad.add (k * 4))).block, ((ad.add (k * 4))).off + 3, none⟩ = some (.int .i16 m.c)) ∧ (w'.cell? (ad.add ((k + 1) * 4)) = some (.int .i64 m'.t) ∧ w'.cell? ⟨((ad.add ((k + 1) * 4))).block, ((ad.add ((k + 1) * 4))).off + 1, none⟩ = some (.int .i16 m'.a) ∧ w'.cell? ⟨((ad.add ((k + 1) * 4))).block, ((ad.add ((k + 1) * 4))).off + 2, none⟩ = some (.int .i16 m'.b) ∧ w'.cell? ⟨((ad.add ((k + 1) * 4))).block, ((ad.add ((k + 1) * 4))).off + 3, none⟩ = some (.int .i16 m'.c)))) (first | exact hC.out _ h1.out | exact hC.out _ (h1.out.alloc _) | exact hC.out _ ((h1.out.alloc _).alloc _) | exact hC.out _ (st4 ((h1.out.alloc _).alloc _) (Nat.le_refl _) _ _ _ _) | exact hC.out _ (st4 ((h1.out.alloc _).alloc _) (Nat.le_succ _) _ _ _ _)) (fail)
              all_goals (go_wp2_with fail; go_meet; (first | exact TwoRd.ab _ _ (Stays.refl _) | exact TwoRd.ba _ _ (Stays.refl _)))
            case rest =>
            obtain ⟨pm, pn, rfl, rfl, hgm, hgn, hs3⟩ := hcut
            rename World => w3
            replace hb := Lib.hid (hb.out.trans hs3)
            have hC2 := Lib.hid fun W (hW : Stays w3 W) => And.intro (HW.out W (hb.out.trans hW)).1 (And.intro (rd_cells hgm W hW) (rd_cells hgn W hW))
            have w1_ : IntKind.i64.wrap (time - m.t) = time - m.t := IntWalk.i64_in _ (by omega)
            have w2_ : IntKind.i64.wrap (m'.t - m.t) = m'.t - m.t := IntWalk.i64_in _ (by omega)
            obtain ⟨_, ⟨c0, _⟩, ⟨d0, _⟩⟩ := hC2.out w3 (Stays.refl _)
            clear hC hs3 hgm hgn
            go_upto_region 12 with ((with_reducible refine wpList_fop rfl _ _ _ _ _ rfl rfl _ _ _ rfl rfl ?_); intro rq nq hrq; have hq := Lib.hid hrq; clear hrq)
            clear c0 d0 w1_ w2_
            have hC3 := Lib.hid fun W (hW : Stays (w3.drewN nq) W) => hC2.out W ((Stays.refl w3).drewN nq |>.trans hW)
            replace hb := Lib.hid (hb.out.trans ((Stays.refl w3).drewN nq))
            clear hC2
            generalize w3.drewN nq = w3 at hC3 hb ⊢
            have hcells := fun W (hW : Stays w3 W) => hC3.out W hW
            refine wp_region_soft_tail3 10 (Stays.refl _) (svM 58 59) [(13, #[.float .f32 0, .float .f32 0, .float .f32 0], 28), (14, #[.float .f32 0, .float .f32 0, .float .f32 0], 28)] (by kernel_rfl) (by kernel_rfl) (by simp [undef]) ?_
            simp only [List.take_succ_cons, List.take_zero, List.drop_succ_cons, List.drop_zero]
            repeat ((with_reducible apply soft_detG); (case hwa => rfl); (case hA => rfl); (case h => (intro w1 hw1; have hc := hcells w1 hw1; go_simp; exact rfl)); go_simp)
            refine soft_callW (A0 := #[.agg (senCells r0 r1 r2 r3 r4 r5 ev d), .agg #[.int .i16 m.a, .int .i16 m.b, .int .i16 m.c]]) (by rfl) rfl ?h (fun w2 _ => c_vecOf r0 r1 r2 r3 r4 r5 ev d m.a m.b m.c w2) (fun v hv => (svM_1 (by decide)).2 hv) (fun v hv => (svM_1 (by decide)).1 hv) ?_
            case h => (intro w1 hw1; have hc := hcells w1 hw1; go_simp; try exact ⟨rfl, rfl⟩)
            rintro v ⟨sx, sy, sz, rfl, f1, f2, f3⟩
            go_simp
            repeat ((with_reducible apply soft_detG); (case hwa => rfl); (case hA => rfl); (case h => (intro w1 hw1; have hc := hcells w1 hw1; go_simp; exact rfl)); go_simp)
            refine soft_callW (A0 := #[.agg (senCells r0 r1 r2 r3 r4 r5 ev d), .agg #[.int .i16 m'.a, .int .i16 m'.b, .int .i16 m'.c]]) (by rfl) rfl ?h (fun w2 _ => c_vecOf r0 r1 r2 r3 r4 r5 ev d m'.a m'.b m'.c w2) (fun v hv => (svM_1 (by decide)).2 hv) (fun v hv => (svM_1 (by decide)).1 hv) ?_
            case h => (intro w1 hw1; have hc := hcells w1 hw1; go_simp; try exact ⟨rfl, rfl⟩)
            rintro v ⟨tx, ty, tz, rfl, g1, g2, g3⟩
            go_simp
            refine soft_alloc (cs := #[.float .f32 0, .float .f32 0, .float .f32 0]) (t := 28) rfl rfl ?hA ?h ?hK
            case hA => intro e he hd; simp at he; rcases he with rfl | rfl <;> first | rfl | simp at hd
            case h => intro w1 hw1; go_simp
            case hK =>
            intro p0 hp0
            go_simp
            refine soft_alloc (cs := #[.float .f32 0, .float .f32 0, .float .f32 0]) (t := 28) rfl rfl ?hA ?h ?hK
            case hA => intro e he hd; simp at he; rcases he with rfl | rfl <;> first | rfl | simp at hd
            case h => intro w1 hw1; go_simp
            case hK =>
            intro q0' hq0
            go_simp
            refine soft_nil ?_
            rintro w10 ⟨⟨hw10, hk⟩, hdis⟩
            have hk13 : w10.heap[p0]? = some (.cells #[.float .f32 0, .float .f32 0, .float .f32 0] 28 (0, 0)) := hk _ (List.mem_cons_self ..) p0 hp0 rfl
            have hk14 : w10.heap[q0']? = some (.cells #[.float .f32 0, .float .f32 0, .float .f32 0] 28 (0, 0)) := hk _ (List.mem_cons_of_mem _ (List.mem_cons_self ..)) q0' hq0 rfl
            have hne : p0 ≠ q0' := fun e => hdis _ (List.mem_cons_self ..) _ (List.mem_cons_of_mem _ (List.mem_cons_self ..)) (by decide) p0 hp0 rfl (by rw [e]; rfl)
            clear hk hdis hcells
            refine wpList_store_row rfl _ _ _ rfl p0 _ _ rfl rfl hk13 ?hi ?ho ?h1 hp0 hw10 ?_
            case hi => kernel_rfl
            case ho => rfl
            case h1 => first | rfl | simp [Value.oneCell']
            intro w11 hw11 hq11 hoth hsam
            have hk14' := (hoth q0' (in_heap hk14) (Ne.symm hne)).trans hk14
            clear hoth hsam hw10 hk13 hk14
            refine wpList_store_row rfl _ _ _ rfl q0' _ _ rfl rfl hk14' ?hi ?ho ?h1 hq0 hw11 ?_
            case hi => kernel_rfl
            case ho => rfl
            case h1 => first | rfl | simp [Value.oneCell']
            intro w12 hw12 hq12 hoth hsam
            have hrow := Lib.hid ((hoth p0 (in_heap hq11) hne).trans hq11)
            have hs := Lib.hid hw12
            have c0 : w12.cell? ⟨q0', 0, none⟩ = some (.float .f32 tx) := cell_of_row _ _ _ _ _ _ hq12
            have c1 : w12.cell? ⟨q0', 1, none⟩ = some (.float .f32 ty) := cell_of_row _ _ _ _ _ _ hq12
            have c2 : w12.cell? ⟨q0', 2, none⟩ = some (.float .f32 tz) := cell_of_row _ _ _ _ _ _ hq12
            have ei0 : ∀ W, (Instr.index 28 (.agg #[.float .f32 tx, .float .f32 ty, .float .f32 tz]) (.int .i64 0)).run Try.prog W = .ok (.float .f32 tx) W := fun _ => by kernel_rfl
            have ei1 : ∀ W, (Instr.index 28 (.agg #[.float .f32 tx, .float .f32 ty, .float .f32 tz]) (.int .i64 1)).run Try.prog W = .ok (.float .f32 ty) W := fun _ => by kernel_rfl
            have ei2 : ∀ W, (Instr.index 28 (.agg #[.float .f32 tx, .float .f32 ty, .float .f32 tz]) (.int .i64 2)).run Try.prog W = .ok (.float .f32 tz) W := fun _ => by kernel_rfl
            have hvq : Hid (can .f32 rq = vaQ rs time k) := Lib.hid (by rw [hq.out.out]; unfold vaQ; rw [hmt.out, hnt.out])
            have hF := Lib.hid (And.intro f1 (And.intro f2 f3))
            have hG := Lib.hid (And.intro g1 (And.intro g2 g3))
            have hge0 := Lib.hid hp0
            clear hoth hsam hw11 hq11 hk14' hw12 hq12 f1 f2 f3 g1 g2 g3 hne hp0 hq0
            go_wp2_with fail
            clear c0 c1 c2
            refine wp_loop_rounds 4 ?_
            rw [rounds_succ]
            have c9 := cell_of_row _ _ 0 _ _ _ hrow.out
            go_wp2_with fail
            clear c9
            refine (c_betw sx tx rq _).mono ?_
            rintro e v0 ⟨x0, rfl, hx0', hv⟩
            have hx0 := Lib.hid hx0'
            replace hrow := Lib.hid ((Below.block hv _ (in_heap hrow.out)).trans hrow.out)
            replace hs := Lib.hid (hs.out.trans hv)
            clear hv hx0'
            have c9 := cell_of_row _ _ 0 _ _ _ hrow.out
            have f9 := frozen_of_row _ _ 0 _ _ hrow.out
            go_wp2_with fail
            clear c9 f9
            have hrowN : (v0.setCell ⟨p0, 0, none⟩ (.float .f32 x0)).heap[p0]? = some (.cells #[.float .f32 x0, .float .f32 sy, .float .f32 sz] 28 (0, 0)) := heap_setCell_same v0 p0 0 _ _ (.float .f32 x0) hrow.out
            have hsN : Stays w3 (v0.setCell ⟨p0, 0, none⟩ (.float .f32 x0)) := Below.setCell (show Below w3.heap.size w3 v0 from hs.out) hge0.out _
            replace hrow := Lib.hid hrowN
            replace hs := Lib.hid hsN
            clear hrowN hsN
            generalize (v0.setCell ⟨p0, 0, none⟩ (.float .f32 x0)) = u0 at hrow hs ⊢
            rw [rounds_succ]
            have c9 := cell_of_row _ _ 1 _ _ _ hrow.out
            go_wp2_with fail
            clear c9
            refine (c_betw sy ty rq _).mono ?_
            rintro e v1 ⟨x1, rfl, hx1', hv⟩
            have hx1 := Lib.hid hx1'
            replace hrow := Lib.hid ((Below.block hv _ (in_heap hrow.out)).trans hrow.out)
            replace hs := Lib.hid (hs.out.trans hv)
            clear hv hx1'
            have c9 := cell_of_row _ _ 1 _ _ _ hrow.out
            have f9 := frozen_of_row _ _ 1 _ _ hrow.out
            go_wp2_with fail
            clear c9 f9
            have hrowN : (v1.setCell ⟨p0, 1, none⟩ (.float .f32 x1)).heap[p0]? = some (.cells #[.float .f32 x0, .float .f32 x1, .float .f32 sz] 28 (0, 0)) := heap_setCell_same v1 p0 1 _ _ (.float .f32 x1) hrow.out
            have hsN : Stays w3 (v1.setCell ⟨p0, 1, none⟩ (.float .f32 x1)) := Below.setCell (show Below w3.heap.size w3 v1 from hs.out) hge0.out _
            replace hrow := Lib.hid hrowN
            replace hs := Lib.hid hsN
            clear hrowN hsN
            generalize (v1.setCell ⟨p0, 1, none⟩ (.float .f32 x1)) = u1 at hrow hs ⊢
            rw [rounds_succ]
            have c9 := cell_of_row _ _ 2 _ _ _ hrow.out
            go_wp2_with fail
            clear c9
            refine (c_betw sz tz rq _).mono ?_
            rintro e v2 ⟨x2, rfl, hx2', hv⟩
            have hx2 := Lib.hid hx2'
            replace hrow := Lib.hid ((Below.block hv _ (in_heap hrow.out)).trans hrow.out)
            replace hs := Lib.hid (hs.out.trans hv)
            clear hv hx2'
            have c9 := cell_of_row _ _ 2 _ _ _ hrow.out
            have f9 := frozen_of_row _ _ 2 _ _ hrow.out
            go_wp2_with fail
            clear c9 f9
            have hrowN : (v2.setCell ⟨p0, 2, none⟩ (.float .f32 x2)).heap[p0]? = some (.cells #[.float .f32 x0, .float .f32 x1, .float .f32 x2] 28 (0, 0)) := heap_setCell_same v2 p0 2 _ _ (.float .f32 x2) hrow.out
            have hsN : Stays w3 (v2.setCell ⟨p0, 2, none⟩ (.float .f32 x2)) := Below.setCell (show Below w3.heap.size w3 v2 from hs.out) hge0.out _
            replace hrow := Lib.hid hrowN
            replace hs := Lib.hid hsN
            clear hrowN hsN
            generalize (v2.setCell ⟨p0, 2, none⟩ (.float .f32 x2)) = u2 at hrow hs ⊢
            rw [rounds_succ]
            have e0 := cell_of_row _ _ 0 _ _ _ hrow.out
            have e1 := cell_of_row _ _ 1 _ _ _ hrow.out
            have e2 := cell_of_row _ _ 2 _ _ _ hrow.out
            obtain ⟨_, hst, hres, _⟩ := HW.out u2 (hb.out.trans hs.out)
            have hfin := Lib.hid (show FIs .f32 x0 (vaX (vX r0 r3) rs time (vaI rs time)) ∧ FIs .f32 x1 (vaX (vY r1 r4) rs time (vaI rs time)) ∧ FIs .f32 x2 (vaX (vZ r2 r5) rs time (vaI rs time)) from by
              rw [hvi.out]
              have hne : ¬ tAt rs k = time := by rw [← hmt.out]; omega
              unfold vaX
              simp only [if_neg hne]
              rw [hmk.out, hnk.out, ← hvq.out]
              exact ⟨hx0.out.of_eq (by rw [hF.out.1.out, hG.out.1.out]; rfl), hx1.out.of_eq (by rw [hF.out.2.1.out, hG.out.2.1.out]; rfl), hx2.out.of_eq (by rw [hF.out.2.2.out, hG.out.2.2.out]; rfl)⟩)
            go_wp2_with ((refine wpList_store_row rfl _ _ _ rfl _ _ _ rfl rfl hres ?hi ?ho ?h1 ?hB hst ?_); (case hi => kernel_rfl); (case ho => rfl); (case h1 => first | rfl | simp [Value.oneCell']); (case hB => first | omega | (simp <;> omega)); intro w9 hw9 hq9 ho9 hsz9)
            apply end_gd rfl rfl rfl Try.underlying28 rfl (t := 28)
            case hg => exact hq9
            case hi => kernel_rfl
            case hR => exact ⟨_, _, _, rfl, hfin.out.1, hfin.out.2.1, hfin.out.2.2, hw9⟩
        · simp only [if_neg hR]
          replace hR := Lib.hid hR
          go_enter Try.func35, Try.ntmps35
          obtain ⟨⟨⟨q0, q1, q2⟩, ⟨q3, q4, q5⟩, q6, q7⟩, _⟩ := HW.out _ (Stays.refl _)
          go_wp2_with fail
          generalize ((w.alloc (.cells #[.float .f32 r0, .float .f32 r1, .float .f32 r2, .float .f32 r3, .float .f32 r4, .float .f32 r5, .int .i64 ev, .int .i64 d] 32)).alloc (.cells #[.float .f32 0, .float .f32 0, .float .f32 0] 28)) = W0 at HW kS kF kB H q0 q1 q2 q3 q4 q5 q6 q7 ⊢
          with_reducible refine (kS.out W0 (Stays.refl _)).mono ?_
          rintro e w1 ⟨rfl, hb⟩
          replace hb := Lib.hid (show Stays W0 w1 from hb)
          clear q0 q1 q2 q3 q4 q5 q6 q7
          go_wp2_with fail
          with_reducible refine (kF.out w1 hb.out).mono ?_
          rintro e w1' ⟨rfl, hb'⟩
          replace hb := Lib.hid (hb.out.trans (show Stays w1 w1' from hb'))
          clear hb'
          obtain ⟨_, hst, hres, _⟩ := HW.out _ hb.out
          clear kS kF
          clear hst hres
          go_wp2_with fail
          with_reducible refine (c_isTime time _).mono ?_
          rintro e wt ⟨rfl, rfl⟩
          rw [ht]
          go_wp2_with fail
          with_reducible refine (kB.out _ hb.out).mono ?_
          rintro e w2 ⟨p, hP, rfl, hw2⟩
          replace hb := Lib.hid (hb.out.trans hw2)
          clear hw2 kB
          have hlt' : ∀ k, icmp (tAt rs k) time < 0 → tAt rs k < time := fun k hneg => by
            unfold icmp at hneg
            by_cases g : tAt rs k < time
            · exact g
            · rw [if_neg g] at hneg; split at hneg <;> omega
          have hge' : ∀ k, 0 ≤ icmp (tAt rs k) time → time ≤ tAt rs k := fun k hneg => by
            unfold icmp at hneg
            by_cases g : tAt rs k < time
            · rw [if_pos g] at hneg; omega
            · omega
          have hz' : ∀ k, icmp (tAt rs k) time = 0 ↔ tAt rs k = time := fun k => by
            unfold icmp
            constructor
            · intro g; split at g
              · omega
              · split at g <;> omega
            · intro g; rw [if_neg (by omega), if_neg (by omega)]
          have hP1 := hP.1
          have hbl := Lib.hid fun t (g : t < p) => hlt' t (hP.2.1 t g)
          have hab := Lib.hid fun t (g : p ≤ t) (g2 : t < rs.length) => hge' t (hP.2.2 t g g2)
          have hfe : (decide (p < rs.length) && decide (icmp (tAt rs p) time = 0)) = decide (p < rs.length ∧ tAt rs p = time) := by
            by_cases g1 : p < rs.length
            · by_cases g2 : tAt rs p = time
              · rw [decide_eq_true g1, decide_eq_true ((hz' p).2 g2), decide_eq_true ⟨g1, g2⟩]; rfl
              · rw [decide_eq_true g1, decide_eq_false (show ¬ icmp (tAt rs p) time = 0 from fun g => g2 ((hz' p).1 g)), decide_eq_false (show ¬ (p < rs.length ∧ tAt rs p = time) from fun g => g2 g.2)]; rfl
            · rw [decide_eq_false g1, decide_eq_false (show ¬ (p < rs.length ∧ tAt rs p = time) from fun g => g1 g.1)]; rfl
          rw [hfe]
          clear hfe hz' hge' hlt' hP
          have hnN : ((rs.length : Nat) : Int) = (rs.length : Int) := rfl
          clear hnN
          by_cases hfnd : p < rs.length ∧ tAt rs p = time
          · exfalso
            exact hR.out ⟨by omega, by
              rcases Nat.eq_zero_or_pos p with e | e
              · have := hfnd.2; rw [e] at this; omega
              · exact Int.le_of_lt (hbl.out 0 e), hab.out _ (by omega) (by omega)⟩
          · rw [decide_eq_false hfnd]
            by_cases hp0 : p = 0
            · have hp0' : ((p : Int) == 0) = true := by rw [hp0]; rfl
              replace hp0 := Lib.hid hp0
              replace hfnd := Lib.hid hfnd
              obtain ⟨_, hst, hres, _⟩ := HW.out w2 hb.out
              go_wp2_with ((refine wpList_store_row rfl _ _ _ rfl _ _ _ rfl rfl hres ?hi ?ho ?h1 ?hB hst ?_); (case hi => kernel_rfl); (case ho => rfl); (case h1 => first | rfl | simp [Value.oneCell']); (case hB => first | omega | (simp <;> omega)); intro w9 hw9 hq9 ho9 hsz9)
              apply end_gd rfl rfl rfl Try.underlying28 rfl (t := 28)
              case hg => exact hq9
              case hi => kernel_rfl
              case hR => exact ⟨_, _, _, rfl, FIs.self (by decide), FIs.self (by decide), FIs.self (by decide), hw9⟩
            · by_cases hpl : p = rs.length
              · have hp0' : ((p : Int) == 0) = false := beq_eq_false_iff_ne.2 (by omega)
                have hp1' : ((p : Int) == (rs.length : Int)) = true := by rw [hpl]; exact beq_self_eq_true _
                replace hp0 := Lib.hid hp0
                replace hpl := Lib.hid hpl
                replace hfnd := Lib.hid hfnd
                obtain ⟨_, hst, hres, _⟩ := HW.out w2 hb.out
                go_wp2_with ((refine wpList_store_row rfl _ _ _ rfl _ _ _ rfl rfl hres ?hi ?ho ?h1 ?hB hst ?_); (case hi => kernel_rfl); (case ho => rfl); (case h1 => first | rfl | simp [Value.oneCell']); (case hB => first | omega | (simp <;> omega)); intro w9 hw9 hq9 ho9 hsz9)
                apply end_gd rfl rfl rfl Try.underlying28 rfl (t := 28)
                case hg => exact hq9
                case hi => kernel_rfl
                case hR => exact ⟨_, _, _, rfl, FIs.self (by decide), FIs.self (by decide), FIs.self (by decide), hw9⟩
              · exfalso
                exact hR.out ⟨by omega, Int.le_of_lt (hbl.out 0 (by omega)), hab.out _ (by omega) (by omega)⟩

end Go.Proofs.Ytmcbeaihjdnelaa

namespace Go.Proofs.Ytmcbeaihjdnelaa
open Go Go.ChangeShapes Go.WideShapes Go.RowKit
set_option linter.unusedVariables false
set_option linter.unusedSimpArgs false

theorem va_by {v : Value} {ins : List NV} (h : Sen v ins) (rs : List Rd) (time : Int) : vaV (vX (sw v 0) (sw v 3)) (sensB ins) (feedB rs) (okTime time) rs time = vaV (vXo (sn ins 0) (sn ins 3)) (sensB ins) (feedB rs) (okTime time) rs time ∧ vaV (vY (sw v 1) (sw v 4)) (sensB ins) (feedB rs) (okTime time) rs time = vaV (vYo (sn ins 1) (sn ins 4)) (sensB ins) (feedB rs) (okTime time) rs time ∧ vaV (vZ (sw v 2) (sw v 5)) (sensB ins) (feedB rs) (okTime time) rs time = vaV (vZo (sn ins 2) (sn ins 5)) (sensB ins) (feedB rs) (okTime time) rs time := by
  obtain ⟨⟨e0, e1, e2⟩, e3, e4, e5⟩ := sen_can h
  unfold vX vY vZ vXo vYo vZo
  rw [e0, e1, e2, e3, e4, e5]
  exact ⟨rfl, rfl, rfl⟩

set_option maxRecDepth 100000 in
set_option maxHeartbeats 2000000 in
theorem c_lawValueAt (vs : Value) (ins : List NV) (hs : Sen vs ins) (A : Option Addr) (c : Nat) (time : Int) (rs : List Rd) (w : World) (h : Feed w w.heap.size A rs) (hn : rs.length ≤ 9223372036854775807) :
    Calls Try.prog 7 #[vs, .slice A rs.length c, .int .i64 time] w fun e w' => e = .returned (.bool true) ∧ Below w.heap.size w w' := by
  obtain ⟨r0, r1, r2, r3, r4, r5, ev, d, rfl, hdd⟩ := hs.cells
  clear hdd
  obtain ⟨wa, hwa⟩ : ∃ wa, wa = w.alloc (.cells (senCells r0 r1 r2 r3 r4 r5 ev d) 25) := ⟨_, rfl⟩
  have hal : Below w.heap.size w wa := by rw [hwa]; exact (Below.refl _ _).alloc (Nat.le_refl _) _
  have hbox : wa.heap[w.heap.size]? = some (.cells (senCells r0 r1 r2 r3 r4 r5 ev d) 25 (0, 0)) := by rw [hwa]; exact heap_alloc_new w _
  have hlt : w.heap.size < wa.heap.size := (Array.getElem?_eq_some_iff.1 hbox).1
  have hbx : Boxed wa w.heap.size r0 r1 r2 r3 r4 r5 ev d := by
    have k : ∀ o, wa.cell? ⟨w.heap.size, o, none⟩ = (senCells r0 r1 r2 r3 r4 r5 ev d)[o]? := fun o => cell_of_row _ _ o _ _ _ hbox
    exact ⟨k 0, k 1, k 2, k 3, k 4, k 5, k 6, k 7⟩
  have H := Lib.hid ((h.below hal).more hal.size)
  have hs := Lib.hid hs
  have hal := Lib.hid hal
  have hlt := Lib.hid hlt
  have hbx := Lib.hid hbx
  clear h hbox
  go_enter Try.func7, Try.ntmps7
  go_wp2_with fail
  rw [show w.alloc (.cells #[.float .f32 r0, .float .f32 r1, .float .f32 r2, .float .f32 r3, .float .f32 r4, .float .f32 r5, .int .i64 ev, .int .i64 d] 25) = wa from hwa.symm]
  clear hwa
  refine (c_szReadingS A c rs.length _ _ hn (by omega) (by omega)).mono ?_
  rintro e w' ⟨rfl, rfl⟩
  by_cases hl : rs.length ≤ 1048576
  · have hl1 : ¬ ((1048576 : Int) - (rs.length : Nat) < 0) := by omega
    rw [if_neg hl1]
    have hS := fun v (hv : Sen v ins) A c w h => c_specValueAt v ins hv A c time rs w h hl
    have hI := fun v (hv : Sen v ins) A c w h (hc : rs.length ≤ c) => c_implValueAt v ins hv A c time rs w h hl
    have hE := fun v (hv : Sen v ins) => va_by hv rs time
    replace hS := fun v (hv : Sen v ins) A c w h => show Calls Try.prog 34 #[v, .slice A rs.length c, .int .i64 time] w (V3Done w (vaC (sensB ins) (feedB rs) (okTime time) rs time) (vaV (vXo (sn ins 0) (sn ins 3)) (sensB ins) (feedB rs) (okTime time) rs time) (vaV (vYo (sn ins 1) (sn ins 4)) (sensB ins) (feedB rs) (okTime time) rs time) (vaV (vZo (sn ins 2) (sn ins 5)) (sensB ins) (feedB rs) (okTime time) rs time)) from by
      have := hS v hv A c w h
      rw [(hE v hv).1, (hE v hv).2.1, (hE v hv).2.2] at this
      exact this
    replace hI := fun v (hv : Sen v ins) A c w h (hc : rs.length ≤ c) => show Calls Try.prog 35 #[v, .slice A rs.length c, .int .i64 time] w (V3Done w (vaC (sensB ins) (feedB rs) (okTime time) rs time) (vaV (vXo (sn ins 0) (sn ins 3)) (sensB ins) (feedB rs) (okTime time) rs time) (vaV (vYo (sn ins 1) (sn ins 4)) (sensB ins) (feedB rs) (okTime time) rs time) (vaV (vZo (sn ins 2) (sn ins 5)) (sensB ins) (feedB rs) (okTime time) rs time)) from by
      have := hI v hv A c w h hc
      rw [(hE v hv).1, (hE v hv).2.1, (hE v hv).2.2] at this
      exact this
    clear hE
    generalize vaC (sensB ins) (feedB rs) (okTime time) rs time = code at hS hI
    generalize vaV (vXo (sn ins 0) (sn ins 3)) (sensB ins) (feedB rs) (okTime time) rs time = oa at hS hI
    generalize vaV (vYo (sn ins 1) (sn ins 4)) (sensB ins) (feedB rs) (okTime time) rs time = ob at hS hI
    generalize vaV (vZo (sn ins 2) (sn ins 5)) (sensB ins) (feedB rs) (okTime time) rs time = oc at hS hI
    replace hS := Lib.hid hS
    replace hI := Lib.hid hI
    obtain ⟨b0, b1, b2, b3, b4, b5, b6, b7⟩ := hbx.out
    have hvv : (code != code) = false := by simp
    go_wp2_with fail
    refine (c_toSensor _ _ wa hs.out).mono ?_
    clear b0 b1 b2 b3 b4 b5 b6 b7
    rintro e w0 ⟨s0, rfl, hs0, hw0⟩
    have hs0 := Lib.hid hs0
    have hB0 := Lib.hid hw0
    clear hw0
    go_wp2_with fail
    refine (c_toReadingS A c rs w0 ((H.out.below hB0.out).more hB0.out.size) hl).mono ?_
    rintro e w1 ⟨rfl, h1⟩
    have h1 := Lib.hid h1
    have hB1 : Hid (Below wa.heap.size wa w1) := Lib.hid (hB0.out.trans (h1.out.below.mono hB0.out.size))
    go_wp2_with fail
    refine (hS.out _ hs0.out _ _ w1 h1.out.feed).mono ?_
    rintro e w2 ⟨ax, ay, az, rfl, fa, fb, fc, h2⟩
    have hrow0 := Lib.hid (heap_alloc_new w2 (.cells #[.float .f32 ax, .float .f32 ay, .float .f32 az] 28))
    have h2' : Stays w1 (w2.alloc (.cells #[.float .f32 ax, .float .f32 ay, .float .f32 az] 28)) := Stays.trans h2 (by (repeat (first | exact Stays.refl _ | (with_reducible refine Stays.drewN ?_ _) | (with_reducible refine Stays.alloc ?_ _) | (with_reducible refine Stays.drew ?_) | (refine Stays.trans ?_ ‹Stays _ _›))))
    have hB2 := Lib.hid (hB1.out.trans (Below.mono h2' hB1.out.size))
    have hfa := Lib.hid (And.intro fa (And.intro fb fc))
    clear h2 h2' fa fb fc h1 hs0
    go_wp2_with fail
    generalize (w2.alloc (.cells #[.float .f32 ax, .float .f32 ay, .float .f32 az] 28)) = W2 at hB2 hrow0 ⊢
    generalize w2.heap.size = pa at hrow0 ⊢
    refine (c_toReadingS A c rs W2 ((H.out.below hB2.out).more hB2.out.size) hl).mono ?_
    rintro e w3 ⟨rfl, h3⟩
    have h3 := Lib.hid h3
    have hB3 : Hid (Below wa.heap.size wa w3) := Lib.hid (hB2.out.trans (h3.out.below.mono hB2.out.size))
    have hLx := Lib.hid h3.out.lies
    replace hrow0 := Lib.hid ((Below.block h3.out.below _ (in_heap hrow0.out)).trans hrow0.out)
    obtain ⟨b0, b1, b2, b3, b4, b5, b6, b7⟩ := hbx.out.on hB3.out hlt.out
    go_wp2_with fail
    refine (c_toSensor _ _ w3 hs.out).mono ?_
    clear b0 b1 b2 b3 b4 b5 b6 b7
    rintro e w3' ⟨s1, rfl, hs1, hw3⟩
    have hs1 := Lib.hid hs1
    have hw3 := Lib.hid hw3
    have hB3' : Hid (Below wa.heap.size wa w3') := Lib.hid (hB3.out.trans (hw3.out.mono hB3.out.size))
    have hLx := Lib.hid (hLx.out.below hw3.out)
    replace hrow0 := Lib.hid ((Below.block hw3.out _ (in_heap hrow0.out)).trans hrow0.out)
    go_wp2_with fail
    refine (hI.out _ hs1.out _ _ w3' ((h3.out.feed.below hw3.out).more hw3.out.size) (Nat.le_refl _)).mono ?_
    rintro e w4 ⟨jx, jy, jz, rfl, fa, fb, fc, h4⟩
    have h4' : Stays w3' (w4.alloc (.cells #[.float .f32 jx, .float .f32 jy, .float .f32 jz] 28)) := Stays.trans h4 (by (repeat (first | exact Stays.refl _ | (with_reducible refine Stays.drewN ?_ _) | (with_reducible refine Stays.alloc ?_ _) | (with_reducible refine Stays.drew ?_) | (refine Stays.trans ?_ ‹Stays _ _›))))
    have hrow1 := Lib.hid (heap_alloc_new w4 (.cells #[.float .f32 jx, .float .f32 jy, .float .f32 jz] 28))
    have hB4 := Lib.hid (hB3'.out.trans (Below.mono h4' hB3'.out.size))
    have hLx := Lib.hid (hLx.out.below h4')
    replace hrow0 := Lib.hid ((Below.block h4' _ (in_heap hrow0.out)).trans hrow0.out)
    have hfb := Lib.hid (And.intro fa (And.intro fb fc))
    clear h4 h4' fa fb fc h3 hs1
    have c0 := cell_of_row _ _ 0 _ _ _ hrow0.out
    have c1 := cell_of_row _ _ 1 _ _ _ hrow0.out
    have c2 := cell_of_row _ _ 2 _ _ _ hrow0.out
    have d0 := cell_of_row _ _ 0 _ _ _ hrow1.out
    have d1 := cell_of_row _ _ 1 _ _ _ hrow1.out
    have d2 := cell_of_row _ _ 2 _ _ _ hrow1.out
    go_wp2_with fail
    refine (c_eqCeV (.agg #[.float .f32 jx, .float .f32 jy, .float .f32 jz]) (.agg #[.float .f32 ax, .float .f32 ay, .float .f32 az]) [.f oa, .f ob, .f oc] _ ⟨_, rfl, ⟨_, rfl, hfb.out.1⟩, ⟨_, rfl, hfb.out.2.1⟩, ⟨_, rfl, hfb.out.2.2⟩, trivial⟩ ⟨_, rfl, ⟨_, rfl, hfa.out.1⟩, ⟨_, rfl, hfa.out.2.1⟩, ⟨_, rfl, hfa.out.2.2⟩, trivial⟩).mono ?_
    rintro e w5 ⟨rfl, h5⟩
    have hB5 : Hid (Below wa.heap.size wa w5) := Lib.hid (hB4.out.trans (h5.mono hB4.out.size))
    have hLx := Lib.hid (hLx.out.below h5)
    clear h5 c0 c1 c2 d0 d1 d2 hrow0 hrow1
    go_wp2_with fail
    refine (c_toReadingS A c rs w5 ((H.out.below hB5.out).more hB5.out.size) hl).mono ?_
    rintro e w6 ⟨rfl, h6⟩
    have h6 := Lib.hid h6
    have hB6 : Hid (Below wa.heap.size wa w6) := Lib.hid (hB5.out.trans (h6.out.below.mono hB5.out.size))
    have hLx := Lib.hid (hLx.out.below h6.out.below)
    go_wp2_with fail
    refine (c_eqReadingS _ _ _ _ rs w6 hLx.out.feedAt h6.out.feed hl).mono ?_
    rintro e w7 ⟨rfl, h7⟩
    have hB7 : Hid (Below wa.heap.size wa w7) := Lib.hid (hB6.out.trans (h7.mono hB6.out.size))
    clear h7 h6
    go_wp2
    go_ret
    exact ⟨rfl, hal.out.trans (hB7.out.mono hal.out.size)⟩
  · have hl1 : (1048576 : Int) - (rs.length : Nat) < 0 := by omega
    rw [if_pos hl1]
    go_wp2
    go_ret
    exact ⟨rfl, hal.out⟩

end Go.Proofs.Ytmcbeaihjdnelaa
