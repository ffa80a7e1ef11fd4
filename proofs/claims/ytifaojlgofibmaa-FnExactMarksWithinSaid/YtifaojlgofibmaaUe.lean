/- How far marks are from a point, on both sides; marks within a radius, as the program says it. No condition. -/
import Derived.Test.YtifaojlgofibmaaUd
import Derived.Test.YtifaojlgofibmaaB10
namespace Go.Proofs.Ytifaojlgofibmaa
open Go Go.RowKit
set_option linter.unusedVariables false
set_option linter.unusedSimpArgs false

noncomputable def awayF (m : Mk) (x y z : Option Nat) : Option Nat := froot (fdot (fop .sub .f32 m.a x) (fop .sub .f32 m.b y) (fop .sub .f32 m.c z) (fop .sub .f32 m.a x) (fop .sub .f32 m.b y) (fop .sub .f32 m.c z))
def r_away (m : Mk) (a b c : Nat) (v : Value) : Prop := ∃ x, v = .float .f32 x ∧ FIs .f32 x (awayF m (can .f32 a) (can .f32 b) (can .f32 c))

set_option maxRecDepth 100000 in
set_option maxHeartbeats 1000000 in
theorem c_distTo (v : Value) (m : Mk) (a b c : Nat) (w : World) (h : IsMk v m) : Calls Try.prog 66 #[v, .agg #[.float .f32 a, .float .f32 b, .float .f32 c]] w fun e w' => ∃ v, e = .returned v ∧ r_away m a b c v ∧ Stays w w' := by
  obtain ⟨ra, rb, rc, rd, rfl, fa, fb, fc, _⟩ := mk_val h
  have kS := Lib.hid fun W => c_implSubVec ra rb rc a b c W
  replace fa := Lib.hid fa
  replace fb := Lib.hid fb
  replace fc := Lib.hid fc
  have hst : Stays w ((w.alloc (.cells #[.int .i32 m.x, .int .i32 m.y, .int .i32 m.z, .float .f32 ra, .float .f32 rb, .float .f32 rc, .float .f32 rd, .int .i64 m.s, .int .i64 m.l] 92)).alloc (.cells #[.float .f32 a, .float .f32 b, .float .f32 c] 45)) := by (repeat (first | exact Stays.refl _ | (with_reducible refine Stays.drewN ?_ _) | (with_reducible refine Stays.alloc ?_ _) | (with_reducible refine Stays.drew ?_) | (refine Stays.trans ?_ ‹Stays _ _›)))
  replace hst := Lib.hid hst
  clear h
  go_enter Try.func66, Try.ntmps66
  go_wp2_with fail
  refine (kS.out _).mono ?_
  rintro e w1 ⟨v1, rfl, ⟨x, y, z, rfl, hx, hy, hz⟩, hw1⟩
  replace hst := Lib.hid (hst.out.trans hw1)
  have kL := Lib.hid fun W => c_implLengthOf x y z W
  clear hw1
  go_wp2_with fail
  refine (kL.out _).mono ?_
  rintro e w2 ⟨v2, rfl, ⟨r, rfl, hr⟩, hw2⟩
  replace hst := Lib.hid (hst.out.trans hw2)
  have hr2 : FIs .f32 r (awayF m (can .f32 a) (can .f32 b) (can .f32 c)) := by
    refine hr.of_eq ?_
    unfold flen awayF
    rw [hx.out, hy.out, hz.out, fa.out.out, fb.out.out, fc.out.out]
  replace hr2 := Lib.hid hr2
  clear hr hx hy hz hw2
  go_wp2
  go_ret
  exact ⟨_, rfl, ⟨r, rfl, hr2.out⟩, hst.out⟩

set_option maxRecDepth 100000 in
set_option maxHeartbeats 1000000 in
theorem c_away (q : Addr) (m : Mk) (a b c : Nat) (w : World) (h : RowAt mkK w q m.ins) (hq : q.block < w.heap.size) : Calls Try.prog 64 #[.pointer (some q), .agg #[.float .f32 a, .float .f32 b, .float .f32 c]] w fun e w' => ∃ v, e = .returned v ∧ r_away m a b c v ∧ Stays w w' := by
  obtain ⟨ra, rb, rc, rd, hk, _, _, _, g3, g4, g5, _, _, _⟩ := mk_at' h
  obtain ⟨ra', rb', rc', rd', e, fa, fb, fc, _⟩ := mk_row hk
  simp only [List.cons.injEq, Value.float.injEq, true_and, and_true] at e
  obtain ⟨rfl, rfl, rfl, rfl⟩ := e
  have hst : Stays w (w.alloc (.cells #[.float .f32 a, .float .f32 b, .float .f32 c] 45)) := by (repeat (first | exact Stays.refl _ | (with_reducible refine Stays.drewN ?_ _) | (with_reducible refine Stays.alloc ?_ _) | (with_reducible refine Stays.drew ?_) | (refine Stays.trans ?_ ‹Stays _ _›)))
  have hnew := heap_alloc_new w (.cells #[.float .f32 a, .float .f32 b, .float .f32 c] 45)
  have hcells := fun w1 (hw1 : Stays (w.alloc (.cells #[.float .f32 a, .float .f32 b, .float .f32 c] 45)) w1) => And.intro (And.intro (row_of hw1 hnew 0) (And.intro (row_of hw1 hnew 1) (row_of hw1 hnew 2))) (And.intro (((hst.trans hw1).cell (p := ⟨q.block, q.off + 3, none⟩) hq).trans g3) (And.intro (((hst.trans hw1).cell (p := ⟨q.block, q.off + 4, none⟩) hq).trans g4) (((hst.trans hw1).cell (p := ⟨q.block, q.off + 5, none⟩) hq).trans g5)))
  replace fa := Lib.hid fa
  replace fb := Lib.hid fb
  replace fc := Lib.hid fc
  replace hst := Lib.hid hst
  clear h hk g3 g4 g5 hnew
  go_enter Try.func64, Try.ntmps64
  go_wp2_with fail
  refine wp_region_soft_tail 26 (Stays.refl _) (fun _ _ _ => False) [(5, #[.float .f32 0, .float .f32 0, .float .f32 0], 45)] (by kernel_rfl) (by kernel_rfl) (by simp [undef]) ?_
  simp only [List.take_succ_cons, List.take_zero, List.drop_succ_cons, List.drop_zero]
  repeat (first | ((with_reducible apply soft_detG); (case hwa => rfl); (case hA => rfl); (case h => (intro w1 hw1; have hc := hcells w1 hw1; go_simp; exact rfl)); go_simp) | ((with_reducible refine soft_fop rfl ?hA _ _ _ _ _ rfl rfl _ _ _ rfl rfl ?_); (case hA => rfl); intro r hr; go_simp))
  refine soft_alloc (cs := #[.float .f32 0, .float .f32 0, .float .f32 0]) (t := 45) rfl rfl ?hA ?h ?hK
  case hA => intro e he hd; simp at he; first | rw [he] | (rcases he with rfl | rfl <;> first | rfl | simp at hd)
  case h => intro w1 hw1; go_simp
  case hK =>
  intro p0 hp0
  go_simp
  refine soft_nil ?_
  rintro w10 ⟨hw10, hk⟩
  have hk2 : w10.heap[p0]? = some (.cells #[.float .f32 0, .float .f32 0, .float .f32 0] 45 (0, 0)) := hk _ (List.mem_singleton.2 rfl) p0 rfl
  clear hk
  refine wpList_store_row rfl _ _ _ rfl p0 _ _ rfl rfl hk2 ?hi ?ho ?h1 hp0 hw10 ?_
  case hi => kernel_rfl
  case ho => rfl
  case h1 => first | rfl | simp [Value.oneCell']
  intro w11 hw11 hqp0 hoth hsam
  clear hoth hsam
  clear hw10 hk2 hcells
  rename_i x hx y hy
  have z0 : w11.cell? ⟨p0, 0, none⟩ = some (.float .f32 x) := cell_of_row _ _ _ _ _ _ hqp0
  have z1 : w11.cell? ⟨p0, 1, none⟩ = some (.float .f32 y) := cell_of_row _ _ _ _ _ _ hqp0
  have z2 : w11.cell? ⟨p0, 2, none⟩ = some (.float .f32 r) := cell_of_row _ _ _ _ _ _ hqp0
  replace hst := Lib.hid (hst.out.trans hw11)
  have kD := Lib.hid fun W => c_specl01Dot x y r x y r W
  have hxyz := Lib.hid (And.intro hx (And.intro hy hr))
  clear hqp0 hw11 hx hy hr
  go_wp2_with fail
  refine (kD.out _).mono ?_
  rintro e w1 ⟨v1, rfl, ⟨d, rfl, hd⟩, hw1⟩
  replace hst := Lib.hid (hst.out.trans hw1)
  have kR := Lib.hid fun W => c_l01Root d W
  replace hd := Lib.hid hd
  clear hw1 z0 z1 z2
  go_wp2_with fail
  refine (kR.out _).mono ?_
  rintro e w2 ⟨v2, rfl, ⟨rr, rfl, hrr⟩, hw2⟩
  replace hst := Lib.hid (hst.out.trans hw2)
  have hr2 : FIs .f32 rr (awayF m (can .f32 a) (can .f32 b) (can .f32 c)) := by
    refine hrr.of_eq ?_
    unfold awayF
    rw [hd.out.out, hxyz.out.1.out, hxyz.out.2.1.out, hxyz.out.2.2.out, fa.out.out, fb.out.out, fc.out.out]
  replace hr2 := Lib.hid hr2
  clear hrr hw2
  go_wp2
  go_ret
  exact ⟨_, rfl, ⟨rr, rfl, hr2.out⟩, hst.out⟩
end Go.Proofs.Ytifaojlgofibmaa
