/- Whether marks are valid, by value and by pointer. No condition. -/
import Derived.Test.YtkpcecigoffopaaMc
namespace Go.Proofs.Ytkpcecigoffopaa
open Go Go.RowKit
set_option linter.unusedVariables false

set_option maxHeartbeats 400000 in
theorem c_isValid (v : Value) (m : Mk) (w : World) (h : IsMk v m) : Calls Try.prog 60 #[v] w fun e w' => e = .returned (.bool (validB m)) ∧ Below w.heap.size w w' := by
  obtain ⟨ra, rb, rc, rd, rfl, ha, hb, hc, hd⟩ := mk_val h
  have e1 : finV ra rb rc = (finB m.a && finB m.b && finB m.c) := by unfold finV; rw [ha.out, hb.out, hc.out]
  have e2 : (finB (can .f32 rd) && posB (can .f32 rd)) = (finB m.d && posB m.d) := by rw [hd.out]
  unfold validB
  rw [← e1, ← e2]
  clear ha hb hc hd h e1 e2
  generalize hV : finV ra rb rc = bv
  generalize hW : (finB (can .f32 rd) && posB (can .f32 rd)) = bw
  generalize hT : okTime m.l = bt
  replace hV := Lib.hid hV
  replace hW := Lib.hid hW
  replace hT := Lib.hid hT
  have u0 : (w.alloc (.cells #[.int .i32 m.x, .int .i32 m.y, .int .i32 m.z, .float .f32 ra, .float .f32 rb, .float .f32 rc, .float .f32 rd, .int .i64 m.s, .int .i64 m.l] 40)).heap[w.heap.size]? = some (.cells #[.int .i32 m.x, .int .i32 m.y, .int .i32 m.z, .float .f32 ra, .float .f32 rb, .float .f32 rc, .float .f32 rd, .int .i64 m.s, .int .i64 m.l] 40 (0, 0)) := by (repeat (first | (refine heap_top _ _ _ ?_; simp; done) | (with_reducible refine heap_drawn _ _ _ ?_) | (with_reducible refine heap_under _ _ _ ?_ ?_; (simp <;> omega))))
  have hA : Hid (∀ w1, Stays (w.alloc (.cells #[.int .i32 m.x, .int .i32 m.y, .int .i32 m.z, .float .f32 ra, .float .f32 rb, .float .f32 rc, .float .f32 rd, .int .i64 m.s, .int .i64 m.l] 40)) w1 → ∀ i, w1.cell? ⟨w.heap.size, i, none⟩ = (#[.int .i32 m.x, .int .i32 m.y, .int .i32 m.z, .float .f32 ra, .float .f32 rb, .float .f32 rc, .float .f32 rd, .int .i64 m.s, .int .i64 m.l] : Array Value)[i]?) := fun w1 h => row_of h u0
  clear u0
  have hS : Stays (w.alloc (.cells #[.int .i32 m.x, .int .i32 m.y, .int .i32 m.z, .float .f32 ra, .float .f32 rb, .float .f32 rc, .float .f32 rd, .int .i64 m.s, .int .i64 m.l] 40)) (w.alloc (.cells #[.int .i32 m.x, .int .i32 m.y, .int .i32 m.z, .float .f32 ra, .float .f32 rb, .float .f32 rc, .float .f32 rd, .int .i64 m.s, .int .i64 m.l] 40)) := Stays.refl _
  have h1 : 1 ≤ m.s ∧ m.s ≤ 1000000 ∨ ¬ 1 ≤ m.s ∨ ¬ m.s ≤ 1000000 ∧ 1 ≤ m.s := by omega
  rcases h1 with ⟨hs1, hs2⟩ | hs1 | ⟨hs2, hs1⟩ <;> cases bv <;> cases bw <;> cases bt
  all_goals
    go_enter Try.func60, Try.ntmps60
    go_wp2_with (first
        | (go_at_call 76; refine (c_implIsFiniteVec ra rb rc _).mono ?_; rintro e w1 ⟨v1, rfl, hv1, hw1⟩; rw [show v1 = _ from hv1, hV.out]; clear hv1; replace hS := Stays.trans (show Stays _ _ from by first | exact hS | exact hS.alloc _ | exact hS.drewN _) hw1; clear hw1; have hc := hA.out _ hS)
        | (go_at_call 59; refine (c_isPositive rd _).mono ?_; rintro e w1 ⟨rfl, hw1⟩; rw [hW.out]; clear hc; replace hS := Stays.trans (show Stays _ _ from by first | exact hS | exact hS.alloc _ | exact hS.drewN _) hw1; clear hw1; have hc := hA.out _ hS)
        | (go_at_call 81; refine (c_isTime m.l _).mono ?_; rintro e w1 ⟨rfl, rfl⟩; rw [hT.out]))
    go_ret
    exact ⟨ret_b (by first | (simp [*]; done) | (simp [*]; omega)), Stays.trans (by (repeat (first | exact Stays.refl _ | (with_reducible refine Stays.drewN ?_ _) | (with_reducible refine Stays.alloc ?_ _) | (with_reducible refine Stays.drew ?_) | (refine Stays.trans ?_ ‹Stays _ _›)))) hS⟩

set_option maxHeartbeats 400000 in
theorem c_l05Mark (q : Addr) (m : Mk) (w : World) (h : RowAt mkK w q m.ins) (hq : q.block < w.heap.size) : Calls Try.prog 88 #[.pointer (some q)] w fun e w' => e = .returned (.bool (validB m)) ∧ Below w.heap.size w w' := by
  obtain ⟨cs, hk, hcell⟩ := h
  obtain ⟨ra, rb, rc, rd, rfl, ha, hb, hc, hd⟩ := mk_row hk
  have e1 : finV ra rb rc = (finB m.a && finB m.b && finB m.c) := by unfold finV; rw [ha.out, hb.out, hc.out]
  have e2 : (finB (can .f32 rd) && posB (can .f32 rd)) = (finB m.d && posB m.d) := by rw [hd.out]
  unfold validB
  rw [← e1, ← e2]
  clear ha hb hc hd hk e1 e2
  have hp := pos_of rd
  generalize hV : finV ra rb rc = bv
  generalize hF : finB (can .f32 rd) = bf
  generalize hP : posB (can .f32 rd) = bp at hp ⊢
  generalize hT : okTime m.l = bt
  have hV := Lib.hid hV
  have hF := Lib.hid hF
  have hP := Lib.hid hP
  have hT := Lib.hid hT
  have hcell := Lib.hid hcell
  have G : Hid (∀ w', Below w.heap.size w w' → w'.cell? ⟨q.block, q.off + 3, none⟩ = some (.float .f32 ra) ∧ w'.cell? ⟨q.block, q.off + 3 + 1, none⟩ = some (.float .f32 rb) ∧ w'.cell? ⟨q.block, q.off + 3 + 2, none⟩ = some (.float .f32 rc) ∧ w'.cell? ⟨q.block, q.off + 6, none⟩ = some (.float .f32 rd) ∧ w'.cell? ⟨q.block, q.off + 7, none⟩ = some (.int .i64 m.s) ∧ w'.cell? ⟨q.block, q.off + 8, none⟩ = some (.int .i64 m.l)) :=
    Lib.hid fun w' hb => ⟨(hb.cell (p := ⟨q.block, q.off + 3, none⟩) hq).trans (hcell.out 3 _ rfl), (hb.cell (p := ⟨q.block, q.off + 4, none⟩) hq).trans (hcell.out 4 _ rfl), (hb.cell (p := ⟨q.block, q.off + 5, none⟩) hq).trans (hcell.out 5 _ rfl), (hb.cell (p := ⟨q.block, q.off + 6, none⟩) hq).trans (hcell.out 6 _ rfl), (hb.cell (p := ⟨q.block, q.off + 7, none⟩) hq).trans (hcell.out 7 _ rfl), (hb.cell (p := ⟨q.block, q.off + 8, none⟩) hq).trans (hcell.out 8 _ rfl)⟩
  clear hcell
  have hS : Stays w w := Stays.refl w
  obtain ⟨g3, g4, g5, g6, g7, g8⟩ := G.out _ hS
  cases bv <;> cases bf <;> cases bp <;> cases hs : decide (1 ≤ m.s ∧ m.s ≤ 1000000)
  all_goals
    have hs := Lib.hid hs
    go_enter Try.func88, Try.ntmps88
    go_wp2_with (first
      | (go_at_call 74; refine (c_specl01Vec ra rb rc _).mono ?_; rintro e w1 ⟨v1, rfl, hv1, hw1⟩; rw [show v1 = _ from hv1, hV.out]; clear hv1; replace hS := Stays.trans (show Stays _ _ from by first | exact hS | exact hS.alloc _ | exact hS.drewN _) hw1; clear hw1; clear g3 g4 g5 g6 g7 g8; obtain ⟨g3, g4, g5, g6, g7, g8⟩ := G.out _ hS)
      | (go_at_call 102; refine (c_l01Finite rd _).mono ?_; rintro e w1 ⟨rfl, hw1⟩; rw [hF.out]; replace hS := Stays.trans (show Stays _ _ from by first | exact hS | exact hS.alloc _ | exact hS.drewN _) hw1; clear hw1; clear g3 g4 g5 g6 g7 g8; obtain ⟨g3, g4, g5, g6, g7, g8⟩ := G.out _ hS)
      | (go_at_call 107; refine (c_l00In m.s 1 1000000 _).mono ?_; rintro e w1 ⟨rfl, rfl⟩; rw [hs.out])
      | (go_at_call 80; refine (c_l04Time m.l _).mono ?_; rintro e w1 ⟨rfl, rfl⟩; rw [hT.out]))
    go_ret
    exact ⟨ret_b (by simp [hs.out]), by first | exact hS | (repeat (first | exact Stays.refl _ | (with_reducible refine Stays.drewN ?_ _) | (with_reducible refine Stays.alloc ?_ _) | (with_reducible refine Stays.drew ?_) | (refine Stays.trans ?_ ‹Stays _ _›)))⟩
end Go.Proofs.Ytkpcecigoffopaa
