/- Texts of vectors and of turns. No condition. -/
import Derived.Test.YtjggecboimdpdaaHw
import Derived.Test.YtjggecboimdpdaaB1
namespace Go.Proofs.Ytjggecboimdpdaa
open Go Go.ChangeShapes Go.WideShapes Go.RowKit
set_option linter.unusedVariables false
set_option linter.unusedSimpArgs false

theorem KF_words : ∀ {n : Nat} {cs : List Value} {ns : List NV}, KMs (List.replicate n (.f .f32)) cs ns → ∃ xs : List Nat, cs = xs.map (Value.float .f32) ∧ xs.length = n ∧ ∀ x ∈ xs, x < 4294967296
  | 0, [], [], _ => ⟨[], rfl, rfl, by simp⟩
  | n + 1, _ :: _, _ :: _, ⟨⟨b, e, hf⟩, h⟩ => by
    obtain ⟨xs, e2, hl, hb⟩ := KF_words (n := n) h
    refine ⟨b :: xs, by rw [e, e2]; rfl, by simp [hl], fun x hx => ?_⟩
    rcases List.mem_cons.1 hx with rfl | hx
    · exact hf.lt
    · exact hb x hx

theorem nums_new (w : World) (xs : List Nat) (cs : Array Value) (t : TypeId) (h : cs.toList = xs.map (Value.float .f32)) : Nums (w.alloc (.cells cs t)) w.heap.size 0 xs := by
  have hnew := heap_alloc_new w (.cells cs t)
  refine ⟨(Array.getElem?_eq_some_iff.1 hnew).1, fun j x hj => ?_⟩
  rw [Nat.zero_add, cell_of_row _ _ _ _ _ _ hnew, ← Array.getElem?_toList, h, List.getElem?_map, hj]
  rfl

set_option maxRecDepth 100000 in
theorem c_VecTextS (a b c : Nat) (w : World) (hx : ∀ x ∈ [a, b, c], x < 4294967296) :
    Calls Try.prog 12 #[.agg #[.float .f32 a, .float .f32 b, .float .f32 c]] w fun e w' => e = .returned (.string (rowT [a, b, c])) ∧ Stays w w' := by
  have kR := Lib.hid fun W h => c_l01Row w.heap.size 0 3 [a, b, c] W h hx (by simp)
  have hN := Lib.hid fun t => nums_new w [a, b, c] #[.float .f32 a, .float .f32 b, .float .f32 c] t rfl
  have hb := Lib.hid fun t => (show Stays w (w.alloc (.cells #[.float .f32 a, .float .f32 b, .float .f32 c] t)) from (Below.refl _ _).alloc (Nat.le_refl _) _)
  clear hx
  generalize rowT [a, b, c] = T at kR ⊢
  go_enter Try.func12, Try.ntmps12
  go_wp2_with fail
  refine (kR.out _ (hN.out _)).mono ?_
  rintro e w1 ⟨rfl, hb1⟩
  replace hb := Lib.hid (Stays.trans (hb.out _) (show Stays _ w1 from hb1))
  clear hb1 hN kR
  go_wp2
  go_ret
  exact ⟨rfl, hb.out⟩

set_option maxRecDepth 100000 in
theorem c_VecTextI (a b c : Nat) (w : World) (hx : ∀ x ∈ [a, b, c], x < 4294967296) :
    Calls Try.prog 14 #[.agg #[.float .f32 a, .float .f32 b, .float .f32 c]] w fun e w' => e = .returned (.string (rowT [a, b, c])) ∧ Stays w w' := by
  have kR := Lib.hid fun W h => c_numbersText w.heap.size 0 3 [a, b, c] W h hx (by simp)
  have hN := Lib.hid fun t => nums_new w [a, b, c] #[.float .f32 a, .float .f32 b, .float .f32 c] t rfl
  have hb := Lib.hid fun t => (show Stays w (w.alloc (.cells #[.float .f32 a, .float .f32 b, .float .f32 c] t)) from (Below.refl _ _).alloc (Nat.le_refl _) _)
  clear hx
  generalize rowT [a, b, c] = T at kR ⊢
  go_enter Try.func14, Try.ntmps14
  go_wp2_with fail
  refine (kR.out _ (hN.out _)).mono ?_
  rintro e w1 ⟨rfl, hb1⟩
  replace hb := Lib.hid (Stays.trans (hb.out _) (show Stays _ w1 from hb1))
  clear hb1 hN kR
  go_wp2
  go_ret
  exact ⟨rfl, hb.out⟩

set_option maxRecDepth 100000 in
theorem c_lawVecText (cs : Array Value) (ns : List NV) (w : World) (h : KMs [.f .f32, .f .f32, .f .f32] cs.toList ns) (_ : RGs [.f .f32, .f .f32, .f .f32] ns) :
    Calls Try.prog 4 #[.agg cs] w fun e w' => e = .returned (.bool true) ∧ Below w.heap.size w w' := by
  obtain ⟨ws, e, hl, hx⟩ := KF_words (n := 3) h
  match ws, hl with
  | [a, b, c], hl =>
  clear hl
  obtain ⟨l⟩ := cs
  replace e : l = [.float .f32 a, .float .f32 b, .float .f32 c] := e
  subst e
  have kS := Lib.hid fun W => c_VecTextS a b c W hx
  have kI := Lib.hid fun W => c_VecTextI a b c W hx
  have kT := Lib.hid fun W => c_toVec a b c W
  generalize rowT [a, b, c] = T at kS kI
  have hnew := heap_alloc_new w (.cells #[.float .f32 a, .float .f32 b, .float .f32 c] 25)
  have hst : Stays w (w.alloc (.cells #[.float .f32 a, .float .f32 b, .float .f32 c] 25)) := by (repeat (first | exact Stays.refl _ | (with_reducible refine Stays.drewN ?_ _) | (with_reducible refine Stays.alloc ?_ _) | (with_reducible refine Stays.drew ?_) | (refine Stays.trans ?_ ‹Stays _ _›)))
  have hC := Lib.hid fun W (hb : Stays (w.alloc (.cells #[.float .f32 a, .float .f32 b, .float .f32 c] 25)) W) => (show W.cell? ⟨w.heap.size, 0, none⟩ = some (.float .f32 a) ∧ W.cell? ⟨w.heap.size, 1, none⟩ = some (.float .f32 b) ∧ W.cell? ⟨w.heap.size, 2, none⟩ = some (.float .f32 c) from ⟨row_of hb hnew 0, row_of hb hnew 1, row_of hb hnew 2⟩)
  replace hst := Lib.hid hst
  clear hnew h hx
  go_enter Try.func4, Try.ntmps4
  go_wp2_with fail
  generalize (w.alloc (.cells #[.float .f32 a, .float .f32 b, .float .f32 c] 25)) = W0 at hC hst ⊢
  refine (kT.out _).mono ?_
  rintro e w1 ⟨rfl, h1⟩
  go_wp2_with fail
  refine (kS.out _).mono ?_
  rintro e w2 ⟨rfl, h2⟩
  have h02 := Stays.trans h1 h2
  obtain ⟨q0, q1, q2⟩ := hC.out _ h02
  replace h02 := Lib.hid h02
  clear h1 h2
  go_wp2_with fail
  refine (kT.out _).mono ?_
  rintro e w3 ⟨rfl, h3⟩
  clear q0 q1 q2
  go_wp2_with fail
  refine (kI.out _).mono ?_
  rintro e w4 ⟨rfl, h4⟩
  have h04 := Lib.hid (Stays.trans hst.out (Stays.trans h02.out (Stays.trans h3 h4)))
  clear h3 h4
  go_wp2
  go_ret
  exact ⟨rfl, h04.out⟩

theorem c_toTurn (a b c d : Nat) (w : World) :
    Calls Try.prog 16 #[.agg #[.float .f32 a, .float .f32 b, .float .f32 c, .float .f32 d]] w fun e w' => e = .returned (.agg #[.float .f32 a, .float .f32 b, .float .f32 c, .float .f32 d]) ∧ Stays w w' := by
  go_enter Try.func16, Try.ntmps16
  go_wp2
  refine wp_loop_rounds 5 ?_
  rw [rounds_succ]
  go_wp2
  rw [rounds_succ]
  go_wp2
  rw [rounds_succ]
  go_wp2
  rw [rounds_succ]
  go_wp2
  rw [rounds_succ]
  go_wp2
  apply end_agg rfl rfl rfl Try.underlying32 rfl (t := 32)
  case hg => (repeat (first | (refine heap_top _ _ _ ?_; simp; done) | (with_reducible refine heap_drawn _ _ _ ?_) | (with_reducible refine heap_under _ _ _ ?_ ?_; (simp <;> omega))))
  case hi => kernel_rfl
  exact ⟨rfl, by (repeat (first | exact Stays.refl _ | (with_reducible refine Stays.drewN ?_ _) | (with_reducible refine Stays.alloc ?_ _) | (with_reducible refine Stays.drew ?_) | (refine Stays.trans ?_ ‹Stays _ _›)))⟩

set_option maxRecDepth 100000 in
theorem c_TurnTextS (a b c d : Nat) (w : World) (hx : ∀ x ∈ [a, b, c, d], x < 4294967296) :
    Calls Try.prog 15 #[.agg #[.float .f32 a, .float .f32 b, .float .f32 c, .float .f32 d]] w fun e w' => e = .returned (.string (rowT [a, b, c, d])) ∧ Stays w w' := by
  have kR := Lib.hid fun W h => c_l01Row w.heap.size 0 4 [a, b, c, d] W h hx (by simp)
  have hN := Lib.hid fun t => nums_new w [a, b, c, d] #[.float .f32 a, .float .f32 b, .float .f32 c, .float .f32 d] t rfl
  have hb := Lib.hid fun t => (show Stays w (w.alloc (.cells #[.float .f32 a, .float .f32 b, .float .f32 c, .float .f32 d] t)) from (Below.refl _ _).alloc (Nat.le_refl _) _)
  clear hx
  generalize rowT [a, b, c, d] = T at kR ⊢
  go_enter Try.func15, Try.ntmps15
  go_wp2_with fail
  refine (kR.out _ (hN.out _)).mono ?_
  rintro e w1 ⟨rfl, hb1⟩
  replace hb := Lib.hid (Stays.trans (hb.out _) (show Stays _ w1 from hb1))
  clear hb1 hN kR
  go_wp2
  go_ret
  exact ⟨rfl, hb.out⟩

set_option maxRecDepth 100000 in
theorem c_TurnTextI (a b c d : Nat) (w : World) (hx : ∀ x ∈ [a, b, c, d], x < 4294967296) :
    Calls Try.prog 17 #[.agg #[.float .f32 a, .float .f32 b, .float .f32 c, .float .f32 d]] w fun e w' => e = .returned (.string (rowT [a, b, c, d])) ∧ Stays w w' := by
  have kR := Lib.hid fun W h => c_numbersText w.heap.size 0 4 [a, b, c, d] W h hx (by simp)
  have hN := Lib.hid fun t => nums_new w [a, b, c, d] #[.float .f32 a, .float .f32 b, .float .f32 c, .float .f32 d] t rfl
  have hb := Lib.hid fun t => (show Stays w (w.alloc (.cells #[.float .f32 a, .float .f32 b, .float .f32 c, .float .f32 d] t)) from (Below.refl _ _).alloc (Nat.le_refl _) _)
  clear hx
  generalize rowT [a, b, c, d] = T at kR ⊢
  go_enter Try.func17, Try.ntmps17
  go_wp2_with fail
  refine (kR.out _ (hN.out _)).mono ?_
  rintro e w1 ⟨rfl, hb1⟩
  replace hb := Lib.hid (Stays.trans (hb.out _) (show Stays _ w1 from hb1))
  clear hb1 hN kR
  go_wp2
  go_ret
  exact ⟨rfl, hb.out⟩

set_option maxRecDepth 100000 in
theorem c_lawTurnText (cs : Array Value) (ns : List NV) (w : World) (h : KMs [.f .f32, .f .f32, .f .f32, .f .f32] cs.toList ns) (_ : RGs [.f .f32, .f .f32, .f .f32, .f .f32] ns) :
    Calls Try.prog 5 #[.agg cs] w fun e w' => e = .returned (.bool true) ∧ Below w.heap.size w w' := by
  obtain ⟨ws, e, hl, hx⟩ := KF_words (n := 4) h
  match ws, hl with
  | [a, b, c, d], hl =>
  clear hl
  obtain ⟨l⟩ := cs
  replace e : l = [.float .f32 a, .float .f32 b, .float .f32 c, .float .f32 d] := e
  subst e
  have kS := Lib.hid fun W => c_TurnTextS a b c d W hx
  have kI := Lib.hid fun W => c_TurnTextI a b c d W hx
  have kT := Lib.hid fun W => c_toTurn a b c d W
  generalize rowT [a, b, c, d] = T at kS kI
  have hnew := heap_alloc_new w (.cells #[.float .f32 a, .float .f32 b, .float .f32 c, .float .f32 d] 30)
  have hst : Stays w (w.alloc (.cells #[.float .f32 a, .float .f32 b, .float .f32 c, .float .f32 d] 30)) := by (repeat (first | exact Stays.refl _ | (with_reducible refine Stays.drewN ?_ _) | (with_reducible refine Stays.alloc ?_ _) | (with_reducible refine Stays.drew ?_) | (refine Stays.trans ?_ ‹Stays _ _›)))
  have hC := Lib.hid fun W (hb : Stays (w.alloc (.cells #[.float .f32 a, .float .f32 b, .float .f32 c, .float .f32 d] 30)) W) => (show W.cell? ⟨w.heap.size, 0, none⟩ = some (.float .f32 a) ∧ W.cell? ⟨w.heap.size, 1, none⟩ = some (.float .f32 b) ∧ W.cell? ⟨w.heap.size, 2, none⟩ = some (.float .f32 c) ∧ W.cell? ⟨w.heap.size, 3, none⟩ = some (.float .f32 d) from ⟨row_of hb hnew 0, row_of hb hnew 1, row_of hb hnew 2, row_of hb hnew 3⟩)
  replace hst := Lib.hid hst
  clear hnew h hx
  go_enter Try.func5, Try.ntmps5
  go_wp2_with fail
  generalize (w.alloc (.cells #[.float .f32 a, .float .f32 b, .float .f32 c, .float .f32 d] 30)) = W0 at hC hst ⊢
  refine (kT.out _).mono ?_
  rintro e w1 ⟨rfl, h1⟩
  go_wp2_with fail
  refine (kS.out _).mono ?_
  rintro e w2 ⟨rfl, h2⟩
  have h02 := Stays.trans h1 h2
  obtain ⟨q0, q1, q2, q3⟩ := hC.out _ h02
  replace h02 := Lib.hid h02
  clear h1 h2
  go_wp2_with fail
  refine (kT.out _).mono ?_
  rintro e w3 ⟨rfl, h3⟩
  clear q0 q1 q2 q3
  go_wp2_with fail
  refine (kI.out _).mono ?_
  rintro e w4 ⟨rfl, h4⟩
  have h04 := Lib.hid (Stays.trans hst.out (Stays.trans h02.out (Stays.trans h3 h4)))
  clear h3 h4
  go_wp2
  go_ret
  exact ⟨rfl, h04.out⟩

end Go.Proofs.Ytjggecboimdpdaa
