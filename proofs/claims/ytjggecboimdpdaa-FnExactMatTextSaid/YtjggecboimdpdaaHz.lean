/- Texts of matrices. No condition. -/
import Derived.Test.YtjggecboimdpdaaHy
import Derived.Test.YtjggecboimdpdaaSv
import Derived.Test.YtjggecboimdpdaaM1
namespace Go.Proofs.Ytjggecboimdpdaa
open Go Go.ChangeShapes Go.WideShapes Go.RowKit
set_option linter.unusedVariables false
set_option linter.unusedSimpArgs false

/-- What a call of VecText gives. -/
def vecS (f : FuncId) (args : Array Value) (v : Value) : Prop := ∀ a b c, args = #[.agg #[.float .f32 a, .float .f32 b, .float .f32 c]] → f = 14 → v = .string (rowT [a, b, c])

theorem row3_size (a b c : Nat) : (rowT [a, b, c]).size ≤ 27 := rowT_size [a, b, c] 3 (by simp)

theorem nums3 {W : World} {g o a b c : Nat} (h0 : W.cell? ⟨g, o, none⟩ = some (.float .f32 a)) (h1 : W.cell? ⟨g, o + 1, none⟩ = some (.float .f32 b)) (h2 : W.cell? ⟨g, o + 2, none⟩ = some (.float .f32 c)) : ∀ (j : Nat) (x : Nat), [a, b, c][j]? = some x → W.cell? ⟨g, o + j, none⟩ = some (.float .f32 x)
  | 0, x, h => by cases h; exact h0
  | 1, x, h => by cases h; exact h1
  | 2, x, h => by cases h; exact h2
  | j + 3, x, h => by simp at h

def matT (a b c : ByteArray) : ByteArray := ((((a ++ (⟨#[10]⟩ : ByteArray)) ++ b) ++ (⟨#[10]⟩ : ByteArray)) ++ c) ++ (⟨#[10]⟩ : ByteArray)
theorem matT_eq (a b c : ByteArray) : (((⟨#[]⟩ : ByteArray) ++ (a ++ (⟨#[10]⟩ : ByteArray))) ++ (b ++ (⟨#[10]⟩ : ByteArray))) ++ (c ++ (⟨#[10]⟩ : ByteArray)) = matT a b c := by
  unfold matT
  apply ByteArray.ext
  simp

theorem nl1 : (⟨#[10]⟩ : ByteArray).size = 1 := rfl
theorem nl0 : (⟨#[]⟩ : ByteArray).size = 0 := rfl
theorem nl_size (a : ByteArray) : (a ++ (⟨#[10]⟩ : ByteArray)).size = a.size + 1 := ByteArray.size_append

set_option maxRecDepth 100000 in
set_option maxHeartbeats 1000000 in
theorem c_MatTextI (a0 a1 a2 a3 a4 a5 a6 a7 a8 : Nat) (w : World) (hx : ∀ x ∈ [a0, a1, a2, a3, a4, a5, a6, a7, a8], x < 4294967296) :
    Calls Try.prog 20 #[.agg #[.float .f32 a0, .float .f32 a1, .float .f32 a2, .float .f32 a3, .float .f32 a4, .float .f32 a5, .float .f32 a6, .float .f32 a7, .float .f32 a8]] w fun e w' => e = .returned (.string (matT (rowT [a0, a1, a2]) (rowT [a3, a4, a5]) (rowT [a6, a7, a8]))) ∧ Stays w w' := by
  have k1 := Lib.hid fun W => c_VecTextI a0 a1 a2 W (fun x h => hx x (by simp at h ⊢; omega))
  have k2 := Lib.hid fun W => c_VecTextI a3 a4 a5 W (fun x h => hx x (by simp at h ⊢; omega))
  have k3 := Lib.hid fun W => c_VecTextI a6 a7 a8 W (fun x h => hx x (by simp at h ⊢; omega))
  have hnew := heap_alloc_new w (.cells #[.float .f32 a0, .float .f32 a1, .float .f32 a2, .float .f32 a3, .float .f32 a4, .float .f32 a5, .float .f32 a6, .float .f32 a7, .float .f32 a8] 37)
  have hst : Stays w (w.alloc (.cells #[.float .f32 a0, .float .f32 a1, .float .f32 a2, .float .f32 a3, .float .f32 a4, .float .f32 a5, .float .f32 a6, .float .f32 a7, .float .f32 a8] 37)) := by (repeat (first | exact Stays.refl _ | (with_reducible refine Stays.drewN ?_ _) | (with_reducible refine Stays.alloc ?_ _) | (with_reducible refine Stays.drew ?_) | (refine Stays.trans ?_ ‹Stays _ _›)))
  have hcells := fun W (hb : Stays (w.alloc (.cells #[.float .f32 a0, .float .f32 a1, .float .f32 a2, .float .f32 a3, .float .f32 a4, .float .f32 a5, .float .f32 a6, .float .f32 a7, .float .f32 a8] 37)) W) => (show W.cell? ⟨w.heap.size, 0, none⟩ = some (.float .f32 a0) ∧ W.cell? ⟨w.heap.size, 1, none⟩ = some (.float .f32 a1) ∧ W.cell? ⟨w.heap.size, 2, none⟩ = some (.float .f32 a2) ∧ W.cell? ⟨w.heap.size, 3, none⟩ = some (.float .f32 a3) ∧ W.cell? ⟨w.heap.size, 4, none⟩ = some (.float .f32 a4) ∧ W.cell? ⟨w.heap.size, 5, none⟩ = some (.float .f32 a5) ∧ W.cell? ⟨w.heap.size, 6, none⟩ = some (.float .f32 a6) ∧ W.cell? ⟨w.heap.size, 7, none⟩ = some (.float .f32 a7) ∧ W.cell? ⟨w.heap.size, 8, none⟩ = some (.float .f32 a8) from ⟨row_of hb hnew 0, row_of hb hnew 1, row_of hb hnew 2, row_of hb hnew 3, row_of hb hnew 4, row_of hb hnew 5, row_of hb hnew 6, row_of hb hnew 7, row_of hb hnew 8⟩)
  have s1 := row3_size a0 a1 a2
  have s2 := row3_size a3 a4 a5
  have s3 := row3_size a6 a7 a8
  generalize hT1 : rowT [a0, a1, a2] = T1 at k1 s1
  generalize hT2 : rowT [a3, a4, a5] = T2 at k2 s2
  generalize hT3 : rowT [a6, a7, a8] = T3 at k3 s3
  have p1 := fun w => run_string_add_sum (P := Try.prog) (w := w) T1 (⟨#[10]⟩ : ByteArray) (by simp only [ByteArray.size_append, nl1, nl0]; omega)
  have p2 := fun w => run_string_add_sum (P := Try.prog) (w := w) (T1 ++ (⟨#[10]⟩ : ByteArray)) T2 (by simp only [ByteArray.size_append, nl1, nl0]; omega)
  have p3 := fun w => run_string_add_sum (P := Try.prog) (w := w) (T1 ++ (⟨#[10]⟩ : ByteArray) ++ T2) (⟨#[10]⟩ : ByteArray) (by simp only [ByteArray.size_append, nl1, nl0]; omega)
  have p4 := fun w => run_string_add_sum (P := Try.prog) (w := w) (T1 ++ (⟨#[10]⟩ : ByteArray) ++ T2 ++ (⟨#[10]⟩ : ByteArray)) T3 (by simp only [ByteArray.size_append, nl1, nl0]; omega)
  have p5 := fun w => run_string_add_sum (P := Try.prog) (w := w) (T1 ++ (⟨#[10]⟩ : ByteArray) ++ T2 ++ (⟨#[10]⟩ : ByteArray) ++ T3) (⟨#[10]⟩ : ByteArray) (by simp only [ByteArray.size_append, nl1, nl0]; omega)
  replace hT1 := Lib.hid hT1
  replace hT2 := Lib.hid hT2
  replace hT3 := Lib.hid hT3
  replace hst := Lib.hid hst
  clear hnew hx s1 s2 s3
  go_enter Try.func20, Try.ntmps20
  go_wp2_with fail
  refine wp_region_soft_tail 14 (Stays.refl _) vecS [] (by kernel_rfl) (by kernel_rfl) (fun _ h => by cases h) ?_
  simp only [List.take_succ_cons, List.take_zero, List.drop_succ_cons, List.drop_zero]
  repeat (first | ((with_reducible apply soft_detG); (case hwa => rfl); (case hA => rfl); (case h => (intro w1 hw1; have hc := hcells w1 hw1; go_simp; exact rfl)); go_simp) | ((with_reducible apply soft_callS (v := .string T1)); (case hwa => rfl); (case hA => rfl); (case h => (intro w1 hw1; have hc := hcells w1 hw1; go_simp; exact ⟨rfl, rfl⟩)); (case hc => (intro w1 hw1; with_reducible exact k1.out w1)); (case hS => exact fun a b c e _ => (by simp at e; obtain ⟨rfl, rfl, rfl⟩ := e; rw [hT1.out])); (case hu => exact fun u hu => (hu _ _ _ rfl rfl).trans (by rw [hT1.out])); go_simp) | ((with_reducible apply soft_callS (v := .string T2)); (case hwa => rfl); (case hA => rfl); (case h => (intro w1 hw1; have hc := hcells w1 hw1; go_simp; exact ⟨rfl, rfl⟩)); (case hc => (intro w1 hw1; with_reducible exact k2.out w1)); (case hS => exact fun a b c e _ => (by simp at e; obtain ⟨rfl, rfl, rfl⟩ := e; rw [hT2.out])); (case hu => exact fun u hu => (hu _ _ _ rfl rfl).trans (by rw [hT2.out])); go_simp) | ((with_reducible apply soft_callS (v := .string T3)); (case hwa => rfl); (case hA => rfl); (case h => (intro w1 hw1; have hc := hcells w1 hw1; go_simp; exact ⟨rfl, rfl⟩)); (case hc => (intro w1 hw1; with_reducible exact k3.out w1)); (case hS => exact fun a b c e _ => (by simp at e; obtain ⟨rfl, rfl, rfl⟩ := e; rw [hT3.out])); (case hu => exact fun u hu => (hu _ _ _ rfl rfl).trans (by rw [hT3.out])); go_simp))
  refine soft_nil ?_
  rintro w2 ⟨hw2, _⟩
  have hf := Lib.hid (Stays.trans hst.out hw2)
  clear hw2 hcells
  go_wp2
  go_ret
  exact ⟨by unfold matT; rfl, hf.out⟩

set_option maxRecDepth 100000 in
set_option maxHeartbeats 1000000 in
theorem c_MatTextS (a0 a1 a2 a3 a4 a5 a6 a7 a8 : Nat) (w : World) (hx : ∀ x ∈ [a0, a1, a2, a3, a4, a5, a6, a7, a8], x < 4294967296) :
    Calls Try.prog 18 #[.agg #[.float .f32 a0, .float .f32 a1, .float .f32 a2, .float .f32 a3, .float .f32 a4, .float .f32 a5, .float .f32 a6, .float .f32 a7, .float .f32 a8]] w fun e w' => e = .returned (.string (matT (rowT [a0, a1, a2]) (rowT [a3, a4, a5]) (rowT [a6, a7, a8]))) ∧ Stays w w' := by
  have k1 := Lib.hid fun W h => c_l01Row w.heap.size 0 3 [a0, a1, a2] W h (fun x h => hx x (by simp at h ⊢; omega)) (by simp)
  have k2 := Lib.hid fun W h => c_l01Row w.heap.size 3 3 [a3, a4, a5] W h (fun x h => hx x (by simp at h ⊢; omega)) (by simp)
  have k3 := Lib.hid fun W h => c_l01Row w.heap.size 6 3 [a6, a7, a8] W h (fun x h => hx x (by simp at h ⊢; omega)) (by simp)
  have hnew := heap_alloc_new w (.cells #[.float .f32 a0, .float .f32 a1, .float .f32 a2, .float .f32 a3, .float .f32 a4, .float .f32 a5, .float .f32 a6, .float .f32 a7, .float .f32 a8] 37)
  have hst : Stays w (w.alloc (.cells #[.float .f32 a0, .float .f32 a1, .float .f32 a2, .float .f32 a3, .float .f32 a4, .float .f32 a5, .float .f32 a6, .float .f32 a7, .float .f32 a8] 37)) := by (repeat (first | exact Stays.refl _ | (with_reducible refine Stays.drewN ?_ _) | (with_reducible refine Stays.alloc ?_ _) | (with_reducible refine Stays.drew ?_) | (refine Stays.trans ?_ ‹Stays _ _›)))
  have hlt := in_heap hnew
  have n1 := Lib.hid fun W (hb : Stays (w.alloc (.cells #[.float .f32 a0, .float .f32 a1, .float .f32 a2, .float .f32 a3, .float .f32 a4, .float .f32 a5, .float .f32 a6, .float .f32 a7, .float .f32 a8] 37)) W) => (show Nums W w.heap.size 0 [a0, a1, a2] from ⟨Nat.lt_of_lt_of_le hlt hb.size, nums3 (row_of hb hnew 0) (row_of hb hnew 1) (row_of hb hnew 2)⟩)
  have n2 := Lib.hid fun W (hb : Stays (w.alloc (.cells #[.float .f32 a0, .float .f32 a1, .float .f32 a2, .float .f32 a3, .float .f32 a4, .float .f32 a5, .float .f32 a6, .float .f32 a7, .float .f32 a8] 37)) W) => (show Nums W w.heap.size 3 [a3, a4, a5] from ⟨Nat.lt_of_lt_of_le hlt hb.size, nums3 (row_of hb hnew 3) (row_of hb hnew 4) (row_of hb hnew 5)⟩)
  have n3 := Lib.hid fun W (hb : Stays (w.alloc (.cells #[.float .f32 a0, .float .f32 a1, .float .f32 a2, .float .f32 a3, .float .f32 a4, .float .f32 a5, .float .f32 a6, .float .f32 a7, .float .f32 a8] 37)) W) => (show Nums W w.heap.size 6 [a6, a7, a8] from ⟨Nat.lt_of_lt_of_le hlt hb.size, nums3 (row_of hb hnew 6) (row_of hb hnew 7) (row_of hb hnew 8)⟩)
  have s1 := row3_size a0 a1 a2
  have s2 := row3_size a3 a4 a5
  have s3 := row3_size a6 a7 a8
  generalize rowT [a0, a1, a2] = T1 at k1 s1 ⊢
  generalize rowT [a3, a4, a5] = T2 at k2 s2 ⊢
  generalize rowT [a6, a7, a8] = T3 at k3 s3 ⊢
  have e := Lib.hid (matT_eq T1 T2 T3)
  have p1 := fun w => run_string_add_sum (P := Try.prog) (w := w) T1 (⟨#[10]⟩ : ByteArray) (by simp only [ByteArray.size_append, nl1, nl0]; omega)
  have p2 := fun w => run_string_add_sum (P := Try.prog) (w := w) T2 (⟨#[10]⟩ : ByteArray) (by simp only [ByteArray.size_append, nl1, nl0]; omega)
  have p3 := fun w => run_string_add_sum (P := Try.prog) (w := w) T3 (⟨#[10]⟩ : ByteArray) (by simp only [ByteArray.size_append, nl1, nl0]; omega)
  have q1 := fun w => run_string_add_sum (P := Try.prog) (w := w) ⟨#[]⟩ (T1 ++ (⟨#[10]⟩ : ByteArray)) (by simp only [ByteArray.size_append, nl1, nl0]; omega)
  have q2 := fun w => run_string_add_sum (P := Try.prog) (w := w) ((⟨#[]⟩ : ByteArray) ++ (T1 ++ (⟨#[10]⟩ : ByteArray))) (T2 ++ (⟨#[10]⟩ : ByteArray)) (by simp only [ByteArray.size_append, nl1, nl0]; omega)
  have q3 := fun w => run_string_add_sum (P := Try.prog) (w := w) ((⟨#[]⟩ : ByteArray) ++ (T1 ++ (⟨#[10]⟩ : ByteArray)) ++ (T2 ++ (⟨#[10]⟩ : ByteArray))) (T3 ++ (⟨#[10]⟩ : ByteArray)) (by simp only [ByteArray.size_append, nl1, nl0]; omega)
  replace hst := Lib.hid hst
  clear hnew hx s1 s2 s3 hlt
  go_enter Try.func18, Try.ntmps18
  go_wp2
  generalize w.alloc (.cells #[.float .f32 a0, .float .f32 a1, .float .f32 a2, .float .f32 a3, .float .f32 a4, .float .f32 a5, .float .f32 a6, .float .f32 a7, .float .f32 a8] 37) = W0 at n1 n2 n3 hst ⊢
  refine wp_loop_rounds 4 ?_
  rw [rounds_succ]
  go_wp2_with fail
  refine (k1.out _ (n1.out _ (Stays.refl _))).mono ?_
  rintro e1 w1 ⟨rfl, h1⟩
  replace h1 := Lib.hid (show Stays W0 w1 from h1)
  go_wp2
  rw [rounds_succ]
  go_wp2_with fail
  refine (k2.out _ (n2.out _ h1.out)).mono ?_
  rintro e2 w2 ⟨rfl, h2⟩
  replace h2 := Lib.hid (Stays.trans h1.out (show Stays w1 w2 from h2))
  go_wp2
  rw [rounds_succ]
  go_wp2_with fail
  refine (k3.out _ (n3.out _ h2.out)).mono ?_
  rintro e3 w3 ⟨rfl, h3⟩
  replace h3 := Lib.hid (Stays.trans h2.out (show Stays w2 w3 from h3))
  go_wp2
  rw [rounds_succ]
  go_wp2
  go_ret
  refine ⟨?_, Stays.trans hst.out h3.out⟩
  rw [← e.out]
  rfl

set_option maxRecDepth 100000 in
theorem c_lawMatText (cs : Array Value) (ns : List NV) (w : World) (h : KMs [.f .f32, .f .f32, .f .f32, .f .f32, .f .f32, .f .f32, .f .f32, .f .f32, .f .f32] cs.toList ns) (_ : RGs [.f .f32, .f .f32, .f .f32, .f .f32, .f .f32, .f .f32, .f .f32, .f .f32, .f .f32] ns) :
    Calls Try.prog 6 #[.agg cs] w fun e w' => e = .returned (.bool true) ∧ Below w.heap.size w w' := by
  obtain ⟨ws, e, hl, hx⟩ := KF_words (n := 9) h
  match ws, hl with
  | [a0, a1, a2, a3, a4, a5, a6, a7, a8], hl =>
  clear hl
  obtain ⟨l⟩ := cs
  replace e : l = [.float .f32 a0, .float .f32 a1, .float .f32 a2, .float .f32 a3, .float .f32 a4, .float .f32 a5, .float .f32 a6, .float .f32 a7, .float .f32 a8] := e
  subst e
  have kS := Lib.hid fun W => c_MatTextS a0 a1 a2 a3 a4 a5 a6 a7 a8 W hx
  have kI := Lib.hid fun W => c_MatTextI a0 a1 a2 a3 a4 a5 a6 a7 a8 W hx
  have kT := Lib.hid fun W => c_toMat a0 a1 a2 a3 a4 a5 a6 a7 a8 W
  generalize matT (rowT [a0, a1, a2]) (rowT [a3, a4, a5]) (rowT [a6, a7, a8]) = T at kS kI
  have hnew := heap_alloc_new w (.cells #[.float .f32 a0, .float .f32 a1, .float .f32 a2, .float .f32 a3, .float .f32 a4, .float .f32 a5, .float .f32 a6, .float .f32 a7, .float .f32 a8] 35)
  have hst : Stays w (w.alloc (.cells #[.float .f32 a0, .float .f32 a1, .float .f32 a2, .float .f32 a3, .float .f32 a4, .float .f32 a5, .float .f32 a6, .float .f32 a7, .float .f32 a8] 35)) := by (repeat (first | exact Stays.refl _ | (with_reducible refine Stays.drewN ?_ _) | (with_reducible refine Stays.alloc ?_ _) | (with_reducible refine Stays.drew ?_) | (refine Stays.trans ?_ ‹Stays _ _›)))
  have hC := Lib.hid fun W (hb : Stays (w.alloc (.cells #[.float .f32 a0, .float .f32 a1, .float .f32 a2, .float .f32 a3, .float .f32 a4, .float .f32 a5, .float .f32 a6, .float .f32 a7, .float .f32 a8] 35)) W) => (show W.cell? ⟨w.heap.size, 0, none⟩ = some (.float .f32 a0) ∧ W.cell? ⟨w.heap.size, 1, none⟩ = some (.float .f32 a1) ∧ W.cell? ⟨w.heap.size, 2, none⟩ = some (.float .f32 a2) ∧ W.cell? ⟨w.heap.size, 3, none⟩ = some (.float .f32 a3) ∧ W.cell? ⟨w.heap.size, 4, none⟩ = some (.float .f32 a4) ∧ W.cell? ⟨w.heap.size, 5, none⟩ = some (.float .f32 a5) ∧ W.cell? ⟨w.heap.size, 6, none⟩ = some (.float .f32 a6) ∧ W.cell? ⟨w.heap.size, 7, none⟩ = some (.float .f32 a7) ∧ W.cell? ⟨w.heap.size, 8, none⟩ = some (.float .f32 a8) from ⟨row_of hb hnew 0, row_of hb hnew 1, row_of hb hnew 2, row_of hb hnew 3, row_of hb hnew 4, row_of hb hnew 5, row_of hb hnew 6, row_of hb hnew 7, row_of hb hnew 8⟩)
  replace hst := Lib.hid hst
  clear hnew h hx
  go_enter Try.func6, Try.ntmps6
  go_wp2_with fail
  generalize (w.alloc (.cells #[.float .f32 a0, .float .f32 a1, .float .f32 a2, .float .f32 a3, .float .f32 a4, .float .f32 a5, .float .f32 a6, .float .f32 a7, .float .f32 a8] 35)) = W0 at hC hst ⊢
  refine (kT.out _).mono ?_
  rintro e w1 ⟨rfl, h1⟩
  go_wp2_with fail
  refine (kS.out _).mono ?_
  rintro e w2 ⟨rfl, h2⟩
  have h02 := Stays.trans h1 h2
  obtain ⟨q0, q1, q2, q3, q4, q5, q6, q7, q8⟩ := hC.out _ h02
  replace h02 := Lib.hid h02
  clear h1 h2
  go_wp2_with fail
  refine (kT.out _).mono ?_
  rintro e w3 ⟨rfl, h3⟩
  clear q0 q1 q2 q3 q4 q5 q6 q7 q8
  go_wp2_with fail
  refine (kI.out _).mono ?_
  rintro e w4 ⟨rfl, h4⟩
  have h04 := Lib.hid (Stays.trans hst.out (Stays.trans h02.out (Stays.trans h3 h4)))
  clear h3 h4
  go_wp2
  go_ret
  exact ⟨rfl, h04.out⟩
end Go.Proofs.Ytjggecboimdpdaa
