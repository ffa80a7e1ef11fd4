/- Texts of vectors and of turns. No condition. -/
import Derived.Test.YtpccnejchbachaaDoorHw
import Derived.Test.YtpccnejchbachaaDoorB1
namespace Go.Proofs.YtpccnejchbachaaDoor
open Go Go.ChangeShapes Go.WideShapes Go.RowKit
set_option linter.unusedVariables false
set_option linter.unusedSimpArgs false

theorem KF_words : ∀ {n : Nat} {cs : List Value} {ns : List NV}, KMs (List.replicate n (.f .f32)) cs ns → ∃ xs : List Nat, cs = xs.map (Value.float .f32) ∧ xs.length = n ∧ ∀ x ∈ xs, x < 4294967296
  | 0, [], [], _ => ⟨[], rfl, rfl, by simp⟩
  | n + 1, _ :: _, _ :: _, ⟨⟨b, e, hf⟩, h⟩ => by
    obtain ⟨xs, e2, hl, hb⟩ := KF_words (n := n) h
    refine ⟨b :: xs, by rw [e, e2]; rfl, by simp [hl], fun x hx => ?_⟩
    rcases List.mem_cons.1 hx with rfl | hx
    · exact hf.lt
    · exact hb x hx

theorem nums_new (w : World) (xs : List Nat) (cs : Array Value) (t : TypeId) (h : cs.toList = xs.map (Value.float .f32)) : Nums (w.alloc (.cells cs t)) w.heap.size 0 xs := by
  have hnew := heap_alloc_new w (.cells cs t)
  refine ⟨(Array.getElem?_eq_some_iff.1 hnew).1, fun j x hj => ?_⟩
  rw [Nat.zero_add, cell_of_row _ _ _ _ _ _ hnew, ← Array.getElem?_toList, h, List.getElem?_map, hj]
  rfl

set_option maxRecDepth 100000 in
theorem c_VecTextS (a b c : Nat) (w : World) (hx : ∀ x ∈ [a, b, c], x < 4294967296) :
    Calls Tryd.prog 55 #[.agg #[.float .f32 a, .float .f32 b, .float .f32 c]] w fun e w' => e = .returned (.string (rowT [a, b, c])) ∧ Stays w w' := by
  have kR := Lib.hid fun W h => c_l01Row w.heap.size 0 3 [a, b, c] W h hx (by simp)
  have hN := Lib.hid fun t => nums_new w [a, b, c] #[.float .f32 a, .float .f32 b, .float .f32 c] t rfl
  have hb := Lib.hid fun t => (show Stays w (w.alloc (.cells #[.float .f32 a, .float .f32 b, .float .f32 c] t)) from (Below.refl _ _).alloc (Nat.le_refl _) _)
  clear hx
  generalize rowT [a, b, c] = T at kR ⊢
  go_enter Tryd.func55, Tryd.ntmps55
  go_wp2_with fail
  refine (kR.out _ (hN.out _)).mono ?_
  rintro e w1 ⟨rfl, hb1⟩
  replace hb := Lib.hid (Stays.trans (hb.out _) (show Stays _ w1 from hb1))
  clear hb1 hN kR
  go_wp2
  go_ret
  exact ⟨rfl, hb.out⟩

set_option maxRecDepth 100000 in
theorem c_VecTextI (a b c : Nat) (w : World) (hx : ∀ x ∈ [a, b, c], x < 4294967296) :
    Calls Tryd.prog 62 #[.agg #[.float .f32 a, .float .f32 b, .float .f32 c]] w fun e w' => e = .returned (.string (rowT [a, b, c])) ∧ Stays w w' := by
  have kR := Lib.hid fun W h => c_numbersText w.heap.size 0 3 [a, b, c] W h hx (by simp)
  have hN := Lib.hid fun t => nums_new w [a, b, c] #[.float .f32 a, .float .f32 b, .float .f32 c] t rfl
  have hb := Lib.hid fun t => (show Stays w (w.alloc (.cells #[.float .f32 a, .float .f32 b, .float .f32 c] t)) from (Below.refl _ _).alloc (Nat.le_refl _) _)
  clear hx
  generalize rowT [a, b, c] = T at kR ⊢
  go_enter Tryd.func62, Tryd.ntmps62
  go_wp2_with fail
  refine (kR.out _ (hN.out _)).mono ?_
  rintro e w1 ⟨rfl, hb1⟩
  replace hb := Lib.hid (Stays.trans (hb.out _) (show Stays _ w1 from hb1))
  clear hb1 hN kR
  go_wp2
  go_ret
  exact ⟨rfl, hb.out⟩

end Go.Proofs.YtpccnejchbachaaDoor
