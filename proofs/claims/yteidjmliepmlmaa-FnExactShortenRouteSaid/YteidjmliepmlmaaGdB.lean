/- Grids: whether one is valid, on both sides, and the law on valid ones. No condition. -/
import Derived.Test.YteidjmliepmlmaaGdA
import Derived.Test.YteidjmliepmlmaaLa
import Derived.Deep.RegionHeld
namespace Go.Proofs.Yteidjmliepmlmaa
open Go Go.RowKit
set_option linter.unusedVariables false
set_option linter.unusedSimpArgs false

def okW (a : Int) : Bool := decide (1 ≤ a ∧ a ≤ 24)
def gridB (a b : Int) (n : Nat) : Bool := okW a && okW b && decide ((n : Int) = a * b)

theorem okW_iff {a : Int} : okW a = true ↔ 1 ≤ a ∧ a ≤ 24 := decide_eq_true_iff

theorem gridB_iff {a b : Int} {n : Nat} : gridB a b n = true ↔ (1 ≤ a ∧ a ≤ 24) ∧ (1 ≤ b ∧ b ≤ 24) ∧ (n : Int) = a * b := by
  unfold gridB
  rw [Bool.and_eq_true, Bool.and_eq_true, okW_iff, okW_iff, decide_eq_true_iff, and_assoc]

theorem prod_bd {a b : Int} (h : 1 ≤ a ∧ a ≤ 24) (h' : 1 ≤ b ∧ b ≤ 24) : 1 ≤ a * b ∧ a * b ≤ 576 :=
  ⟨by have := Int.mul_le_mul h.1 h'.1 (by omega) (by omega); omega, by have := Int.mul_le_mul h.2 h'.2 (by omega) (by omega); omega⟩

theorem prod_in {a b : Int} (h : 1 ≤ a ∧ a ≤ 24) (h' : 1 ≤ b ∧ b ≤ 24) : IntKind.i64.wrap (a * b) = a * b := by
  have := prod_bd h h'
  exact IntWalk.i64_in _ (by omega)

theorem c_isWidth (a : Int) (w : World) : Calls Try.prog 86 #[.int .i64 a] w fun e w' => e = .returned (.bool (okW a)) ∧ w = w' := by
  go_enter Try.func86, Try.ntmps86
  by_cases h1 : 1 ≤ a
  · by_cases h2 : a ≤ 24
    · go_wp2
      go_ret
      exact ⟨ret_b (by simp [okW, h1, h2]), rfl⟩
    · go_wp2
      go_ret
      exact ⟨ret_b (by simp [okW]; omega), rfl⟩
  · go_wp2
    go_ret
    exact ⟨ret_b (by simp [okW]; omega), rfl⟩

theorem c_inW (a : Int) (w : World) : Calls Try.prog 59 #[.int .i64 a, .int .i64 1, .int .i64 24] w fun e w' => e = .returned (.bool (okW a)) ∧ w = w' := c_l00In a 1 24 w

/-- What a call about a width may give. -/
def okS (f : FuncId) (args : Array Value) (v : Value) : Prop := ∀ n, args = #[.int .i64 n, .int .i64 1, .int .i64 24] → v = .bool (okW n)

theorem okS_of {f : FuncId} {a : Int} {b : Bool} (h : okW a = b) : okS f #[.int .i64 a, .int .i64 1, .int .i64 24] (.bool b) := fun n e => by
  simp at e
  subst e
  rw [h]

set_option maxRecDepth 100000 in
set_option maxHeartbeats 1000000 in
theorem c_l07Ok (p : Nat) (a b : Int) (A : Option Addr) (c n : Nat) (w : World) (hg : w.heap[p]? = some (.cells #[.int .i64 a, .int .i64 b, .slice A n c] 28 (0, 0))) (hn : n ≤ 1048576) :
    Calls Try.prog 58 #[.pointer (some ⟨p, 0, none⟩)] w fun e w' => e = .returned (.bool (gridB a b n)) ∧ Below w.heap.size w w' := by
  have hlt : p < w.heap.size := (Array.getElem?_eq_some_iff.1 hg).1
  have HB : Hid (∀ w1, Stays w w1 → w1.cell? ⟨p, 0, none⟩ = some (.int .i64 a) ∧ w1.cell? ⟨p, 1, none⟩ = some (.int .i64 b) ∧ w1.cell? ⟨p, 2, none⟩ = some (.slice A n c)) := Lib.hid fun w1 h => ⟨row_of h hg 0, row_of h hg 1, row_of h hg 2⟩
  have ka := fun W => (c_inW a W).mono (R' := fun e w' => e = .returned (.bool (okW a)) ∧ Stays W w') fun e w' ⟨h1, h2⟩ => ⟨h1, h2 ▸ Stays.refl _⟩
  have kb := fun W => (c_inW b W).mono (R' := fun e w' => e = .returned (.bool (okW b)) ∧ Stays W w') fun e w' ⟨h1, h2⟩ => ⟨h1, h2 ▸ Stays.refl _⟩
  clear hg hlt
  unfold gridB
  cases ha : okW a with
  | false =>
    rw [ha] at ka
    have sa := Lib.hid (okS_of (f := 59) ha)
    have ea := Lib.hid (congrArg Value.bool ha)
    replace ka := Lib.hid ka
    clear ha kb
    have hcells : ∀ w1, Stays w w1 → _ := fun w1 h => HB.out w1 h
    go_enter Try.func58, Try.ntmps58
    go_wp2_with fail
    refine wp_region_soft_tail 29 (Stays.refl _) okS [] (by kernel_rfl) (by kernel_rfl) (fun _ h => by cases h) ?_
    simp only [List.take_succ_cons, List.take_zero, List.drop_succ_cons, List.drop_zero]
    repeat (first | ((with_reducible apply soft_detG); (case hwa => rfl); (case hA => rfl); (case h => (intro w1 hw1; have hc := hcells w1 hw1; go_simp; exact rfl)); go_simp) | ((with_reducible apply soft_skipG); (case hwa => rfl); (case hA => rfl); go_simp) | ((with_reducible apply soft_callS (v := .bool false)); (case hwa => rfl); (case hA => rfl); (case h => (intro w1 hw1; have hc := hcells w1 hw1; go_simp; exact ⟨rfl, rfl⟩)); (case hc => (intro w1 hw1; with_reducible exact ka.out w1)); (case hS => exact sa.out); (case hu => exact fun u hu => hu _ rfl |>.trans ea.out); go_simp))
    refine soft_nil ?_
    rintro w2 ⟨hw2, _⟩
    replace hw2 := Lib.hid hw2
    clear hcells
    go_wp2
    go_ret
    exact ⟨rfl, hw2.out⟩
  | true =>
   have hta := okW_iff.1 ha
   rw [ha] at ka
   have sa := Lib.hid (okS_of (f := 59) ha)
   have ea := Lib.hid (congrArg Value.bool ha)
   replace ka := Lib.hid ka
   clear ha
   cases hb : okW b with
   | false =>
    rw [hb] at kb
    have sb := Lib.hid (okS_of (f := 59) hb)
    have eb := Lib.hid (congrArg Value.bool hb)
    replace kb := Lib.hid kb
    clear hb hta
    have hcells : ∀ w1, Stays w w1 → _ := fun w1 h => HB.out w1 h
    go_enter Try.func58, Try.ntmps58
    go_wp2_with fail
    refine wp_region_soft_tail 29 (Stays.refl _) okS [] (by kernel_rfl) (by kernel_rfl) (fun _ h => by cases h) ?_
    simp only [List.take_succ_cons, List.take_zero, List.drop_succ_cons, List.drop_zero]
    repeat (first | ((with_reducible apply soft_detG); (case hwa => rfl); (case hA => rfl); (case h => (intro w1 hw1; have hc := hcells w1 hw1; go_simp; exact rfl)); go_simp) | ((with_reducible apply soft_skipG); (case hwa => rfl); (case hA => rfl); go_simp) | ((with_reducible apply soft_callS (v := .bool true)); (case hwa => rfl); (case hA => rfl); (case h => (intro w1 hw1; have hc := hcells w1 hw1; go_simp; exact ⟨rfl, rfl⟩)); (case hc => (intro w1 hw1; with_reducible exact ka.out w1)); (case hS => exact sa.out); (case hu => exact fun u hu => hu _ rfl |>.trans ea.out); go_simp) | ((with_reducible apply soft_callS (v := .bool false)); (case hwa => rfl); (case hA => rfl); (case h => (intro w1 hw1; have hc := hcells w1 hw1; go_simp; exact ⟨rfl, rfl⟩)); (case hc => (intro w1 hw1; with_reducible exact kb.out w1)); (case hS => exact sb.out); (case hu => exact fun u hu => hu _ rfl |>.trans eb.out); go_simp))
    refine soft_nil ?_
    rintro w2 ⟨hw2, _⟩
    replace hw2 := Lib.hid hw2
    clear hcells
    go_wp2
    go_ret
    exact ⟨rfl, hw2.out⟩
   | true =>
    have hm := prod_in hta (okW_iff.1 hb)
    rw [hb] at kb
    have sb := Lib.hid (okS_of (f := 59) hb)
    have eb := Lib.hid (congrArg Value.bool hb)
    replace kb := Lib.hid kb
    clear hb hta
    have hcells : ∀ w1, Stays w w1 → _ := fun w1 h => HB.out w1 h
    go_enter Try.func58, Try.ntmps58
    go_wp2_with fail
    refine wp_region_soft_tail 29 (Stays.refl _) okS [] (by kernel_rfl) (by kernel_rfl) (fun _ h => by cases h) ?_
    simp only [List.take_succ_cons, List.take_zero, List.drop_succ_cons, List.drop_zero]
    repeat (first | ((with_reducible apply soft_detG); (case hwa => rfl); (case hA => rfl); (case h => (intro w1 hw1; have hc := hcells w1 hw1; go_simp; exact rfl)); go_simp) | ((with_reducible apply soft_skipG); (case hwa => rfl); (case hA => rfl); go_simp) | ((with_reducible apply soft_callS (v := .bool true)); (case hwa => rfl); (case hA => rfl); (case h => (intro w1 hw1; have hc := hcells w1 hw1; go_simp; exact ⟨rfl, rfl⟩)); (case hc => (intro w1 hw1; with_reducible exact ka.out w1)); (case hS => exact sa.out); (case hu => exact fun u hu => hu _ rfl |>.trans ea.out); go_simp) | ((with_reducible apply soft_callS (v := .bool true)); (case hwa => rfl); (case hA => rfl); (case h => (intro w1 hw1; have hc := hcells w1 hw1; go_simp; exact ⟨rfl, rfl⟩)); (case hc => (intro w1 hw1; with_reducible exact kb.out w1)); (case hS => exact sb.out); (case hu => exact fun u hu => hu _ rfl |>.trans eb.out); go_simp))
    refine soft_nil ?_
    rintro w2 ⟨hw2, _⟩
    replace hw2 := Lib.hid hw2
    clear hcells
    go_wp2
    go_ret
    exact ⟨ret_b (by first | rfl | (simp <;> rfl)), hw2.out⟩

set_option maxRecDepth 100000 in
set_option maxHeartbeats 800000 in
theorem c_implValidGrid (v : Value) (a b : Int) (xs : List Int) (w : World) (h : GdV w w.heap.size v a b xs) (hn : xs.length ≤ 1048576) :
    Calls Try.prog 50 #[v] w fun e w' => e = .returned (.bool (gridB a b xs.length)) ∧ Below w.heap.size w w' := by
  obtain ⟨A, c, rfl, h1⟩ := h.val
  have k := Lib.hid fun W => And.intro (c_isWidth a W) (c_isWidth b W)
  clear h h1
  unfold gridB
  cases ha : okW a with
  | false =>
    rw [ha] at k
    clear ha
    go_enter Try.func50, Try.ntmps50
    go_wp2_with (go_at_call 86; refine (k.out _).1.mono ?_; rintro e w1 ⟨rfl, rfl⟩)
    go_ret
    exact ⟨rfl, show Stays w _ from by (repeat (first | exact Stays.refl _ | (with_reducible refine Stays.drewN ?_ _) | (with_reducible refine Stays.alloc ?_ _) | (with_reducible refine Stays.drew ?_) | (refine Stays.trans ?_ ‹Stays _ _›)))⟩
  | true =>
    cases hb : okW b with
    | false =>
      rw [ha, hb] at k
      clear ha hb
      go_enter Try.func50, Try.ntmps50
      go_wp2_with fail
      refine (k.out _).1.mono ?_
      rintro e w1 ⟨rfl, rfl⟩
      go_wp2_with fail
      refine (k.out _).2.mono ?_
      rintro e w1 ⟨rfl, rfl⟩
      go_wp2
      go_ret
      exact ⟨rfl, show Stays w _ from by (repeat (first | exact Stays.refl _ | (with_reducible refine Stays.drewN ?_ _) | (with_reducible refine Stays.alloc ?_ _) | (with_reducible refine Stays.drew ?_) | (refine Stays.trans ?_ ‹Stays _ _›)))⟩
    | true =>
      have hm := prod_in (okW_iff.1 ha) (okW_iff.1 hb)
      rw [ha, hb] at k
      clear ha hb
      go_enter Try.func50, Try.ntmps50
      go_wp2_with fail
      refine (k.out _).1.mono ?_
      rintro e w1 ⟨rfl, rfl⟩
      go_wp2_with fail
      refine (k.out _).2.mono ?_
      rintro e w1 ⟨rfl, rfl⟩
      go_wp2
      go_ret
      exact ⟨ret_b (by first | rfl | (simp <;> rfl)), show Stays w _ from by (repeat (first | exact Stays.refl _ | (with_reducible refine Stays.drewN ?_ _) | (with_reducible refine Stays.alloc ?_ _) | (with_reducible refine Stays.drew ?_) | (refine Stays.trans ?_ ‹Stays _ _›)))⟩
end Go.Proofs.Yteidjmliepmlmaa
