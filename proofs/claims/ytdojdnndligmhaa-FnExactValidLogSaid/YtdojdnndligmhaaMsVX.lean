/- Events of entries: what they tell, and the entry again. Entries that a valid log may have, on both sides. Entries of a valid log, as the document says it. Logs: whether one is valid, on both sides. No condition. -/
import Derived.Test.YtdojdnndligmhaaMsLog
import Derived.Test.YtdojdnndligmhaaMsF
import Derived.Test.YtdojdnndligmhaaA1
import Derived.Test.YtdojdnndligmhaaB3
import Derived.Test.YtdojdnndligmhaaB4
import Derived.Test.YtdojdnndligmhaaMsSE
namespace Go.Proofs.Ytdojdnndligmhaa
open Go Go.RowKit
set_option linter.unusedVariables false
set_option linter.unusedSimpArgs false

set_option maxRecDepth 100000 in
theorem c_entry_ticked (w : World) : Calls Try.prog 111 #[.agg #[]] w fun e w' => e = .returned (.agg #[.int .i64 1, .float .f32 0, .float .f32 0, .float .f32 0, .int .i16 0, .int .i16 0, .int .i16 0, .int .i64 0, .float .f32 0]) ∧ Stays w w' := by
  have hst : Stays w ((w.alloc (.cells #[] 137)).alloc (.cells #[.int .i64 0, .float .f32 0, .float .f32 0, .float .f32 0, .int .i16 0, .int .i16 0, .int .i16 0, .int .i64 0, .float .f32 0] 97)) := by (repeat (first | exact Stays.refl _ | (with_reducible refine Stays.drewN ?_ _) | (with_reducible refine Stays.alloc ?_ _) | (with_reducible refine Stays.drew ?_) | (refine Stays.trans ?_ ‹Stays _ _›)))
  have hres : ((w.alloc (.cells #[] 137)).alloc (.cells #[.int .i64 0, .float .f32 0, .float .f32 0, .float .f32 0, .int .i16 0, .int .i16 0, .int .i16 0, .int .i64 0, .float .f32 0] 97)).heap[w.heap.size + 1]? = some (.cells #[.int .i64 0, .float .f32 0, .float .f32 0, .float .f32 0, .int .i16 0, .int .i16 0, .int .i16 0, .int .i64 0, .float .f32 0] 97 (0, 0)) := by (repeat (first | (refine heap_top _ _ _ ?_; simp; done) | (with_reducible refine heap_drawn _ _ _ ?_) | (with_reducible refine heap_under _ _ _ ?_ ?_; (simp <;> omega))))
  go_enter Try.func111, Try.ntmps111
  go_wp2_with (refine wpList_store_row rfl _ _ _ rfl _ _ _ rfl rfl hres ?hi ?ho ?h1 ?hB hst ?_; (case hi => kernel_rfl); (case ho => rfl); (case h1 => first | rfl | simp [Value.oneCell']); (case hB => first | omega | (simp <;> omega)); intro w2 hw2 hq2 hother hsame)
  go_wp2
  apply end_agg rfl rfl rfl Try.underlying97 rfl (t := 97)
  case hg => exact hq2
  case hi => kernel_rfl
  case hR => exact ⟨rfl, hw2⟩

set_option maxRecDepth 100000 in
theorem c_entry_moved (x y z : Nat) (w : World) : Calls Try.prog 114 #[.agg #[.float .f32 x, .float .f32 y, .float .f32 z]] w fun e w' => e = .returned (.agg #[.int .i64 2, .float .f32 x, .float .f32 y, .float .f32 z, .int .i16 0, .int .i16 0, .int .i16 0, .int .i64 0, .float .f32 0]) ∧ Stays w w' := by
  have hst : Stays w ((w.alloc (.cells #[.float .f32 x, .float .f32 y, .float .f32 z] 139)).alloc (.cells #[.int .i64 0, .float .f32 0, .float .f32 0, .float .f32 0, .int .i16 0, .int .i16 0, .int .i16 0, .int .i64 0, .float .f32 0] 97)) := by (repeat (first | exact Stays.refl _ | (with_reducible refine Stays.drewN ?_ _) | (with_reducible refine Stays.alloc ?_ _) | (with_reducible refine Stays.drew ?_) | (refine Stays.trans ?_ ‹Stays _ _›)))
  have hres : ((w.alloc (.cells #[.float .f32 x, .float .f32 y, .float .f32 z] 139)).alloc (.cells #[.int .i64 0, .float .f32 0, .float .f32 0, .float .f32 0, .int .i16 0, .int .i16 0, .int .i16 0, .int .i64 0, .float .f32 0] 97)).heap[w.heap.size + 1]? = some (.cells #[.int .i64 0, .float .f32 0, .float .f32 0, .float .f32 0, .int .i16 0, .int .i16 0, .int .i16 0, .int .i64 0, .float .f32 0] 97 (0, 0)) := by (repeat (first | (refine heap_top _ _ _ ?_; simp; done) | (with_reducible refine heap_drawn _ _ _ ?_) | (with_reducible refine heap_under _ _ _ ?_ ?_; (simp <;> omega))))
  go_enter Try.func114, Try.ntmps114
  go_wp2_with (refine wpList_store_row rfl _ _ _ rfl _ _ _ rfl rfl hres ?hi ?ho ?h1 ?hB hst ?_; (case hi => kernel_rfl); (case ho => rfl); (case h1 => first | rfl | simp [Value.oneCell']); (case hB => first | omega | (simp <;> omega)); intro w2 hw2 hq2 hother hsame)
  go_wp2
  apply end_agg rfl rfl rfl Try.underlying97 rfl (t := 97)
  case hg => exact hq2
  case hi => kernel_rfl
  case hR => exact ⟨rfl, hw2⟩

set_option maxRecDepth 100000 in
theorem c_entry_fixed (m n o : Int) (w : World) : Calls Try.prog 117 #[.agg #[.int .i16 m, .int .i16 n, .int .i16 o]] w fun e w' => e = .returned (.agg #[.int .i64 3, .float .f32 0, .float .f32 0, .float .f32 0, .int .i16 m, .int .i16 n, .int .i16 o, .int .i64 0, .float .f32 0]) ∧ Stays w w' := by
  have hst : Stays w ((w.alloc (.cells #[.int .i16 m, .int .i16 n, .int .i16 o] 141)).alloc (.cells #[.int .i64 0, .float .f32 0, .float .f32 0, .float .f32 0, .int .i16 0, .int .i16 0, .int .i16 0, .int .i64 0, .float .f32 0] 97)) := by (repeat (first | exact Stays.refl _ | (with_reducible refine Stays.drewN ?_ _) | (with_reducible refine Stays.alloc ?_ _) | (with_reducible refine Stays.drew ?_) | (refine Stays.trans ?_ ‹Stays _ _›)))
  have hres : ((w.alloc (.cells #[.int .i16 m, .int .i16 n, .int .i16 o] 141)).alloc (.cells #[.int .i64 0, .float .f32 0, .float .f32 0, .float .f32 0, .int .i16 0, .int .i16 0, .int .i16 0, .int .i64 0, .float .f32 0] 97)).heap[w.heap.size + 1]? = some (.cells #[.int .i64 0, .float .f32 0, .float .f32 0, .float .f32 0, .int .i16 0, .int .i16 0, .int .i16 0, .int .i64 0, .float .f32 0] 97 (0, 0)) := by (repeat (first | (refine heap_top _ _ _ ?_; simp; done) | (with_reducible refine heap_drawn _ _ _ ?_) | (with_reducible refine heap_under _ _ _ ?_ ?_; (simp <;> omega))))
  go_enter Try.func117, Try.ntmps117
  go_wp2_with (refine wpList_store_row rfl _ _ _ rfl _ _ _ rfl rfl hres ?hi ?ho ?h1 ?hB hst ?_; (case hi => kernel_rfl); (case ho => rfl); (case h1 => first | rfl | simp [Value.oneCell']); (case hB => first | omega | (simp <;> omega)); intro w2 hw2 hq2 hother hsame)
  go_wp2
  apply end_agg rfl rfl rfl Try.underlying97 rfl (t := 97)
  case hg => exact hq2
  case hi => kernel_rfl
  case hR => exact ⟨rfl, hw2⟩

set_option maxRecDepth 100000 in
theorem c_entry_ranged (b : Int) (d : Nat) (w : World) : Calls Try.prog 120 #[.agg #[.int .i64 b, .float .f32 d]] w fun e w' => e = .returned (.agg #[.int .i64 4, .float .f32 0, .float .f32 0, .float .f32 0, .int .i16 0, .int .i16 0, .int .i16 0, .int .i64 b, .float .f32 d]) ∧ Stays w w' := by
  have hst : Stays w ((w.alloc (.cells #[.int .i64 b, .float .f32 d] 143)).alloc (.cells #[.int .i64 0, .float .f32 0, .float .f32 0, .float .f32 0, .int .i16 0, .int .i16 0, .int .i16 0, .int .i64 0, .float .f32 0] 97)) := by (repeat (first | exact Stays.refl _ | (with_reducible refine Stays.drewN ?_ _) | (with_reducible refine Stays.alloc ?_ _) | (with_reducible refine Stays.drew ?_) | (refine Stays.trans ?_ ‹Stays _ _›)))
  have hres : ((w.alloc (.cells #[.int .i64 b, .float .f32 d] 143)).alloc (.cells #[.int .i64 0, .float .f32 0, .float .f32 0, .float .f32 0, .int .i16 0, .int .i16 0, .int .i16 0, .int .i64 0, .float .f32 0] 97)).heap[w.heap.size + 1]? = some (.cells #[.int .i64 0, .float .f32 0, .float .f32 0, .float .f32 0, .int .i16 0, .int .i16 0, .int .i16 0, .int .i64 0, .float .f32 0] 97 (0, 0)) := by (repeat (first | (refine heap_top _ _ _ ?_; simp; done) | (with_reducible refine heap_drawn _ _ _ ?_) | (with_reducible refine heap_under _ _ _ ?_ ?_; (simp <;> omega))))
  go_enter Try.func120, Try.ntmps120
  go_wp2_with (refine wpList_store_row rfl _ _ _ rfl _ _ _ rfl rfl hres ?hi ?ho ?h1 ?hB hst ?_; (case hi => kernel_rfl); (case ho => rfl); (case h1 => first | rfl | simp [Value.oneCell']); (case hB => first | omega | (simp <;> omega)); intro w2 hw2 hq2 hother hsame)
  go_wp2
  apply end_agg rfl rfl rfl Try.underlying97 rfl (t := 97)
  case hg => exact hq2
  case hi => kernel_rfl
  case hR => exact ⟨rfl, hw2⟩

theorem c_fits_ticked (r : Int) (x' y' z' : Nat) (A : Option Addr) (n' c : Nat) (w : World) : Calls Try.prog 112 #[.agg #[], .agg #[.int .i64 r, .float .f32 x', .float .f32 y', .float .f32 z', .slice A n' c]] w fun e w' => e = .returned (.bool true) ∧ Stays w w' := by
  go_enter Try.func112, Try.ntmps112
  go_wp2
  go_ret
  exact ⟨rfl, show Stays w _ from by (repeat (first | exact Stays.refl _ | (with_reducible refine Stays.drewN ?_ _) | (with_reducible refine Stays.alloc ?_ _) | (with_reducible refine Stays.drew ?_) | (refine Stays.trans ?_ ‹Stays _ _›)))⟩

theorem c_fits_fixed (m n o : Int) (r : Int) (x' y' z' : Nat) (A : Option Addr) (n' c : Nat) (w : World) : Calls Try.prog 118 #[.agg #[.int .i16 m, .int .i16 n, .int .i16 o], .agg #[.int .i64 r, .float .f32 x', .float .f32 y', .float .f32 z', .slice A n' c]] w fun e w' => e = .returned (.bool true) ∧ Stays w w' := by
  go_enter Try.func118, Try.ntmps118
  go_wp2
  go_ret
  exact ⟨rfl, show Stays w _ from by (repeat (first | exact Stays.refl _ | (with_reducible refine Stays.drewN ?_ _) | (with_reducible refine Stays.alloc ?_ _) | (with_reducible refine Stays.drew ?_) | (refine Stays.trans ?_ ‹Stays _ _›)))⟩

theorem c_fits_moved (x y z : Nat) (bf : Bool) (hf : ∀ W, Calls Try.prog 68 #[.agg #[.float .f32 x, .float .f32 y, .float .f32 z]] W fun e w' => e = .returned (.bool bf) ∧ Stays W w') (r : Int) (x' y' z' : Nat) (A : Option Addr) (n' c : Nat) (w : World) : Calls Try.prog 115 #[.agg #[.float .f32 x, .float .f32 y, .float .f32 z], .agg #[.int .i64 r, .float .f32 x', .float .f32 y', .float .f32 z', .slice A n' c]] w fun e w' => e = .returned (.bool bf) ∧ Stays w w' := by
  replace hf := Lib.hid hf
  go_enter Try.func115, Try.ntmps115
  go_wp2_with (go_at_call 68; refine (hf.out _).mono ?_; rintro e w1 ⟨rfl, hw1⟩)
  go_ret
  exact ⟨rfl, Stays.trans (show Stays w _ from by (repeat (first | exact Stays.refl _ | (with_reducible refine Stays.drewN ?_ _) | (with_reducible refine Stays.alloc ?_ _) | (with_reducible refine Stays.drew ?_) | (refine Stays.trans ?_ ‹Stays _ _›)))) hw1⟩

theorem c_fits_ranged (b : Int) (d : Nat) (r : Int) (x' y' z' : Nat) (A : Option Addr) (n' c : Nat) (w : World) : Calls Try.prog 121 #[.agg #[.int .i64 b, .float .f32 d], .agg #[.int .i64 r, .float .f32 x', .float .f32 y', .float .f32 z', .slice A n' c]] w fun e w' => e = .returned (.bool (decide (0 ≤ b ∧ b < (n' : Int)) && finB (can .f32 d))) ∧ Stays w w' := by
  have kb0 := fun W => c_hasBeacon (.int .i64 r) (.float .f32 x') (.float .f32 y') (.float .f32 z') A n' c b W
  have kf := Lib.hid fun W => c_isFinite d W
  have HB : Hid (∀ w1, Stays ((w.alloc (.cells #[.int .i64 b, .float .f32 d] 143)).alloc (.cells #[.int .i64 r, .float .f32 x', .float .f32 y', .float .f32 z', .slice A n' c] 76)) w1 → ∀ i, w1.cell? ⟨w.heap.size, i, none⟩ = (#[.int .i64 b, .float .f32 d] : Array Value)[i]?) := Lib.hid fun w1 h => row_of h (by (repeat (first | (refine heap_top _ _ _ ?_; simp; done) | (with_reducible refine heap_drawn _ _ _ ?_) | (with_reducible refine heap_under _ _ _ ?_ ?_; (simp <;> omega)))))
  generalize decide (0 ≤ b ∧ b < (n' : Int)) = bb at kb0 ⊢
  cases bb with
  | false =>
    have kb := Lib.hid kb0
    clear kb0
    go_enter Try.func121, Try.ntmps121
    go_wp2_with (go_at_call 69; refine (kb.out _).mono ?_; rintro e w1 ⟨rfl, hw1⟩)
    go_ret
    exact ⟨rfl, Stays.trans (show Stays w _ from by (repeat (first | exact Stays.refl _ | (with_reducible refine Stays.drewN ?_ _) | (with_reducible refine Stays.alloc ?_ _) | (with_reducible refine Stays.drew ?_) | (refine Stays.trans ?_ ‹Stays _ _›)))) hw1⟩
  | true =>
    have kb := Lib.hid kb0
    clear kb0
    go_enter Try.func121, Try.ntmps121
    go_wp2_with (first
      | (go_at_call 69; refine (kb.out _).mono ?_; rintro e w1 ⟨rfl, hw1⟩; have hc := HB.out _ hw1)
      | (go_at_call 82; refine (kf.out _).mono ?_; rintro e w2 ⟨rfl, hw2⟩))
    go_ret
    exact ⟨ret_b (by simp), Stays.trans (show Stays w _ from by (repeat (first | exact Stays.refl _ | (with_reducible refine Stays.drewN ?_ _) | (with_reducible refine Stays.alloc ?_ _) | (with_reducible refine Stays.drew ?_) | (refine Stays.trans ?_ ‹Stays _ _›)))) (Stays.trans hw1 hw2)⟩

def evS (R : Array Value) (be : Bool) (fe : FuncId) (f : FuncId) (args : Array Value) (v : Value) : Prop := (f = fe → v = .agg R) ∧ (f = 58 → v = .bool be)

set_option maxRecDepth 100000 in
set_option maxHeartbeats 1000000 in
theorem c_event_ticked (x y z : Nat) (m n o b : Int) (d : Nat) (be : Bool) (hs : ∀ W, Calls Try.prog 58 #[.agg #[.int .i64 1, .float .f32 0, .float .f32 0, .float .f32 0, .int .i16 0, .int .i16 0, .int .i16 0, .int .i64 0, .float .f32 0], .agg #[.int .i64 1, .float .f32 x, .float .f32 y, .float .f32 z, .int .i16 m, .int .i16 n, .int .i16 o, .int .i64 b, .float .f32 d]] W fun e w' => e = .returned (.bool be) ∧ Stays W w') (w : World) :
    Calls Try.prog 76 #[.agg #[.int .i64 1, .float .f32 x, .float .f32 y, .float .f32 z, .int .i16 m, .int .i16 n, .int .i16 o, .int .i64 b, .float .f32 d]] w fun e w' => e = .returned (.tuple #[.iface 137 (.agg #[]), .bool be]) ∧ Stays w w' := by
  replace hs := Lib.hid hs
  have kE := Lib.hid fun W => c_entry_ticked  W
  have HB : Hid (∀ w1, Stays (w.alloc (.cells #[.int .i64 1, .float .f32 x, .float .f32 y, .float .f32 z, .int .i16 m, .int .i16 n, .int .i16 o, .int .i64 b, .float .f32 d] 97)) w1 → ∀ i, w1.cell? ⟨w.heap.size, i, none⟩ = (#[.int .i64 1, .float .f32 x, .float .f32 y, .float .f32 z, .int .i16 m, .int .i16 n, .int .i16 o, .int .i64 b, .float .f32 d] : Array Value)[i]?) := Lib.hid fun w1 h => row_of h (heap_alloc_new w _)
  have hcells : ∀ w1, Stays (w.alloc (.cells #[.int .i64 1, .float .f32 x, .float .f32 y, .float .f32 z, .int .i16 m, .int .i16 n, .int .i16 o, .int .i64 b, .float .f32 d] 97)) w1 → _ := fun w1 h => HB.out w1 h
  have hme : ∀ w : World, (method 272 137 (.agg #[]) "loop.example/g01204/impl.entry").run Try.prog w = .ok (111, .agg #[]) w := fun _ => by kernel_rfl
  go_enter Try.func76, Try.ntmps76
  go_wp2
  refine wp_region_soft_tail 5 (Stays.refl _) (evS #[.int .i64 1, .float .f32 0, .float .f32 0, .float .f32 0, .int .i16 0, .int .i16 0, .int .i16 0, .int .i64 0, .float .f32 0] be 111) [] (by kernel_rfl) (by kernel_rfl) (fun _ h => by cases h) ?_
  simp only [List.take_succ_cons, List.take_zero, List.drop_succ_cons, List.drop_zero]
  repeat (first | ((with_reducible apply soft_detG); (case hwa => rfl); (case hA => rfl); (case h => (intro w1 hw1; have hc := hcells w1 hw1; go_simp; exact rfl)); go_simp) | ((with_reducible apply soft_callS (v := .agg #[.int .i64 1, .float .f32 0, .float .f32 0, .float .f32 0, .int .i16 0, .int .i16 0, .int .i16 0, .int .i64 0, .float .f32 0])); (case hwa => rfl); (case hA => rfl); (case h => (intro w1 hw1; have hc := hcells w1 hw1; go_simp; exact ⟨rfl, rfl⟩)); (case hc => (intro w1 hw1; with_reducible exact kE.out w1)); (case hS => exact ⟨fun _ => rfl, fun e => absurd e (by decide)⟩); (case hu => exact fun u hu => hu.1 rfl); go_simp) | ((with_reducible apply soft_callS (v := .bool be)); (case hwa => rfl); (case hA => rfl); (case h => (intro w1 hw1; have hc := hcells w1 hw1; go_simp; exact ⟨rfl, rfl⟩)); (case hc => (intro w1 hw1; with_reducible exact hs.out w1)); (case hS => exact ⟨fun e => absurd e (by decide), fun _ => rfl⟩); (case hu => exact fun u hu => hu.2 rfl); go_simp))
  refine soft_nil ?_
  rintro w2 ⟨hw2, _⟩
  go_wp2
  go_ret2
  exact ⟨rfl, Stays.trans (show Stays w _ from by (repeat (first | exact Stays.refl _ | (with_reducible refine Stays.drewN ?_ _) | (with_reducible refine Stays.alloc ?_ _) | (with_reducible refine Stays.drew ?_) | (refine Stays.trans ?_ ‹Stays _ _›)))) hw2⟩

set_option maxRecDepth 100000 in
set_option maxHeartbeats 1000000 in
theorem c_event_moved (x y z : Nat) (m n o b : Int) (d : Nat) (be : Bool) (hs : ∀ W, Calls Try.prog 58 #[.agg #[.int .i64 2, .float .f32 x, .float .f32 y, .float .f32 z, .int .i16 0, .int .i16 0, .int .i16 0, .int .i64 0, .float .f32 0], .agg #[.int .i64 2, .float .f32 x, .float .f32 y, .float .f32 z, .int .i16 m, .int .i16 n, .int .i16 o, .int .i64 b, .float .f32 d]] W fun e w' => e = .returned (.bool be) ∧ Stays W w') (w : World) :
    Calls Try.prog 76 #[.agg #[.int .i64 2, .float .f32 x, .float .f32 y, .float .f32 z, .int .i16 m, .int .i16 n, .int .i16 o, .int .i64 b, .float .f32 d]] w fun e w' => e = .returned (.tuple #[.iface 139 (.agg #[.float .f32 x, .float .f32 y, .float .f32 z]), .bool be]) ∧ Stays w w' := by
  replace hs := Lib.hid hs
  have kE := Lib.hid fun W => c_entry_moved x y z W
  have HB : Hid (∀ w1, Stays (w.alloc (.cells #[.int .i64 2, .float .f32 x, .float .f32 y, .float .f32 z, .int .i16 m, .int .i16 n, .int .i16 o, .int .i64 b, .float .f32 d] 97)) w1 → ∀ i, w1.cell? ⟨w.heap.size, i, none⟩ = (#[.int .i64 2, .float .f32 x, .float .f32 y, .float .f32 z, .int .i16 m, .int .i16 n, .int .i16 o, .int .i64 b, .float .f32 d] : Array Value)[i]?) := Lib.hid fun w1 h => row_of h (heap_alloc_new w _)
  have hcells : ∀ w1, Stays (w.alloc (.cells #[.int .i64 2, .float .f32 x, .float .f32 y, .float .f32 z, .int .i16 m, .int .i16 n, .int .i16 o, .int .i64 b, .float .f32 d] 97)) w1 → _ := fun w1 h => HB.out w1 h
  have hme : ∀ w : World, (method 272 139 (.agg #[.float .f32 x, .float .f32 y, .float .f32 z]) "loop.example/g01204/impl.entry").run Try.prog w = .ok (114, .agg #[.float .f32 x, .float .f32 y, .float .f32 z]) w := fun _ => by kernel_rfl
  go_enter Try.func76, Try.ntmps76
  go_wp2
  refine wp_region_soft_tail 5 (Stays.refl _) (evS #[.int .i64 2, .float .f32 x, .float .f32 y, .float .f32 z, .int .i16 0, .int .i16 0, .int .i16 0, .int .i64 0, .float .f32 0] be 114) [] (by kernel_rfl) (by kernel_rfl) (fun _ h => by cases h) ?_
  simp only [List.take_succ_cons, List.take_zero, List.drop_succ_cons, List.drop_zero]
  repeat (first | ((with_reducible apply soft_detG); (case hwa => rfl); (case hA => rfl); (case h => (intro w1 hw1; have hc := hcells w1 hw1; go_simp; exact rfl)); go_simp) | ((with_reducible apply soft_callS (v := .agg #[.int .i64 2, .float .f32 x, .float .f32 y, .float .f32 z, .int .i16 0, .int .i16 0, .int .i16 0, .int .i64 0, .float .f32 0])); (case hwa => rfl); (case hA => rfl); (case h => (intro w1 hw1; have hc := hcells w1 hw1; go_simp; exact ⟨rfl, rfl⟩)); (case hc => (intro w1 hw1; with_reducible exact kE.out w1)); (case hS => exact ⟨fun _ => rfl, fun e => absurd e (by decide)⟩); (case hu => exact fun u hu => hu.1 rfl); go_simp) | ((with_reducible apply soft_callS (v := .bool be)); (case hwa => rfl); (case hA => rfl); (case h => (intro w1 hw1; have hc := hcells w1 hw1; go_simp; exact ⟨rfl, rfl⟩)); (case hc => (intro w1 hw1; with_reducible exact hs.out w1)); (case hS => exact ⟨fun e => absurd e (by decide), fun _ => rfl⟩); (case hu => exact fun u hu => hu.2 rfl); go_simp))
  refine soft_nil ?_
  rintro w2 ⟨hw2, _⟩
  go_wp2
  go_ret2
  exact ⟨rfl, Stays.trans (show Stays w _ from by (repeat (first | exact Stays.refl _ | (with_reducible refine Stays.drewN ?_ _) | (with_reducible refine Stays.alloc ?_ _) | (with_reducible refine Stays.drew ?_) | (refine Stays.trans ?_ ‹Stays _ _›)))) hw2⟩

set_option maxRecDepth 100000 in
set_option maxHeartbeats 1000000 in
theorem c_event_fixed (x y z : Nat) (m n o b : Int) (d : Nat) (be : Bool) (hs : ∀ W, Calls Try.prog 58 #[.agg #[.int .i64 3, .float .f32 0, .float .f32 0, .float .f32 0, .int .i16 m, .int .i16 n, .int .i16 o, .int .i64 0, .float .f32 0], .agg #[.int .i64 3, .float .f32 x, .float .f32 y, .float .f32 z, .int .i16 m, .int .i16 n, .int .i16 o, .int .i64 b, .float .f32 d]] W fun e w' => e = .returned (.bool be) ∧ Stays W w') (w : World) :
    Calls Try.prog 76 #[.agg #[.int .i64 3, .float .f32 x, .float .f32 y, .float .f32 z, .int .i16 m, .int .i16 n, .int .i16 o, .int .i64 b, .float .f32 d]] w fun e w' => e = .returned (.tuple #[.iface 141 (.agg #[.int .i16 m, .int .i16 n, .int .i16 o]), .bool be]) ∧ Stays w w' := by
  replace hs := Lib.hid hs
  have kE := Lib.hid fun W => c_entry_fixed m n o W
  have HB : Hid (∀ w1, Stays (w.alloc (.cells #[.int .i64 3, .float .f32 x, .float .f32 y, .float .f32 z, .int .i16 m, .int .i16 n, .int .i16 o, .int .i64 b, .float .f32 d] 97)) w1 → ∀ i, w1.cell? ⟨w.heap.size, i, none⟩ = (#[.int .i64 3, .float .f32 x, .float .f32 y, .float .f32 z, .int .i16 m, .int .i16 n, .int .i16 o, .int .i64 b, .float .f32 d] : Array Value)[i]?) := Lib.hid fun w1 h => row_of h (heap_alloc_new w _)
  have hcells : ∀ w1, Stays (w.alloc (.cells #[.int .i64 3, .float .f32 x, .float .f32 y, .float .f32 z, .int .i16 m, .int .i16 n, .int .i16 o, .int .i64 b, .float .f32 d] 97)) w1 → _ := fun w1 h => HB.out w1 h
  have hme : ∀ w : World, (method 272 141 (.agg #[.int .i16 m, .int .i16 n, .int .i16 o]) "loop.example/g01204/impl.entry").run Try.prog w = .ok (117, .agg #[.int .i16 m, .int .i16 n, .int .i16 o]) w := fun _ => by kernel_rfl
  go_enter Try.func76, Try.ntmps76
  go_wp2
  refine wp_region_soft_tail 5 (Stays.refl _) (evS #[.int .i64 3, .float .f32 0, .float .f32 0, .float .f32 0, .int .i16 m, .int .i16 n, .int .i16 o, .int .i64 0, .float .f32 0] be 117) [] (by kernel_rfl) (by kernel_rfl) (fun _ h => by cases h) ?_
  simp only [List.take_succ_cons, List.take_zero, List.drop_succ_cons, List.drop_zero]
  repeat (first | ((with_reducible apply soft_detG); (case hwa => rfl); (case hA => rfl); (case h => (intro w1 hw1; have hc := hcells w1 hw1; go_simp; exact rfl)); go_simp) | ((with_reducible apply soft_callS (v := .agg #[.int .i64 3, .float .f32 0, .float .f32 0, .float .f32 0, .int .i16 m, .int .i16 n, .int .i16 o, .int .i64 0, .float .f32 0])); (case hwa => rfl); (case hA => rfl); (case h => (intro w1 hw1; have hc := hcells w1 hw1; go_simp; exact ⟨rfl, rfl⟩)); (case hc => (intro w1 hw1; with_reducible exact kE.out w1)); (case hS => exact ⟨fun _ => rfl, fun e => absurd e (by decide)⟩); (case hu => exact fun u hu => hu.1 rfl); go_simp) | ((with_reducible apply soft_callS (v := .bool be)); (case hwa => rfl); (case hA => rfl); (case h => (intro w1 hw1; have hc := hcells w1 hw1; go_simp; exact ⟨rfl, rfl⟩)); (case hc => (intro w1 hw1; with_reducible exact hs.out w1)); (case hS => exact ⟨fun e => absurd e (by decide), fun _ => rfl⟩); (case hu => exact fun u hu => hu.2 rfl); go_simp))
  refine soft_nil ?_
  rintro w2 ⟨hw2, _⟩
  go_wp2
  go_ret2
  exact ⟨rfl, Stays.trans (show Stays w _ from by (repeat (first | exact Stays.refl _ | (with_reducible refine Stays.drewN ?_ _) | (with_reducible refine Stays.alloc ?_ _) | (with_reducible refine Stays.drew ?_) | (refine Stays.trans ?_ ‹Stays _ _›)))) hw2⟩

set_option maxRecDepth 100000 in
set_option maxHeartbeats 1000000 in
theorem c_event_ranged (x y z : Nat) (m n o b : Int) (d : Nat) (be : Bool) (hs : ∀ W, Calls Try.prog 58 #[.agg #[.int .i64 4, .float .f32 0, .float .f32 0, .float .f32 0, .int .i16 0, .int .i16 0, .int .i16 0, .int .i64 b, .float .f32 d], .agg #[.int .i64 4, .float .f32 x, .float .f32 y, .float .f32 z, .int .i16 m, .int .i16 n, .int .i16 o, .int .i64 b, .float .f32 d]] W fun e w' => e = .returned (.bool be) ∧ Stays W w') (w : World) :
    Calls Try.prog 76 #[.agg #[.int .i64 4, .float .f32 x, .float .f32 y, .float .f32 z, .int .i16 m, .int .i16 n, .int .i16 o, .int .i64 b, .float .f32 d]] w fun e w' => e = .returned (.tuple #[.iface 143 (.agg #[.int .i64 b, .float .f32 d]), .bool be]) ∧ Stays w w' := by
  replace hs := Lib.hid hs
  have kE := Lib.hid fun W => c_entry_ranged b d W
  have HB : Hid (∀ w1, Stays (w.alloc (.cells #[.int .i64 4, .float .f32 x, .float .f32 y, .float .f32 z, .int .i16 m, .int .i16 n, .int .i16 o, .int .i64 b, .float .f32 d] 97)) w1 → ∀ i, w1.cell? ⟨w.heap.size, i, none⟩ = (#[.int .i64 4, .float .f32 x, .float .f32 y, .float .f32 z, .int .i16 m, .int .i16 n, .int .i16 o, .int .i64 b, .float .f32 d] : Array Value)[i]?) := Lib.hid fun w1 h => row_of h (heap_alloc_new w _)
  have hcells : ∀ w1, Stays (w.alloc (.cells #[.int .i64 4, .float .f32 x, .float .f32 y, .float .f32 z, .int .i16 m, .int .i16 n, .int .i16 o, .int .i64 b, .float .f32 d] 97)) w1 → _ := fun w1 h => HB.out w1 h
  have hme : ∀ w : World, (method 272 143 (.agg #[.int .i64 b, .float .f32 d]) "loop.example/g01204/impl.entry").run Try.prog w = .ok (120, .agg #[.int .i64 b, .float .f32 d]) w := fun _ => by kernel_rfl
  go_enter Try.func76, Try.ntmps76
  go_wp2
  refine wp_region_soft_tail 5 (Stays.refl _) (evS #[.int .i64 4, .float .f32 0, .float .f32 0, .float .f32 0, .int .i16 0, .int .i16 0, .int .i16 0, .int .i64 b, .float .f32 d] be 120) [] (by kernel_rfl) (by kernel_rfl) (fun _ h => by cases h) ?_
  simp only [List.take_succ_cons, List.take_zero, List.drop_succ_cons, List.drop_zero]
  repeat (first | ((with_reducible apply soft_detG); (case hwa => rfl); (case hA => rfl); (case h => (intro w1 hw1; have hc := hcells w1 hw1; go_simp; exact rfl)); go_simp) | ((with_reducible apply soft_callS (v := .agg #[.int .i64 4, .float .f32 0, .float .f32 0, .float .f32 0, .int .i16 0, .int .i16 0, .int .i16 0, .int .i64 b, .float .f32 d])); (case hwa => rfl); (case hA => rfl); (case h => (intro w1 hw1; have hc := hcells w1 hw1; go_simp; exact ⟨rfl, rfl⟩)); (case hc => (intro w1 hw1; with_reducible exact kE.out w1)); (case hS => exact ⟨fun _ => rfl, fun e => absurd e (by decide)⟩); (case hu => exact fun u hu => hu.1 rfl); go_simp) | ((with_reducible apply soft_callS (v := .bool be)); (case hwa => rfl); (case hA => rfl); (case h => (intro w1 hw1; have hc := hcells w1 hw1; go_simp; exact ⟨rfl, rfl⟩)); (case hc => (intro w1 hw1; with_reducible exact hs.out w1)); (case hS => exact ⟨fun e => absurd e (by decide), fun _ => rfl⟩); (case hu => exact fun u hu => hu.2 rfl); go_simp))
  refine soft_nil ?_
  rintro w2 ⟨hw2, _⟩
  go_wp2
  go_ret2
  exact ⟨rfl, Stays.trans (show Stays w _ from by (repeat (first | exact Stays.refl _ | (with_reducible refine Stays.drewN ?_ _) | (with_reducible refine Stays.alloc ?_ _) | (with_reducible refine Stays.drew ?_) | (refine Stays.trans ?_ ‹Stays _ _›)))) hw2⟩

end Go.Proofs.Ytdojdnndligmhaa

namespace Go.Proofs.Ytdojdnndligmhaa
open Go Go.RowKit
set_option linter.unusedVariables false
set_option linter.unusedSimpArgs false

theorem same_comm (a b : Nat) : same a b = same b a := by
  unfold same
  exact Bool.eq_iff_iff.2 (by simp only [beq_iff_eq]; exact eq_comm)
theorem same_self (a : Nat) : same a a = true := by unfold same; simp
theorem sameV_comm (a b c d e f : Nat) : sameV a b c d e f = sameV d e f a b c := by unfold sameV; rw [same_comm a d, same_comm b e, same_comm c f]
theorem sameV_self (a b c : Nat) : sameV a b c a b c = true := by unfold sameV; rw [same_self, same_self, same_self]; rfl

theorem c_specSV (a b c d e f : Nat) (w : World) : Calls Try.prog 45 #[.agg #[.float .f32 a, .float .f32 b, .float .f32 c], .agg #[.float .f32 d, .float .f32 e, .float .f32 f]] w fun en w' => en = .returned (.bool (sameV a b c d e f)) ∧ Stays w w' :=
  (c_specl01SameVec a b c d e f w).mono fun en w' ⟨v, he, hv, hs⟩ => ⟨he.trans (congrArg _ hv), hs⟩
theorem c_implSV (a b c d e f : Nat) (w : World) : Calls Try.prog 72 #[.agg #[.float .f32 a, .float .f32 b, .float .f32 c], .agg #[.float .f32 d, .float .f32 e, .float .f32 f]] w fun en w' => en = .returned (.bool (sameV a b c d e f)) ∧ Stays w w' :=
  (c_implSameVec a b c d e f w).mono fun en w' ⟨v, he, hv, hs⟩ => ⟨he.trans (congrArg _ hv), hs⟩

def rawS (k : Int) (x y z : Nat) (m n o b : Int) (d : Nat) (k' : Int) (x' y' z' : Nat) (m' n' o' b' : Int) (d' : Nat) : Bool := (k == k') && (sameV x y z x' y' z' && ((decide (m = m') && (decide (n = n') && decide (o = o'))) && ((b == b') && same d d')))

set_option maxRecDepth 100000 in
set_option maxHeartbeats 1000000 in
theorem c_rawSame (k : Int) (x y z : Nat) (m n o b : Int) (d : Nat) (k' : Int) (x' y' z' : Nat) (m' n' o' b' : Int) (d' : Nat) (w : World) : Calls Try.prog 58 #[.agg #[.int .i64 k, .float .f32 x, .float .f32 y, .float .f32 z, .int .i16 m, .int .i16 n, .int .i16 o, .int .i64 b, .float .f32 d], .agg #[.int .i64 k', .float .f32 x', .float .f32 y', .float .f32 z', .int .i16 m', .int .i16 n', .int .i16 o', .int .i64 b', .float .f32 d']] w fun e w' => e = .returned (.bool (rawS k x y z m n o b d k' x' y' z' m' n' o' b' d')) ∧ Stays w w' := by
  have kV0 := fun W => c_implSV x y z x' y' z' W
  have kN0 : ∀ W : World, Calls Try.prog 78 #[.float .f32 d, .float .f32 d'] W fun e w' => e = .returned (.bool (same d d')) ∧ Stays W w' := fun W => (c_implSameNumber d d' W).mono fun e w' he => ⟨he.1, he.2 ▸ Stays.refl _⟩
  have kC := fun W => cnt_eql m n o m' n' o' W
  unfold rawS
  generalize sameV x y z x' y' z' = bv at kV0 ⊢
  generalize same d d' = bn at kN0 ⊢
  generalize (decide (m = m') && (decide (n = n') && decide (o = o'))) = bc at kC ⊢
  have kV := Lib.hid kV0
  have kN := Lib.hid kN0
  clear kV0 kN0
  have HB : Hid (∀ w1, Stays ((w.alloc (.cells #[.int .i64 k, .float .f32 x, .float .f32 y, .float .f32 z, .int .i16 m, .int .i16 n, .int .i16 o, .int .i64 b, .float .f32 d] 97)).alloc (.cells #[.int .i64 k', .float .f32 x', .float .f32 y', .float .f32 z', .int .i16 m', .int .i16 n', .int .i16 o', .int .i64 b', .float .f32 d'] 97)) w1 → ((∀ i, w1.cell? ⟨w.heap.size, i, none⟩ = (#[.int .i64 k, .float .f32 x, .float .f32 y, .float .f32 z, .int .i16 m, .int .i16 n, .int .i16 o, .int .i64 b, .float .f32 d] : Array Value)[i]?) ∧ (∀ i, w1.cell? ⟨w.heap.size + 1, i, none⟩ = (#[.int .i64 k', .float .f32 x', .float .f32 y', .float .f32 z', .int .i16 m', .int .i16 n', .int .i16 o', .int .i64 b', .float .f32 d'] : Array Value)[i]?)) ∧ Stays w w1) := Lib.hid fun w1 h => ⟨⟨row_of h (by (repeat (first | (refine heap_top _ _ _ ?_; simp; done) | (with_reducible refine heap_drawn _ _ _ ?_) | (with_reducible refine heap_under _ _ _ ?_ ?_; (simp <;> omega))))), row_of h (by (repeat (first | (refine heap_top _ _ _ ?_; simp; done) | (with_reducible refine heap_drawn _ _ _ ?_) | (with_reducible refine heap_under _ _ _ ?_ ?_; (simp <;> omega)))))⟩, Stays.trans (by (repeat (first | exact Stays.refl _ | (with_reducible refine Stays.drewN ?_ _) | (with_reducible refine Stays.alloc ?_ _) | (with_reducible refine Stays.drew ?_) | (refine Stays.trans ?_ ‹Stays _ _›)))) h⟩
  by_cases e0 : k = k'
  · subst e0
    cases bv with
    | false =>
      go_enter Try.func58, Try.ntmps58
      go_wp2_with (go_at_call 72; refine (kV.out _).mono ?_; rintro e w1 ⟨rfl, hw1⟩; obtain ⟨hc, hc'⟩ := (HB.out _ hw1).1)
      go_ret
      exact ⟨ret_b (by simp), (HB.out _ hw1).2⟩
    | true =>
      cases bc with
      | false =>
        go_enter Try.func58, Try.ntmps58
        go_wp2_with (go_at_call 72; refine (kV.out _).mono ?_; rintro e w1 ⟨rfl, hw1⟩; obtain ⟨hc, hc'⟩ := (HB.out _ hw1).1)
        go_ret
        exact ⟨ret_b (by simp), (HB.out _ hw1).2⟩
      | true =>
        by_cases e1 : b = b'
        · subst e1
          go_enter Try.func58, Try.ntmps58
          go_wp2_with (first
            | (go_at_call 72; refine (kV.out _).mono ?_; rintro e w1 ⟨rfl, hw1⟩; obtain ⟨hc, hc'⟩ := (HB.out _ hw1).1; replace hw1 := Lib.hid hw1)
            | (go_at_call 78; refine (kN.out _).mono ?_; rintro e w2 ⟨rfl, hw2⟩))
          go_ret
          exact ⟨ret_b (by simp), (HB.out _ (Stays.trans hw1.out hw2)).2⟩
        · have f1 : (b == b') = false := by simp [e1]
          go_enter Try.func58, Try.ntmps58
          go_wp2_with (go_at_call 72; refine (kV.out _).mono ?_; rintro e w1 ⟨rfl, hw1⟩; obtain ⟨hc, hc'⟩ := (HB.out _ hw1).1)
          go_ret
          exact ⟨ret_b (by simp [e1]), (HB.out _ hw1).2⟩
  · have f0 : (k == k') = false := by simp [e0]
    clear kV kN
    go_enter Try.func58, Try.ntmps58
    go_wp2
    go_ret
    exact ⟨ret_b (by simp [e0]), (HB.out _ (Stays.refl _)).2⟩


set_option maxRecDepth 100000 in
set_option maxHeartbeats 1000000 in
theorem c_may_ticked (x y z : Nat) (m n o b : Int) (d : Nat) (be bt : Bool) (hs : ∀ W, Calls Try.prog 58 #[.agg #[.int .i64 1, .float .f32 0, .float .f32 0, .float .f32 0, .int .i16 0, .int .i16 0, .int .i16 0, .int .i64 0, .float .f32 0], .agg #[.int .i64 1, .float .f32 x, .float .f32 y, .float .f32 z, .int .i16 m, .int .i16 n, .int .i16 o, .int .i64 b, .float .f32 d]] W fun e w' => e = .returned (.bool be) ∧ Stays W w') (r : Int) (x' y' z' : Nat) (A : Option Addr) (n' c : Nat) (ht : ∀ W, Calls Try.prog 112 #[.agg #[], .agg #[.int .i64 r, .float .f32 x', .float .f32 y', .float .f32 z', .slice A n' c]] W fun e w' => e = .returned (.bool bt) ∧ Stays W w') (w : World) :
    Calls Try.prog 54 #[.agg #[.int .i64 r, .float .f32 x', .float .f32 y', .float .f32 z', .slice A n' c], .agg #[.int .i64 1, .float .f32 x, .float .f32 y, .float .f32 z, .int .i16 m, .int .i16 n, .int .i16 o, .int .i64 b, .float .f32 d]] w fun e w' => e = .returned (.bool (be && bt)) ∧ Stays w w' := by
  have kE0 := fun W => c_event_ticked x y z m n o b d be hs W
  replace ht := Lib.hid ht
  clear hs
  have HB : Hid (∀ w1, Stays ((w.alloc (.cells #[.int .i64 r, .float .f32 x', .float .f32 y', .float .f32 z', .slice A n' c] 76)).alloc (.cells #[.int .i64 1, .float .f32 x, .float .f32 y, .float .f32 z, .int .i16 m, .int .i16 n, .int .i16 o, .int .i64 b, .float .f32 d] 97)) w1 → ∀ i, w1.cell? ⟨w.heap.size, i, none⟩ = (#[.int .i64 r, .float .f32 x', .float .f32 y', .float .f32 z', .slice A n' c] : Array Value)[i]?) := Lib.hid fun w1 h => row_of h (by (repeat (first | (refine heap_top _ _ _ ?_; simp; done) | (with_reducible refine heap_drawn _ _ _ ?_) | (with_reducible refine heap_under _ _ _ ?_ ?_; (simp <;> omega)))))
  have hme : ∀ w : World, (method 272 137 (.agg #[]) "loop.example/g01204/impl.fits").run Try.prog w = .ok (112, .agg #[]) w := fun _ => by kernel_rfl
  cases be with
  | false =>
    have kE := Lib.hid kE0
    clear kE0
    go_enter Try.func54, Try.ntmps54
    go_wp2_with (go_at_call 76; refine (kE.out _).mono ?_; rintro e w1 ⟨rfl, hw1⟩)
    go_ret
    exact ⟨rfl, Stays.trans (show Stays w _ from by (repeat (first | exact Stays.refl _ | (with_reducible refine Stays.drewN ?_ _) | (with_reducible refine Stays.alloc ?_ _) | (with_reducible refine Stays.drew ?_) | (refine Stays.trans ?_ ‹Stays _ _›)))) hw1⟩
  | true =>
    have kE := Lib.hid kE0
    clear kE0
    go_enter Try.func54, Try.ntmps54
    go_wp2_with (first
      | (go_at_call 76; refine (kE.out _).mono ?_; rintro e w1 ⟨rfl, hw1⟩; have hc := HB.out _ hw1)
      | (go_at_call 112; refine (ht.out _).mono ?_; rintro e w2 ⟨rfl, hw2⟩))
    go_ret
    exact ⟨ret_b (by simp), Stays.trans (show Stays w _ from by (repeat (first | exact Stays.refl _ | (with_reducible refine Stays.drewN ?_ _) | (with_reducible refine Stays.alloc ?_ _) | (with_reducible refine Stays.drew ?_) | (refine Stays.trans ?_ ‹Stays _ _›)))) (Stays.trans hw1 hw2)⟩

set_option maxRecDepth 100000 in
set_option maxHeartbeats 1000000 in
theorem c_may_moved (x y z : Nat) (m n o b : Int) (d : Nat) (be bt : Bool) (hs : ∀ W, Calls Try.prog 58 #[.agg #[.int .i64 2, .float .f32 x, .float .f32 y, .float .f32 z, .int .i16 0, .int .i16 0, .int .i16 0, .int .i64 0, .float .f32 0], .agg #[.int .i64 2, .float .f32 x, .float .f32 y, .float .f32 z, .int .i16 m, .int .i16 n, .int .i16 o, .int .i64 b, .float .f32 d]] W fun e w' => e = .returned (.bool be) ∧ Stays W w') (r : Int) (x' y' z' : Nat) (A : Option Addr) (n' c : Nat) (ht : ∀ W, Calls Try.prog 115 #[.agg #[.float .f32 x, .float .f32 y, .float .f32 z], .agg #[.int .i64 r, .float .f32 x', .float .f32 y', .float .f32 z', .slice A n' c]] W fun e w' => e = .returned (.bool bt) ∧ Stays W w') (w : World) :
    Calls Try.prog 54 #[.agg #[.int .i64 r, .float .f32 x', .float .f32 y', .float .f32 z', .slice A n' c], .agg #[.int .i64 2, .float .f32 x, .float .f32 y, .float .f32 z, .int .i16 m, .int .i16 n, .int .i16 o, .int .i64 b, .float .f32 d]] w fun e w' => e = .returned (.bool (be && bt)) ∧ Stays w w' := by
  have kE0 := fun W => c_event_moved x y z m n o b d be hs W
  replace ht := Lib.hid ht
  clear hs
  have HB : Hid (∀ w1, Stays ((w.alloc (.cells #[.int .i64 r, .float .f32 x', .float .f32 y', .float .f32 z', .slice A n' c] 76)).alloc (.cells #[.int .i64 2, .float .f32 x, .float .f32 y, .float .f32 z, .int .i16 m, .int .i16 n, .int .i16 o, .int .i64 b, .float .f32 d] 97)) w1 → ∀ i, w1.cell? ⟨w.heap.size, i, none⟩ = (#[.int .i64 r, .float .f32 x', .float .f32 y', .float .f32 z', .slice A n' c] : Array Value)[i]?) := Lib.hid fun w1 h => row_of h (by (repeat (first | (refine heap_top _ _ _ ?_; simp; done) | (with_reducible refine heap_drawn _ _ _ ?_) | (with_reducible refine heap_under _ _ _ ?_ ?_; (simp <;> omega)))))
  have hme : ∀ w : World, (method 272 139 (.agg #[.float .f32 x, .float .f32 y, .float .f32 z]) "loop.example/g01204/impl.fits").run Try.prog w = .ok (115, .agg #[.float .f32 x, .float .f32 y, .float .f32 z]) w := fun _ => by kernel_rfl
  cases be with
  | false =>
    have kE := Lib.hid kE0
    clear kE0
    go_enter Try.func54, Try.ntmps54
    go_wp2_with (go_at_call 76; refine (kE.out _).mono ?_; rintro e w1 ⟨rfl, hw1⟩)
    go_ret
    exact ⟨rfl, Stays.trans (show Stays w _ from by (repeat (first | exact Stays.refl _ | (with_reducible refine Stays.drewN ?_ _) | (with_reducible refine Stays.alloc ?_ _) | (with_reducible refine Stays.drew ?_) | (refine Stays.trans ?_ ‹Stays _ _›)))) hw1⟩
  | true =>
    have kE := Lib.hid kE0
    clear kE0
    go_enter Try.func54, Try.ntmps54
    go_wp2_with (first
      | (go_at_call 76; refine (kE.out _).mono ?_; rintro e w1 ⟨rfl, hw1⟩; have hc := HB.out _ hw1)
      | (go_at_call 115; refine (ht.out _).mono ?_; rintro e w2 ⟨rfl, hw2⟩))
    go_ret
    exact ⟨ret_b (by simp), Stays.trans (show Stays w _ from by (repeat (first | exact Stays.refl _ | (with_reducible refine Stays.drewN ?_ _) | (with_reducible refine Stays.alloc ?_ _) | (with_reducible refine Stays.drew ?_) | (refine Stays.trans ?_ ‹Stays _ _›)))) (Stays.trans hw1 hw2)⟩

set_option maxRecDepth 100000 in
set_option maxHeartbeats 1000000 in
theorem c_may_fixed (x y z : Nat) (m n o b : Int) (d : Nat) (be bt : Bool) (hs : ∀ W, Calls Try.prog 58 #[.agg #[.int .i64 3, .float .f32 0, .float .f32 0, .float .f32 0, .int .i16 m, .int .i16 n, .int .i16 o, .int .i64 0, .float .f32 0], .agg #[.int .i64 3, .float .f32 x, .float .f32 y, .float .f32 z, .int .i16 m, .int .i16 n, .int .i16 o, .int .i64 b, .float .f32 d]] W fun e w' => e = .returned (.bool be) ∧ Stays W w') (r : Int) (x' y' z' : Nat) (A : Option Addr) (n' c : Nat) (ht : ∀ W, Calls Try.prog 118 #[.agg #[.int .i16 m, .int .i16 n, .int .i16 o], .agg #[.int .i64 r, .float .f32 x', .float .f32 y', .float .f32 z', .slice A n' c]] W fun e w' => e = .returned (.bool bt) ∧ Stays W w') (w : World) :
    Calls Try.prog 54 #[.agg #[.int .i64 r, .float .f32 x', .float .f32 y', .float .f32 z', .slice A n' c], .agg #[.int .i64 3, .float .f32 x, .float .f32 y, .float .f32 z, .int .i16 m, .int .i16 n, .int .i16 o, .int .i64 b, .float .f32 d]] w fun e w' => e = .returned (.bool (be && bt)) ∧ Stays w w' := by
  have kE0 := fun W => c_event_fixed x y z m n o b d be hs W
  replace ht := Lib.hid ht
  clear hs
  have HB : Hid (∀ w1, Stays ((w.alloc (.cells #[.int .i64 r, .float .f32 x', .float .f32 y', .float .f32 z', .slice A n' c] 76)).alloc (.cells #[.int .i64 3, .float .f32 x, .float .f32 y, .float .f32 z, .int .i16 m, .int .i16 n, .int .i16 o, .int .i64 b, .float .f32 d] 97)) w1 → ∀ i, w1.cell? ⟨w.heap.size, i, none⟩ = (#[.int .i64 r, .float .f32 x', .float .f32 y', .float .f32 z', .slice A n' c] : Array Value)[i]?) := Lib.hid fun w1 h => row_of h (by (repeat (first | (refine heap_top _ _ _ ?_; simp; done) | (with_reducible refine heap_drawn _ _ _ ?_) | (with_reducible refine heap_under _ _ _ ?_ ?_; (simp <;> omega)))))
  have hme : ∀ w : World, (method 272 141 (.agg #[.int .i16 m, .int .i16 n, .int .i16 o]) "loop.example/g01204/impl.fits").run Try.prog w = .ok (118, .agg #[.int .i16 m, .int .i16 n, .int .i16 o]) w := fun _ => by kernel_rfl
  cases be with
  | false =>
    have kE := Lib.hid kE0
    clear kE0
    go_enter Try.func54, Try.ntmps54
    go_wp2_with (go_at_call 76; refine (kE.out _).mono ?_; rintro e w1 ⟨rfl, hw1⟩)
    go_ret
    exact ⟨rfl, Stays.trans (show Stays w _ from by (repeat (first | exact Stays.refl _ | (with_reducible refine Stays.drewN ?_ _) | (with_reducible refine Stays.alloc ?_ _) | (with_reducible refine Stays.drew ?_) | (refine Stays.trans ?_ ‹Stays _ _›)))) hw1⟩
  | true =>
    have kE := Lib.hid kE0
    clear kE0
    go_enter Try.func54, Try.ntmps54
    go_wp2_with (first
      | (go_at_call 76; refine (kE.out _).mono ?_; rintro e w1 ⟨rfl, hw1⟩; have hc := HB.out _ hw1)
      | (go_at_call 118; refine (ht.out _).mono ?_; rintro e w2 ⟨rfl, hw2⟩))
    go_ret
    exact ⟨ret_b (by simp), Stays.trans (show Stays w _ from by (repeat (first | exact Stays.refl _ | (with_reducible refine Stays.drewN ?_ _) | (with_reducible refine Stays.alloc ?_ _) | (with_reducible refine Stays.drew ?_) | (refine Stays.trans ?_ ‹Stays _ _›)))) (Stays.trans hw1 hw2)⟩

set_option maxRecDepth 100000 in
set_option maxHeartbeats 1000000 in
theorem c_may_ranged (x y z : Nat) (m n o b : Int) (d : Nat) (be bt : Bool) (hs : ∀ W, Calls Try.prog 58 #[.agg #[.int .i64 4, .float .f32 0, .float .f32 0, .float .f32 0, .int .i16 0, .int .i16 0, .int .i16 0, .int .i64 b, .float .f32 d], .agg #[.int .i64 4, .float .f32 x, .float .f32 y, .float .f32 z, .int .i16 m, .int .i16 n, .int .i16 o, .int .i64 b, .float .f32 d]] W fun e w' => e = .returned (.bool be) ∧ Stays W w') (r : Int) (x' y' z' : Nat) (A : Option Addr) (n' c : Nat) (ht : ∀ W, Calls Try.prog 121 #[.agg #[.int .i64 b, .float .f32 d], .agg #[.int .i64 r, .float .f32 x', .float .f32 y', .float .f32 z', .slice A n' c]] W fun e w' => e = .returned (.bool bt) ∧ Stays W w') (w : World) :
    Calls Try.prog 54 #[.agg #[.int .i64 r, .float .f32 x', .float .f32 y', .float .f32 z', .slice A n' c], .agg #[.int .i64 4, .float .f32 x, .float .f32 y, .float .f32 z, .int .i16 m, .int .i16 n, .int .i16 o, .int .i64 b, .float .f32 d]] w fun e w' => e = .returned (.bool (be && bt)) ∧ Stays w w' := by
  have kE0 := fun W => c_event_ranged x y z m n o b d be hs W
  replace ht := Lib.hid ht
  clear hs
  have HB : Hid (∀ w1, Stays ((w.alloc (.cells #[.int .i64 r, .float .f32 x', .float .f32 y', .float .f32 z', .slice A n' c] 76)).alloc (.cells #[.int .i64 4, .float .f32 x, .float .f32 y, .float .f32 z, .int .i16 m, .int .i16 n, .int .i16 o, .int .i64 b, .float .f32 d] 97)) w1 → ∀ i, w1.cell? ⟨w.heap.size, i, none⟩ = (#[.int .i64 r, .float .f32 x', .float .f32 y', .float .f32 z', .slice A n' c] : Array Value)[i]?) := Lib.hid fun w1 h => row_of h (by (repeat (first | (refine heap_top _ _ _ ?_; simp; done) | (with_reducible refine heap_drawn _ _ _ ?_) | (with_reducible refine heap_under _ _ _ ?_ ?_; (simp <;> omega)))))
  have hme : ∀ w : World, (method 272 143 (.agg #[.int .i64 b, .float .f32 d]) "loop.example/g01204/impl.fits").run Try.prog w = .ok (121, .agg #[.int .i64 b, .float .f32 d]) w := fun _ => by kernel_rfl
  cases be with
  | false =>
    have kE := Lib.hid kE0
    clear kE0
    go_enter Try.func54, Try.ntmps54
    go_wp2_with (go_at_call 76; refine (kE.out _).mono ?_; rintro e w1 ⟨rfl, hw1⟩)
    go_ret
    exact ⟨rfl, Stays.trans (show Stays w _ from by (repeat (first | exact Stays.refl _ | (with_reducible refine Stays.drewN ?_ _) | (with_reducible refine Stays.alloc ?_ _) | (with_reducible refine Stays.drew ?_) | (refine Stays.trans ?_ ‹Stays _ _›)))) hw1⟩
  | true =>
    have kE := Lib.hid kE0
    clear kE0
    go_enter Try.func54, Try.ntmps54
    go_wp2_with (first
      | (go_at_call 76; refine (kE.out _).mono ?_; rintro e w1 ⟨rfl, hw1⟩; have hc := HB.out _ hw1)
      | (go_at_call 121; refine (ht.out _).mono ?_; rintro e w2 ⟨rfl, hw2⟩))
    go_ret
    exact ⟨ret_b (by simp), Stays.trans (show Stays w _ from by (repeat (first | exact Stays.refl _ | (with_reducible refine Stays.drewN ?_ _) | (with_reducible refine Stays.alloc ?_ _) | (with_reducible refine Stays.drew ?_) | (refine Stays.trans ?_ ‹Stays _ _›)))) (Stays.trans hw1 hw2)⟩

set_option maxRecDepth 100000 in
set_option maxHeartbeats 1000000 in
theorem c_may_none (k : Int) (h1 : k ≠ 1) (h2 : k ≠ 2) (h3 : k ≠ 3) (h4 : k ≠ 4) (x y z : Nat) (m n o b : Int) (d : Nat) (r : Int) (x' y' z' : Nat) (A : Option Addr) (n' c : Nat) (w : World) :
    Calls Try.prog 54 #[.agg #[.int .i64 r, .float .f32 x', .float .f32 y', .float .f32 z', .slice A n' c], .agg #[.int .i64 k, .float .f32 x, .float .f32 y, .float .f32 z, .int .i16 m, .int .i16 n, .int .i16 o, .int .i64 b, .float .f32 d]] w fun e w' => e = .returned (.bool false) ∧ Stays w w' := by
  have kE : Hid (∀ W, Calls Try.prog 76 #[.agg #[.int .i64 k, .float .f32 x, .float .f32 y, .float .f32 z, .int .i16 m, .int .i16 n, .int .i16 o, .int .i64 b, .float .f32 d]] W fun e w' => e = .returned (.tuple #[.nilIface, .bool false]) ∧ Stays W w') := Lib.hid fun W => by
    have e1 : (k == 1) = false := by simp [h1]
    have e2 : (k == 2) = false := by simp [h2]
    have e3 : (k == 3) = false := by simp [h3]
    have e4 : (k == 4) = false := by simp [h4]
    clear h1 h2 h3 h4
    go_enter Try.func76, Try.ntmps76
    go_wp2
    go_ret2
    exact ⟨rfl, show Stays W _ from by (repeat (first | exact Stays.refl _ | (with_reducible refine Stays.drewN ?_ _) | (with_reducible refine Stays.alloc ?_ _) | (with_reducible refine Stays.drew ?_) | (refine Stays.trans ?_ ‹Stays _ _›)))⟩
  clear h1 h2 h3 h4
  go_enter Try.func54, Try.ntmps54
  go_wp2_with (go_at_call 76; refine (kE.out _).mono ?_; rintro e w1 ⟨rfl, hw1⟩)
  go_ret
  exact ⟨rfl, Stays.trans (show Stays w _ from by (repeat (first | exact Stays.refl _ | (with_reducible refine Stays.drewN ?_ _) | (with_reducible refine Stays.alloc ?_ _) | (with_reducible refine Stays.drew ?_) | (refine Stays.trans ?_ ‹Stays _ _›)))) hw1⟩

def kindB (k : Int) (bz bf bc : Bool) (b : Int) (bd bg : Bool) (nn : Nat) : Bool :=
  if k = 1 then (bz && (bd && bc)) && (b == 0) else if k = 2 then bf && (bd && (bc && (b == 0))) else if k = 3 then bz && (bd && (b == 0)) else if k = 4 then bz && (bc && (bg && decide (0 ≤ b ∧ b ≤ (nn : Int) - 1))) else false

def rawB (k : Int) (x y z : Nat) (m n o b : Int) (d : Nat) (bf : Bool) (nn : Nat) : Bool := kindB k (sameV x y z 0 0 0) bf (decide (m = 0) && (decide (n = 0) && decide (o = 0))) b (same d 0) (finB (can .f32 d)) nn

theorem int_zero (b : Int) : ((0 : Int) == b) = (b == 0) := Bool.eq_iff_iff.2 (by simp only [beq_iff_eq]; exact eq_comm)
theorem dec_zero (m n o : Int) : (decide ((0 : Int) = m) && (decide ((0 : Int) = n) && decide ((0 : Int) = o))) = (decide (m = 0) && (decide (n = 0) && decide (o = 0))) := by
  rw [decide_eq_decide.2 (show (0 : Int) = m ↔ m = 0 from eq_comm), decide_eq_decide.2 (show (0 : Int) = n ↔ n = 0 from eq_comm), decide_eq_decide.2 (show (0 : Int) = o ↔ o = 0 from eq_comm)]

theorem c_mayHave (k : Int) (x y z : Nat) (m n o b : Int) (d : Nat) (bf : Bool) (hf : ∀ W, Calls Try.prog 68 #[.agg #[.float .f32 x, .float .f32 y, .float .f32 z]] W fun e w' => e = .returned (.bool bf) ∧ Stays W w') (r : Int) (x' y' z' : Nat) (A : Option Addr) (n' c : Nat) (w : World) :
    Calls Try.prog 54 #[.agg #[.int .i64 r, .float .f32 x', .float .f32 y', .float .f32 z', .slice A n' c], .agg #[.int .i64 k, .float .f32 x, .float .f32 y, .float .f32 z, .int .i16 m, .int .i16 n, .int .i16 o, .int .i64 b, .float .f32 d]] w fun e w' => e = .returned (.bool (rawB k x y z m n o b d bf n')) ∧ Stays w w' := by
  unfold rawB kindB
  by_cases h1 : k = 1
  · subst h1
    refine (c_may_ticked x y z m n o b d _ true (fun W => c_rawSame 1 0 0 0 0 0 0 0 0 1 x y z m n o b d W) r x' y' z' A n' c (fun W => c_fits_ticked r x' y' z' A n' c W) w).mono fun e w' he => ⟨he.1.trans (ret_b ?_), he.2⟩
    unfold rawS
    rw [if_pos rfl, sameV_comm 0 0 0 x y z, same_comm 0 d, int_zero, dec_zero]
    generalize sameV x y z 0 0 0 = q1
    generalize same d 0 = q2
    generalize (decide (m = 0) && (decide (n = 0) && decide (o = 0))) = q3
    generalize (b == 0) = q4
    cases q1 <;> cases q2 <;> cases q3 <;> cases q4 <;> rfl
  · rw [if_neg h1]
    by_cases h2 : k = 2
    · subst h2
      refine (c_may_moved x y z m n o b d _ bf (fun W => c_rawSame 2 x y z 0 0 0 0 0 2 x y z m n o b d W) r x' y' z' A n' c (fun W => c_fits_moved x y z bf hf r x' y' z' A n' c W) w).mono fun e w' he => ⟨he.1.trans (ret_b ?_), he.2⟩
      unfold rawS
      rw [if_pos rfl, sameV_self, same_comm 0 d, int_zero, dec_zero]
      generalize same d 0 = q2
      generalize (decide (m = 0) && (decide (n = 0) && decide (o = 0))) = q3
      generalize (b == 0) = q4
      cases bf <;> cases q2 <;> cases q3 <;> cases q4 <;> rfl
    · rw [if_neg h2]
      by_cases h3 : k = 3
      · subst h3
        refine (c_may_fixed x y z m n o b d _ true (fun W => c_rawSame 3 0 0 0 m n o 0 0 3 x y z m n o b d W) r x' y' z' A n' c (fun W => c_fits_fixed m n o r x' y' z' A n' c W) w).mono fun e w' he => ⟨he.1.trans (ret_b ?_), he.2⟩
        unfold rawS
        rw [if_pos rfl, sameV_comm 0 0 0 x y z, same_comm 0 d, int_zero, decide_eq_true (Eq.refl m), decide_eq_true (Eq.refl n), decide_eq_true (Eq.refl o)]
        generalize sameV x y z 0 0 0 = q1
        generalize same d 0 = q2
        generalize (b == 0) = q4
        cases q1 <;> cases q2 <;> cases q4 <;> rfl
      · rw [if_neg h3]
        by_cases h4 : k = 4
        · subst h4
          refine (c_may_ranged x y z m n o b d _ _ (fun W => c_rawSame 4 0 0 0 0 0 0 b d 4 x y z m n o b d W) r x' y' z' A n' c (fun W => c_fits_ranged b d r x' y' z' A n' c W) w).mono fun e w' he => ⟨he.1.trans (ret_b ?_), he.2⟩
          unfold rawS
          rw [if_pos rfl, sameV_comm 0 0 0 x y z, same_self, dec_zero, decide_eq_decide.2 (show (0 ≤ b ∧ b < (n' : Int)) ↔ (0 ≤ b ∧ b ≤ (n' : Int) - 1) from by omega), show (b == b) = true from beq_self_eq_true b]
          generalize sameV x y z 0 0 0 = q1
          generalize (decide (m = 0) && (decide (n = 0) && decide (o = 0))) = q3
          generalize decide (0 ≤ b ∧ b ≤ (n' : Int) - 1) = q4
          generalize finB (can .f32 d) = q5
          cases q1 <;> cases q3 <;> cases q4 <;> cases q5 <;> rfl
        · rw [if_neg h4]
          exact c_may_none k h1 h2 h3 h4 x y z m n o b d r x' y' z' A n' c w
end Go.Proofs.Ytdojdnndligmhaa

namespace Go.Proofs.Ytdojdnndligmhaa
open Go Go.RowKit
set_option linter.unusedVariables false
set_option linter.unusedSimpArgs false

set_option maxRecDepth 100000 in
set_option maxHeartbeats 8000000 in
theorem c_ent_one (p : Addr) (x y z : Nat) (m n o b : Int) (d : Nat) (bz bf bc bd bg bi : Bool) (nn : Nat) (hsub : IntKind.i64.wrap ((nn : Int) - 1) = (nn : Int) - 1) (w : World) (hcells : ∀ w', Stays w w' → w'.cell? p = some (.int .i64 1) ∧ w'.cell? ⟨p.block, p.off + 1, none⟩ = some (.float .f32 x) ∧ w'.cell? ⟨p.block, p.off + 1 + 1, none⟩ = some (.float .f32 y) ∧ w'.cell? ⟨p.block, p.off + 1 + 2, none⟩ = some (.float .f32 z) ∧ w'.cell? ⟨p.block, p.off + 4, none⟩ = some (.int .i16 m) ∧ w'.cell? ⟨p.block, p.off + 4 + 1, none⟩ = some (.int .i16 n) ∧ w'.cell? ⟨p.block, p.off + 4 + 2, none⟩ = some (.int .i16 o) ∧ w'.cell? ⟨p.block, p.off + 7, none⟩ = some (.int .i64 b) ∧ w'.cell? ⟨p.block, p.off + 8, none⟩ = some (.float .f32 d))
    (kF : Hid (∀ W, Calls Try.prog 66 #[.agg #[.float .f32 x, .float .f32 y, .float .f32 z]] W fun e w' => e = .returned (.bool bf) ∧ Stays W w'))
    (kZ : Hid (∀ W, Calls Try.prog 45 #[.agg #[.float .f32 x, .float .f32 y, .float .f32 z], .agg #[.float .f32 0, .float .f32 0, .float .f32 0]] W fun e w' => e = .returned (.bool bz) ∧ Stays W w'))
    (kD : Hid (∀ W, Calls Try.prog 71 #[.float .f32 d, .float .f32 0] W fun e w' => e = .returned (.bool bd) ∧ Stays W w'))
    (kG : Hid (∀ W, Calls Try.prog 81 #[.float .f32 d] W fun e w' => e = .returned (.bool bg) ∧ Stays W w'))
    (kI : Hid (∀ W, Calls Try.prog 65 #[.int .i64 b, .int .i64 0, .int .i64 ((nn : Int) - 1)] W fun e w' => e = .returned (.bool bi) ∧ Stays W w'))
    (kC : ∀ W, (binOp BinOp.eql 95 (.agg #[.int .i16 m, .int .i16 n, .int .i16 o]) (.agg #[.int .i16 0, .int .i16 0, .int .i16 0])).run Try.prog W = .ok (.bool bc) W) :
    Calls Try.prog 74 #[.pointer (some p), .int .i64 nn] w fun e w' => e = .returned (.bool ((bz && (bd && bc)) && (b == 0))) ∧ Stays w w' := by
  have HB := Lib.hid hcells
  clear hcells
  cases bz with
  | false =>
    have hS : Stays w w := Stays.refl w
    obtain ⟨g0, g1, g2, g3, g4, g5, g6, g7, g8⟩ := HB.out _ hS
    go_enter Try.func74, Try.ntmps74
    go_wp2_with (first
      | (go_at_call 45; refine (kZ.out _).mono ?_; rintro e w1 ⟨rfl, hw1⟩; replace hS := Stays.trans hS hw1; clear hw1 g0 g1 g2 g3 g4 g5 g6 g7 g8; obtain ⟨g0, g1, g2, g3, g4, g5, g6, g7, g8⟩ := HB.out _ hS)
      | (go_at_call 71; refine (kD.out _).mono ?_; rintro e w1 ⟨rfl, hw1⟩; replace hS := Stays.trans hS hw1; clear hw1 g0 g1 g2 g3 g4 g5 g6 g7 g8; obtain ⟨g0, g1, g2, g3, g4, g5, g6, g7, g8⟩ := HB.out _ hS)
      | (go_at_call 66; refine (kF.out _).mono ?_; rintro e w1 ⟨rfl, hw1⟩; replace hS := Stays.trans hS hw1; clear hw1 g0 g1 g2 g3 g4 g5 g6 g7 g8; obtain ⟨g0, g1, g2, g3, g4, g5, g6, g7, g8⟩ := HB.out _ hS)
      | (go_at_call 81; refine (kG.out _).mono ?_; rintro e w1 ⟨rfl, hw1⟩; replace hS := Stays.trans hS hw1; clear hw1 g0 g1 g2 g3 g4 g5 g6 g7 g8; obtain ⟨g0, g1, g2, g3, g4, g5, g6, g7, g8⟩ := HB.out _ hS)
      | (go_at_call 65; refine (kI.out _).mono ?_; rintro e w1 ⟨rfl, hw1⟩; replace hS := Stays.trans hS hw1; clear hw1 g0 g1 g2 g3 g4 g5 g6 g7 g8; obtain ⟨g0, g1, g2, g3, g4, g5, g6, g7, g8⟩ := HB.out _ hS))
    go_ret
    exact ⟨ret_b (by first | rfl | simp), hS⟩
  | true =>
    cases bd with
    | false =>
      have hS : Stays w w := Stays.refl w
      obtain ⟨g0, g1, g2, g3, g4, g5, g6, g7, g8⟩ := HB.out _ hS
      go_enter Try.func74, Try.ntmps74
      go_wp2_with (first
        | (go_at_call 45; refine (kZ.out _).mono ?_; rintro e w1 ⟨rfl, hw1⟩; replace hS := Stays.trans hS hw1; clear hw1 g0 g1 g2 g3 g4 g5 g6 g7 g8; obtain ⟨g0, g1, g2, g3, g4, g5, g6, g7, g8⟩ := HB.out _ hS)
        | (go_at_call 71; refine (kD.out _).mono ?_; rintro e w1 ⟨rfl, hw1⟩; replace hS := Stays.trans hS hw1; clear hw1 g0 g1 g2 g3 g4 g5 g6 g7 g8; obtain ⟨g0, g1, g2, g3, g4, g5, g6, g7, g8⟩ := HB.out _ hS)
        | (go_at_call 66; refine (kF.out _).mono ?_; rintro e w1 ⟨rfl, hw1⟩; replace hS := Stays.trans hS hw1; clear hw1 g0 g1 g2 g3 g4 g5 g6 g7 g8; obtain ⟨g0, g1, g2, g3, g4, g5, g6, g7, g8⟩ := HB.out _ hS)
        | (go_at_call 81; refine (kG.out _).mono ?_; rintro e w1 ⟨rfl, hw1⟩; replace hS := Stays.trans hS hw1; clear hw1 g0 g1 g2 g3 g4 g5 g6 g7 g8; obtain ⟨g0, g1, g2, g3, g4, g5, g6, g7, g8⟩ := HB.out _ hS)
        | (go_at_call 65; refine (kI.out _).mono ?_; rintro e w1 ⟨rfl, hw1⟩; replace hS := Stays.trans hS hw1; clear hw1 g0 g1 g2 g3 g4 g5 g6 g7 g8; obtain ⟨g0, g1, g2, g3, g4, g5, g6, g7, g8⟩ := HB.out _ hS))
      go_ret
      exact ⟨ret_b (by first | rfl | simp), hS⟩
    | true =>
      cases bc with
      | false =>
        have hS : Stays w w := Stays.refl w
        obtain ⟨g0, g1, g2, g3, g4, g5, g6, g7, g8⟩ := HB.out _ hS
        go_enter Try.func74, Try.ntmps74
        go_wp2_with (first
          | (go_at_call 45; refine (kZ.out _).mono ?_; rintro e w1 ⟨rfl, hw1⟩; replace hS := Stays.trans hS hw1; clear hw1 g0 g1 g2 g3 g4 g5 g6 g7 g8; obtain ⟨g0, g1, g2, g3, g4, g5, g6, g7, g8⟩ := HB.out _ hS)
          | (go_at_call 71; refine (kD.out _).mono ?_; rintro e w1 ⟨rfl, hw1⟩; replace hS := Stays.trans hS hw1; clear hw1 g0 g1 g2 g3 g4 g5 g6 g7 g8; obtain ⟨g0, g1, g2, g3, g4, g5, g6, g7, g8⟩ := HB.out _ hS)
          | (go_at_call 66; refine (kF.out _).mono ?_; rintro e w1 ⟨rfl, hw1⟩; replace hS := Stays.trans hS hw1; clear hw1 g0 g1 g2 g3 g4 g5 g6 g7 g8; obtain ⟨g0, g1, g2, g3, g4, g5, g6, g7, g8⟩ := HB.out _ hS)
          | (go_at_call 81; refine (kG.out _).mono ?_; rintro e w1 ⟨rfl, hw1⟩; replace hS := Stays.trans hS hw1; clear hw1 g0 g1 g2 g3 g4 g5 g6 g7 g8; obtain ⟨g0, g1, g2, g3, g4, g5, g6, g7, g8⟩ := HB.out _ hS)
          | (go_at_call 65; refine (kI.out _).mono ?_; rintro e w1 ⟨rfl, hw1⟩; replace hS := Stays.trans hS hw1; clear hw1 g0 g1 g2 g3 g4 g5 g6 g7 g8; obtain ⟨g0, g1, g2, g3, g4, g5, g6, g7, g8⟩ := HB.out _ hS))
        go_ret
        exact ⟨ret_b (by first | rfl | simp), hS⟩
      | true =>
        have hS : Stays w w := Stays.refl w
        obtain ⟨g0, g1, g2, g3, g4, g5, g6, g7, g8⟩ := HB.out _ hS
        go_enter Try.func74, Try.ntmps74
        go_wp2_with (first
          | (go_at_call 45; refine (kZ.out _).mono ?_; rintro e w1 ⟨rfl, hw1⟩; replace hS := Stays.trans hS hw1; clear hw1 g0 g1 g2 g3 g4 g5 g6 g7 g8; obtain ⟨g0, g1, g2, g3, g4, g5, g6, g7, g8⟩ := HB.out _ hS)
          | (go_at_call 71; refine (kD.out _).mono ?_; rintro e w1 ⟨rfl, hw1⟩; replace hS := Stays.trans hS hw1; clear hw1 g0 g1 g2 g3 g4 g5 g6 g7 g8; obtain ⟨g0, g1, g2, g3, g4, g5, g6, g7, g8⟩ := HB.out _ hS)
          | (go_at_call 66; refine (kF.out _).mono ?_; rintro e w1 ⟨rfl, hw1⟩; replace hS := Stays.trans hS hw1; clear hw1 g0 g1 g2 g3 g4 g5 g6 g7 g8; obtain ⟨g0, g1, g2, g3, g4, g5, g6, g7, g8⟩ := HB.out _ hS)
          | (go_at_call 81; refine (kG.out _).mono ?_; rintro e w1 ⟨rfl, hw1⟩; replace hS := Stays.trans hS hw1; clear hw1 g0 g1 g2 g3 g4 g5 g6 g7 g8; obtain ⟨g0, g1, g2, g3, g4, g5, g6, g7, g8⟩ := HB.out _ hS)
          | (go_at_call 65; refine (kI.out _).mono ?_; rintro e w1 ⟨rfl, hw1⟩; replace hS := Stays.trans hS hw1; clear hw1 g0 g1 g2 g3 g4 g5 g6 g7 g8; obtain ⟨g0, g1, g2, g3, g4, g5, g6, g7, g8⟩ := HB.out _ hS))
        go_ret
        exact ⟨ret_b (by first | rfl | simp), hS⟩

set_option maxRecDepth 100000 in
set_option maxHeartbeats 8000000 in
theorem c_ent_two (p : Addr) (x y z : Nat) (m n o b : Int) (d : Nat) (bz bf bc bd bg bi : Bool) (nn : Nat) (hsub : IntKind.i64.wrap ((nn : Int) - 1) = (nn : Int) - 1) (w : World) (hcells : ∀ w', Stays w w' → w'.cell? p = some (.int .i64 2) ∧ w'.cell? ⟨p.block, p.off + 1, none⟩ = some (.float .f32 x) ∧ w'.cell? ⟨p.block, p.off + 1 + 1, none⟩ = some (.float .f32 y) ∧ w'.cell? ⟨p.block, p.off + 1 + 2, none⟩ = some (.float .f32 z) ∧ w'.cell? ⟨p.block, p.off + 4, none⟩ = some (.int .i16 m) ∧ w'.cell? ⟨p.block, p.off + 4 + 1, none⟩ = some (.int .i16 n) ∧ w'.cell? ⟨p.block, p.off + 4 + 2, none⟩ = some (.int .i16 o) ∧ w'.cell? ⟨p.block, p.off + 7, none⟩ = some (.int .i64 b) ∧ w'.cell? ⟨p.block, p.off + 8, none⟩ = some (.float .f32 d))
    (kF : Hid (∀ W, Calls Try.prog 66 #[.agg #[.float .f32 x, .float .f32 y, .float .f32 z]] W fun e w' => e = .returned (.bool bf) ∧ Stays W w'))
    (kZ : Hid (∀ W, Calls Try.prog 45 #[.agg #[.float .f32 x, .float .f32 y, .float .f32 z], .agg #[.float .f32 0, .float .f32 0, .float .f32 0]] W fun e w' => e = .returned (.bool bz) ∧ Stays W w'))
    (kD : Hid (∀ W, Calls Try.prog 71 #[.float .f32 d, .float .f32 0] W fun e w' => e = .returned (.bool bd) ∧ Stays W w'))
    (kG : Hid (∀ W, Calls Try.prog 81 #[.float .f32 d] W fun e w' => e = .returned (.bool bg) ∧ Stays W w'))
    (kI : Hid (∀ W, Calls Try.prog 65 #[.int .i64 b, .int .i64 0, .int .i64 ((nn : Int) - 1)] W fun e w' => e = .returned (.bool bi) ∧ Stays W w'))
    (kC : ∀ W, (binOp BinOp.eql 95 (.agg #[.int .i16 m, .int .i16 n, .int .i16 o]) (.agg #[.int .i16 0, .int .i16 0, .int .i16 0])).run Try.prog W = .ok (.bool bc) W) :
    Calls Try.prog 74 #[.pointer (some p), .int .i64 nn] w fun e w' => e = .returned (.bool (bf && (bd && (bc && (b == 0))))) ∧ Stays w w' := by
  have HB := Lib.hid hcells
  clear hcells
  cases bf with
  | false =>
    cases bz with
    | false =>
      have hS : Stays w w := Stays.refl w
      obtain ⟨g0, g1, g2, g3, g4, g5, g6, g7, g8⟩ := HB.out _ hS
      go_enter Try.func74, Try.ntmps74
      go_wp2_with (first
        | (go_at_call 45; refine (kZ.out _).mono ?_; rintro e w1 ⟨rfl, hw1⟩; replace hS := Stays.trans hS hw1; clear hw1 g0 g1 g2 g3 g4 g5 g6 g7 g8; obtain ⟨g0, g1, g2, g3, g4, g5, g6, g7, g8⟩ := HB.out _ hS)
        | (go_at_call 71; refine (kD.out _).mono ?_; rintro e w1 ⟨rfl, hw1⟩; replace hS := Stays.trans hS hw1; clear hw1 g0 g1 g2 g3 g4 g5 g6 g7 g8; obtain ⟨g0, g1, g2, g3, g4, g5, g6, g7, g8⟩ := HB.out _ hS)
        | (go_at_call 66; refine (kF.out _).mono ?_; rintro e w1 ⟨rfl, hw1⟩; replace hS := Stays.trans hS hw1; clear hw1 g0 g1 g2 g3 g4 g5 g6 g7 g8; obtain ⟨g0, g1, g2, g3, g4, g5, g6, g7, g8⟩ := HB.out _ hS)
        | (go_at_call 81; refine (kG.out _).mono ?_; rintro e w1 ⟨rfl, hw1⟩; replace hS := Stays.trans hS hw1; clear hw1 g0 g1 g2 g3 g4 g5 g6 g7 g8; obtain ⟨g0, g1, g2, g3, g4, g5, g6, g7, g8⟩ := HB.out _ hS)
        | (go_at_call 65; refine (kI.out _).mono ?_; rintro e w1 ⟨rfl, hw1⟩; replace hS := Stays.trans hS hw1; clear hw1 g0 g1 g2 g3 g4 g5 g6 g7 g8; obtain ⟨g0, g1, g2, g3, g4, g5, g6, g7, g8⟩ := HB.out _ hS))
      go_ret
      exact ⟨ret_b (by first | rfl | simp), hS⟩
    | true =>
      cases bd with
      | false =>
        have hS : Stays w w := Stays.refl w
        obtain ⟨g0, g1, g2, g3, g4, g5, g6, g7, g8⟩ := HB.out _ hS
        go_enter Try.func74, Try.ntmps74
        go_wp2_with (first
          | (go_at_call 45; refine (kZ.out _).mono ?_; rintro e w1 ⟨rfl, hw1⟩; replace hS := Stays.trans hS hw1; clear hw1 g0 g1 g2 g3 g4 g5 g6 g7 g8; obtain ⟨g0, g1, g2, g3, g4, g5, g6, g7, g8⟩ := HB.out _ hS)
          | (go_at_call 71; refine (kD.out _).mono ?_; rintro e w1 ⟨rfl, hw1⟩; replace hS := Stays.trans hS hw1; clear hw1 g0 g1 g2 g3 g4 g5 g6 g7 g8; obtain ⟨g0, g1, g2, g3, g4, g5, g6, g7, g8⟩ := HB.out _ hS)
          | (go_at_call 66; refine (kF.out _).mono ?_; rintro e w1 ⟨rfl, hw1⟩; replace hS := Stays.trans hS hw1; clear hw1 g0 g1 g2 g3 g4 g5 g6 g7 g8; obtain ⟨g0, g1, g2, g3, g4, g5, g6, g7, g8⟩ := HB.out _ hS)
          | (go_at_call 81; refine (kG.out _).mono ?_; rintro e w1 ⟨rfl, hw1⟩; replace hS := Stays.trans hS hw1; clear hw1 g0 g1 g2 g3 g4 g5 g6 g7 g8; obtain ⟨g0, g1, g2, g3, g4, g5, g6, g7, g8⟩ := HB.out _ hS)
          | (go_at_call 65; refine (kI.out _).mono ?_; rintro e w1 ⟨rfl, hw1⟩; replace hS := Stays.trans hS hw1; clear hw1 g0 g1 g2 g3 g4 g5 g6 g7 g8; obtain ⟨g0, g1, g2, g3, g4, g5, g6, g7, g8⟩ := HB.out _ hS))
        go_ret
        exact ⟨ret_b (by first | rfl | simp), hS⟩
      | true =>
        have hS : Stays w w := Stays.refl w
        obtain ⟨g0, g1, g2, g3, g4, g5, g6, g7, g8⟩ := HB.out _ hS
        go_enter Try.func74, Try.ntmps74
        go_wp2_with (first
          | (go_at_call 45; refine (kZ.out _).mono ?_; rintro e w1 ⟨rfl, hw1⟩; replace hS := Stays.trans hS hw1; clear hw1 g0 g1 g2 g3 g4 g5 g6 g7 g8; obtain ⟨g0, g1, g2, g3, g4, g5, g6, g7, g8⟩ := HB.out _ hS)
          | (go_at_call 71; refine (kD.out _).mono ?_; rintro e w1 ⟨rfl, hw1⟩; replace hS := Stays.trans hS hw1; clear hw1 g0 g1 g2 g3 g4 g5 g6 g7 g8; obtain ⟨g0, g1, g2, g3, g4, g5, g6, g7, g8⟩ := HB.out _ hS)
          | (go_at_call 66; refine (kF.out _).mono ?_; rintro e w1 ⟨rfl, hw1⟩; replace hS := Stays.trans hS hw1; clear hw1 g0 g1 g2 g3 g4 g5 g6 g7 g8; obtain ⟨g0, g1, g2, g3, g4, g5, g6, g7, g8⟩ := HB.out _ hS)
          | (go_at_call 81; refine (kG.out _).mono ?_; rintro e w1 ⟨rfl, hw1⟩; replace hS := Stays.trans hS hw1; clear hw1 g0 g1 g2 g3 g4 g5 g6 g7 g8; obtain ⟨g0, g1, g2, g3, g4, g5, g6, g7, g8⟩ := HB.out _ hS)
          | (go_at_call 65; refine (kI.out _).mono ?_; rintro e w1 ⟨rfl, hw1⟩; replace hS := Stays.trans hS hw1; clear hw1 g0 g1 g2 g3 g4 g5 g6 g7 g8; obtain ⟨g0, g1, g2, g3, g4, g5, g6, g7, g8⟩ := HB.out _ hS))
        go_ret
        exact ⟨ret_b (by first | rfl | simp), hS⟩
  | true =>
    cases bd with
    | false =>
      cases bz with
      | false =>
        have hS : Stays w w := Stays.refl w
        obtain ⟨g0, g1, g2, g3, g4, g5, g6, g7, g8⟩ := HB.out _ hS
        go_enter Try.func74, Try.ntmps74
        go_wp2_with (first
          | (go_at_call 45; refine (kZ.out _).mono ?_; rintro e w1 ⟨rfl, hw1⟩; replace hS := Stays.trans hS hw1; clear hw1 g0 g1 g2 g3 g4 g5 g6 g7 g8; obtain ⟨g0, g1, g2, g3, g4, g5, g6, g7, g8⟩ := HB.out _ hS)
          | (go_at_call 71; refine (kD.out _).mono ?_; rintro e w1 ⟨rfl, hw1⟩; replace hS := Stays.trans hS hw1; clear hw1 g0 g1 g2 g3 g4 g5 g6 g7 g8; obtain ⟨g0, g1, g2, g3, g4, g5, g6, g7, g8⟩ := HB.out _ hS)
          | (go_at_call 66; refine (kF.out _).mono ?_; rintro e w1 ⟨rfl, hw1⟩; replace hS := Stays.trans hS hw1; clear hw1 g0 g1 g2 g3 g4 g5 g6 g7 g8; obtain ⟨g0, g1, g2, g3, g4, g5, g6, g7, g8⟩ := HB.out _ hS)
          | (go_at_call 81; refine (kG.out _).mono ?_; rintro e w1 ⟨rfl, hw1⟩; replace hS := Stays.trans hS hw1; clear hw1 g0 g1 g2 g3 g4 g5 g6 g7 g8; obtain ⟨g0, g1, g2, g3, g4, g5, g6, g7, g8⟩ := HB.out _ hS)
          | (go_at_call 65; refine (kI.out _).mono ?_; rintro e w1 ⟨rfl, hw1⟩; replace hS := Stays.trans hS hw1; clear hw1 g0 g1 g2 g3 g4 g5 g6 g7 g8; obtain ⟨g0, g1, g2, g3, g4, g5, g6, g7, g8⟩ := HB.out _ hS))
        go_ret
        exact ⟨ret_b (by first | rfl | simp), hS⟩
      | true =>
        have hS : Stays w w := Stays.refl w
        obtain ⟨g0, g1, g2, g3, g4, g5, g6, g7, g8⟩ := HB.out _ hS
        go_enter Try.func74, Try.ntmps74
        go_wp2_with (first
          | (go_at_call 45; refine (kZ.out _).mono ?_; rintro e w1 ⟨rfl, hw1⟩; replace hS := Stays.trans hS hw1; clear hw1 g0 g1 g2 g3 g4 g5 g6 g7 g8; obtain ⟨g0, g1, g2, g3, g4, g5, g6, g7, g8⟩ := HB.out _ hS)
          | (go_at_call 71; refine (kD.out _).mono ?_; rintro e w1 ⟨rfl, hw1⟩; replace hS := Stays.trans hS hw1; clear hw1 g0 g1 g2 g3 g4 g5 g6 g7 g8; obtain ⟨g0, g1, g2, g3, g4, g5, g6, g7, g8⟩ := HB.out _ hS)
          | (go_at_call 66; refine (kF.out _).mono ?_; rintro e w1 ⟨rfl, hw1⟩; replace hS := Stays.trans hS hw1; clear hw1 g0 g1 g2 g3 g4 g5 g6 g7 g8; obtain ⟨g0, g1, g2, g3, g4, g5, g6, g7, g8⟩ := HB.out _ hS)
          | (go_at_call 81; refine (kG.out _).mono ?_; rintro e w1 ⟨rfl, hw1⟩; replace hS := Stays.trans hS hw1; clear hw1 g0 g1 g2 g3 g4 g5 g6 g7 g8; obtain ⟨g0, g1, g2, g3, g4, g5, g6, g7, g8⟩ := HB.out _ hS)
          | (go_at_call 65; refine (kI.out _).mono ?_; rintro e w1 ⟨rfl, hw1⟩; replace hS := Stays.trans hS hw1; clear hw1 g0 g1 g2 g3 g4 g5 g6 g7 g8; obtain ⟨g0, g1, g2, g3, g4, g5, g6, g7, g8⟩ := HB.out _ hS))
        go_ret
        exact ⟨ret_b (by first | rfl | simp), hS⟩
    | true =>
      cases bc with
      | false =>
        cases bz with
        | false =>
          have hS : Stays w w := Stays.refl w
          obtain ⟨g0, g1, g2, g3, g4, g5, g6, g7, g8⟩ := HB.out _ hS
          go_enter Try.func74, Try.ntmps74
          go_wp2_with (first
            | (go_at_call 45; refine (kZ.out _).mono ?_; rintro e w1 ⟨rfl, hw1⟩; replace hS := Stays.trans hS hw1; clear hw1 g0 g1 g2 g3 g4 g5 g6 g7 g8; obtain ⟨g0, g1, g2, g3, g4, g5, g6, g7, g8⟩ := HB.out _ hS)
            | (go_at_call 71; refine (kD.out _).mono ?_; rintro e w1 ⟨rfl, hw1⟩; replace hS := Stays.trans hS hw1; clear hw1 g0 g1 g2 g3 g4 g5 g6 g7 g8; obtain ⟨g0, g1, g2, g3, g4, g5, g6, g7, g8⟩ := HB.out _ hS)
            | (go_at_call 66; refine (kF.out _).mono ?_; rintro e w1 ⟨rfl, hw1⟩; replace hS := Stays.trans hS hw1; clear hw1 g0 g1 g2 g3 g4 g5 g6 g7 g8; obtain ⟨g0, g1, g2, g3, g4, g5, g6, g7, g8⟩ := HB.out _ hS)
            | (go_at_call 81; refine (kG.out _).mono ?_; rintro e w1 ⟨rfl, hw1⟩; replace hS := Stays.trans hS hw1; clear hw1 g0 g1 g2 g3 g4 g5 g6 g7 g8; obtain ⟨g0, g1, g2, g3, g4, g5, g6, g7, g8⟩ := HB.out _ hS)
            | (go_at_call 65; refine (kI.out _).mono ?_; rintro e w1 ⟨rfl, hw1⟩; replace hS := Stays.trans hS hw1; clear hw1 g0 g1 g2 g3 g4 g5 g6 g7 g8; obtain ⟨g0, g1, g2, g3, g4, g5, g6, g7, g8⟩ := HB.out _ hS))
          go_ret
          exact ⟨ret_b (by first | rfl | simp), hS⟩
        | true =>
          have hS : Stays w w := Stays.refl w
          obtain ⟨g0, g1, g2, g3, g4, g5, g6, g7, g8⟩ := HB.out _ hS
          go_enter Try.func74, Try.ntmps74
          go_wp2_with (first
            | (go_at_call 45; refine (kZ.out _).mono ?_; rintro e w1 ⟨rfl, hw1⟩; replace hS := Stays.trans hS hw1; clear hw1 g0 g1 g2 g3 g4 g5 g6 g7 g8; obtain ⟨g0, g1, g2, g3, g4, g5, g6, g7, g8⟩ := HB.out _ hS)
            | (go_at_call 71; refine (kD.out _).mono ?_; rintro e w1 ⟨rfl, hw1⟩; replace hS := Stays.trans hS hw1; clear hw1 g0 g1 g2 g3 g4 g5 g6 g7 g8; obtain ⟨g0, g1, g2, g3, g4, g5, g6, g7, g8⟩ := HB.out _ hS)
            | (go_at_call 66; refine (kF.out _).mono ?_; rintro e w1 ⟨rfl, hw1⟩; replace hS := Stays.trans hS hw1; clear hw1 g0 g1 g2 g3 g4 g5 g6 g7 g8; obtain ⟨g0, g1, g2, g3, g4, g5, g6, g7, g8⟩ := HB.out _ hS)
            | (go_at_call 81; refine (kG.out _).mono ?_; rintro e w1 ⟨rfl, hw1⟩; replace hS := Stays.trans hS hw1; clear hw1 g0 g1 g2 g3 g4 g5 g6 g7 g8; obtain ⟨g0, g1, g2, g3, g4, g5, g6, g7, g8⟩ := HB.out _ hS)
            | (go_at_call 65; refine (kI.out _).mono ?_; rintro e w1 ⟨rfl, hw1⟩; replace hS := Stays.trans hS hw1; clear hw1 g0 g1 g2 g3 g4 g5 g6 g7 g8; obtain ⟨g0, g1, g2, g3, g4, g5, g6, g7, g8⟩ := HB.out _ hS))
          go_ret
          exact ⟨ret_b (by first | rfl | simp), hS⟩
      | true =>
        cases bz with
        | false =>
          have hS : Stays w w := Stays.refl w
          obtain ⟨g0, g1, g2, g3, g4, g5, g6, g7, g8⟩ := HB.out _ hS
          go_enter Try.func74, Try.ntmps74
          go_wp2_with (first
            | (go_at_call 45; refine (kZ.out _).mono ?_; rintro e w1 ⟨rfl, hw1⟩; replace hS := Stays.trans hS hw1; clear hw1 g0 g1 g2 g3 g4 g5 g6 g7 g8; obtain ⟨g0, g1, g2, g3, g4, g5, g6, g7, g8⟩ := HB.out _ hS)
            | (go_at_call 71; refine (kD.out _).mono ?_; rintro e w1 ⟨rfl, hw1⟩; replace hS := Stays.trans hS hw1; clear hw1 g0 g1 g2 g3 g4 g5 g6 g7 g8; obtain ⟨g0, g1, g2, g3, g4, g5, g6, g7, g8⟩ := HB.out _ hS)
            | (go_at_call 66; refine (kF.out _).mono ?_; rintro e w1 ⟨rfl, hw1⟩; replace hS := Stays.trans hS hw1; clear hw1 g0 g1 g2 g3 g4 g5 g6 g7 g8; obtain ⟨g0, g1, g2, g3, g4, g5, g6, g7, g8⟩ := HB.out _ hS)
            | (go_at_call 81; refine (kG.out _).mono ?_; rintro e w1 ⟨rfl, hw1⟩; replace hS := Stays.trans hS hw1; clear hw1 g0 g1 g2 g3 g4 g5 g6 g7 g8; obtain ⟨g0, g1, g2, g3, g4, g5, g6, g7, g8⟩ := HB.out _ hS)
            | (go_at_call 65; refine (kI.out _).mono ?_; rintro e w1 ⟨rfl, hw1⟩; replace hS := Stays.trans hS hw1; clear hw1 g0 g1 g2 g3 g4 g5 g6 g7 g8; obtain ⟨g0, g1, g2, g3, g4, g5, g6, g7, g8⟩ := HB.out _ hS))
          go_ret
          exact ⟨ret_b (by first | rfl | simp), hS⟩
        | true =>
          have hS : Stays w w := Stays.refl w
          obtain ⟨g0, g1, g2, g3, g4, g5, g6, g7, g8⟩ := HB.out _ hS
          go_enter Try.func74, Try.ntmps74
          go_wp2_with (first
            | (go_at_call 45; refine (kZ.out _).mono ?_; rintro e w1 ⟨rfl, hw1⟩; replace hS := Stays.trans hS hw1; clear hw1 g0 g1 g2 g3 g4 g5 g6 g7 g8; obtain ⟨g0, g1, g2, g3, g4, g5, g6, g7, g8⟩ := HB.out _ hS)
            | (go_at_call 71; refine (kD.out _).mono ?_; rintro e w1 ⟨rfl, hw1⟩; replace hS := Stays.trans hS hw1; clear hw1 g0 g1 g2 g3 g4 g5 g6 g7 g8; obtain ⟨g0, g1, g2, g3, g4, g5, g6, g7, g8⟩ := HB.out _ hS)
            | (go_at_call 66; refine (kF.out _).mono ?_; rintro e w1 ⟨rfl, hw1⟩; replace hS := Stays.trans hS hw1; clear hw1 g0 g1 g2 g3 g4 g5 g6 g7 g8; obtain ⟨g0, g1, g2, g3, g4, g5, g6, g7, g8⟩ := HB.out _ hS)
            | (go_at_call 81; refine (kG.out _).mono ?_; rintro e w1 ⟨rfl, hw1⟩; replace hS := Stays.trans hS hw1; clear hw1 g0 g1 g2 g3 g4 g5 g6 g7 g8; obtain ⟨g0, g1, g2, g3, g4, g5, g6, g7, g8⟩ := HB.out _ hS)
            | (go_at_call 65; refine (kI.out _).mono ?_; rintro e w1 ⟨rfl, hw1⟩; replace hS := Stays.trans hS hw1; clear hw1 g0 g1 g2 g3 g4 g5 g6 g7 g8; obtain ⟨g0, g1, g2, g3, g4, g5, g6, g7, g8⟩ := HB.out _ hS))
          go_ret
          exact ⟨ret_b (by first | rfl | simp), hS⟩

set_option maxRecDepth 100000 in
set_option maxHeartbeats 8000000 in
theorem c_ent_three (p : Addr) (x y z : Nat) (m n o b : Int) (d : Nat) (bz bf bc bd bg bi : Bool) (nn : Nat) (hsub : IntKind.i64.wrap ((nn : Int) - 1) = (nn : Int) - 1) (w : World) (hcells : ∀ w', Stays w w' → w'.cell? p = some (.int .i64 3) ∧ w'.cell? ⟨p.block, p.off + 1, none⟩ = some (.float .f32 x) ∧ w'.cell? ⟨p.block, p.off + 1 + 1, none⟩ = some (.float .f32 y) ∧ w'.cell? ⟨p.block, p.off + 1 + 2, none⟩ = some (.float .f32 z) ∧ w'.cell? ⟨p.block, p.off + 4, none⟩ = some (.int .i16 m) ∧ w'.cell? ⟨p.block, p.off + 4 + 1, none⟩ = some (.int .i16 n) ∧ w'.cell? ⟨p.block, p.off + 4 + 2, none⟩ = some (.int .i16 o) ∧ w'.cell? ⟨p.block, p.off + 7, none⟩ = some (.int .i64 b) ∧ w'.cell? ⟨p.block, p.off + 8, none⟩ = some (.float .f32 d))
    (kF : Hid (∀ W, Calls Try.prog 66 #[.agg #[.float .f32 x, .float .f32 y, .float .f32 z]] W fun e w' => e = .returned (.bool bf) ∧ Stays W w'))
    (kZ : Hid (∀ W, Calls Try.prog 45 #[.agg #[.float .f32 x, .float .f32 y, .float .f32 z], .agg #[.float .f32 0, .float .f32 0, .float .f32 0]] W fun e w' => e = .returned (.bool bz) ∧ Stays W w'))
    (kD : Hid (∀ W, Calls Try.prog 71 #[.float .f32 d, .float .f32 0] W fun e w' => e = .returned (.bool bd) ∧ Stays W w'))
    (kG : Hid (∀ W, Calls Try.prog 81 #[.float .f32 d] W fun e w' => e = .returned (.bool bg) ∧ Stays W w'))
    (kI : Hid (∀ W, Calls Try.prog 65 #[.int .i64 b, .int .i64 0, .int .i64 ((nn : Int) - 1)] W fun e w' => e = .returned (.bool bi) ∧ Stays W w'))
    (kC : ∀ W, (binOp BinOp.eql 95 (.agg #[.int .i16 m, .int .i16 n, .int .i16 o]) (.agg #[.int .i16 0, .int .i16 0, .int .i16 0])).run Try.prog W = .ok (.bool bc) W) :
    Calls Try.prog 74 #[.pointer (some p), .int .i64 nn] w fun e w' => e = .returned (.bool (bz && (bd && (b == 0)))) ∧ Stays w w' := by
  have HB := Lib.hid hcells
  clear hcells
  cases bz with
  | false =>
    have hS : Stays w w := Stays.refl w
    obtain ⟨g0, g1, g2, g3, g4, g5, g6, g7, g8⟩ := HB.out _ hS
    go_enter Try.func74, Try.ntmps74
    go_wp2_with (first
      | (go_at_call 45; refine (kZ.out _).mono ?_; rintro e w1 ⟨rfl, hw1⟩; replace hS := Stays.trans hS hw1; clear hw1 g0 g1 g2 g3 g4 g5 g6 g7 g8; obtain ⟨g0, g1, g2, g3, g4, g5, g6, g7, g8⟩ := HB.out _ hS)
      | (go_at_call 71; refine (kD.out _).mono ?_; rintro e w1 ⟨rfl, hw1⟩; replace hS := Stays.trans hS hw1; clear hw1 g0 g1 g2 g3 g4 g5 g6 g7 g8; obtain ⟨g0, g1, g2, g3, g4, g5, g6, g7, g8⟩ := HB.out _ hS)
      | (go_at_call 66; refine (kF.out _).mono ?_; rintro e w1 ⟨rfl, hw1⟩; replace hS := Stays.trans hS hw1; clear hw1 g0 g1 g2 g3 g4 g5 g6 g7 g8; obtain ⟨g0, g1, g2, g3, g4, g5, g6, g7, g8⟩ := HB.out _ hS)
      | (go_at_call 81; refine (kG.out _).mono ?_; rintro e w1 ⟨rfl, hw1⟩; replace hS := Stays.trans hS hw1; clear hw1 g0 g1 g2 g3 g4 g5 g6 g7 g8; obtain ⟨g0, g1, g2, g3, g4, g5, g6, g7, g8⟩ := HB.out _ hS)
      | (go_at_call 65; refine (kI.out _).mono ?_; rintro e w1 ⟨rfl, hw1⟩; replace hS := Stays.trans hS hw1; clear hw1 g0 g1 g2 g3 g4 g5 g6 g7 g8; obtain ⟨g0, g1, g2, g3, g4, g5, g6, g7, g8⟩ := HB.out _ hS))
    go_ret
    exact ⟨ret_b (by first | rfl | simp), hS⟩
  | true =>
    cases bd with
    | false =>
      have hS : Stays w w := Stays.refl w
      obtain ⟨g0, g1, g2, g3, g4, g5, g6, g7, g8⟩ := HB.out _ hS
      go_enter Try.func74, Try.ntmps74
      go_wp2_with (first
        | (go_at_call 45; refine (kZ.out _).mono ?_; rintro e w1 ⟨rfl, hw1⟩; replace hS := Stays.trans hS hw1; clear hw1 g0 g1 g2 g3 g4 g5 g6 g7 g8; obtain ⟨g0, g1, g2, g3, g4, g5, g6, g7, g8⟩ := HB.out _ hS)
        | (go_at_call 71; refine (kD.out _).mono ?_; rintro e w1 ⟨rfl, hw1⟩; replace hS := Stays.trans hS hw1; clear hw1 g0 g1 g2 g3 g4 g5 g6 g7 g8; obtain ⟨g0, g1, g2, g3, g4, g5, g6, g7, g8⟩ := HB.out _ hS)
        | (go_at_call 66; refine (kF.out _).mono ?_; rintro e w1 ⟨rfl, hw1⟩; replace hS := Stays.trans hS hw1; clear hw1 g0 g1 g2 g3 g4 g5 g6 g7 g8; obtain ⟨g0, g1, g2, g3, g4, g5, g6, g7, g8⟩ := HB.out _ hS)
        | (go_at_call 81; refine (kG.out _).mono ?_; rintro e w1 ⟨rfl, hw1⟩; replace hS := Stays.trans hS hw1; clear hw1 g0 g1 g2 g3 g4 g5 g6 g7 g8; obtain ⟨g0, g1, g2, g3, g4, g5, g6, g7, g8⟩ := HB.out _ hS)
        | (go_at_call 65; refine (kI.out _).mono ?_; rintro e w1 ⟨rfl, hw1⟩; replace hS := Stays.trans hS hw1; clear hw1 g0 g1 g2 g3 g4 g5 g6 g7 g8; obtain ⟨g0, g1, g2, g3, g4, g5, g6, g7, g8⟩ := HB.out _ hS))
      go_ret
      exact ⟨ret_b (by first | rfl | simp), hS⟩
    | true =>
      have hS : Stays w w := Stays.refl w
      obtain ⟨g0, g1, g2, g3, g4, g5, g6, g7, g8⟩ := HB.out _ hS
      go_enter Try.func74, Try.ntmps74
      go_wp2_with (first
        | (go_at_call 45; refine (kZ.out _).mono ?_; rintro e w1 ⟨rfl, hw1⟩; replace hS := Stays.trans hS hw1; clear hw1 g0 g1 g2 g3 g4 g5 g6 g7 g8; obtain ⟨g0, g1, g2, g3, g4, g5, g6, g7, g8⟩ := HB.out _ hS)
        | (go_at_call 71; refine (kD.out _).mono ?_; rintro e w1 ⟨rfl, hw1⟩; replace hS := Stays.trans hS hw1; clear hw1 g0 g1 g2 g3 g4 g5 g6 g7 g8; obtain ⟨g0, g1, g2, g3, g4, g5, g6, g7, g8⟩ := HB.out _ hS)
        | (go_at_call 66; refine (kF.out _).mono ?_; rintro e w1 ⟨rfl, hw1⟩; replace hS := Stays.trans hS hw1; clear hw1 g0 g1 g2 g3 g4 g5 g6 g7 g8; obtain ⟨g0, g1, g2, g3, g4, g5, g6, g7, g8⟩ := HB.out _ hS)
        | (go_at_call 81; refine (kG.out _).mono ?_; rintro e w1 ⟨rfl, hw1⟩; replace hS := Stays.trans hS hw1; clear hw1 g0 g1 g2 g3 g4 g5 g6 g7 g8; obtain ⟨g0, g1, g2, g3, g4, g5, g6, g7, g8⟩ := HB.out _ hS)
        | (go_at_call 65; refine (kI.out _).mono ?_; rintro e w1 ⟨rfl, hw1⟩; replace hS := Stays.trans hS hw1; clear hw1 g0 g1 g2 g3 g4 g5 g6 g7 g8; obtain ⟨g0, g1, g2, g3, g4, g5, g6, g7, g8⟩ := HB.out _ hS))
      go_ret
      exact ⟨ret_b (by first | rfl | simp), hS⟩

set_option maxRecDepth 100000 in
set_option maxHeartbeats 8000000 in
theorem c_ent_four (p : Addr) (x y z : Nat) (m n o b : Int) (d : Nat) (bz bf bc bd bg bi : Bool) (nn : Nat) (hsub : IntKind.i64.wrap ((nn : Int) - 1) = (nn : Int) - 1) (w : World) (hcells : ∀ w', Stays w w' → w'.cell? p = some (.int .i64 4) ∧ w'.cell? ⟨p.block, p.off + 1, none⟩ = some (.float .f32 x) ∧ w'.cell? ⟨p.block, p.off + 1 + 1, none⟩ = some (.float .f32 y) ∧ w'.cell? ⟨p.block, p.off + 1 + 2, none⟩ = some (.float .f32 z) ∧ w'.cell? ⟨p.block, p.off + 4, none⟩ = some (.int .i16 m) ∧ w'.cell? ⟨p.block, p.off + 4 + 1, none⟩ = some (.int .i16 n) ∧ w'.cell? ⟨p.block, p.off + 4 + 2, none⟩ = some (.int .i16 o) ∧ w'.cell? ⟨p.block, p.off + 7, none⟩ = some (.int .i64 b) ∧ w'.cell? ⟨p.block, p.off + 8, none⟩ = some (.float .f32 d))
    (kF : Hid (∀ W, Calls Try.prog 66 #[.agg #[.float .f32 x, .float .f32 y, .float .f32 z]] W fun e w' => e = .returned (.bool bf) ∧ Stays W w'))
    (kZ : Hid (∀ W, Calls Try.prog 45 #[.agg #[.float .f32 x, .float .f32 y, .float .f32 z], .agg #[.float .f32 0, .float .f32 0, .float .f32 0]] W fun e w' => e = .returned (.bool bz) ∧ Stays W w'))
    (kD : Hid (∀ W, Calls Try.prog 71 #[.float .f32 d, .float .f32 0] W fun e w' => e = .returned (.bool bd) ∧ Stays W w'))
    (kG : Hid (∀ W, Calls Try.prog 81 #[.float .f32 d] W fun e w' => e = .returned (.bool bg) ∧ Stays W w'))
    (kI : Hid (∀ W, Calls Try.prog 65 #[.int .i64 b, .int .i64 0, .int .i64 ((nn : Int) - 1)] W fun e w' => e = .returned (.bool bi) ∧ Stays W w'))
    (kC : ∀ W, (binOp BinOp.eql 95 (.agg #[.int .i16 m, .int .i16 n, .int .i16 o]) (.agg #[.int .i16 0, .int .i16 0, .int .i16 0])).run Try.prog W = .ok (.bool bc) W) :
    Calls Try.prog 74 #[.pointer (some p), .int .i64 nn] w fun e w' => e = .returned (.bool (bz && (bc && (bg && bi)))) ∧ Stays w w' := by
  have HB := Lib.hid hcells
  clear hcells
  cases bz with
  | false =>
    have hS : Stays w w := Stays.refl w
    obtain ⟨g0, g1, g2, g3, g4, g5, g6, g7, g8⟩ := HB.out _ hS
    go_enter Try.func74, Try.ntmps74
    go_wp2_with (first
      | (go_at_call 45; refine (kZ.out _).mono ?_; rintro e w1 ⟨rfl, hw1⟩; replace hS := Stays.trans hS hw1; clear hw1 g0 g1 g2 g3 g4 g5 g6 g7 g8; obtain ⟨g0, g1, g2, g3, g4, g5, g6, g7, g8⟩ := HB.out _ hS)
      | (go_at_call 71; refine (kD.out _).mono ?_; rintro e w1 ⟨rfl, hw1⟩; replace hS := Stays.trans hS hw1; clear hw1 g0 g1 g2 g3 g4 g5 g6 g7 g8; obtain ⟨g0, g1, g2, g3, g4, g5, g6, g7, g8⟩ := HB.out _ hS)
      | (go_at_call 66; refine (kF.out _).mono ?_; rintro e w1 ⟨rfl, hw1⟩; replace hS := Stays.trans hS hw1; clear hw1 g0 g1 g2 g3 g4 g5 g6 g7 g8; obtain ⟨g0, g1, g2, g3, g4, g5, g6, g7, g8⟩ := HB.out _ hS)
      | (go_at_call 81; refine (kG.out _).mono ?_; rintro e w1 ⟨rfl, hw1⟩; replace hS := Stays.trans hS hw1; clear hw1 g0 g1 g2 g3 g4 g5 g6 g7 g8; obtain ⟨g0, g1, g2, g3, g4, g5, g6, g7, g8⟩ := HB.out _ hS)
      | (go_at_call 65; refine (kI.out _).mono ?_; rintro e w1 ⟨rfl, hw1⟩; replace hS := Stays.trans hS hw1; clear hw1 g0 g1 g2 g3 g4 g5 g6 g7 g8; obtain ⟨g0, g1, g2, g3, g4, g5, g6, g7, g8⟩ := HB.out _ hS))
    go_ret
    exact ⟨ret_b (by first | rfl | simp), hS⟩
  | true =>
    cases bc with
    | false =>
      cases bd with
      | false =>
        have hS : Stays w w := Stays.refl w
        obtain ⟨g0, g1, g2, g3, g4, g5, g6, g7, g8⟩ := HB.out _ hS
        go_enter Try.func74, Try.ntmps74
        go_wp2_with (first
          | (go_at_call 45; refine (kZ.out _).mono ?_; rintro e w1 ⟨rfl, hw1⟩; replace hS := Stays.trans hS hw1; clear hw1 g0 g1 g2 g3 g4 g5 g6 g7 g8; obtain ⟨g0, g1, g2, g3, g4, g5, g6, g7, g8⟩ := HB.out _ hS)
          | (go_at_call 71; refine (kD.out _).mono ?_; rintro e w1 ⟨rfl, hw1⟩; replace hS := Stays.trans hS hw1; clear hw1 g0 g1 g2 g3 g4 g5 g6 g7 g8; obtain ⟨g0, g1, g2, g3, g4, g5, g6, g7, g8⟩ := HB.out _ hS)
          | (go_at_call 66; refine (kF.out _).mono ?_; rintro e w1 ⟨rfl, hw1⟩; replace hS := Stays.trans hS hw1; clear hw1 g0 g1 g2 g3 g4 g5 g6 g7 g8; obtain ⟨g0, g1, g2, g3, g4, g5, g6, g7, g8⟩ := HB.out _ hS)
          | (go_at_call 81; refine (kG.out _).mono ?_; rintro e w1 ⟨rfl, hw1⟩; replace hS := Stays.trans hS hw1; clear hw1 g0 g1 g2 g3 g4 g5 g6 g7 g8; obtain ⟨g0, g1, g2, g3, g4, g5, g6, g7, g8⟩ := HB.out _ hS)
          | (go_at_call 65; refine (kI.out _).mono ?_; rintro e w1 ⟨rfl, hw1⟩; replace hS := Stays.trans hS hw1; clear hw1 g0 g1 g2 g3 g4 g5 g6 g7 g8; obtain ⟨g0, g1, g2, g3, g4, g5, g6, g7, g8⟩ := HB.out _ hS))
        go_ret
        exact ⟨ret_b (by first | rfl | simp), hS⟩
      | true =>
        have hS : Stays w w := Stays.refl w
        obtain ⟨g0, g1, g2, g3, g4, g5, g6, g7, g8⟩ := HB.out _ hS
        go_enter Try.func74, Try.ntmps74
        go_wp2_with (first
          | (go_at_call 45; refine (kZ.out _).mono ?_; rintro e w1 ⟨rfl, hw1⟩; replace hS := Stays.trans hS hw1; clear hw1 g0 g1 g2 g3 g4 g5 g6 g7 g8; obtain ⟨g0, g1, g2, g3, g4, g5, g6, g7, g8⟩ := HB.out _ hS)
          | (go_at_call 71; refine (kD.out _).mono ?_; rintro e w1 ⟨rfl, hw1⟩; replace hS := Stays.trans hS hw1; clear hw1 g0 g1 g2 g3 g4 g5 g6 g7 g8; obtain ⟨g0, g1, g2, g3, g4, g5, g6, g7, g8⟩ := HB.out _ hS)
          | (go_at_call 66; refine (kF.out _).mono ?_; rintro e w1 ⟨rfl, hw1⟩; replace hS := Stays.trans hS hw1; clear hw1 g0 g1 g2 g3 g4 g5 g6 g7 g8; obtain ⟨g0, g1, g2, g3, g4, g5, g6, g7, g8⟩ := HB.out _ hS)
          | (go_at_call 81; refine (kG.out _).mono ?_; rintro e w1 ⟨rfl, hw1⟩; replace hS := Stays.trans hS hw1; clear hw1 g0 g1 g2 g3 g4 g5 g6 g7 g8; obtain ⟨g0, g1, g2, g3, g4, g5, g6, g7, g8⟩ := HB.out _ hS)
          | (go_at_call 65; refine (kI.out _).mono ?_; rintro e w1 ⟨rfl, hw1⟩; replace hS := Stays.trans hS hw1; clear hw1 g0 g1 g2 g3 g4 g5 g6 g7 g8; obtain ⟨g0, g1, g2, g3, g4, g5, g6, g7, g8⟩ := HB.out _ hS))
        go_ret
        exact ⟨ret_b (by first | rfl | simp), hS⟩
    | true =>
      cases bg with
      | false =>
        cases bd with
        | false =>
          have hS : Stays w w := Stays.refl w
          obtain ⟨g0, g1, g2, g3, g4, g5, g6, g7, g8⟩ := HB.out _ hS
          go_enter Try.func74, Try.ntmps74
          go_wp2_with (first
            | (go_at_call 45; refine (kZ.out _).mono ?_; rintro e w1 ⟨rfl, hw1⟩; replace hS := Stays.trans hS hw1; clear hw1 g0 g1 g2 g3 g4 g5 g6 g7 g8; obtain ⟨g0, g1, g2, g3, g4, g5, g6, g7, g8⟩ := HB.out _ hS)
            | (go_at_call 71; refine (kD.out _).mono ?_; rintro e w1 ⟨rfl, hw1⟩; replace hS := Stays.trans hS hw1; clear hw1 g0 g1 g2 g3 g4 g5 g6 g7 g8; obtain ⟨g0, g1, g2, g3, g4, g5, g6, g7, g8⟩ := HB.out _ hS)
            | (go_at_call 66; refine (kF.out _).mono ?_; rintro e w1 ⟨rfl, hw1⟩; replace hS := Stays.trans hS hw1; clear hw1 g0 g1 g2 g3 g4 g5 g6 g7 g8; obtain ⟨g0, g1, g2, g3, g4, g5, g6, g7, g8⟩ := HB.out _ hS)
            | (go_at_call 81; refine (kG.out _).mono ?_; rintro e w1 ⟨rfl, hw1⟩; replace hS := Stays.trans hS hw1; clear hw1 g0 g1 g2 g3 g4 g5 g6 g7 g8; obtain ⟨g0, g1, g2, g3, g4, g5, g6, g7, g8⟩ := HB.out _ hS)
            | (go_at_call 65; refine (kI.out _).mono ?_; rintro e w1 ⟨rfl, hw1⟩; replace hS := Stays.trans hS hw1; clear hw1 g0 g1 g2 g3 g4 g5 g6 g7 g8; obtain ⟨g0, g1, g2, g3, g4, g5, g6, g7, g8⟩ := HB.out _ hS))
          go_ret
          exact ⟨ret_b (by first | rfl | simp), hS⟩
        | true =>
          have hS : Stays w w := Stays.refl w
          obtain ⟨g0, g1, g2, g3, g4, g5, g6, g7, g8⟩ := HB.out _ hS
          go_enter Try.func74, Try.ntmps74
          go_wp2_with (first
            | (go_at_call 45; refine (kZ.out _).mono ?_; rintro e w1 ⟨rfl, hw1⟩; replace hS := Stays.trans hS hw1; clear hw1 g0 g1 g2 g3 g4 g5 g6 g7 g8; obtain ⟨g0, g1, g2, g3, g4, g5, g6, g7, g8⟩ := HB.out _ hS)
            | (go_at_call 71; refine (kD.out _).mono ?_; rintro e w1 ⟨rfl, hw1⟩; replace hS := Stays.trans hS hw1; clear hw1 g0 g1 g2 g3 g4 g5 g6 g7 g8; obtain ⟨g0, g1, g2, g3, g4, g5, g6, g7, g8⟩ := HB.out _ hS)
            | (go_at_call 66; refine (kF.out _).mono ?_; rintro e w1 ⟨rfl, hw1⟩; replace hS := Stays.trans hS hw1; clear hw1 g0 g1 g2 g3 g4 g5 g6 g7 g8; obtain ⟨g0, g1, g2, g3, g4, g5, g6, g7, g8⟩ := HB.out _ hS)
            | (go_at_call 81; refine (kG.out _).mono ?_; rintro e w1 ⟨rfl, hw1⟩; replace hS := Stays.trans hS hw1; clear hw1 g0 g1 g2 g3 g4 g5 g6 g7 g8; obtain ⟨g0, g1, g2, g3, g4, g5, g6, g7, g8⟩ := HB.out _ hS)
            | (go_at_call 65; refine (kI.out _).mono ?_; rintro e w1 ⟨rfl, hw1⟩; replace hS := Stays.trans hS hw1; clear hw1 g0 g1 g2 g3 g4 g5 g6 g7 g8; obtain ⟨g0, g1, g2, g3, g4, g5, g6, g7, g8⟩ := HB.out _ hS))
          go_ret
          exact ⟨ret_b (by first | rfl | simp), hS⟩
      | true =>
        cases bd with
        | false =>
          have hS : Stays w w := Stays.refl w
          obtain ⟨g0, g1, g2, g3, g4, g5, g6, g7, g8⟩ := HB.out _ hS
          go_enter Try.func74, Try.ntmps74
          go_wp2_with (first
            | (go_at_call 45; refine (kZ.out _).mono ?_; rintro e w1 ⟨rfl, hw1⟩; replace hS := Stays.trans hS hw1; clear hw1 g0 g1 g2 g3 g4 g5 g6 g7 g8; obtain ⟨g0, g1, g2, g3, g4, g5, g6, g7, g8⟩ := HB.out _ hS)
            | (go_at_call 71; refine (kD.out _).mono ?_; rintro e w1 ⟨rfl, hw1⟩; replace hS := Stays.trans hS hw1; clear hw1 g0 g1 g2 g3 g4 g5 g6 g7 g8; obtain ⟨g0, g1, g2, g3, g4, g5, g6, g7, g8⟩ := HB.out _ hS)
            | (go_at_call 66; refine (kF.out _).mono ?_; rintro e w1 ⟨rfl, hw1⟩; replace hS := Stays.trans hS hw1; clear hw1 g0 g1 g2 g3 g4 g5 g6 g7 g8; obtain ⟨g0, g1, g2, g3, g4, g5, g6, g7, g8⟩ := HB.out _ hS)
            | (go_at_call 81; refine (kG.out _).mono ?_; rintro e w1 ⟨rfl, hw1⟩; replace hS := Stays.trans hS hw1; clear hw1 g0 g1 g2 g3 g4 g5 g6 g7 g8; obtain ⟨g0, g1, g2, g3, g4, g5, g6, g7, g8⟩ := HB.out _ hS)
            | (go_at_call 65; refine (kI.out _).mono ?_; rintro e w1 ⟨rfl, hw1⟩; replace hS := Stays.trans hS hw1; clear hw1 g0 g1 g2 g3 g4 g5 g6 g7 g8; obtain ⟨g0, g1, g2, g3, g4, g5, g6, g7, g8⟩ := HB.out _ hS))
          go_ret
          exact ⟨ret_b (by first | rfl | simp), hS⟩
        | true =>
          have hS : Stays w w := Stays.refl w
          obtain ⟨g0, g1, g2, g3, g4, g5, g6, g7, g8⟩ := HB.out _ hS
          go_enter Try.func74, Try.ntmps74
          go_wp2_with (first
            | (go_at_call 45; refine (kZ.out _).mono ?_; rintro e w1 ⟨rfl, hw1⟩; replace hS := Stays.trans hS hw1; clear hw1 g0 g1 g2 g3 g4 g5 g6 g7 g8; obtain ⟨g0, g1, g2, g3, g4, g5, g6, g7, g8⟩ := HB.out _ hS)
            | (go_at_call 71; refine (kD.out _).mono ?_; rintro e w1 ⟨rfl, hw1⟩; replace hS := Stays.trans hS hw1; clear hw1 g0 g1 g2 g3 g4 g5 g6 g7 g8; obtain ⟨g0, g1, g2, g3, g4, g5, g6, g7, g8⟩ := HB.out _ hS)
            | (go_at_call 66; refine (kF.out _).mono ?_; rintro e w1 ⟨rfl, hw1⟩; replace hS := Stays.trans hS hw1; clear hw1 g0 g1 g2 g3 g4 g5 g6 g7 g8; obtain ⟨g0, g1, g2, g3, g4, g5, g6, g7, g8⟩ := HB.out _ hS)
            | (go_at_call 81; refine (kG.out _).mono ?_; rintro e w1 ⟨rfl, hw1⟩; replace hS := Stays.trans hS hw1; clear hw1 g0 g1 g2 g3 g4 g5 g6 g7 g8; obtain ⟨g0, g1, g2, g3, g4, g5, g6, g7, g8⟩ := HB.out _ hS)
            | (go_at_call 65; refine (kI.out _).mono ?_; rintro e w1 ⟨rfl, hw1⟩; replace hS := Stays.trans hS hw1; clear hw1 g0 g1 g2 g3 g4 g5 g6 g7 g8; obtain ⟨g0, g1, g2, g3, g4, g5, g6, g7, g8⟩ := HB.out _ hS))
          go_ret
          exact ⟨ret_b (by first | rfl | simp), hS⟩

set_option maxRecDepth 100000 in
set_option maxHeartbeats 8000000 in
theorem c_ent_none (p : Addr) (k : Int) (e1 : (k == 1) = false) (e2 : (k == 2) = false) (e3 : (k == 3) = false) (e4 : (k == 4) = false) (x y z : Nat) (m n o b : Int) (d : Nat) (bz bf bc bd bg bi : Bool) (nn : Nat) (hsub : IntKind.i64.wrap ((nn : Int) - 1) = (nn : Int) - 1) (w : World) (hcells : ∀ w', Stays w w' → w'.cell? p = some (.int .i64 k) ∧ w'.cell? ⟨p.block, p.off + 1, none⟩ = some (.float .f32 x) ∧ w'.cell? ⟨p.block, p.off + 1 + 1, none⟩ = some (.float .f32 y) ∧ w'.cell? ⟨p.block, p.off + 1 + 2, none⟩ = some (.float .f32 z) ∧ w'.cell? ⟨p.block, p.off + 4, none⟩ = some (.int .i16 m) ∧ w'.cell? ⟨p.block, p.off + 4 + 1, none⟩ = some (.int .i16 n) ∧ w'.cell? ⟨p.block, p.off + 4 + 2, none⟩ = some (.int .i16 o) ∧ w'.cell? ⟨p.block, p.off + 7, none⟩ = some (.int .i64 b) ∧ w'.cell? ⟨p.block, p.off + 8, none⟩ = some (.float .f32 d))
    (kF : Hid (∀ W, Calls Try.prog 66 #[.agg #[.float .f32 x, .float .f32 y, .float .f32 z]] W fun e w' => e = .returned (.bool bf) ∧ Stays W w'))
    (kZ : Hid (∀ W, Calls Try.prog 45 #[.agg #[.float .f32 x, .float .f32 y, .float .f32 z], .agg #[.float .f32 0, .float .f32 0, .float .f32 0]] W fun e w' => e = .returned (.bool bz) ∧ Stays W w'))
    (kD : Hid (∀ W, Calls Try.prog 71 #[.float .f32 d, .float .f32 0] W fun e w' => e = .returned (.bool bd) ∧ Stays W w'))
    (kG : Hid (∀ W, Calls Try.prog 81 #[.float .f32 d] W fun e w' => e = .returned (.bool bg) ∧ Stays W w'))
    (kI : Hid (∀ W, Calls Try.prog 65 #[.int .i64 b, .int .i64 0, .int .i64 ((nn : Int) - 1)] W fun e w' => e = .returned (.bool bi) ∧ Stays W w'))
    (kC : ∀ W, (binOp BinOp.eql 95 (.agg #[.int .i16 m, .int .i16 n, .int .i16 o]) (.agg #[.int .i16 0, .int .i16 0, .int .i16 0])).run Try.prog W = .ok (.bool bc) W) :
    Calls Try.prog 74 #[.pointer (some p), .int .i64 nn] w fun e w' => e = .returned (.bool (false)) ∧ Stays w w' := by
  have HB := Lib.hid hcells
  clear hcells
  cases bz with
  | false =>
    have hS : Stays w w := Stays.refl w
    obtain ⟨g0, g1, g2, g3, g4, g5, g6, g7, g8⟩ := HB.out _ hS
    go_enter Try.func74, Try.ntmps74
    go_wp2_with (first
      | (go_at_call 45; refine (kZ.out _).mono ?_; rintro e w1 ⟨rfl, hw1⟩; replace hS := Stays.trans hS hw1; clear hw1 g0 g1 g2 g3 g4 g5 g6 g7 g8; obtain ⟨g0, g1, g2, g3, g4, g5, g6, g7, g8⟩ := HB.out _ hS)
      | (go_at_call 71; refine (kD.out _).mono ?_; rintro e w1 ⟨rfl, hw1⟩; replace hS := Stays.trans hS hw1; clear hw1 g0 g1 g2 g3 g4 g5 g6 g7 g8; obtain ⟨g0, g1, g2, g3, g4, g5, g6, g7, g8⟩ := HB.out _ hS)
      | (go_at_call 66; refine (kF.out _).mono ?_; rintro e w1 ⟨rfl, hw1⟩; replace hS := Stays.trans hS hw1; clear hw1 g0 g1 g2 g3 g4 g5 g6 g7 g8; obtain ⟨g0, g1, g2, g3, g4, g5, g6, g7, g8⟩ := HB.out _ hS)
      | (go_at_call 81; refine (kG.out _).mono ?_; rintro e w1 ⟨rfl, hw1⟩; replace hS := Stays.trans hS hw1; clear hw1 g0 g1 g2 g3 g4 g5 g6 g7 g8; obtain ⟨g0, g1, g2, g3, g4, g5, g6, g7, g8⟩ := HB.out _ hS)
      | (go_at_call 65; refine (kI.out _).mono ?_; rintro e w1 ⟨rfl, hw1⟩; replace hS := Stays.trans hS hw1; clear hw1 g0 g1 g2 g3 g4 g5 g6 g7 g8; obtain ⟨g0, g1, g2, g3, g4, g5, g6, g7, g8⟩ := HB.out _ hS))
    go_ret
    exact ⟨ret_b (by first | rfl | simp), hS⟩
  | true =>
    cases bd with
    | false =>
      have hS : Stays w w := Stays.refl w
      obtain ⟨g0, g1, g2, g3, g4, g5, g6, g7, g8⟩ := HB.out _ hS
      go_enter Try.func74, Try.ntmps74
      go_wp2_with (first
        | (go_at_call 45; refine (kZ.out _).mono ?_; rintro e w1 ⟨rfl, hw1⟩; replace hS := Stays.trans hS hw1; clear hw1 g0 g1 g2 g3 g4 g5 g6 g7 g8; obtain ⟨g0, g1, g2, g3, g4, g5, g6, g7, g8⟩ := HB.out _ hS)
        | (go_at_call 71; refine (kD.out _).mono ?_; rintro e w1 ⟨rfl, hw1⟩; replace hS := Stays.trans hS hw1; clear hw1 g0 g1 g2 g3 g4 g5 g6 g7 g8; obtain ⟨g0, g1, g2, g3, g4, g5, g6, g7, g8⟩ := HB.out _ hS)
        | (go_at_call 66; refine (kF.out _).mono ?_; rintro e w1 ⟨rfl, hw1⟩; replace hS := Stays.trans hS hw1; clear hw1 g0 g1 g2 g3 g4 g5 g6 g7 g8; obtain ⟨g0, g1, g2, g3, g4, g5, g6, g7, g8⟩ := HB.out _ hS)
        | (go_at_call 81; refine (kG.out _).mono ?_; rintro e w1 ⟨rfl, hw1⟩; replace hS := Stays.trans hS hw1; clear hw1 g0 g1 g2 g3 g4 g5 g6 g7 g8; obtain ⟨g0, g1, g2, g3, g4, g5, g6, g7, g8⟩ := HB.out _ hS)
        | (go_at_call 65; refine (kI.out _).mono ?_; rintro e w1 ⟨rfl, hw1⟩; replace hS := Stays.trans hS hw1; clear hw1 g0 g1 g2 g3 g4 g5 g6 g7 g8; obtain ⟨g0, g1, g2, g3, g4, g5, g6, g7, g8⟩ := HB.out _ hS))
      go_ret
      exact ⟨ret_b (by first | rfl | simp), hS⟩
    | true =>
      have hS : Stays w w := Stays.refl w
      obtain ⟨g0, g1, g2, g3, g4, g5, g6, g7, g8⟩ := HB.out _ hS
      go_enter Try.func74, Try.ntmps74
      go_wp2_with (first
        | (go_at_call 45; refine (kZ.out _).mono ?_; rintro e w1 ⟨rfl, hw1⟩; replace hS := Stays.trans hS hw1; clear hw1 g0 g1 g2 g3 g4 g5 g6 g7 g8; obtain ⟨g0, g1, g2, g3, g4, g5, g6, g7, g8⟩ := HB.out _ hS)
        | (go_at_call 71; refine (kD.out _).mono ?_; rintro e w1 ⟨rfl, hw1⟩; replace hS := Stays.trans hS hw1; clear hw1 g0 g1 g2 g3 g4 g5 g6 g7 g8; obtain ⟨g0, g1, g2, g3, g4, g5, g6, g7, g8⟩ := HB.out _ hS)
        | (go_at_call 66; refine (kF.out _).mono ?_; rintro e w1 ⟨rfl, hw1⟩; replace hS := Stays.trans hS hw1; clear hw1 g0 g1 g2 g3 g4 g5 g6 g7 g8; obtain ⟨g0, g1, g2, g3, g4, g5, g6, g7, g8⟩ := HB.out _ hS)
        | (go_at_call 81; refine (kG.out _).mono ?_; rintro e w1 ⟨rfl, hw1⟩; replace hS := Stays.trans hS hw1; clear hw1 g0 g1 g2 g3 g4 g5 g6 g7 g8; obtain ⟨g0, g1, g2, g3, g4, g5, g6, g7, g8⟩ := HB.out _ hS)
        | (go_at_call 65; refine (kI.out _).mono ?_; rintro e w1 ⟨rfl, hw1⟩; replace hS := Stays.trans hS hw1; clear hw1 g0 g1 g2 g3 g4 g5 g6 g7 g8; obtain ⟨g0, g1, g2, g3, g4, g5, g6, g7, g8⟩ := HB.out _ hS))
      go_ret
      exact ⟨ret_b (by first | rfl | simp), hS⟩

set_option maxRecDepth 100000 in
set_option maxHeartbeats 8000000 in
theorem c_l08Entry (p : Addr) (k : Int) (x y z : Nat) (m n o b : Int) (d : Nat) (bf : Bool) (nn : Nat) (hnn : nn ≤ 1048576) (w : World) (hcells : ∀ w', Stays w w' → w'.cell? p = some (.int .i64 k) ∧ w'.cell? ⟨p.block, p.off + 1, none⟩ = some (.float .f32 x) ∧ w'.cell? ⟨p.block, p.off + 1 + 1, none⟩ = some (.float .f32 y) ∧ w'.cell? ⟨p.block, p.off + 1 + 2, none⟩ = some (.float .f32 z) ∧ w'.cell? ⟨p.block, p.off + 4, none⟩ = some (.int .i16 m) ∧ w'.cell? ⟨p.block, p.off + 4 + 1, none⟩ = some (.int .i16 n) ∧ w'.cell? ⟨p.block, p.off + 4 + 2, none⟩ = some (.int .i16 o) ∧ w'.cell? ⟨p.block, p.off + 7, none⟩ = some (.int .i64 b) ∧ w'.cell? ⟨p.block, p.off + 8, none⟩ = some (.float .f32 d))
    (hf : ∀ W, Calls Try.prog 66 #[.agg #[.float .f32 x, .float .f32 y, .float .f32 z]] W fun e w' => e = .returned (.bool bf) ∧ Stays W w') :
    Calls Try.prog 74 #[.pointer (some p), .int .i64 nn] w fun e w' => e = .returned (.bool (rawB k x y z m n o b d bf nn)) ∧ Stays w w' := by
  have kZ0 := fun W => c_specSV x y z 0 0 0 W
  have kD0 : ∀ W : World, Calls Try.prog 71 #[.float .f32 d, .float .f32 0] W fun e w' => e = .returned (.bool (same d 0)) ∧ Stays W w' := fun W => (c_l01Same d 0 W).mono fun e w' he => ⟨he.1, he.2 ▸ Stays.refl _⟩
  have kC := fun W => cnt_eql m n o 0 0 0 W
  have kG0 := fun W => c_l01Finite d W
  have kI0 := fun W => (c_l00In b 0 ((nn : Int) - 1) W).mono (R' := fun e w' => e = .returned (.bool (decide (0 ≤ b ∧ b ≤ (nn : Int) - 1))) ∧ Stays W w') fun e w' he => ⟨he.1, he.2 ▸ Stays.refl _⟩
  have hsub : IntKind.i64.wrap ((nn : Int) - 1) = (nn : Int) - 1 := IntWalk.i64_in _ (by omega)
  unfold rawB
  generalize sameV x y z 0 0 0 = bz at kZ0 ⊢
  generalize same d 0 = bd at kD0 ⊢
  generalize (decide (m = 0) && (decide (n = 0) && decide (o = 0))) = bc at kC ⊢
  generalize finB (can .f32 d) = bg at kG0 ⊢
  unfold kindB
  generalize decide (0 ≤ b ∧ b ≤ (nn : Int) - 1) = bi at kI0 ⊢
  have kZ := Lib.hid kZ0
  have kD := Lib.hid kD0
  have kG := Lib.hid kG0
  have kI := Lib.hid kI0
  have kF := Lib.hid hf
  by_cases h1 : k = 1
  · subst h1
    rw [if_pos rfl]
    exact c_ent_one p x y z m n o b d bz bf bc bd bg bi nn hsub w hcells kF kZ kD kG kI kC
  · rw [if_neg h1]
    by_cases h2 : k = 2
    · subst h2
      rw [if_pos rfl]
      exact c_ent_two p x y z m n o b d bz bf bc bd bg bi nn hsub w hcells kF kZ kD kG kI kC
    · rw [if_neg h2]
      by_cases h3 : k = 3
      · subst h3
        rw [if_pos rfl]
        exact c_ent_three p x y z m n o b d bz bf bc bd bg bi nn hsub w hcells kF kZ kD kG kI kC
      · rw [if_neg h3]
        by_cases h4 : k = 4
        · subst h4
          rw [if_pos rfl]
          exact c_ent_four p x y z m n o b d bz bf bc bd bg bi nn hsub w hcells kF kZ kD kG kI kC
        · rw [if_neg h4]
          exact c_ent_none p k (by simp [h1]) (by simp [h2]) (by simp [h3]) (by simp [h4]) x y z m n o b d bz bf bc bd bg bi nn hsub w hcells kF kZ kD kG kI kC
end Go.Proofs.Ytdojdnndligmhaa

namespace Go.Proofs.Ytdojdnndligmhaa
open Go Go.RowKit
set_option linter.unusedVariables false
set_option linter.unusedSimpArgs false

theorem c_journal (r : Int) (x y z : Nat) (A A' : Option Addr) (n c n' c' : Nat) (w : World) :
    Calls Try.prog 53 #[.agg #[.int .i64 r, .float .f32 x, .float .f32 y, .float .f32 z, .slice A n c, .slice A' n' c']] w fun e w' => e = .returned (.agg #[.int .i64 r, .float .f32 x, .float .f32 y, .float .f32 z, .slice A n c, .slice A' n' c']) ∧ Stays w w' := by
  have hst : Stays w ((w.alloc (.cells #[.int .i64 r, .float .f32 x, .float .f32 y, .float .f32 z, .slice A n c, .slice A' n' c'] 53)).alloc (.cells #[.int .i64 0, .float .f32 0, .float .f32 0, .float .f32 0, .slice none 0 0, .slice none 0 0] 91)) := by (repeat (first | exact Stays.refl _ | (with_reducible refine Stays.drewN ?_ _) | (with_reducible refine Stays.alloc ?_ _) | (with_reducible refine Stays.drew ?_) | (refine Stays.trans ?_ ‹Stays _ _›)))
  have hres : ((w.alloc (.cells #[.int .i64 r, .float .f32 x, .float .f32 y, .float .f32 z, .slice A n c, .slice A' n' c'] 53)).alloc (.cells #[.int .i64 0, .float .f32 0, .float .f32 0, .float .f32 0, .slice none 0 0, .slice none 0 0] 91)).heap[w.heap.size + 1]? = some (.cells #[.int .i64 0, .float .f32 0, .float .f32 0, .float .f32 0, .slice none 0 0, .slice none 0 0] 91 (0, 0)) := by (repeat (first | (refine heap_top _ _ _ ?_; simp; done) | (with_reducible refine heap_drawn _ _ _ ?_) | (with_reducible refine heap_under _ _ _ ?_ ?_; (simp <;> omega))))
  go_enter Try.func53, Try.ntmps53
  go_wp2_with (refine wpList_store_row rfl _ _ _ rfl _ _ _ rfl rfl hres ?hi ?ho ?h1 ?hB hst ?_; (case hi => kernel_rfl); (case ho => rfl); (case h1 => first | rfl | simp [Value.oneCell']); (case hB => first | omega | (simp <;> omega)); intro w2 hw2 hq2 hother hsame)
  go_wp2
  apply end_agg rfl rfl rfl Try.underlying91 rfl (t := 91)
  case hg => exact hq2
  case hi => kernel_rfl
  case hR => exact ⟨rfl, hw2⟩

def eqz (n : NV) : Bool := n.gf == can .f32 0
noncomputable def entB (nn : Nat) (r : List NV) : Bool := kindB (gI r 0) (eqz (r.getD 1 (.i 0)) && eqz (r.getD 2 (.i 0)) && eqz (r.getD 3 (.i 0))) (fV ((r.drop 1).take 3)) (decide (gI r 4 = 0) && (decide (gI r 5 = 0) && decide (gI r 6 = 0))) (gI r 7) (eqz (r.getD 8 (.i 0))) (finB (r.getD 8 (.i 0)).gf) nn

theorem ent_raw {cs : List Value} {r : List NV} (h : KMs KEntry cs r) : ∃ (k m n o b : Int) (x y z d : Nat), cs = [.int .i64 k, .float .f32 x, .float .f32 y, .float .f32 z, .int .i16 m, .int .i16 n, .int .i16 o, .int .i64 b, .float .f32 d] ∧ ShM (.agg KVec) (.agg #[.float .f32 x, .float .f32 y, .float .f32 z]) ((r.drop 1).take 3) ∧ ∀ nn, entB nn r = rawB k x y z m n o b d (fV ((r.drop 1).take 3)) nn := by
  have hr := KMs_rlen h
  have hl := KMs_len h
  match cs, r, hl, hr, h with
  | [_, _, _, _, _, _, _, _, _], [n0, n1, n2, n3, n4, n5, n6, n7, n8], _, _, ⟨h0, ⟨x, hx, hfx⟩, ⟨y, hy, hfy⟩, ⟨z, hz, hfz⟩, h4, h5, h6, h7, ⟨d, hd, hfd⟩, _⟩ =>
    subst hx hy hz hd
    have h0 : _ = Value.int .i64 n0.gi := h0
    have h4 : _ = Value.int .i16 n4.gi := h4
    have h5 : _ = Value.int .i16 n5.gi := h5
    have h6 : _ = Value.int .i16 n6.gi := h6
    have h7 : _ = Value.int .i64 n7.gi := h7
    subst h0 h4 h5 h6 h7
    refine ⟨n0.gi, n4.gi, n5.gi, n6.gi, n7.gi, x, y, z, d, rfl, ⟨_, rfl, ⟨x, rfl, hfx⟩, ⟨y, rfl, hfy⟩, ⟨z, rfl, hfz⟩, trivial⟩, fun nn => ?_⟩
    unfold entB rawB sameV same eqz
    rw [hfx.out, hfy.out, hfz.out, hfd.out]
    rfl

noncomputable def logB (hd : List NV) (bs ls : List (List NV)) : Bool := frameB hd bs && (decide (ls.length ≤ 1200) && ls.all (entB bs.length))
theorem logB_f {hd : List NV} {bs ls : List (List NV)} (h : frameB hd bs = false) : logB hd bs ls = false := by unfold logB; rw [h]; rfl
theorem logB_n {hd : List NV} {bs ls : List (List NV)} (h : ¬ ls.length ≤ 1200) : logB hd bs ls = false := by unfold logB; rw [decide_eq_false h]; simp
theorem logB_l {hd : List NV} {bs ls : List (List NV)} (h : ls.all (entB bs.length) = false) : logB hd bs ls = false := by unfold logB; rw [h]; simp
theorem logB_t {hd : List NV} {bs ls : List (List NV)} {k : Nat} (hf : frameB hd bs = true) (hn : ls.length ≤ 1200) (h : (ls.take k).all (entB bs.length) = true) (hk : ls.length ≤ k) : logB hd bs ls = true := by
  unfold logB
  rw [hf, decide_eq_true hn, all_end h hk]
  rfl

def lfS (b : Bool) (f : FuncId) (args : Array Value) (v : Value) : Prop := f = 64 → v = .bool b
def leS (b : Bool) (f : FuncId) (args : Array Value) (v : Value) : Prop := f = 74 → v = .bool b

set_option maxRecDepth 100000 in
set_option maxHeartbeats 8000000 in
theorem c_l08Log (p : Nat) (r : Int) (x y z : Nat) (A A' : Option Addr) (c c' : Nat) (hd : List NV) (bs ls : List (List NV)) (w : World) (hh : HdK r x y z hd) (h : Ls KVec 3 w w.heap.size A bs) (h' : Ls KEntry 9 w w.heap.size A' ls)
    (hg : w.heap[p]? = some (.cells #[.int .i64 r, .float .f32 x, .float .f32 y, .float .f32 z, .slice A bs.length c, .slice A' ls.length c'] 53 (0, 0))) (hn : bs.length ≤ 1048576) (hm : ls.length ≤ 1048576) :
    Calls Try.prog 51 #[.pointer (some ⟨p, 0, none⟩)] w fun e w' => e = .returned (.bool (logB hd bs ls)) ∧ Stays w w' := by
  have H' := Lib.hid h'
  have HB : Hid (∀ w1, Stays w w1 → ∀ i, w1.cell? ⟨p, i, none⟩ = (#[.int .i64 r, .float .f32 x, .float .f32 y, .float .f32 z, .slice A bs.length c, .slice A' ls.length c'] : Array Value)[i]?) := Lib.hid fun w1 h => row_of h hg
  have kF0 : ∀ W, Stays w W → Calls Try.prog 64 #[.int .i64 r, .agg #[.float .f32 x, .float .f32 y, .float .f32 z], .slice A bs.length c] W fun e w' => e = .returned (.bool (frameB hd bs)) ∧ Stays W w' := fun W hb => c_l08Frame r x y z A c hd bs W hh ((h.below hb).more hb.size) hn
  clear h h' hg hh
  have hcells : ∀ w1, Stays w w1 → _ := fun w1 h => HB.out w1 h
  cases hf : frameB hd bs with
  | false =>
    have fin := Lib.hid (logB_f (ls := ls) hf)
    rw [hf] at kF0
    have kF := Lib.hid kF0
    clear kF0 hf
    go_enter Try.func51, Try.ntmps51
    go_wp2
    refine wp_region_soft_tail 21 (Stays.refl _) (lfS false) [] (by kernel_rfl) (by kernel_rfl) (fun _ h => by cases h) ?_
    simp only [List.take_succ_cons, List.take_zero, List.drop_succ_cons, List.drop_zero]
    repeat (first | ((with_reducible apply soft_detG); (case hwa => rfl); (case hA => rfl); (case h => (intro w1 hw1; have hc := hcells w1 hw1; go_simp; exact rfl)); go_simp) | ((with_reducible apply soft_skipG); (case hwa => rfl); (case hA => rfl); go_simp) | ((with_reducible apply soft_callS (v := .bool false)); (case hwa => rfl); (case hA => rfl); (case h => (intro w1 hw1; have hc := hcells w1 hw1; go_simp; exact ⟨rfl, rfl⟩)); (case hc => (intro w1 hw1; with_reducible exact kF.out w1 hw1)); (case hS => exact (fun _ => rfl)); (case hu => exact fun u hu => hu rfl); go_simp))
    refine soft_nil ?_
    rintro w2 ⟨hw2, _⟩
    go_wp2
    go_ret
    exact ⟨ret_b fin.out.symm, hw2⟩
  | true =>
    rw [hf] at kF0
    have kF := Lib.hid kF0
    clear kF0
    by_cases h12 : ls.length ≤ 1200
    · have h12' : ¬ ((ls.length : Nat) : Int) > 1200 := by omega
      have h12'' : ((ls.length : Nat) : Int) ≤ 1200 := by omega
      have fin := Lib.hid fun (k : Nat) hall (hk : ls.length ≤ k) => logB_t (k := k) hf h12 hall hk
      have bad := Lib.hid fun hl => logB_l (hd := hd) (bs := bs) (ls := ls) hl
      clear hf
      go_enter Try.func51, Try.ntmps51
      go_wp2
      refine wp_region_soft_tail 21 (Stays.refl _) (lfS true) [] (by kernel_rfl) (by kernel_rfl) (fun _ h => by cases h) ?_
      simp only [List.take_succ_cons, List.take_zero, List.drop_succ_cons, List.drop_zero]
      repeat (first | ((with_reducible apply soft_detG); (case hwa => rfl); (case hA => rfl); (case h => (intro w1 hw1; have hc := hcells w1 hw1; go_simp; exact rfl)); go_simp) | ((with_reducible apply soft_skipG); (case hwa => rfl); (case hA => rfl); go_simp) | ((with_reducible apply soft_callS (v := .bool true)); (case hwa => rfl); (case hA => rfl); (case h => (intro w1 hw1; have hc := hcells w1 hw1; go_simp; exact ⟨rfl, rfl⟩)); (case hc => (intro w1 hw1; with_reducible exact kF.out w1 hw1)); (case hS => exact (fun _ => rfl)); (case hu => exact fun u hu => hu rfl); go_simp))
      refine soft_nil ?_
      rintro w2 ⟨hw2, _⟩
      replace hw2 := Lib.hid hw2
      clear hcells kF
      go_wp2
      go_loopw [3] (fun iv wr => ∃ (k : Nat), k ≤ ls.length ∧ iv = .int .i64 k ∧ Hid (Stays w wr) ∧ Hid ((ls.take k).all (entB bs.length) = true)) (fun iv _ => ls.length - (intOf iv).toNat)
      case atStart => exact ⟨0, Nat.zero_le _, rfl, hw2, Lib.hid rfl⟩
      case round =>
        clear hw2
        obtain ⟨k, hk, rfl, hb, ha⟩ := hrel
        have hcb := HB.out _ hb.out
        by_cases hlt : k < ls.length
        · obtain ⟨ad, rfl, hbl, hrow⟩ := (H'.out.below hb.out) k ls[k] (List.getElem?_eq_getElem hlt)
          have hrk := List.getElem?_eq_getElem hlt
          generalize ls[k] = rr at hrow hrk
          obtain ⟨c0, c1, c2, c3, c4, c5, c6, c7, c8, hK, g0, g1, g2, g3, g4, g5, g6, g7, g8⟩ := row9 rfl hrow
          obtain ⟨kk, m, n, o, b, x', y', z', d, ecs, hsh, hraw⟩ := ent_raw hK
          cases ecs
          have nx : Hid (entB bs.length rr = true → Hid ((ls.take (k + 1)).all (entB bs.length) = true)) := Lib.hid fun h => Lib.hid (all_next ha.out hrk h)
          have bd : Hid (entB bs.length rr = false → logB hd bs ls = false) := Lib.hid fun h => bad.out (all_bad hrk h)
          have hA1 : ∀ n, (ad.add n).block < wr.heap.size := fun n => by rw [block_add]; exact Nat.lt_of_lt_of_le hbl hb.out.size
          have G : ∀ w', Stays wr w' → w'.cell? (ad.add (k * 9)) = some (.int .i64 kk) ∧ w'.cell? ⟨(ad.add (k * 9)).block, (ad.add (k * 9)).off + 1, none⟩ = some (.float .f32 x') ∧ w'.cell? ⟨(ad.add (k * 9)).block, (ad.add (k * 9)).off + 1 + 1, none⟩ = some (.float .f32 y') ∧ w'.cell? ⟨(ad.add (k * 9)).block, (ad.add (k * 9)).off + 1 + 2, none⟩ = some (.float .f32 z') ∧ w'.cell? ⟨(ad.add (k * 9)).block, (ad.add (k * 9)).off + 4, none⟩ = some (.int .i16 m) ∧ w'.cell? ⟨(ad.add (k * 9)).block, (ad.add (k * 9)).off + 4 + 1, none⟩ = some (.int .i16 n) ∧ w'.cell? ⟨(ad.add (k * 9)).block, (ad.add (k * 9)).off + 4 + 2, none⟩ = some (.int .i16 o) ∧ w'.cell? ⟨(ad.add (k * 9)).block, (ad.add (k * 9)).off + 7, none⟩ = some (.int .i64 b) ∧ w'.cell? ⟨(ad.add (k * 9)).block, (ad.add (k * 9)).off + 8, none⟩ = some (.float .f32 d) := fun w' hs => ⟨(Below.cell hs (hA1 _)).trans g0, (Below.cell (p := ⟨(ad.add (k * 9)).block, (ad.add (k * 9)).off + 1, none⟩) hs (hA1 _)).trans g1, (Below.cell (p := ⟨(ad.add (k * 9)).block, (ad.add (k * 9)).off + 2, none⟩) hs (hA1 _)).trans g2, (Below.cell (p := ⟨(ad.add (k * 9)).block, (ad.add (k * 9)).off + 3, none⟩) hs (hA1 _)).trans g3, (Below.cell (p := ⟨(ad.add (k * 9)).block, (ad.add (k * 9)).off + 4, none⟩) hs (hA1 _)).trans g4, (Below.cell (p := ⟨(ad.add (k * 9)).block, (ad.add (k * 9)).off + 5, none⟩) hs (hA1 _)).trans g5, (Below.cell (p := ⟨(ad.add (k * 9)).block, (ad.add (k * 9)).off + 6, none⟩) hs (hA1 _)).trans g6, (Below.cell (p := ⟨(ad.add (k * 9)).block, (ad.add (k * 9)).off + 7, none⟩) hs (hA1 _)).trans g7, (Below.cell (p := ⟨(ad.add (k * 9)).block, (ad.add (k * 9)).off + 8, none⟩) hs (hA1 _)).trans g8⟩
          have kE0 : ∀ W, Stays wr W → Calls Try.prog 74 #[.pointer (some (ad.add (k * 9))), .int .i64 bs.length] W fun e w' => e = .returned (.bool (entB bs.length rr)) ∧ Stays W w' := fun W hs => by
            rw [hraw]
            exact c_l08Entry (ad.add (k * 9)) kk x' y' z' m n o b d _ bs.length hn W (fun w' h => G w' (Stays.trans hs h)) (fun W => c_l01VecG _ _ W hsh)
          clear hraw G hA1 hK hrow hrk hsh g0 g1 g2 g3 g4 g5 g6 g7 g8
          generalize entB bs.length rr = bf at kE0 nx bd
          have kE := Lib.hid kE0
          clear kE0
          have hcells : ∀ w1, Stays wr w1 → _ := fun w1 h => HB.out w1 (Stays.trans hb.out h)
          have hlt' : (k : Int) < (ls.length : Int) := by omega
          cases bf with
          | true =>
            go_wp2
            clear hcb
            refine wp_region_soft_tail 12 (Stays.refl _) (leS true) [] (by kernel_rfl) (by kernel_rfl) (fun _ h => by cases h) ?_
            simp only [List.take_succ_cons, List.take_zero, List.drop_succ_cons, List.drop_zero]
            repeat (first | ((with_reducible apply soft_detG); (case hwa => rfl); (case hA => rfl); (case h => (intro w1 hw1; have hc := hcells w1 hw1; go_simp; exact rfl)); go_simp) | ((with_reducible apply soft_callS (v := .bool true)); (case hwa => rfl); (case hA => rfl); (case h => (intro w1 hw1; have hc := hcells w1 hw1; go_simp; exact ⟨rfl, rfl⟩)); (case hc => (intro w1 hw1; with_reducible exact kE.out w1 hw1)); (case hS => exact (fun _ => rfl)); (case hu => exact fun u hu => hu rfl); go_simp))
            refine soft_nil ?_
            rintro w2 ⟨hw2, _⟩
            replace hw2 := Lib.hid (Stays.trans hb.out hw2)
            clear hcells
            go_wp2
            go_round
            case rel => exact ⟨k + 1, by omega, by go_num, hw2, nx.out (by simp)⟩
            case measure => simp [intOf]; omega
          | false =>
            go_wp2
            clear hcb
            refine wp_region_soft_tail 12 (Stays.refl _) (leS false) [] (by kernel_rfl) (by kernel_rfl) (fun _ h => by cases h) ?_
            simp only [List.take_succ_cons, List.take_zero, List.drop_succ_cons, List.drop_zero]
            repeat (first | ((with_reducible apply soft_detG); (case hwa => rfl); (case hA => rfl); (case h => (intro w1 hw1; have hc := hcells w1 hw1; go_simp; exact rfl)); go_simp) | ((with_reducible apply soft_callS (v := .bool false)); (case hwa => rfl); (case hA => rfl); (case h => (intro w1 hw1; have hc := hcells w1 hw1; go_simp; exact ⟨rfl, rfl⟩)); (case hc => (intro w1 hw1; with_reducible exact kE.out w1 hw1)); (case hS => exact (fun _ => rfl)); (case hu => exact fun u hu => hu rfl); go_simp))
            refine soft_nil ?_
            rintro w2 ⟨hw2, _⟩
            replace hw2 := Lib.hid (Stays.trans hb.out hw2)
            clear hcells
            go_wp2
            go_ret
            exact ⟨ret_b (bd.out (by simp)).symm, hw2.out⟩
        · have hL := Lib.hid (fin.out k ha.out (by omega))
          go_wp2
          go_ret
          exact ⟨ret_b hL.out.symm, hb.out⟩
    · have h12' : ((ls.length : Nat) : Int) > 1200 := by omega
      have fin := Lib.hid (logB_n (hd := hd) (bs := bs) h12)
      clear hf
      go_enter Try.func51, Try.ntmps51
      go_wp2
      refine wp_region_soft_tail 21 (Stays.refl _) (lfS true) [] (by kernel_rfl) (by kernel_rfl) (fun _ h => by cases h) ?_
      simp only [List.take_succ_cons, List.take_zero, List.drop_succ_cons, List.drop_zero]
      repeat (first | ((with_reducible apply soft_detG); (case hwa => rfl); (case hA => rfl); (case h => (intro w1 hw1; have hc := hcells w1 hw1; go_simp; exact rfl)); go_simp) | ((with_reducible apply soft_skipG); (case hwa => rfl); (case hA => rfl); go_simp) | ((with_reducible apply soft_callS (v := .bool true)); (case hwa => rfl); (case hA => rfl); (case h => (intro w1 hw1; have hc := hcells w1 hw1; go_simp; exact ⟨rfl, rfl⟩)); (case hc => (intro w1 hw1; with_reducible exact kF.out w1 hw1)); (case hS => exact (fun _ => rfl)); (case hu => exact fun u hu => hu rfl); go_simp))
      refine soft_nil ?_
      rintro w2 ⟨hw2, _⟩
      go_wp2
      go_ret
      exact ⟨ret_b fin.out.symm, hw2⟩

theorem c_specValidLog (v : Value) (hd : List NV) (bs ls : List (List NV)) (w : World) (h : LogV w w.heap.size v hd bs ls) (hn : bs.length ≤ 1048576) (hm : ls.length ≤ 1048576) :
    Calls Try.prog 23 #[v] w fun e w' => e = .returned (.bool (logB hd bs ls)) ∧ Stays w w' := by
  obtain ⟨r, x, y, z, A, c, A', c', rfl, hh, h1, h2⟩ := h.val
  have hb : Stays w (w.alloc (.cells #[.int .i64 r, .float .f32 x, .float .f32 y, .float .f32 z, .slice A bs.length c, .slice A' ls.length c'] 53)) := by (repeat (first | exact Stays.refl _ | (with_reducible refine Stays.drewN ?_ _) | (with_reducible refine Stays.alloc ?_ _) | (with_reducible refine Stays.drew ?_) | (refine Stays.trans ?_ ‹Stays _ _›)))
  have hk := Lib.hid (c_l08Log w.heap.size r x y z A A' c c' hd bs ls (w.alloc (.cells #[.int .i64 r, .float .f32 x, .float .f32 y, .float .f32 z, .slice A bs.length c, .slice A' ls.length c'] 53)) hh ((h1.below hb).more hb.size) ((h2.below hb).more hb.size) (heap_alloc_new w _) hn hm)
  replace hb := Lib.hid hb
  clear h h1 h2 hh
  go_enter Try.func23, Try.ntmps23
  go_wp2_with (go_at_call 51; refine hk.out.mono ?_; rintro e w1 ⟨rfl, hw1⟩)
  go_ret
  exact ⟨rfl, Stays.trans hb.out hw1⟩

set_option maxRecDepth 100000 in
set_option maxHeartbeats 2000000 in
theorem c_implValidLog (v : Value) (hd : List NV) (bs ls : List (List NV)) (w : World) (h : LogV w w.heap.size v hd bs ls) (hn : bs.length ≤ 1048576) (hm : ls.length ≤ 1048576) :
    Calls Try.prog 25 #[v] w fun e w' => e = .returned (.bool (logB hd bs ls)) ∧ Stays w w' := by
  obtain ⟨r, x, y, z, A, c, A', c', rfl, hh, h1, h2⟩ := h.val
  have H' := Lib.hid h2
  have kM := Lib.hid fun W => c_journal r x y z A A' bs.length c ls.length c' W
  have kS0 : ∀ W, Stays w W → Calls Try.prog 41 #[.agg #[.int .i64 r, .float .f32 x, .float .f32 y, .float .f32 z, .slice A bs.length c]] W fun e w' => e = .returned (.bool (frameB hd bs)) ∧ Stays W w' := fun W hb => c_isSound r x y z A c hd bs W hh ((h1.below hb).more hb.size) hn
  have HB : Hid (∀ w1, Stays (w.alloc (.cells #[.int .i64 r, .float .f32 x, .float .f32 y, .float .f32 z, .slice A bs.length c, .slice A' ls.length c'] 53)) w1 → Stays w w1) := Lib.hid fun w1 h => Stays.trans (by (repeat (first | exact Stays.refl _ | (with_reducible refine Stays.drewN ?_ _) | (with_reducible refine Stays.alloc ?_ _) | (with_reducible refine Stays.drew ?_) | (refine Stays.trans ?_ ‹Stays _ _›)))) h
  have HJ : Hid (∀ w1 w3 : World, Stays (w1.alloc (.cells #[.int .i64 r, .float .f32 x, .float .f32 y, .float .f32 z, .slice A bs.length c, .slice A' ls.length c'] 91)) w3 → ∀ i, w3.cell? ⟨w1.heap.size, i, none⟩ = (#[.int .i64 r, .float .f32 x, .float .f32 y, .float .f32 z, .slice A bs.length c, .slice A' ls.length c'] : Array Value)[i]?) := Lib.hid fun w1 w3 h => row_of h (heap_alloc_new w1 _)
  clear h h1 h2 hh
  cases hf : frameB hd bs with
  | false =>
    have fin := Lib.hid (logB_f (ls := ls) hf)
    rw [hf] at kS0
    have kS := Lib.hid kS0
    clear kS0 hf
    go_enter Try.func25, Try.ntmps25
    go_wp2_with (first
      | (go_at_call 53; refine (kM.out _).mono ?_; rintro e w1 ⟨rfl, hw1⟩; replace hw1 := Lib.hid hw1)
      | (go_at_call 41; refine (kS.out _ (Stays.trans (HB.out _ hw1.out) (by (repeat (first | exact Stays.refl _ | (with_reducible refine Stays.drewN ?_ _) | (with_reducible refine Stays.alloc ?_ _) | (with_reducible refine Stays.drew ?_) | (refine Stays.trans ?_ ‹Stays _ _›)))))).mono ?_; rintro e w2 ⟨rfl, hw2⟩; replace hw2 := Lib.hid (Stays.trans (show Stays w1 _ from by (repeat (first | exact Stays.refl _ | (with_reducible refine Stays.drewN ?_ _) | (with_reducible refine Stays.alloc ?_ _) | (with_reducible refine Stays.drew ?_) | (refine Stays.trans ?_ ‹Stays _ _›)))) hw2)))
    go_ret
    exact ⟨ret_b fin.out.symm, HB.out _ (Stays.trans hw1.out hw2.out)⟩
  | true =>
    rw [hf] at kS0
    have kS := Lib.hid kS0
    clear kS0
    by_cases h12 : ls.length ≤ 1200
    · have h12' : ¬ ((ls.length : Nat) : Int) > 1200 := by omega
      have h12'' : ((ls.length : Nat) : Int) ≤ 1200 := by omega
      have fin := Lib.hid fun (k : Nat) hall (hk : ls.length ≤ k) => logB_t (k := k) hf h12 hall hk
      have bad := Lib.hid fun hl => logB_l (hd := hd) (bs := bs) (ls := ls) hl
      clear hf
      go_enter Try.func25, Try.ntmps25
      go_wp2_with (first
        | (go_at_call 53; refine (kM.out _).mono ?_; rintro e w1 ⟨rfl, hw1⟩; replace hw1 := Lib.hid hw1)
        | (go_at_call 41; refine (kS.out _ (Stays.trans (HB.out _ hw1.out) (by (repeat (first | exact Stays.refl _ | (with_reducible refine Stays.drewN ?_ _) | (with_reducible refine Stays.alloc ?_ _) | (with_reducible refine Stays.drew ?_) | (refine Stays.trans ?_ ‹Stays _ _›)))))).mono ?_; rintro e w2 ⟨rfl, hw2⟩; have hcj := HJ.out w1 w2 hw2; replace hw2 := Lib.hid hw2; have hws := Lib.hid (Stays.trans hw1.out (show Stays w1 (w1.alloc (.cells #[.int .i64 r, .float .f32 x, .float .f32 y, .float .f32 z, .slice A bs.length c, .slice A' ls.length c'] 91)) from by (repeat (first | exact Stays.refl _ | (with_reducible refine Stays.drewN ?_ _) | (with_reducible refine Stays.alloc ?_ _) | (with_reducible refine Stays.drew ?_) | (refine Stays.trans ?_ ‹Stays _ _›)))))))
      clear hcj kS kM
      replace HJ := Lib.hid (HJ.out w1)
      generalize (w1.alloc (.cells #[.int .i64 r, .float .f32 x, .float .f32 y, .float .f32 z, .slice A bs.length c, .slice A' ls.length c'] 91)) = W0 at HJ hw2 hws
      go_loopw [21] (fun iv wr => ∃ (k : Nat), k ≤ ls.length ∧ iv = .int .i64 k ∧ Hid (Stays W0 wr) ∧ Hid ((ls.take k).all (entB bs.length) = true)) (fun iv _ => ls.length - (intOf iv).toNat)
      case atStart => exact ⟨0, Nat.zero_le _, rfl, hw2, Lib.hid rfl⟩
      case round =>
        clear hw2
        obtain ⟨k, hk, rfl, hb, ha⟩ := hrel
        have hbw := Lib.hid (HB.out _ (Stays.trans hws.out hb.out))
        by_cases hlt : k < ls.length
        · obtain ⟨ad, rfl, hbl, hrow⟩ := (H'.out.below hbw.out) k ls[k] (List.getElem?_eq_getElem hlt)
          have hrk := List.getElem?_eq_getElem hlt
          generalize ls[k] = rr at hrow hrk
          obtain ⟨c0, c1, c2, c3, c4, c5, c6, c7, c8, hK, g0, g1, g2, g3, g4, g5, g6, g7, g8⟩ := row9 rfl hrow
          obtain ⟨kk, m, n, o, b, x', y', z', d, ecs, hsh, hraw⟩ := ent_raw hK
          cases ecs
          have nx : Hid (entB bs.length rr = true → Hid ((ls.take (k + 1)).all (entB bs.length) = true)) := Lib.hid fun h => Lib.hid (all_next ha.out hrk h)
          have bd : Hid (entB bs.length rr = false → logB hd bs ls = false) := Lib.hid fun h => bad.out (all_bad hrk h)
          have kL0 := fun W => c_mayHave kk x' y' z' m n o b d _ (fun W => c_IsFiniteVecG _ _ W hsh) r x y z A bs.length c W
          rw [← hraw] at kL0
          generalize entB bs.length rr = bf at kL0 nx bd
          have kL := Lib.hid kL0
          clear kL0 hraw hK hrow hrk hsh
          have hcf := HJ.out (wr.alloc (.cells #[.int .i64 kk, .float .f32 x', .float .f32 y', .float .f32 z', .int .i16 m, .int .i16 n, .int .i16 o, .int .i64 b, .float .f32 d] 97)) (Stays.trans hb.out (by (repeat (first | exact Stays.refl _ | (with_reducible refine Stays.drewN ?_ _) | (with_reducible refine Stays.alloc ?_ _) | (with_reducible refine Stays.drew ?_) | (refine Stays.trans ?_ ‹Stays _ _›)))))
          have hlt' : (k : Int) < (ls.length : Int) := by omega
          cases bf with
          | false =>
            go_wp2_with (go_at_call 54; refine (kL.out _).mono ?_; rintro e w3 ⟨rfl, hw3⟩; replace hw3 := Lib.hid hw3)
            go_ret
            exact ⟨ret_b (bd.out (by simp)).symm, Stays.trans hbw.out (Stays.trans (by (repeat (first | exact Stays.refl _ | (with_reducible refine Stays.drewN ?_ _) | (with_reducible refine Stays.alloc ?_ _) | (with_reducible refine Stays.drew ?_) | (refine Stays.trans ?_ ‹Stays _ _›)))) hw3.out)⟩
          | true =>
            go_wp2_with (go_at_call 54; refine (kL.out _).mono ?_; rintro e w3 ⟨rfl, hw3⟩; replace hw3 := Lib.hid (Stays.trans hb.out (Stays.trans (by (repeat (first | exact Stays.refl _ | (with_reducible refine Stays.drewN ?_ _) | (with_reducible refine Stays.alloc ?_ _) | (with_reducible refine Stays.drew ?_) | (refine Stays.trans ?_ ‹Stays _ _›)))) hw3)))
            go_round
            case rel => exact ⟨k + 1, by omega, by go_num, hw3, nx.out (by simp)⟩
            case measure => simp [intOf]; omega
        · have hL := Lib.hid (fin.out k ha.out (by omega))
          go_wp2
          go_ret
          exact ⟨ret_b hL.out.symm, hbw.out⟩
    · have h12' : ((ls.length : Nat) : Int) > 1200 := by omega
      have fin := Lib.hid (logB_n (hd := hd) (bs := bs) h12)
      clear hf
      go_enter Try.func25, Try.ntmps25
      go_wp2_with (first
        | (go_at_call 53; refine (kM.out _).mono ?_; rintro e w1 ⟨rfl, hw1⟩; replace hw1 := Lib.hid hw1)
        | (go_at_call 41; refine (kS.out _ (Stays.trans (HB.out _ hw1.out) (by (repeat (first | exact Stays.refl _ | (with_reducible refine Stays.drewN ?_ _) | (with_reducible refine Stays.alloc ?_ _) | (with_reducible refine Stays.drew ?_) | (refine Stays.trans ?_ ‹Stays _ _›)))))).mono ?_; rintro e w2 ⟨rfl, hw2⟩; have hcj := HJ.out w1 w2 hw2; replace hw2 := Lib.hid (Stays.trans (show Stays w1 _ from by (repeat (first | exact Stays.refl _ | (with_reducible refine Stays.drewN ?_ _) | (with_reducible refine Stays.alloc ?_ _) | (with_reducible refine Stays.drew ?_) | (refine Stays.trans ?_ ‹Stays _ _›)))) hw2)))
      go_ret
      exact ⟨ret_b fin.out.symm, HB.out _ (Stays.trans hw1.out hw2.out)⟩
end Go.Proofs.Ytdojdnndligmhaa
