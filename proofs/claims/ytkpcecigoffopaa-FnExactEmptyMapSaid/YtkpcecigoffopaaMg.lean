/- The map without marks. No condition. -/
import Derived.Test.YtkpcecigoffopaaMd
namespace Go.Proofs.Ytkpcecigoffopaa
open Go Go.RowKit
set_option linter.unusedVariables false

theorem c_markNil (k : Int) (w : World) : Calls Try.prog 34 #[.slice none 0 0, .int .i64 k] w fun e w' => e = .returned (.int .i64 k) ∧ w = w' := by
  go_enter Try.func34, Try.ntmps34
  go_wp2
  refine wp_loop_rounds 1 ?_
  rw [rounds_succ]
  go_wp2
  go_ret
  exact ⟨rfl, rfl⟩

theorem c_heldNil (k : Int) (w : World) : Calls Try.prog 35 #[.slice none 0 0, .int .i64 k] w fun e w' => e = .returned (.int .i64 k) ∧ w = w' := by
  go_enter Try.func35, Try.ntmps35
  go_wp2
  refine wp_loop_rounds 1 ?_
  rw [rounds_succ]
  go_wp2
  go_ret
  exact ⟨rfl, rfl⟩

theorem c_markMapNil (sd : Value) (w : World) : Calls Try.prog 33 #[.agg #[sd, .slice none 0 0], .int .i64 1] w fun e w' => e = .returned (.int .i64 1) ∧ Below w.heap.size w w' := by
  go_enter Try.func33, Try.ntmps33
  go_wp2_with (go_at_call 34; refine (c_markNil 1 _).mono ?_; rintro e w' ⟨rfl, rfl⟩)
  go_ret
  exact ⟨rfl, (Below.refl _ _).alloc (Nat.le_refl _) _⟩

theorem c_heldMapNil (sd : Value) (w : World) : Calls Try.prog 38 #[.agg #[sd, .slice none 0 0], .int .i64 1] w fun e w' => e = .returned (.int .i64 1) ∧ Below w.heap.size w w' := by
  go_enter Try.func38, Try.ntmps38
  go_wp2_with (go_at_call 35; refine (c_heldNil 1 _).mono ?_; rintro e w' ⟨rfl, rfl⟩)
  go_ret
  exact ⟨rfl, (Below.refl _ _).alloc (Nat.le_refl _) _⟩

theorem c_eqNil (w : World) : Calls Try.prog 32 #[.slice none 0 0, .slice none 0 0] w fun e w' => e = .returned (.bool true) ∧ Below w.heap.size w w' :=
  c_eqMarkS none none 0 0 [] w (fun i r hr => by simp at hr) (fun i r hr => by simp at hr) (by simp)

theorem c_eqMapNil (s : Nat) (w : World) : Calls Try.prog 19 #[.agg #[.float .f32 s, .slice none 0 0], .agg #[.float .f32 s, .slice none 0 0]] w fun e w' => e = .returned (.bool true) ∧ Below w.heap.size w w' := by
  have hE := Lib.hid c_eqNil
  have u0 : ((w.alloc (.cells #[.float .f32 s, .slice none 0 0] 30)).alloc (.cells #[.float .f32 s, .slice none 0 0] 30)).heap[w.heap.size]? = some (.cells #[.float .f32 s, .slice none 0 0] 30 (0, 0)) := by (repeat (first | (refine heap_top _ _ _ ?_; simp; done) | (with_reducible refine heap_drawn _ _ _ ?_) | (with_reducible refine heap_under _ _ _ ?_ ?_; (simp <;> omega))))
  have u1 : ((w.alloc (.cells #[.float .f32 s, .slice none 0 0] 30)).alloc (.cells #[.float .f32 s, .slice none 0 0] 30)).heap[w.heap.size + 1]? = some (.cells #[.float .f32 s, .slice none 0 0] 30 (0, 0)) := by (repeat (first | (refine heap_top _ _ _ ?_; simp; done) | (with_reducible refine heap_drawn _ _ _ ?_) | (with_reducible refine heap_under _ _ _ ?_ ?_; (simp <;> omega))))
  have hA := Lib.hid fun w1 (h : Stays ((w.alloc (.cells #[.float .f32 s, .slice none 0 0] 30)).alloc (.cells #[.float .f32 s, .slice none 0 0] 30)) w1) => row_of h u0
  have hA' := Lib.hid fun w1 (h : Stays ((w.alloc (.cells #[.float .f32 s, .slice none 0 0] 30)).alloc (.cells #[.float .f32 s, .slice none 0 0] 30)) w1) => row_of h u1
  clear u0 u1
  have hS : Stays ((w.alloc (.cells #[.float .f32 s, .slice none 0 0] 30)).alloc (.cells #[.float .f32 s, .slice none 0 0] 30)) ((w.alloc (.cells #[.float .f32 s, .slice none 0 0] 30)).alloc (.cells #[.float .f32 s, .slice none 0 0] 30)) := Stays.refl _
  go_enter Try.func19, Try.ntmps19
  go_wp2_with (first
    | ((with_reducible refine wpList_widen rfl _ _ _ rfl _ rfl (some_of Try.underlying22) Try.underlying85 ?_); intro r n hr)
    | (go_at_call 62; refine (c_sameFloat _ _ _ (wide_same rfl ‹FIs _ _ _› ‹FIs _ _ _›)).mono ?_; rintro e w1 ⟨rfl, hw1⟩; replace hS := Stays.trans (show Stays _ _ from by first | exact hS | exact hS.drewN _ | exact (hS.drewN _).drewN _) hw1; clear hw1; have hc := hA.out _ hS; have hc' := hA'.out _ hS)
    | (go_at_call 32; refine (hE.out _).mono ?_; rintro e w1 ⟨rfl, hw1⟩; replace hS := Stays.trans hS hw1; clear hw1))
  go_ret
  exact ⟨rfl, Stays.trans (by (repeat (first | exact Stays.refl _ | (with_reducible refine Stays.drewN ?_ _) | (with_reducible refine Stays.alloc ?_ _) | (with_reducible refine Stays.drew ?_) | (refine Stays.trans ?_ ‹Stays _ _›)))) hS⟩

def sideB0 (s : Nat) : Bool := finB (can .f32 s) && posB (can .f32 s)

theorem end_map {P : Program} {fn : Func} {R : Ending → World → Prop} {a : Act} {w : World} {p u : Tmp} {ty t : TypeId} {g : Nat} {cs : Array Value} {d : TypeDesc}
    (h : fn.results = #[.cell p ty, .tmp u]) (hp : a.tmps.getD p undef = .pointer (some ⟨g, 0, none⟩)) (hf : a.defers = [])
    (hu : P.underlying ty = some d) (hd : (match d with | .struct _ | .array _ _ => true | _ => false) = true)
    (hg : w.heap[g]? = some (.cells cs t (0, 0))) (hi : (P.info? ty).map (·.size) = some cs.size) (hR : R (.returned (.tuple #[.agg cs, a.tmps.getD u undef])) w) : bodyPost P fn R .ret a w := by
  refine bodyPost_ret ?_ hf hR
  rw [results_cell_tmp h, hp]
  simp [asAddr, run_loadVar_row w g t ty cs (0, 0) d hg hu hd hi, Result.andThen]

theorem c_specEmpty (s : Nat) (w : World) : Calls Try.prog 49 #[.float .f32 s] w fun e w' => e = .returned (.tuple #[.agg #[.float .f32 (if sideB0 s then s else 0), .slice none 0 0], .int .i64 (if sideB0 s then 0 else 2)]) ∧ Below w.heap.size w w' := by
  have hs := fun W => c_l05Side s W
  change ∀ W, Calls Try.prog 91 #[.float .f32 s] W fun e w' => e = .returned (.bool (sideB0 s)) ∧ Below W.heap.size W w' at hs
  generalize sideB0 s = sb at hs ⊢
  replace hs := Lib.hid hs
  have u0 : (w.alloc (.cells #[.float .f32 0, .slice none 0 0] 30)).heap[w.heap.size]? = some (.cells #[.float .f32 0, .slice none 0 0] 30 (0, 0)) := by (repeat (first | (refine heap_top _ _ _ ?_; simp; done) | (with_reducible refine heap_drawn _ _ _ ?_) | (with_reducible refine heap_under _ _ _ ?_ ?_; (simp <;> omega))))
  have hA : Hid (∀ w1, Stays (w.alloc (.cells #[.float .f32 0, .slice none 0 0] 30)) w1 → w1.heap[w.heap.size]? = some (.cells #[.float .f32 0, .slice none 0 0] 30 (0, 0)) ∧ Stays w w1) :=
    fun w1 h => ⟨h.heap (in_heap u0) u0, Stays.trans (by (repeat (first | exact Stays.refl _ | (with_reducible refine Stays.drewN ?_ _) | (with_reducible refine Stays.alloc ?_ _) | (with_reducible refine Stays.drew ?_) | (refine Stays.trans ?_ ‹Stays _ _›)))) h⟩
  clear u0
  cases sb
  all_goals
    go_enter Try.func49, Try.ntmps49
    go_wp2_with (first | (go_at_call 91; refine (hs.out _).mono ?_; rintro e w1 ⟨rfl, hw1⟩; obtain ⟨hres, hst⟩ := hA.out _ hw1; clear hw1) | ((refine wpList_store_row rfl _ _ _ rfl _ _ _ rfl rfl hres ?hi ?ho ?h1 ?hB hst ?_); (case hi => kernel_rfl); (case ho => rfl); (case h1 => first | rfl | simp [Value.oneCell']); (case hB => first | omega | (simp <;> omega)); intro w2 hw2 hq2 _ _))
    apply end_map rfl rfl rfl Try.underlying30 rfl (t := 30)
    case hg => exact hq2
    case hi => kernel_rfl
    case hR => exact ⟨rfl, hw2⟩

theorem c_implEmpty (s : Nat) (w : World) : Calls Try.prog 50 #[.float .f32 s] w fun e w' => e = .returned (.tuple #[.agg #[.float .f32 (if sideB0 s then s else 0), .slice none 0 0], .int .i64 (if sideB0 s then 0 else 2)]) ∧ Below w.heap.size w w' := by
  have hs := fun W => c_isPositive s W
  change ∀ W, Calls Try.prog 59 #[.float .f32 s] W fun e w' => e = .returned (.bool (sideB0 s)) ∧ Below W.heap.size W w' at hs
  generalize sideB0 s = sb at hs ⊢
  replace hs := Lib.hid hs
  have u0 : (w.alloc (.cells #[.float .f32 0, .slice none 0 0] 30)).heap[w.heap.size]? = some (.cells #[.float .f32 0, .slice none 0 0] 30 (0, 0)) := by (repeat (first | (refine heap_top _ _ _ ?_; simp; done) | (with_reducible refine heap_drawn _ _ _ ?_) | (with_reducible refine heap_under _ _ _ ?_ ?_; (simp <;> omega))))
  have hA : Hid (∀ w1, Stays (w.alloc (.cells #[.float .f32 0, .slice none 0 0] 30)) w1 → w1.heap[w.heap.size]? = some (.cells #[.float .f32 0, .slice none 0 0] 30 (0, 0)) ∧ Stays w w1) :=
    fun w1 h => ⟨h.heap (in_heap u0) u0, Stays.trans (by (repeat (first | exact Stays.refl _ | (with_reducible refine Stays.drewN ?_ _) | (with_reducible refine Stays.alloc ?_ _) | (with_reducible refine Stays.drew ?_) | (refine Stays.trans ?_ ‹Stays _ _›)))) h⟩
  clear u0
  cases sb
  all_goals
    go_enter Try.func50, Try.ntmps50
    go_wp2_with (first | (go_at_call 59; refine (hs.out _).mono ?_; rintro e w1 ⟨rfl, hw1⟩; obtain ⟨hres, hst⟩ := hA.out _ hw1; clear hw1) | ((refine wpList_store_row rfl _ _ _ rfl _ _ _ rfl rfl hres ?hi ?ho ?h1 ?hB hst ?_); (case hi => kernel_rfl); (case ho => rfl); (case h1 => first | rfl | simp [Value.oneCell']); (case hB => first | omega | (simp <;> omega)); intro w2 hw2 hq2 _ _))
    apply end_map rfl rfl rfl Try.underlying30 rfl (t := 30)
    case hg => exact hq2
    case hi => kernel_rfl
    case hR => exact ⟨rfl, hw2⟩

set_option maxHeartbeats 800000 in
theorem c_lawEmpty (s : Nat) (w : World) : Calls Try.prog 13 #[.float .f32 s] w fun e w' => e = .returned (.bool true) ∧ Below w.heap.size w w' := by
  have hS := fun W => c_specEmpty s W
  have hI := fun W => c_implEmpty s W
  generalize (if sideB0 s then s else 0) = x at hS hI
  generalize (if sideB0 s then (0 : Int) else 2) = code at hS hI
  replace hS := Lib.hid hS
  replace hI := Lib.hid hI
  have hE := Lib.hid (c_eqMapNil x)
  have hM := Lib.hid (c_markMapNil (.float .f32 x))
  have hH := Lib.hid (c_heldMapNil (.float .f32 x))
  have hF : Hid (∀ u w' : World, Stays (u.alloc (.cells #[.float .f32 x, .slice none 0 0] 30)) w' → w'.cell? ⟨u.heap.size, 0, none⟩ = some (.float .f32 x) ∧ w'.cell? ⟨u.heap.size, 1, none⟩ = some (.slice none 0 0)) := Lib.hid fun u w' h => by
    have hg : (u.alloc (.cells #[.float .f32 x, .slice none 0 0] 30)).heap[u.heap.size]? = some (.cells #[.float .f32 x, .slice none 0 0] 30 (0, 0)) := heap_alloc_new u _
    exact ⟨row_of h hg 0, row_of h hg 1⟩
  go_enter Try.func13, Try.ntmps13
  go_wp2_with fail
  refine (hS.out _).mono ?_
  rintro e wa ⟨rfl, hwa⟩
  replace hwa := Lib.hid hwa
  go_wp2_with fail
  refine (hI.out _).mono ?_
  rintro e wb ⟨rfl, hwb⟩
  have hab : Hid (Stays (wa.alloc (.cells #[.float .f32 x, .slice none 0 0] 30)) (wb.alloc (.cells #[.float .f32 x, .slice none 0 0] 30))) := Lib.hid (Stays.alloc hwb _)
  clear hwb
  have hc : Stays (wb.alloc (.cells #[.float .f32 x, .slice none 0 0] 30)) (wb.alloc (.cells #[.float .f32 x, .slice none 0 0] 30)) := Stays.refl _
  obtain ⟨a0, a1⟩ := hF.out wa _ hab.out
  obtain ⟨b0, b1⟩ := hF.out wb _ hc
  go_wp2_with (first
    | (go_at_call 50; refine (hI.out _).mono ?_; rintro e wh ⟨rfl, hw1⟩; replace hc := Stays.alloc (Stays.trans hc hw1) (.cells #[.float .f32 x, .slice none 0 0] 30); clear hw1 a0 a1 b0 b1; obtain ⟨a0, a1⟩ := hF.out wa _ (Stays.trans hab.out hc); obtain ⟨b0, b1⟩ := hF.out wb _ hc; obtain ⟨d0, d1⟩ := hF.out wh _ (Stays.refl _))
    | (go_at_call 19; refine (hE.out _).mono ?_; rintro e w1 ⟨rfl, hw1⟩; replace hc := Stays.trans hc hw1; clear hw1 a0 a1 b0 b1; obtain ⟨a0, a1⟩ := hF.out wa _ (Stays.trans hab.out hc); obtain ⟨b0, b1⟩ := hF.out wb _ hc)
    | (go_at_call 33; refine (hM.out _).mono ?_; rintro e w1 ⟨rfl, hw1⟩; replace hc := Stays.trans hc hw1; clear hw1 a0 a1 b0 b1; obtain ⟨a0, a1⟩ := hF.out wa _ (Stays.trans hab.out hc); obtain ⟨b0, b1⟩ := hF.out wb _ hc)
    | (go_at_call 38; refine (hH.out _).mono ?_; rintro e w1 ⟨rfl, hw1⟩; replace hc := Stays.trans hc hw1; clear hw1 a0 a1 b0 b1; obtain ⟨a0, a1⟩ := hF.out wa _ (Stays.trans hab.out hc); obtain ⟨b0, b1⟩ := hF.out wb _ hc))
  go_ret
  exact ⟨rfl, Stays.trans (Stays.alloc hwa.out _) (Stays.trans hab.out hc)⟩
end Go.Proofs.Ytkpcecigoffopaa
