/- Maps without old marks, or without light ones. No condition. -/
import Derived.Test.YtifaojlgofibmaaUa
namespace Go.Proofs.Ytifaojlgofibmaa
open Go Go.RowKit
set_option linter.unusedVariables false
set_option linter.unusedSimpArgs false

/-- A map and a code, its marks in a block of their own. -/
def MDone (w : World) (o : Option Nat) (xs : List Mk) (code : Int) (e : Ending) (w' : World) : Prop :=
  ∃ s g A c, e = .returned (.tuple #[.agg #[.float .f32 s, .slice A xs.length c], .int .i64 code]) ∧ FIs .f32 s o ∧ Below w.heap.size w w' ∧ w.heap.size ≤ g ∧ LiesR mkK 9 Mk.ins w' g (.slice A xs.length c) xs

theorem mlies_nil (w : World) (g : Nat) : LiesR mkK 9 Mk.ins w g (.slice none 0 0) [] := ⟨none, 0, rfl, fun h => absurd rfl h⟩
theorem fis_zero : FIs .f32 0 (some 0) := by
  have : can .f32 0 = some 0 := by kernel_rfl
  exact ⟨this, by decide⟩

theorem end_mp {P : Program} {fn : Func} {R : Ending → World → Prop} {a : Act} {w : World} {p u : Tmp} {ty t : TypeId} {g : Nat} {cs : Array Value} {d : TypeDesc}
    (h : fn.results = #[.cell p ty, .tmp u]) (hp : a.tmps.getD p undef = .pointer (some ⟨g, 0, none⟩)) (hf : a.defers = [])
    (hu : P.underlying ty = some d) (hd : (match d with | .struct _ | .array _ _ => true | _ => false) = true)
    (hg : w.heap[g]? = some (.cells cs t (0, 0))) (hi : (P.info? ty).map (·.size) = some cs.size) (hR : R (.returned (.tuple #[.agg cs, a.tmps.getD u undef])) w) : bodyPost P fn R .ret a w := by
  refine bodyPost_ret ?_ hf hR
  rw [results_cell_tmp h, hp]
  simp [asAddr, run_loadVar_row w g t ty cs (0, 0) d hg hu hd hi, Result.andThen]

def geB (a b : Option Nat) : Bool := ford .f32 a b == some .gt || ford .f32 a b == some .eq
def ltF (a b : Option Nat) : Bool := ford .f32 a b == some .lt
def selfB (a : Option Nat) : Bool := ford .f32 a a == some .eq

theorem ge_of (r q : Nat) : (FloatKind.f32.format.order r q == some Ordering.gt || FloatKind.f32.format.order r q == some Ordering.eq) = geB (can .f32 r) (can .f32 q) := by
  rw [order_can]; rfl
theorem lt_of (r q : Nat) : (FloatKind.f32.format.order r q == some Ordering.lt) = ltF (can .f32 r) (can .f32 q) := by
  rw [order_can]; rfl
theorem self_of (r : Nat) : (FloatKind.f32.format.order r r == some Ordering.eq) = selfB (can .f32 r) := by
  rw [order_can]; rfl

set_option maxRecDepth 100000 in
theorem c_fgt (t : Int) (p : Nat) (v : Value) (m : Mk) (w : World) (h : IsMk v m) (hq : w.cell? ⟨p, 0, none⟩ = some (.int .i64 t)) : Calls Try.prog 61 #[v, .pointer (some ⟨p, 0, none⟩)] w fun e w' => e = .returned (.bool (decide (t ≤ m.l))) ∧ Stays w w' := by
  obtain ⟨ra, rb, rc, rd, rfl, _⟩ := mk_val h
  have hlt : p < w.heap.size := World.block_lt_of_cell? _ _ hq
  have hne : p ≠ w.heap.size := by omega
  clear h
  generalize m.l = l
  by_cases ht : t ≤ l
  · rw [decide_eq_true ht]
    go_enter Try.func61, Try.ntmps61
    go_wp2
    go_ret
    exact ⟨rfl, by (repeat (first | exact Stays.refl _ | (with_reducible refine Stays.drewN ?_ _) | (with_reducible refine Stays.alloc ?_ _) | (with_reducible refine Stays.drew ?_) | (refine Stays.trans ?_ ‹Stays _ _›)))⟩
  · rw [decide_eq_false ht]
    have ht' : l < t := by omega
    go_enter Try.func61, Try.ntmps61
    go_wp2
    go_ret
    exact ⟨rfl, by (repeat (first | exact Stays.refl _ | (with_reducible refine Stays.drewN ?_ _) | (with_reducible refine Stays.alloc ?_ _) | (with_reducible refine Stays.drew ?_) | (refine Stays.trans ?_ ‹Stays _ _›)))⟩

set_option maxRecDepth 100000 in
theorem c_lgt (q : Nat) (p : Nat) (v : Value) (m : Mk) (w : World) (h : IsMk v m) (hq : w.cell? ⟨p, 0, none⟩ = some (.float .f32 q)) : Calls Try.prog 62 #[v, .pointer (some ⟨p, 0, none⟩)] w fun e w' => e = .returned (.bool (geB m.d (can .f32 q))) ∧ Stays w w' := by
  obtain ⟨ra, rb, rc, rd, rfl, _, _, _, fd⟩ := mk_val h
  have hlt : p < w.heap.size := World.block_lt_of_cell? _ _ hq
  have hne : p ≠ w.heap.size := by omega
  have hx := ge_of rd q
  rw [fd.out] at hx
  clear h fd
  generalize geB m.d (can .f32 q) = b at hx ⊢
  go_enter Try.func62, Try.ntmps62
  go_wp2
  go_ret
  exact ⟨ret_b (by first | exact hx | simp [hx]), by (repeat (first | exact Stays.refl _ | (with_reducible refine Stays.drewN ?_ _) | (with_reducible refine Stays.alloc ?_ _) | (with_reducible refine Stays.drew ?_) | (refine Stays.trans ?_ ‹Stays _ _›)))⟩


set_option maxRecDepth 100000 in
set_option maxHeartbeats 2000000 in
theorem c_implForgetBefore (v : Value) (o : Option Nat) (xs : List Mk) (t : Int) (w : World) (h : MpV w w.heap.size v o xs) (hn : xs.length ≤ 1048576) :
    Calls Try.prog 25 #[v, .int .i64 t] w (MDone w (if mapOK o xs && okTime t then o else some 0) (if mapOK o xs && okTime t then xs.filter (fun m => decide (t ≤ m.l)) else []) (if mapOK o xs then (if okTime t then 0 else 2) else 1)) := by
  obtain ⟨s, A, c, rfl, hf, h1⟩ := h.val
  have hst0 : Stays w (((w.alloc (.cells #[.float .f32 s, .slice A xs.length c] 55)).alloc (.cells #[.int .i64 t] 2)).alloc (.cells #[.float .f32 0, .slice none 0 0] 55)) := by (repeat (first | exact Stays.refl _ | (with_reducible refine Stays.drewN ?_ _) | (with_reducible refine Stays.alloc ?_ _) | (with_reducible refine Stays.drew ?_) | (refine Stays.trans ?_ ‹Stays _ _›)))
  have u0 : (((w.alloc (.cells #[.float .f32 s, .slice A xs.length c] 55)).alloc (.cells #[.int .i64 t] 2)).alloc (.cells #[.float .f32 0, .slice none 0 0] 55)).heap[w.heap.size]? = some (.cells #[.float .f32 s, .slice A xs.length c] 55 (0, 0)) := by (repeat (first | (refine heap_top _ _ _ ?_; simp; done) | (with_reducible refine heap_drawn _ _ _ ?_) | (with_reducible refine heap_under _ _ _ ?_ ?_; (simp <;> omega))))
  have u1 : (((w.alloc (.cells #[.float .f32 s, .slice A xs.length c] 55)).alloc (.cells #[.int .i64 t] 2)).alloc (.cells #[.float .f32 0, .slice none 0 0] 55)).heap[w.heap.size + 1]? = some (.cells #[.int .i64 t] 2 (0, 0)) := by (repeat (first | (refine heap_top _ _ _ ?_; simp; done) | (with_reducible refine heap_drawn _ _ _ ?_) | (with_reducible refine heap_under _ _ _ ?_ ?_; (simp <;> omega))))
  have u2 : (((w.alloc (.cells #[.float .f32 s, .slice A xs.length c] 55)).alloc (.cells #[.int .i64 t] 2)).alloc (.cells #[.float .f32 0, .slice none 0 0] 55)).heap[w.heap.size + 1 + 1]? = some (.cells #[.float .f32 0, .slice none 0 0] 55 (0, 0)) := by (repeat (first | (refine heap_top _ _ _ ?_; simp; done) | (with_reducible refine heap_drawn _ _ _ ?_) | (with_reducible refine heap_under _ _ _ ?_ ?_; (simp <;> omega))))
  have hW := Lib.hid fun w1 (hb : Stays (((w.alloc (.cells #[.float .f32 s, .slice A xs.length c] 55)).alloc (.cells #[.int .i64 t] 2)).alloc (.cells #[.float .f32 0, .slice none 0 0] 55)) w1) => And.intro (And.intro (row_of hb u0 0) (And.intro (row_of hb u0 1) (row_of hb u1 0))) (And.intro ((hb.block _ (in_heap u2)).trans u2) (And.intro (Below.trans (show Below w.heap.size w _ from hst0) (Below.mono hb hst0.size)) (show w.heap.size + 1 + 1 < w1.heap.size from Nat.lt_of_lt_of_le (in_heap u2) hb.size)))
  have kV := Lib.hid fun W (hb : Stays (((w.alloc (.cells #[.float .f32 s, .slice A xs.length c] 55)).alloc (.cells #[.int .i64 t] 2)).alloc (.cells #[.float .f32 0, .slice none 0 0] 55)) W) => c_implValidMap (.agg #[.float .f32 s, .slice A xs.length c]) o xs W (h.on (Below.trans (show Below w.heap.size w _ from hst0) (Below.mono hb hst0.size))) hn
  have kM := Lib.hid fun W (hb : Stays (((w.alloc (.cells #[.float .f32 s, .slice A xs.length c] 55)).alloc (.cells #[.int .i64 t] 2)).alloc (.cells #[.float .f32 0, .slice none 0 0] 55)) W) => (h1.below (Below.trans (show Below w.heap.size w _ from hst0) (Below.mono hb hst0.size))).more (Nat.le_trans hst0.size hb.size)
  have hmf : ∀ (fn : Fn) (first cap : Array Value) (w : World), (Instr.makeFunc fn first cap).run Try.prog w = .ok (.func fn first cap) w := fun _ _ _ _ => rfl
  replace hf := Lib.hid hf
  clear u0 u1 u2 hst0 h h1
  have hS := Stays.refl (((w.alloc (.cells #[.float .f32 s, .slice A xs.length c] 55)).alloc (.cells #[.int .i64 t] 2)).alloc (.cells #[.float .f32 0, .slice none 0 0] 55))
  obtain ⟨⟨q0, q1, q2⟩, hres, hst, hsz⟩ := hW.out _ hS
  cases hb1 : mapOK o xs with
  | false =>
    simp only [Bool.false_and, Bool.false_eq_true, if_false]
    rw [hb1] at kV
    clear hb1
    go_enter Try.func25, Try.ntmps25
    go_wp2_with fail
    refine (kV.out _ hS).mono ?_
    rintro e w4 ⟨rfl, hw4⟩
    clear q0 q1 q2 hres hst hsz
    obtain ⟨⟨q0, q1, q2⟩, hres, hst, hsz⟩ := hW.out _ hw4
    go_wp2_with (refine wpList_store_row rfl _ _ _ rfl _ _ _ rfl rfl hres ?hi ?ho ?h1 ?hB hst ?_; (case hi => kernel_rfl); (case ho => rfl); (case h1 => first | rfl | simp [Value.oneCell']); (case hB => first | omega | (simp <;> omega)); intro w2 hw2 hq2 hother hsame)
    apply end_mp rfl rfl rfl Try.underlying55 rfl (t := 55)
    case hg => exact hq2
    case hi => kernel_rfl
    case hR => exact ⟨0, w.heap.size, none, 0, rfl, fis_zero, hw2, Nat.le_refl _, mlies_nil _ _⟩
  | true =>
    rw [hb1] at kV
    clear hb1
    cases hb2 : okTime t with
    | false =>
      simp only [Bool.and_false, Bool.false_eq_true, if_false, if_true]
      go_enter Try.func25, Try.ntmps25
      go_wp2_with fail
      refine (kV.out _ hS).mono ?_
      rintro e w4 ⟨rfl, hw4⟩
      clear q0 q1 q2 hres hst hsz
      obtain ⟨⟨q0, q1, q2⟩, hres, hst, hsz⟩ := hW.out _ hw4
      go_wp2_with fail
      refine (c_isTime t _).mono ?_
      rintro e wt ⟨rfl, rfl⟩
      rw [hb2]
      go_wp2_with (refine wpList_store_row rfl _ _ _ rfl _ _ _ rfl rfl hres ?hi ?ho ?h1 ?hB hst ?_; (case hi => kernel_rfl); (case ho => rfl); (case h1 => first | rfl | simp [Value.oneCell']); (case hB => first | omega | (simp <;> omega)); intro w2 hw2 hq2 hother hsame)
      apply end_mp rfl rfl rfl Try.underlying55 rfl (t := 55)
      case hg => exact hq2
      case hi => kernel_rfl
      case hR => exact ⟨0, w.heap.size, none, 0, rfl, fis_zero, hw2, Nat.le_refl _, mlies_nil _ _⟩
    | true =>
      simp only [Bool.and_true, if_true]
      go_enter Try.func25, Try.ntmps25
      go_wp2_with fail
      refine (kV.out _ hS).mono ?_
      rintro e w4 ⟨rfl, hw4⟩
      clear q0 q1 q2 hres hst hsz
      obtain ⟨⟨q0, q1, q2⟩, hres, hst, hsz⟩ := hW.out _ hw4
      go_wp2_with fail
      refine (c_isTime t _).mono ?_
      rintro e wt ⟨rfl, rfl⟩
      rw [hb2]
      go_wp2_with fail
      refine (c_those 61 #[.pointer (some ⟨w.heap.size + 1, 0, none⟩)] (fun _ _ => rfl) (fun m => decide (t ≤ m.l)) A c xs w4 (kM.out _ hw4) hn (fun W v m hW4 hm => c_fgt t _ v m W hm ((hW4.cell (p := ⟨w.heap.size + 1, 0, none⟩) (by show w.heap.size + 1 < w4.heap.size; omega)).trans q2))).mono ?_
      rintro e w5 ⟨g, B, c', rfl, hw5, hge, hl⟩
      have hw5' : Stays (((w.alloc (.cells #[.float .f32 s, .slice A xs.length c] 55)).alloc (.cells #[.int .i64 t] 2)).alloc (.cells #[.float .f32 0, .slice none 0 0] 55)) w5 := Stays.trans hw4 hw5
      replace hl := Lib.hid hl
      replace hge := Lib.hid (show w.heap.size + 1 + 1 < g from Nat.lt_of_lt_of_le hsz hge)
      clear q0 q1 q2 hres hst hsz
      obtain ⟨⟨q0, q1, q2⟩, hres, hst, hsz⟩ := hW.out _ hw5'
      go_wp2_with (refine wpList_store_row rfl _ _ _ rfl _ _ _ rfl rfl hres ?hi ?ho ?h1 ?hB hst ?_; (case hi => kernel_rfl); (case ho => rfl); (case h1 => first | rfl | simp [Value.oneCell']); (case hB => first | omega | (simp <;> omega)); intro w2 hw2 hq2 hother hsame)
      apply end_mp rfl rfl rfl Try.underlying55 rfl (t := 55)
      case hg => exact hq2
      case hi => kernel_rfl
      case hR => exact ⟨s, g, B, c', rfl, hf.out, hw2, by have := hge.out; omega, hl.out.on fun h => same_block (hother g h (by have := hge.out; omega)) (by omega)⟩


set_option maxRecDepth 100000 in
set_option maxHeartbeats 2000000 in
theorem c_implLeaveLighter (v : Value) (o : Option Nat) (xs : List Mk) (q : Nat) (w : World) (h : MpV w w.heap.size v o xs) (hn : xs.length ≤ 1048576) :
    Calls Try.prog 30 #[v, .float .f32 q] w (MDone w (if mapOK o xs && selfB (can .f32 q) then o else some 0) (if mapOK o xs && selfB (can .f32 q) then xs.filter (fun m => geB m.d (can .f32 q)) else []) (if mapOK o xs then (if selfB (can .f32 q) then 0 else 2) else 1)) := by
  obtain ⟨s, A, c, rfl, hf, h1⟩ := h.val
  have hst0 : Stays w (((w.alloc (.cells #[.float .f32 s, .slice A xs.length c] 55)).alloc (.cells #[.float .f32 q] 28)).alloc (.cells #[.float .f32 0, .slice none 0 0] 55)) := by (repeat (first | exact Stays.refl _ | (with_reducible refine Stays.drewN ?_ _) | (with_reducible refine Stays.alloc ?_ _) | (with_reducible refine Stays.drew ?_) | (refine Stays.trans ?_ ‹Stays _ _›)))
  have u0 : (((w.alloc (.cells #[.float .f32 s, .slice A xs.length c] 55)).alloc (.cells #[.float .f32 q] 28)).alloc (.cells #[.float .f32 0, .slice none 0 0] 55)).heap[w.heap.size]? = some (.cells #[.float .f32 s, .slice A xs.length c] 55 (0, 0)) := by (repeat (first | (refine heap_top _ _ _ ?_; simp; done) | (with_reducible refine heap_drawn _ _ _ ?_) | (with_reducible refine heap_under _ _ _ ?_ ?_; (simp <;> omega))))
  have u1 : (((w.alloc (.cells #[.float .f32 s, .slice A xs.length c] 55)).alloc (.cells #[.float .f32 q] 28)).alloc (.cells #[.float .f32 0, .slice none 0 0] 55)).heap[w.heap.size + 1]? = some (.cells #[.float .f32 q] 28 (0, 0)) := by (repeat (first | (refine heap_top _ _ _ ?_; simp; done) | (with_reducible refine heap_drawn _ _ _ ?_) | (with_reducible refine heap_under _ _ _ ?_ ?_; (simp <;> omega))))
  have u2 : (((w.alloc (.cells #[.float .f32 s, .slice A xs.length c] 55)).alloc (.cells #[.float .f32 q] 28)).alloc (.cells #[.float .f32 0, .slice none 0 0] 55)).heap[w.heap.size + 1 + 1]? = some (.cells #[.float .f32 0, .slice none 0 0] 55 (0, 0)) := by (repeat (first | (refine heap_top _ _ _ ?_; simp; done) | (with_reducible refine heap_drawn _ _ _ ?_) | (with_reducible refine heap_under _ _ _ ?_ ?_; (simp <;> omega))))
  have hW := Lib.hid fun w1 (hb : Stays (((w.alloc (.cells #[.float .f32 s, .slice A xs.length c] 55)).alloc (.cells #[.float .f32 q] 28)).alloc (.cells #[.float .f32 0, .slice none 0 0] 55)) w1) => And.intro (And.intro (row_of hb u0 0) (And.intro (row_of hb u0 1) (row_of hb u1 0))) (And.intro ((hb.block _ (in_heap u2)).trans u2) (And.intro (Below.trans (show Below w.heap.size w _ from hst0) (Below.mono hb hst0.size)) (show w.heap.size + 1 + 1 < w1.heap.size from Nat.lt_of_lt_of_le (in_heap u2) hb.size)))
  have kV := Lib.hid fun W (hb : Stays (((w.alloc (.cells #[.float .f32 s, .slice A xs.length c] 55)).alloc (.cells #[.float .f32 q] 28)).alloc (.cells #[.float .f32 0, .slice none 0 0] 55)) W) => c_implValidMap (.agg #[.float .f32 s, .slice A xs.length c]) o xs W (h.on (Below.trans (show Below w.heap.size w _ from hst0) (Below.mono hb hst0.size))) hn
  have kM := Lib.hid fun W (hb : Stays (((w.alloc (.cells #[.float .f32 s, .slice A xs.length c] 55)).alloc (.cells #[.float .f32 q] 28)).alloc (.cells #[.float .f32 0, .slice none 0 0] 55)) W) => (h1.below (Below.trans (show Below w.heap.size w _ from hst0) (Below.mono hb hst0.size))).more (Nat.le_trans hst0.size hb.size)
  have hmf : ∀ (fn : Fn) (first cap : Array Value) (w : World), (Instr.makeFunc fn first cap).run Try.prog w = .ok (.func fn first cap) w := fun _ _ _ _ => rfl
  replace hf := Lib.hid hf
  clear u0 u1 u2 hst0 h h1
  have hS := Stays.refl (((w.alloc (.cells #[.float .f32 s, .slice A xs.length c] 55)).alloc (.cells #[.float .f32 q] 28)).alloc (.cells #[.float .f32 0, .slice none 0 0] 55))
  obtain ⟨⟨q0, q1, q2⟩, hres, hst, hsz⟩ := hW.out _ hS
  cases hb1 : mapOK o xs with
  | false =>
    simp only [Bool.false_and, Bool.false_eq_true, if_false]
    rw [hb1] at kV
    clear hb1
    go_enter Try.func30, Try.ntmps30
    go_wp2_with fail
    refine (kV.out _ hS).mono ?_
    rintro e w4 ⟨rfl, hw4⟩
    clear q0 q1 q2 hres hst hsz
    obtain ⟨⟨q0, q1, q2⟩, hres, hst, hsz⟩ := hW.out _ hw4
    go_wp2_with (refine wpList_store_row rfl _ _ _ rfl _ _ _ rfl rfl hres ?hi ?ho ?h1 ?hB hst ?_; (case hi => kernel_rfl); (case ho => rfl); (case h1 => first | rfl | simp [Value.oneCell']); (case hB => first | omega | (simp <;> omega)); intro w2 hw2 hq2 hother hsame)
    apply end_mp rfl rfl rfl Try.underlying55 rfl (t := 55)
    case hg => exact hq2
    case hi => kernel_rfl
    case hR => exact ⟨0, w.heap.size, none, 0, rfl, fis_zero, hw2, Nat.le_refl _, mlies_nil _ _⟩
  | true =>
    rw [hb1] at kV
    clear hb1
    cases hb2 : selfB (can .f32 q) with
    | false =>
      simp only [Bool.and_false, Bool.false_eq_true, if_false, if_true]
      have hx0 := self_of q
      rw [hb2] at hx0
      have hx : (FloatKind.f32.format.order q q != some Ordering.eq) = true := by rw [bne, hx0]; rfl
      go_enter Try.func30, Try.ntmps30
      go_wp2_with fail
      refine (kV.out _ hS).mono ?_
      rintro e w4 ⟨rfl, hw4⟩
      clear q0 q1 q2 hres hst hsz
      obtain ⟨⟨q0, q1, q2⟩, hres, hst, hsz⟩ := hW.out _ hw4
      go_wp2_with (refine wpList_store_row rfl _ _ _ rfl _ _ _ rfl rfl hres ?hi ?ho ?h1 ?hB hst ?_; (case hi => kernel_rfl); (case ho => rfl); (case h1 => first | rfl | simp [Value.oneCell']); (case hB => first | omega | (simp <;> omega)); intro w2 hw2 hq2 hother hsame)
      apply end_mp rfl rfl rfl Try.underlying55 rfl (t := 55)
      case hg => exact hq2
      case hi => kernel_rfl
      case hR => exact ⟨0, w.heap.size, none, 0, rfl, fis_zero, hw2, Nat.le_refl _, mlies_nil _ _⟩
    | true =>
      simp only [Bool.and_true, if_true]
      have hx0 := self_of q
      rw [hb2] at hx0
      have hx : (FloatKind.f32.format.order q q != some Ordering.eq) = false := by rw [bne, hx0]; rfl
      go_enter Try.func30, Try.ntmps30
      go_wp2_with fail
      refine (kV.out _ hS).mono ?_
      rintro e w4 ⟨rfl, hw4⟩
      clear q0 q1 q2 hres hst hsz
      obtain ⟨⟨q0, q1, q2⟩, hres, hst, hsz⟩ := hW.out _ hw4
      go_wp2_with fail
      refine (c_those 62 #[.pointer (some ⟨w.heap.size + 1, 0, none⟩)] (fun _ _ => rfl) (fun m => geB m.d (can .f32 q)) A c xs w4 (kM.out _ hw4) hn (fun W v m hW4 hm => c_lgt q _ v m W hm ((hW4.cell (p := ⟨w.heap.size + 1, 0, none⟩) (by show w.heap.size + 1 < w4.heap.size; omega)).trans q2))).mono ?_
      rintro e w5 ⟨g, B, c', rfl, hw5, hge, hl⟩
      have hw5' : Stays (((w.alloc (.cells #[.float .f32 s, .slice A xs.length c] 55)).alloc (.cells #[.float .f32 q] 28)).alloc (.cells #[.float .f32 0, .slice none 0 0] 55)) w5 := Stays.trans hw4 hw5
      replace hl := Lib.hid hl
      replace hge := Lib.hid (show w.heap.size + 1 + 1 < g from Nat.lt_of_lt_of_le hsz hge)
      clear q0 q1 q2 hres hst hsz
      obtain ⟨⟨q0, q1, q2⟩, hres, hst, hsz⟩ := hW.out _ hw5'
      go_wp2_with (refine wpList_store_row rfl _ _ _ rfl _ _ _ rfl rfl hres ?hi ?ho ?h1 ?hB hst ?_; (case hi => kernel_rfl); (case ho => rfl); (case h1 => first | rfl | simp [Value.oneCell']); (case hB => first | omega | (simp <;> omega)); intro w2 hw2 hq2 hother hsame)
      apply end_mp rfl rfl rfl Try.underlying55 rfl (t := 55)
      case hg => exact hq2
      case hi => kernel_rfl
      case hR => exact ⟨s, g, B, c', rfl, hf.out, hw2, by have := hge.out; omega, hl.out.on fun h => same_block (hother g h (by have := hge.out; omega)) (by omega)⟩

end Go.Proofs.Ytifaojlgofibmaa
