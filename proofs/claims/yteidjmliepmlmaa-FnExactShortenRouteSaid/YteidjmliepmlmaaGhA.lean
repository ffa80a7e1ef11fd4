/- Walls, free spots, neighbours, on both sides. No condition. -/
import Derived.Test.YteidjmliepmlmaaGeC
namespace Go.Proofs.Yteidjmliepmlmaa
open Go Go.RowKit
set_option linter.unusedVariables false
set_option linter.unusedSimpArgs false

def wallB (a : Int) (xs : List Int) (x y : Int) : Bool := xs.getD (y * a + x).toNat 0 == 255
def freeB (a b : Int) (xs : List Int) (x y : Int) : Bool := hasB a b x y && !wallB a xs x y

theorem wall_idx {a b x y : Int} {xs : List Int} (hg : gridB a b xs.length = true) (hh : hasB a b x y = true) : ∃ i : Nat, y * a + x = i ∧ i < xs.length := by
  obtain ⟨ha, hb, hne⟩ := gridB_iff.1 hg
  obtain ⟨hx1, hy1⟩ := hasB_iff.1 hh
  have bd := idx_bd ha hb hx1 hy1
  rw [Int.mul_comm b a] at bd
  exact ⟨(y * a + x).toNat, by omega, by omega⟩

set_option maxRecDepth 100000 in
set_option maxHeartbeats 1000000 in
theorem c_l07Wall (p : Nat) (a b x y : Int) (A : Option Addr) (c : Nat) (xs : List Int) (w : World) (hG : GridAt w p a b A c xs.length) (h1 : Bs w w.heap.size A xs) (hg : gridB a b xs.length = true) (hh : hasB a b x y = true) :
    Calls Try.prog 89 #[.pointer (some ⟨p, 0, none⟩), .agg #[.int .i16 x, .int .i16 y]] w fun e w' => e = .returned (.bool (wallB a xs x y)) ∧ Stays w w' := by
  obtain ⟨ha, hb, hne⟩ := gridB_iff.1 hg
  obtain ⟨hx1, hy1⟩ := hasB_iff.1 hh
  obtain ⟨i, hi, hil⟩ := wall_idx hg hh
  have kI := fun W (h : Stays w W) => c_l07Index p a b x y A c xs.length W (hG.on h) ha hb hx1 hy1
  rw [hi] at kI
  have hr : xs[i]? = some xs[i] := List.getElem?_eq_getElem hil
  have hval : wallB a xs x y = (xs[i] == 255) := by unfold wallB; rw [hi, Int.toNat_natCast, List.getD_eq_getElem?_getD, hr]; rfl
  rw [hval]
  obtain ⟨ad, rfl, hbl, hc0⟩ := Bs.at_ h1 hr
  generalize xs[i] = z at hc0 hr ⊢
  have hst : Stays w (w.alloc (.cells #[.int .i16 x, .int .i16 y] 32)) := by (repeat (first | exact Stays.refl _ | (with_reducible refine Stays.drewN ?_ _) | (with_reducible refine Stays.alloc ?_ _) | (with_reducible refine Stays.drew ?_) | (refine Stays.trans ?_ ‹Stays _ _›)))
  have hbx := heap_alloc_new w (.cells #[.int .i16 x, .int .i16 y] 32)
  have hcells : ∀ w1, Stays (w.alloc (.cells #[.int .i16 x, .int .i16 y] 32)) w1 → w1.cell? (ad.add i) = some (.int .u8 z) ∧ w1.cell? ⟨p, 2, none⟩ = some (.slice (some ad) xs.length c) ∧ w1.cell? ⟨w.heap.size, 0, none⟩ = some (.int .i16 x) ∧ w1.cell? ⟨w.heap.size, 1, none⟩ = some (.int .i16 y) := fun w1 h => ⟨(Below.cell (hst.trans h) (by rw [block_add]; exact hbl)).trans hc0, (hG w1 (hst.trans h)).2.2, row_of h hbx 0, row_of h hbx 1⟩
  replace hst := Lib.hid hst
  have hil' : (i : Int) < (xs.length : Int) := by omega
  replace kI := Lib.hid kI
  clear hG h1 hg hh ha hb hne hx1 hy1 hi hr hval hc0 hbl hbx
  go_enter Try.func89, Try.ntmps89
  go_wp2
  refine wp_region_soft_tail 10 (Stays.refl _) (oneS 48 #[.pointer (some ⟨p, 0, none⟩), .agg #[.int .i16 x, .int .i16 y]] (fun v => v = .int .i64 i)) [] (by kernel_rfl) (by kernel_rfl) (fun _ h => by cases h) ?_
  simp only [List.take_succ_cons, List.take_zero, List.drop_succ_cons, List.drop_zero]
  repeat ((with_reducible apply soft_detG); (case hwa => rfl); (case hA => rfl); (case h => (intro w1 hw1; have hc := hcells w1 hw1; go_simp; exact rfl)); go_simp)
  refine soft_callO (by rfl) rfl ?h (fun w2 h2 => (kI.out w2 (hst.out.trans h2)).mono fun e w' ⟨h1, h2⟩ => ⟨_, h1, rfl, h2⟩) ?_
  case h => (intro w2 hw2; have hc := hcells w2 hw2; go_simp; try exact ⟨rfl, rfl⟩)
  rintro v rfl
  go_simp
  repeat ((with_reducible apply soft_detG); (case hwa => rfl); (case hA => rfl); (case h => (intro w1 hw1; have hc := hcells w1 hw1; go_simp; exact rfl)); go_simp)
  refine soft_nil ?_
  rintro w2 ⟨hw2, _⟩
  clear hcells
  replace hw2 := Lib.hid (hst.out.trans hw2)
  go_wp2
  go_ret
  exact ⟨rfl, hw2.out⟩

set_option maxRecDepth 100000 in
set_option maxHeartbeats 1000000 in
theorem c_isFree (a b x y : Int) (A : Option Addr) (c : Nat) (xs : List Int) (w : World) (h1 : Bs w w.heap.size A xs) (hc : xs.length ≤ c) (hg : gridB a b xs.length = true) (hx : In16 x) (hy : In16 y) :
    Calls Try.prog 91 #[.agg #[.int .i64 a, .int .i64 b, .slice A xs.length c], .agg #[.int .i16 x, .int .i16 y]] w fun e w' => e = .returned (.bool (freeB a b xs x y)) ∧ Stays w w' := by
  have k0 := fun W => c_has a b x y A c xs.length W hx hy
  have hst : Stays w ((w.alloc (.cells #[.int .i64 a, .int .i64 b, .slice A xs.length c] 28)).alloc (.cells #[.int .i16 x, .int .i16 y] 32)) := by (repeat (first | exact Stays.refl _ | (with_reducible refine Stays.drewN ?_ _) | (with_reducible refine Stays.alloc ?_ _) | (with_reducible refine Stays.drew ?_) | (refine Stays.trans ?_ ‹Stays _ _›)))
  have u0 : ((w.alloc (.cells #[.int .i64 a, .int .i64 b, .slice A xs.length c] 28)).alloc (.cells #[.int .i16 x, .int .i16 y] 32)).heap[w.heap.size]? = some (.cells #[.int .i64 a, .int .i64 b, .slice A xs.length c] 28 (0, 0)) := by (repeat (first | (refine heap_top _ _ _ ?_; simp; done) | (with_reducible refine heap_drawn _ _ _ ?_) | (with_reducible refine heap_under _ _ _ ?_ ?_; (simp <;> omega))))
  have u1 : ((w.alloc (.cells #[.int .i64 a, .int .i64 b, .slice A xs.length c] 28)).alloc (.cells #[.int .i16 x, .int .i16 y] 32)).heap[w.heap.size + 1]? = some (.cells #[.int .i16 x, .int .i16 y] 32 (0, 0)) := by (repeat (first | (refine heap_top _ _ _ ?_; simp; done) | (with_reducible refine heap_drawn _ _ _ ?_) | (with_reducible refine heap_under _ _ _ ?_ ?_; (simp <;> omega))))
  have HC : Hid (∀ w1, Stays ((w.alloc (.cells #[.int .i64 a, .int .i64 b, .slice A xs.length c] 28)).alloc (.cells #[.int .i16 x, .int .i16 y] 32)) w1 → w1.cell? ⟨w.heap.size, 0, none⟩ = some (.int .i64 a) ∧ w1.cell? ⟨w.heap.size, 1, none⟩ = some (.int .i64 b) ∧ w1.cell? ⟨w.heap.size, 2, none⟩ = some (.slice A xs.length c) ∧ w1.cell? ⟨w.heap.size + 1, 0, none⟩ = some (.int .i16 x) ∧ w1.cell? ⟨w.heap.size + 1, 1, none⟩ = some (.int .i16 y)) := Lib.hid fun w1 h => ⟨row_of h u0 0, row_of h u0 1, row_of h u0 2, row_of h u1 0, row_of h u1 1⟩
  unfold freeB
  cases hh : hasB a b x y with
  | false =>
    rw [hh] at k0
    replace k0 := Lib.hid k0
    replace hst := Lib.hid hst
    clear h1 hc hg hx hy hh u0 u1
    go_enter Try.func91, Try.ntmps91
    go_wp2_with (go_at_call 68; refine (k0.out _).mono ?_; rintro e w1 ⟨rfl, hw1⟩)
    go_ret
    exact ⟨rfl, hst.out.trans hw1⟩
  | true =>
    rw [hh] at k0
    obtain ⟨ha, hb, hne⟩ := gridB_iff.1 hg
    obtain ⟨hx1, hy1⟩ := hasB_iff.1 hh
    obtain ⟨i, hi, hil⟩ := wall_idx hg hh
    have hr : xs[i]? = some xs[i] := List.getElem?_eq_getElem hil
    have hval : wallB a xs x y = (xs[i] == 255) := by unfold wallB; rw [hi, Int.toNat_natCast, List.getD_eq_getElem?_getD, hr]; rfl
    rw [hval]
    obtain ⟨ad, rfl, hbl, hc0⟩ := Bs.at_ h1 hr
    generalize xs[i] = z at hc0 hr ⊢
    have kA := fun W => c_at a b x y ad c xs.length i W ha hb hx1 hy1 hne hc hi
    have hZ : Hid (∀ w1, Stays w w1 → w1.cell? (ad.add i) = some (.int .u8 z)) := Lib.hid fun w1 h => (Below.cell h (by rw [block_add]; exact hbl)).trans hc0
    replace k0 := Lib.hid k0
    replace kA := Lib.hid kA
    replace hst := Lib.hid hst
    clear h1 hc hg hx hy hh u0 u1 ha hb hne hx1 hy1 hi hil hr hval hc0 hbl
    go_enter Try.func91, Try.ntmps91
    go_wp2_with fail
    refine (k0.out _).mono ?_
    rintro e w1 ⟨rfl, hw1⟩
    obtain ⟨q0, q1, q2, q3, q4⟩ := HC.out w1 hw1
    replace hw1 := Lib.hid (show Stays _ w1 from hw1)
    go_wp2_with fail
    refine (kA.out _).mono ?_
    rintro e w2 ⟨rfl, hw2⟩
    have hz := hZ.out w2 (hst.out.trans (hw1.out.trans hw2))
    replace hw2 := Lib.hid (hst.out.trans (hw1.out.trans hw2))
    go_wp2
    go_ret
    exact ⟨ret_b (by simp <;> rfl), hw2.out⟩

def nbB (x y u v : Int) : Bool := !(decide (x = u) && decide (y = v)) && (decide (-1 ≤ u - x ∧ u - x ≤ 1) && decide (-1 ≤ v - y ∧ v - y ≤ 1))

theorem spot_neq (x y u v : Int) (w : World) : (binOp BinOp.neq 32 (.agg #[.int .i16 x, .int .i16 y]) (.agg #[.int .i16 u, .int .i16 v])).run Try.prog w = .ok (.bool (!(decide (x = u) && decide (y = v)))) w := by
  obtain ⟨i0, hi0⟩ : ∃ i, Try.prog.info? 25 = some i := Option.isSome_iff_exists.1 (by kernel_rfl)
  have hC : Try.prog.cellsOf 25 = 1 := by kernel_rfl
  rw [run_neq_struct, run_equalIn_array w 9999 _ _ Try.underlying32 hi0, hC]
  have p0 : ∀ (m n : Int) (w : World), (part 25 #[.int .i16 m, .int .i16 n] 0).run Try.prog w = .ok (.int .i16 m) w := fun m n w => by kernel_rfl
  have p1 : ∀ (m n : Int) (w : World), (part 25 #[.int .i16 m, .int .i16 n] 1).run Try.prog w = .ok (.int .i16 n) w := fun m n w => by kernel_rfl
  have q0' : ∀ (d : Nat) (m n : Int) (w : World), (Op.equalIn (d + 1) 25 (.int .i16 m) (.int .i16 n)).run Try.prog w = .ok (decide (m = n)) w := fun d m n w => by
    unfold Op.equalIn
    simp only [Sem.run_bind, run_underlying Try.underlying25, Result.andThen_ok]
    by_cases h : m = n <;> simp [h, Result.andThen]
  have q0 : ∀ (m n : Int) (w : World), (Op.equalIn 9999 25 (.int .i16 m) (.int .i16 n)).run Try.prog w = .ok (decide (m = n)) w := fun m n w => q0' 9998 m n w
  simp [Op.eqItems, List.range, List.range.loop, p0, p1, q0, Result.andThen]
  by_cases h1 : x = u <;> by_cases h2 : y = v <;> simp [h1, h2]
end Go.Proofs.Yteidjmliepmlmaa
