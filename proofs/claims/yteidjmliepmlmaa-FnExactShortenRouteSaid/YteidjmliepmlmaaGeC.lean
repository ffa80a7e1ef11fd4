/- Where the cost of a spot is kept, as the program says it; what it makes, or the code of the failure. No condition. -/
import Derived.Test.YteidjmliepmlmaaGeB
import Derived.Defers
import Derived.Recover
import Derived.WalkSpells
namespace Go.Proofs.Yteidjmliepmlmaa
open Go Go.RowKit
set_option linter.unusedVariables false
set_option linter.unusedSimpArgs false

theorem row_slice {ad : Addr} {n c l s : Nat} (hs : 1 ≤ s) (h1 : l + s ≤ n) (hc : n ≤ c) (w : World) : (Instr.slice 22 (.slice (some ad) n c) (some (.int .i64 (l : Nat))) (some (.int .i64 (l + s : Nat))) (some (.int .i64 (l + s : Nat)))).run Try.prog w = .ok (.slice (some (ad.add l)) s s) w := by
  have hsz : ∀ w : World, (sizeOf (Try.prog.elem 22)).run Try.prog w = .ok 1 w := fun w => by kernel_rfl
  have hel : Try.prog.elem 22 = 5 := by kernel_rfl
  rw [run_slice_lhm w 22 (some ad) n c (by rw [hel]; exact Try.underlying22) .i64 .i64 .i64 (l : Nat) (l + s : Nat) (l + s : Nat) (by omega) (by omega) (by omega) (by omega), hsz]
  have e1 : ((l : Nat) : Int).toNat = l := by omega
  have e2 : ((l + s : Nat) : Int).toNat = l + s := by omega
  rw [e1, e2]
  have e3 : ¬ l + s = l := by omega
  have e4 : l + s - l = s := by omega
  simp [Result.andThen, sliced, e3, e4]
  intro h
  omega

set_option maxRecDepth 100000 in
theorem c_row (a b y : Int) (ad : Addr) (c n : Nat) (w : World) (ha : 1 ≤ a ∧ a ≤ 24) (hb : 1 ≤ b ∧ b ≤ 24) (hy : 0 ≤ y ∧ y ≤ b - 1) (hne : (n : Int) = a * b) (hc : n ≤ c) :
    Calls Try.prog 62 #[.agg #[.int .i64 a, .int .i64 b, .slice (some ad) n c], .int .i64 y] w fun e w' => e = .returned (.slice (some (ad.add (y * a).toNat)) a.toNat a.toNat) ∧ Stays w w' := by
  have bd := idx_bd (x := 0) ha hb (by omega) hy
  rw [Int.mul_comm b a] at bd
  have e1 : IntKind.i64.wrap (y * a) = y * a := IntWalk.i64_in _ (by omega)
  have e2 : IntKind.i64.wrap (y * a + a) = y * a + a := IntWalk.i64_in _ (by omega)
  obtain ⟨l, hl⟩ : ∃ l : Nat, y * a = l := ⟨(y * a).toNat, by omega⟩
  obtain ⟨s, hs⟩ : ∃ s : Nat, a = s := ⟨a.toNat, by omega⟩
  have hs1 : 1 ≤ s := by omega
  have hln : l + s ≤ n := by omega
  have hsl := fun W => row_slice (ad := ad) hs1 hln hc W
  have e3 : (y * a).toNat = l := by omega
  have e4 : a.toNat = s := by omega
  have e5 : ((l + s : Nat) : Int) = y * a + a := by omega
  rw [e3, e4]
  have e6 : ((l : Nat) : Int) = y * a := hl.symm
  simp only [e5, e6] at hsl
  have hst : Stays w (w.alloc (.cells #[.int .i64 a, .int .i64 b, .slice (some ad) n c] 28)) := by (repeat (first | exact Stays.refl _ | (with_reducible refine Stays.drewN ?_ _) | (with_reducible refine Stays.alloc ?_ _) | (with_reducible refine Stays.drew ?_) | (refine Stays.trans ?_ ‹Stays _ _›)))
  replace hst := Lib.hid hst
  clear ha hb hy hne hc bd hl hs hs1 hln e3 e4 e5 e6
  go_enter Try.func62, Try.ntmps62
  go_wp2
  go_ret
  exact ⟨rfl, hst.out⟩

def noSpotP : List PanicEntry := [{ v := .iface 111 (.agg #[]), recovered := false }]

set_option maxRecDepth 100000 in
set_option maxHeartbeats 1000000 in
theorem c_atPanic (a b x y : Int) (A : Option Addr) (c n : Nat) (w : World) (hx : In16 x) (hy : In16 y) (hh : hasB a b x y = false) :
    Calls Try.prog 54 #[.agg #[.int .i64 a, .int .i64 b, .slice A n c], .agg #[.int .i16 x, .int .i16 y]] w fun e w' => e = .panicked noSpotP ∧ Stays w w' := by
  have k0 := fun W => c_has a b x y A c n W hx hy
  rw [hh] at k0
  replace k0 := Lib.hid k0
  have hst : Stays w ((w.alloc (.cells #[.int .i64 a, .int .i64 b, .slice A n c] 28)).alloc (.cells #[.int .i16 x, .int .i16 y] 32)) := by (repeat (first | exact Stays.refl _ | (with_reducible refine Stays.drewN ?_ _) | (with_reducible refine Stays.alloc ?_ _) | (with_reducible refine Stays.drew ?_) | (refine Stays.trans ?_ ‹Stays _ _›)))
  replace hst := Lib.hid hst
  clear hx hy hh
  go_enter Try.func54, Try.ntmps54
  go_wp2_with (go_at_call 68; refine (k0.out _).mono ?_; rintro e w1 ⟨rfl, hw1⟩)
  exact ⟨rfl, rfl, hst.out.trans hw1⟩

theorem add_twice (a : Addr) (m n : Nat) : (a.add m).add n = a.add (m + n) := by
  unfold Addr.add
  by_cases h1 : m = 0
  · subst h1
    simp
  · by_cases h2 : n = 0
    · subst h2
      simp
    · simp [h1, h2, Nat.add_assoc]

set_option maxRecDepth 100000 in
set_option maxHeartbeats 1000000 in
theorem c_at (a b x y : Int) (ad : Addr) (c n i : Nat) (w : World) (ha : 1 ≤ a ∧ a ≤ 24) (hb : 1 ≤ b ∧ b ≤ 24) (hx : 0 ≤ x ∧ x ≤ a - 1) (hy : 0 ≤ y ∧ y ≤ b - 1) (hne : (n : Int) = a * b) (hc : n ≤ c) (hi : y * a + x = i) :
    Calls Try.prog 54 #[.agg #[.int .i64 a, .int .i64 b, .slice (some ad) n c], .agg #[.int .i16 x, .int .i16 y]] w fun e w' => e = .returned (.pointer (some (ad.add i))) ∧ Stays w w' := by
  have hx16 : In16 x := by unfold In16; omega
  have hy16 : In16 y := by unfold In16; omega
  have bd := idx_bd ha hb hx hy
  have k0 := fun W => c_has a b x y (some ad) c n W hx16 hy16
  rw [hasB_iff.2 ⟨hx, hy⟩] at k0
  have kR := fun W => c_row a b y ad c n W ha hb hy hne hc
  obtain ⟨l, hl⟩ : ∃ l : Nat, (y * a).toNat = l := ⟨_, rfl⟩
  obtain ⟨s, hs⟩ : ∃ s : Nat, a.toNat = s := ⟨_, rfl⟩
  obtain ⟨xn, rfl⟩ : ∃ xn : Nat, x = xn := ⟨x.toNat, by omega⟩
  rw [hl, hs] at kR
  have hxs : (xn : Int) < (s : Int) := by omega
  have hil : l + xn = i := by omega
  rw [← hil, ← add_twice]
  have e2 := in16 hy16
  have e1 := in16 hx16
  have hst : Stays w ((w.alloc (.cells #[.int .i64 a, .int .i64 b, .slice (some ad) n c] 28)).alloc (.cells #[.int .i16 xn, .int .i16 y] 32)) := by (repeat (first | exact Stays.refl _ | (with_reducible refine Stays.drewN ?_ _) | (with_reducible refine Stays.alloc ?_ _) | (with_reducible refine Stays.drew ?_) | (refine Stays.trans ?_ ‹Stays _ _›)))
  have u0 : ((w.alloc (.cells #[.int .i64 a, .int .i64 b, .slice (some ad) n c] 28)).alloc (.cells #[.int .i16 xn, .int .i16 y] 32)).heap[w.heap.size]? = some (.cells #[.int .i64 a, .int .i64 b, .slice (some ad) n c] 28 (0, 0)) := by (repeat (first | (refine heap_top _ _ _ ?_; simp; done) | (with_reducible refine heap_drawn _ _ _ ?_) | (with_reducible refine heap_under _ _ _ ?_ ?_; (simp <;> omega))))
  have u1 : ((w.alloc (.cells #[.int .i64 a, .int .i64 b, .slice (some ad) n c] 28)).alloc (.cells #[.int .i16 xn, .int .i16 y] 32)).heap[w.heap.size + 1]? = some (.cells #[.int .i16 xn, .int .i16 y] 32 (0, 0)) := by (repeat (first | (refine heap_top _ _ _ ?_; simp; done) | (with_reducible refine heap_drawn _ _ _ ?_) | (with_reducible refine heap_under _ _ _ ?_ ?_; (simp <;> omega))))
  have HC : Hid (∀ w1, Stays ((w.alloc (.cells #[.int .i64 a, .int .i64 b, .slice (some ad) n c] 28)).alloc (.cells #[.int .i16 xn, .int .i16 y] 32)) w1 → w1.cell? ⟨w.heap.size, 0, none⟩ = some (.int .i64 a) ∧ w1.cell? ⟨w.heap.size, 1, none⟩ = some (.int .i64 b) ∧ w1.cell? ⟨w.heap.size, 2, none⟩ = some (.slice (some ad) n c) ∧ w1.cell? ⟨w.heap.size + 1, 0, none⟩ = some (.int .i16 xn) ∧ w1.cell? ⟨w.heap.size + 1, 1, none⟩ = some (.int .i16 y)) := Lib.hid fun w1 h => ⟨row_of h u0 0, row_of h u0 1, row_of h u0 2, row_of h u1 0, row_of h u1 1⟩
  replace hst := Lib.hid hst
  replace k0 := Lib.hid k0
  replace kR := Lib.hid kR
  clear ha hb hx hy hne hc hi hx16 hy16 bd hl hs hil u0 u1
  go_enter Try.func54, Try.ntmps54
  go_wp2_with (go_at_call 68; refine (k0.out _).mono ?_; rintro e w1 ⟨rfl, hw1⟩)
  replace hw1 := Lib.hid hw1
  have hcells : ∀ w2, Stays w1 w2 → _ := fun w2 h => HC.out w2 (hw1.out.trans h)
  refine wp_region_soft_tail 8 (Stays.refl _) (oneS 62 #[.agg #[.int .i64 a, .int .i64 b, .slice (some ad) n c], .int .i64 y] (fun v => v = .slice (some (ad.add l)) s s)) [] (by kernel_rfl) (by kernel_rfl) (fun _ h => by cases h) ?_
  simp only [List.take_succ_cons, List.take_zero, List.drop_succ_cons, List.drop_zero]
  repeat ((with_reducible apply soft_detG); (case hwa => rfl); (case hA => rfl); (case h => (intro w1 hw1; have hc := hcells w1 hw1; go_simp; exact rfl)); go_simp)
  refine soft_callO (by rfl) rfl ?h (fun w2 h2 => (kR.out w2).mono fun e w' ⟨h1, h2⟩ => ⟨_, h1, rfl, h2⟩) ?_
  case h => (intro w2 hw2; have hc := hcells w2 hw2; go_simp; try exact ⟨rfl, rfl⟩)
  rintro v rfl
  go_simp
  repeat ((with_reducible apply soft_detG); (case hwa => rfl); (case hA => rfl); (case h => (intro w1 hw1; have hc := hcells w1 hw1; go_simp; exact rfl)); go_simp)
  refine soft_nil ?_
  rintro w2 ⟨hw2, _⟩
  replace hw2 := Lib.hid (hst.out.trans (hw1.out.trans hw2))
  clear hcells
  go_wp2
  go_ret
  exact ⟨rfl, hw2.out⟩

end Go.Proofs.Yteidjmliepmlmaa
