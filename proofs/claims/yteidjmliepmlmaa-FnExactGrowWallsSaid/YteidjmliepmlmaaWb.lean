/- A copy of a grid, as the document makes it. No condition. -/
import Derived.Test.YteidjmliepmlmaaWa
namespace Go.Proofs.Yteidjmliepmlmaa
open Go Go.RowKit
set_option linter.unusedVariables false
set_option linter.unusedSimpArgs false

/-- What is known behind the append. -/
structure Cop (w w3 : World) (p : Nat) (a b : Int) (ad : Addr) (c : Nat) (xs : List Int) (g cap : Nat) : Prop where
  arg : w3.cell? ⟨p, 0, none⟩ = some (.int .i64 a) ∧ w3.cell? ⟨p, 1, none⟩ = some (.int .i64 b) ∧ w3.cell? ⟨p, 2, none⟩ = some (.slice (some ad) xs.length c)
  res : w3.cell? ⟨w.heap.size, 0, none⟩ = some (.int .i64 0) ∧ w3.cell? ⟨w.heap.size, 1, none⟩ = some (.int .i64 0) ∧ w3.cell? ⟨w.heap.size, 2, none⟩ = some (.slice none 0 0)
  fz : w3.frozen? ⟨w.heap.size, 0, none⟩ = false ∧ w3.frozen? ⟨w.heap.size, 1, none⟩ = false ∧ w3.frozen? ⟨w.heap.size, 2, none⟩ = false
  row : w3.heap[w.heap.size]? = some (.cells #[.int .i64 0, .int .i64 0, .slice none 0 0] 28 (0, 0))
  lies : LiesB w3 g (.slice (some ⟨g, 0, none⟩) xs.length cap) xs
  le : xs.length ≤ cap
  ne : g ≠ w.heap.size ∧ w.heap.size ≤ g ∧ g < w3.heap.size
  st : Stays w w3

theorem Cop.done {w w3 : World} {p : Nat} {a b : Int} {ad : Addr} {c : Nat} {xs : List Int} {g cap : Nat} (h : Cop w w3 p a b ad c xs g cap) :
    (((w3.setCell ⟨w.heap.size, 0, none⟩ (.int .i64 a)).setCell ⟨w.heap.size, 1, none⟩ (.int .i64 b)).setCell ⟨w.heap.size, 2, none⟩ (.slice (some ⟨g, 0, none⟩) xs.length cap)).heap[w.heap.size]? = some (.cells #[.int .i64 a, .int .i64 b, .slice (some ⟨g, 0, none⟩) xs.length cap] 28 (0, 0)) ∧
    CDone w a b xs (.returned (.agg #[.int .i64 a, .int .i64 b, .slice (some ⟨g, 0, none⟩) xs.length cap])) (((w3.setCell ⟨w.heap.size, 0, none⟩ (.int .i64 a)).setCell ⟨w.heap.size, 1, none⟩ (.int .i64 b)).setCell ⟨w.heap.size, 2, none⟩ (.slice (some ⟨g, 0, none⟩) xs.length cap)) := by
  have m1 := heap_setCell_same w3 w.heap.size 0 _ _ (.int .i64 a) h.row
  have m2 := heap_setCell_same _ w.heap.size 1 _ _ (.int .i64 b) m1
  have m3 := heap_setCell_same _ w.heap.size 2 _ _ (.slice (some ⟨g, 0, none⟩) xs.length cap) m2
  have hne := h.ne.1
  have hse := ((same_sets w.heap.size g 0 [.int .i64 a] w3 hne).trans (same_sets w.heap.size g 1 [.int .i64 b] _ hne)).trans (same_sets w.heap.size g 2 [.slice (some ⟨g, 0, none⟩) xs.length cap] _ hne)
  refine ⟨m3, g, cap, rfl, ?_, ⟨h.ne.2.1, Nat.lt_of_lt_of_le h.ne.2.2 hse.size⟩, LiesR.on h.lies fun _ => hse, h.le⟩
  exact ((Below.setCell (show Below w.heap.size w w3 from h.st) (Nat.le_refl _) _).setCell (Nat.le_refl _) _).setCell (Nat.le_refl _) _

theorem Cop.of {w Wa w3 : World} {p : Nat} {a b : Int} {ad : Addr} {c : Nat} {xs : List Int} {v' : Value} (h0 : 0 < xs.length)
    (hC : ∀ W, Stays (w.alloc (.cells #[.int .i64 0, .int .i64 0, .slice none 0 0] 28)) W → W.cell? ⟨p, 0, none⟩ = some (.int .i64 a) ∧ W.cell? ⟨p, 1, none⟩ = some (.int .i64 b) ∧ W.cell? ⟨p, 2, none⟩ = some (.slice (some ad) xs.length c))
    (hs : Stays (w.alloc (.cells #[.int .i64 0, .int .i64 0, .slice none 0 0] 28)) Wa) (hsz : Wa.heap.size = w.heap.size + 1 + 1) (hown : w3.ownsRow Wa.heap.size 5 1 v' (0 + xs.length) ([] ++ u8L xs)) (hgrow : Wa.grownBy w3 none) : ∃ g cap, v' = .slice (some ⟨g, 0, none⟩) xs.length cap ∧ Cop w w3 p a b ad c xs g cap := by
  rw [Nat.zero_add, List.nil_append] at hown
  obtain ⟨g, cap, rfl, hge, hlt⟩ := hown.form h0
  obtain ⟨hL, hcap, _⟩ := own_liesB hown
  have hs3 : Stays (w.alloc (.cells #[.int .i64 0, .int .i64 0, .slice none 0 0] 28)) w3 := Below.grown (B := (w.alloc (.cells #[.int .i64 0, .int .i64 0, .slice none 0 0] 28)).heap.size) hs hgrow (by rw [hsz]; simp) (fun k hk => by cases hk)
  have e3 := (Below.block hs3 w.heap.size (in_heap (heap_alloc_new w _))).trans (heap_alloc_new w _)
  refine ⟨g, cap, rfl, hC _ hs3, ⟨cell_of_row _ _ _ _ _ _ e3, cell_of_row _ _ _ _ _ _ e3, cell_of_row _ _ _ _ _ _ e3⟩, ⟨frozen_of_row _ _ _ _ _ e3, frozen_of_row _ _ _ _ _ e3, frozen_of_row _ _ _ _ _ e3⟩, e3, hL, hcap, ⟨by omega, by omega, hlt⟩, ?_⟩
  exact (show Stays w (w.alloc (.cells #[.int .i64 0, .int .i64 0, .slice none 0 0] 28)) from by (repeat (first | exact Stays.refl _ | (with_reducible refine Stays.drewN ?_ _) | (with_reducible refine Stays.alloc ?_ _) | (with_reducible refine Stays.drew ?_) | (refine Stays.trans ?_ ‹Stays _ _›)))).trans hs3

set_option maxRecDepth 100000 in
set_option maxHeartbeats 2000000 in
theorem c_l07Copy (p : Nat) (a b : Int) (A : Option Addr) (c : Nat) (xs : List Int) (w : World) (hG : GridAt w p a b A c xs.length) (h1 : Bs w w.heap.size A xs) (h0 : 0 < xs.length) (hn : xs.length ≤ 1048576) :
    Calls Try.prog 47 #[.pointer (some ⟨p, 0, none⟩)] w (CDone w a b xs) := by
  obtain ⟨i0, hi0, hz0, hz1, hz2⟩ := info_parts infoByte
  obtain ⟨ad, rfl, hbl, _⟩ := h1.at_ (List.getElem?_eq_getElem h0)
  have hst : Stays w (w.alloc (.cells #[.int .i64 0, .int .i64 0, .slice none 0 0] 28)) := by (repeat (first | exact Stays.refl _ | (with_reducible refine Stays.drewN ?_ _) | (with_reducible refine Stays.alloc ?_ _) | (with_reducible refine Stays.drew ?_) | (refine Stays.trans ?_ ‹Stays _ _›)))
  have hcells : ∀ W, Stays (w.alloc (.cells #[.int .i64 0, .int .i64 0, .slice none 0 0] 28)) W → W.cell? ⟨p, 0, none⟩ = some (.int .i64 a) ∧ W.cell? ⟨p, 1, none⟩ = some (.int .i64 b) ∧ W.cell? ⟨p, 2, none⟩ = some (.slice (some ad) xs.length c) := fun W h => hG W (hst.trans h)
  have hnews : Hid (∀ W, Stays (w.alloc (.cells #[.int .i64 0, .int .i64 0, .slice none 0 0] 28)) W → ∀ j u, (u8L xs)[j]? = some u → W.cell? (ad.add j) = some u) := Lib.hid fun W hW j u hu => by
    obtain ⟨x, hx, rfl⟩ := u8L_at hu
    obtain ⟨ad', e, _, hc⟩ := Bs.at_ ((h1.below (hst.trans hW)).more (hst.trans hW).size) hx
    cases e
    exact hc
  have hl8 : (u8L xs).length = xs.length * 1 := by simp [u8L]
  replace hl8 := Lib.hid hl8
  obtain ⟨q0, q1, q2⟩ := hcells (w.alloc (.cells #[.int .i64 0, .int .i64 0, .slice none 0 0] 28)) (Stays.refl _)
  obtain ⟨r0, r1, r2⟩ := hcells ((w.alloc (.cells #[.int .i64 0, .int .i64 0, .slice none 0 0] 28)).alloc (.cells #[] 5)) (by (repeat (first | exact Stays.refl _ | (with_reducible refine Stays.drewN ?_ _) | (with_reducible refine Stays.alloc ?_ _) | (with_reducible refine Stays.drew ?_) | (refine Stays.trans ?_ ‹Stays _ _›))))
  have HO := Lib.hid fun (Wa w3 : World) (v' : Value) => Cop.of (w := w) (Wa := Wa) (w3 := w3) (v' := v') h0 hcells
  have hmax := Lib.hid (show 0 + xs.length ≤ maxLen ∧ (0 + xs.length) * 1 ≤ 140737488355328 ∧ 0 < 0 + xs.length from ⟨by unfold maxLen; omega, by omega, by omega⟩)
  clear hG h1 hst hcells
  go_enter Try.func47, Try.ntmps47
  go_wp2_with fail
  go_region_law (refine step_append_grows rfl _ _ 22 rfl 5 i0 (.int .u8 0) 1 1 Try.underlying22 hi0 hz0 hz1 hz2 rfl (by decide) (some ⟨w.heap.size + 1, 0, none⟩) 0 0 [] rfl (fun h => by cases h) rfl (fun _ _ j u hu => by simp at hu) ad xs.length c (u8L xs) rfl hl8.out (hnews.out _ (by (repeat (first | exact Stays.refl _ | (with_reducible refine Stays.drewN ?_ _) | (with_reducible refine Stays.alloc ?_ _) | (with_reducible refine Stays.drew ?_) | (refine Stays.trans ?_ ‹Stays _ _›))))) (u8L_one xs) hmax.out.2.2 hmax.out.1 hmax.out.2.1 ?_; intro v' w3 hown hgrow; obtain ⟨g, cap, rfl, hcop⟩ := HO.out _ _ _ (by (repeat (first | exact Stays.refl _ | (with_reducible refine Stays.drewN ?_ _) | (with_reducible refine Stays.alloc ?_ _) | (with_reducible refine Stays.drew ?_) | (refine Stays.trans ?_ ‹Stays _ _›)))) (by simp) hown hgrow; obtain ⟨⟨t0, t1, t2⟩, ⟨z0, z1, z2⟩, ⟨f0, f1, f2⟩⟩ := And.intro hcop.arg (And.intro hcop.res hcop.fz); replace hcop := Lib.hid hcop; clear hown hgrow)
  all_goals
    clear z0 z1 z2 f0 f1 f2 t0 t1 t2 q0 q1 q2 r0 r1 r2
    go_wp2
    apply end_agg rfl rfl rfl Try.underlying28 rfl (t := 28)
    case hg => exact hcop.out.done.1
    case hi => kernel_rfl
    case hR => exact hcop.out.done.2
end Go.Proofs.Yteidjmliepmlmaa
