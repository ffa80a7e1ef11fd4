/- Grids whose costs are told by their places; the law on the empty grid. No condition. -/
import Derived.Test.YteidjmliepmlmaaGdF
namespace Go.Proofs.Yteidjmliepmlmaa
open Go Go.RowKit
set_option linter.unusedVariables false
set_option linter.unusedSimpArgs false

/-- The costs that lie in a block are told by their places; what else there was is as before. -/
structure MarkG (w w' : World) (g n : Nat) (k0 : Int) : Prop where
  same : ∀ g', g' ≠ g → g' < w.heap.size → Same w w' g'
  below : ∀ B, B ≤ g → B ≤ w.heap.size → Below B w w'
  cells : ∀ j, j < n → w'.cell? ⟨g, j, none⟩ = some (.int .u8 (IntKind.u8.wrap (k0 + (j : Nat))))

theorem c_markG (A : Option Addr) (g c n : Nat) (a b : Int) (w : World) (hA : 0 < n → A = some ⟨g, 0, none⟩) (hg : 0 < n → g < w.heap.size) (ht : w.there g 0 n) (hn : n ≤ 1048576) :
    Calls Try.prog 17 #[.agg #[.int .i64 a, .int .i64 b, .slice A n c], .int .i64 1] w fun e w' => e = .returned (.int .i64 (1 + (n : Nat))) ∧ MarkG w w' g n 1 := by
  have hst : Stays w (w.alloc (.cells #[.int .i64 a, .int .i64 b, .slice A n c] 28)) := by (repeat (first | exact Stays.refl _ | (with_reducible refine Stays.drewN ?_ _) | (with_reducible refine Stays.alloc ?_ _) | (with_reducible refine Stays.drew ?_) | (refine Stays.trans ?_ ‹Stays _ _›)))
  have ht' : (w.alloc (.cells #[.int .i64 a, .int .i64 b, .slice A n c] 28)).there g 0 n := by
    by_cases h0 : 0 < n
    · exact there_below ht hst (hg h0)
    · intro j hj
      omega
  have k := c_markB A g c n 1 _ hA ht' hn (by omega)
  have e1 : ∀ w', MarkedB (w.alloc (.cells #[.int .i64 a, .int .i64 b, .slice A n c] 28)) w' g n 1 n → MarkG w w' g n 1 := fun w' hm =>
    ⟨fun g' h1 h2 => (Same.of_below hst hst.size h2).trans (hm.same g' h1), fun B h1 h2 => (Below.mono hst h2).trans (hm.below B h1), fun j hj => hm.cells j hj⟩
  replace k := Lib.hid k
  replace e1 := Lib.hid e1
  clear hst ht ht' hA hg
  go_enter Try.func17, Try.ntmps17
  go_wp2_with (go_at_call 56; refine k.out.mono ?_; rintro e w1 ⟨rfl, hm⟩; replace hm := e1.out _ hm)
  go_ret
  exact ⟨rfl, hm⟩

theorem c_heldG (A : Option Addr) (g c n : Nat) (a b : Int) (w : World) (hA : 0 < n → A = some ⟨g, 0, none⟩) (hg : 0 < n → g < w.heap.size) (hr : ∀ j, j < n → w.cell? ⟨g, j, none⟩ = some (.int .u8 (IntKind.u8.wrap (1 + (j : Nat))))) (hn : n ≤ 1048576) :
    Calls Try.prog 18 #[.agg #[.int .i64 a, .int .i64 b, .slice A n c], .int .i64 1] w fun e w' => e = .returned (.int .i64 (1 + (n : Nat))) ∧ Stays w w' := by
  have hst : Stays w (w.alloc (.cells #[.int .i64 a, .int .i64 b, .slice A n c] 28)) := by (repeat (first | exact Stays.refl _ | (with_reducible refine Stays.drewN ?_ _) | (with_reducible refine Stays.alloc ?_ _) | (with_reducible refine Stays.drew ?_) | (refine Stays.trans ?_ ‹Stays _ _›)))
  have k := c_heldB A g c n 1 (w.alloc (.cells #[.int .i64 a, .int .i64 b, .slice A n c] 28)) hA (fun j hj => (hst.cell (p := ⟨g, j, none⟩) (hg (by omega))).trans (hr j hj)) hn (by omega)
  have hk1 : ¬ ((1 : Int) + (n : Nat) < 0) := by omega
  generalize (1 : Int) + (n : Nat) = kk at k hk1 ⊢
  replace k := Lib.hid k
  replace hst := Lib.hid hst
  clear hA hg hr
  go_enter Try.func18, Try.ntmps18
  go_wp2_with (go_at_call 57; refine k.out.mono ?_; rintro e w1 ⟨rfl, rfl⟩)
  go_ret
  exact ⟨rfl, hst.out⟩

/-- A grid in a box. -/
structure BoxG (w : World) (p : Nat) (a b : Int) (A : Option Addr) (c n : Nat) : Prop where
  cells : w.cell? ⟨p, 0, none⟩ = some (.int .i64 a) ∧ w.cell? ⟨p, 1, none⟩ = some (.int .i64 b) ∧ w.cell? ⟨p, 2, none⟩ = some (.slice A n c)
  lt : p < w.heap.size

theorem BoxG.new (w : World) (a b : Int) (A : Option Addr) (c n : Nat) (t : TypeId) : BoxG (w.alloc (.cells #[.int .i64 a, .int .i64 b, .slice A n c] t)) w.heap.size a b A c n :=
  ⟨⟨cell_of_row _ _ _ _ _ _ (heap_alloc_new w _), cell_of_row _ _ _ _ _ _ (heap_alloc_new w _), cell_of_row _ _ _ _ _ _ (heap_alloc_new w _)⟩, in_heap (heap_alloc_new w _)⟩

theorem BoxG.on {w w' : World} {p : Nat} {a b : Int} {A : Option Addr} {c n : Nat} (h : BoxG w p a b A c n) (hs : Same w w' p) : BoxG w' p a b A c n :=
  ⟨⟨(hs.cell _ rfl).trans h.cells.1, (hs.cell _ rfl).trans h.cells.2.1, (hs.cell _ rfl).trans h.cells.2.2⟩, Nat.lt_of_lt_of_le h.lt hs.size⟩

theorem BoxG.below {w w' : World} {p : Nat} {a b : Int} {A : Option Addr} {c n : Nat} (h : BoxG w p a b A c n) (hb : Below w.heap.size w w') : BoxG w' p a b A c n := h.on (Same.of_below hb hb.size h.lt)

theorem LiesB.val {w : World} {g c : Nat} {A : Option Addr} {a b : Int} {xs : List Int} (h : LiesB w g (.slice A xs.length c) xs) : GdV w w.heap.size (.agg #[.int .i64 a, .int .i64 b, .slice A xs.length c]) a b xs := ⟨A, c, rfl, h.rows⟩

theorem LiesB.at_ {w : World} {g c : Nat} {A : Option Addr} {xs : List Int} (h : LiesB w g (.slice A xs.length c) xs) : 0 < xs.length → A = some ⟨g, 0, none⟩ := fun h0 => by
  obtain ⟨A', c', e, h⟩ := h
  cases e
  exact (h (fun e => by rw [e] at h0; simp at h0)).1

theorem LiesB.lt_ {w : World} {g c : Nat} {A : Option Addr} {xs : List Int} (h : LiesB w g (.slice A xs.length c) xs) : 0 < xs.length → g < w.heap.size := fun h0 => LiesR.lt h fun e => by rw [e] at h0; simp at h0

theorem LiesB.there {w : World} {g : Nat} {v : Value} {xs : List Int} (h : LiesB w g v xs) : w.there g 0 xs.length := by
  obtain ⟨A, c, e, h⟩ := h
  by_cases hx : xs = []
  · subst hx
    intro j hj
    simp at hj
  · have := (h hx).2.2.1
    rw [Nat.mul_one] at this
    exact this

theorem LiesB.marked {w w' : World} {g g' n : Nat} {k0 : Int} {v : Value} {xs : List Int} (h : LiesB w g v xs) (hm : MarkG w w' g' n k0) (hne : xs ≠ [] → g ≠ g') : LiesB w' g v xs := by
  by_cases hx : xs = []
  · subst hx
    obtain ⟨A, c, e, _⟩ := h
    exact ⟨A, c, e, fun h => absurd rfl h⟩
  · exact LiesR.on h fun hlt => hm.same g (hne hx) hlt

end Go.Proofs.Yteidjmliepmlmaa
