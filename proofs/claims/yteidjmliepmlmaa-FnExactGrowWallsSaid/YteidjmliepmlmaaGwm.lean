/- Grids that are made into a box, in any order. Walls that are painted around spots. Walls around a spot, as the program makes them. Walls are made thicker, as the program makes them. Walls are made thicker, as the document makes them. The law on a grid whose walls are made thicker. No condition. -/
import Derived.Test.YteidjmliepmlmaaWf
import Derived.Test.YteidjmliepmlmaaGeE
import Derived.Test.YteidjmliepmlmaaGeF
import Derived.Test.YteidjmliepmlmaaGdG
import Derived.Deep.CutRange
import Derived.Deep.RegionHeld
import Derived.Test.YteidjmliepmlmaaGeC
namespace Go.Proofs.Yteidjmliepmlmaa
open Go Go.RowKit
set_option linter.unusedVariables false
set_option linter.unusedSimpArgs false

/-- A grid of a function's own. -/
structure FreshG (W w : World) (g : Nat) (A : Option Addr) (c : Nat) (xs : List Int) : Prop where
  st : Stays W w
  ge : W.heap.size ≤ g
  lt : g < w.heap.size
  lies : LiesB w g (.slice A xs.length c) xs

theorem GdV.al {w : World} {v : Value} {a b : Int} {xs : List Int} (h : GdV w w.heap.size v a b xs) (o : Obj) : GdV (w.alloc o) (w.alloc o).heap.size v a b xs := h.on (show Stays w _ from (Stays.refl w).alloc o)

/-- A box that is still empty. -/
structure ZB (w : World) (B p : Nat) : Prop where
  ge : B ≤ p
  row : w.heap[p]? = some (.cells #[.int .i64 0, .int .i64 0, .slice none 0 0] 28 (0, 0))

theorem ZB.lt {w : World} {B p : Nat} (h : ZB w B p) : p < w.heap.size := in_heap h.row

theorem ZB.new {B : Nat} (w : World) (h : B ≤ w.heap.size) : ZB (w.alloc (.cells #[.int .i64 0, .int .i64 0, .slice none 0 0] 28)) B w.heap.size := ⟨h, heap_alloc_new w _⟩

theorem ZB.newD (w : World) : ZB (w.drew.alloc (.cells #[.int .i64 0, .int .i64 0, .slice none 0 0] 28)) w.heap.size w.heap.size := ZB.new w.drew (Nat.le_refl _)

theorem ZB.below {w w' : World} {B p : Nat} (h : ZB w B p) (hb : Stays w w') : ZB w' B p := ⟨h.ge, (Below.block hb _ h.lt).trans h.row⟩

/-- A grid that was made into a box, and a code. -/
structure MadeIn (W : World) (a b : Int) (xs : List Int) (code : Int) (s t : Value) (w : World) (p g : Nat) (A : Option Addr) (c : Nat) : Prop where
  es : s = .pointer (some ⟨p, 0, none⟩)
  et : t = .int .i64 code
  box : BoxG w p a b A c xs.length
  fresh : FreshG W w g A c xs
  ge : W.heap.size ≤ p
  ne : p ≠ g

def MadeG (W : World) (a b : Int) (xs : List Int) (code : Int) (s t : Value) (w : World) : Prop := ∃ p g A c, MadeIn W a b xs code s t w p g A c

theorem FreshG.alloc {W w : World} {g : Nat} {A : Option Addr} {c : Nat} {xs : List Int} (h : FreshG W w g A c xs) (a b code : Int) (t : TypeId) :
    MadeG W a b xs code (.pointer (some ⟨w.heap.size, 0, none⟩)) (.int .i64 code) (w.alloc (.cells #[.int .i64 a, .int .i64 b, .slice A xs.length c] t)) := by
  have hs : Stays w (w.alloc (.cells #[.int .i64 a, .int .i64 b, .slice A xs.length c] t)) := by (repeat (first | exact Stays.refl _ | (with_reducible refine Stays.drewN ?_ _) | (with_reducible refine Stays.alloc ?_ _) | (with_reducible refine Stays.drew ?_) | (refine Stays.trans ?_ ‹Stays _ _›)))
  exact ⟨_, g, A, c, rfl, rfl, BoxG.new w a b A c xs.length t, ⟨h.st.trans hs, h.ge, Nat.lt_of_lt_of_le h.lt hs.size, LiesR.below h.lies hs⟩, h.st.size, fun e => by have := h.lt; omega⟩

theorem ZB.cells {w : World} {B p : Nat} (h : ZB w B p) : (w.cell? ⟨p, 0, none⟩ = some (.int .i64 0) ∧ w.cell? ⟨p, 1, none⟩ = some (.int .i64 0) ∧ w.cell? ⟨p, 2, none⟩ = some (.slice none 0 0)) ∧
    w.frozen? ⟨p, 0, none⟩ = false ∧ w.frozen? ⟨p, 1, none⟩ = false ∧ w.frozen? ⟨p, 2, none⟩ = false :=
  ⟨⟨cell_of_row _ _ _ _ _ _ h.row, cell_of_row _ _ _ _ _ _ h.row, cell_of_row _ _ _ _ _ _ h.row⟩, frozen_of_row _ _ _ _ _ h.row, frozen_of_row _ _ _ _ _ h.row, frozen_of_row _ _ _ _ _ h.row⟩

theorem FreshG.sets {W w : World} {g p : Nat} {A : Option Addr} {c : Nat} {xs : List Int} (h : FreshG W w g A c xs) (hz : ZB w W.heap.size p) (hne : p ≠ g) (a b code : Int) :
    MadeG W a b xs code (.pointer (some ⟨p, 0, none⟩)) (.int .i64 code) (((w.setCell ⟨p, 0, none⟩ (.int .i64 a)).setCell ⟨p, 1, none⟩ (.int .i64 b)).setCell ⟨p, 2, none⟩ (.slice A xs.length c)) := by
  have m1 := heap_setCell_same w p 0 _ _ (.int .i64 a) hz.row
  have m2 := heap_setCell_same _ p 1 _ _ (.int .i64 b) m1
  have m3 := heap_setCell_same _ p 2 _ _ (.slice A xs.length c) m2
  have hn := Ne.symm hne
  have hse := ((same_sets p g 0 [.int .i64 a] w hn).trans (same_sets p g 1 [.int .i64 b] _ hn)).trans (same_sets p g 2 [.slice A xs.length c] _ hn)
  refine ⟨_, g, A, c, rfl, rfl, ⟨⟨cell_of_row _ _ _ _ _ _ m3, cell_of_row _ _ _ _ _ _ m3, cell_of_row _ _ _ _ _ _ m3⟩, in_heap m3⟩, ⟨?_, h.ge, Nat.lt_of_lt_of_le h.lt hse.size, LiesR.on h.lies fun _ => hse⟩, hz.ge, hne⟩
  exact ((Below.setCell (show Below W.heap.size W w from h.st) hz.ge _).setCell hz.ge _).setCell hz.ge _

theorem FreshG.setsSt {W w : World} {g p : Nat} {A : Option Addr} {c : Nat} {xs : List Int} (h : FreshG W w g A c xs) (hz : ZB w W.heap.size p) (u v z : Value) :
    Stays W (((w.setCell ⟨p, 0, none⟩ u).setCell ⟨p, 1, none⟩ v).setCell ⟨p, 2, none⟩ z) :=
  ((Below.setCell (show Below W.heap.size W w from h.st) hz.ge _).setCell hz.ge _).setCell hz.ge _

/-- The costs that lie in a block are told by their places, where there are any. -/
structure MarkH (w w' : World) (g n : Nat) (k0 : Int) : Prop where
  same : ∀ g', (0 < n → g' ≠ g) → g' < w.heap.size → Same w w' g'
  below : ∀ B, (0 < n → B ≤ g) → B ≤ w.heap.size → Below B w w'
  cells : ∀ j, j < n → w'.cell? ⟨g, j, none⟩ = some (.int .u8 (IntKind.u8.wrap (k0 + (j : Nat))))

theorem c_markH (A : Option Addr) (g c n : Nat) (a b : Int) (w : World) (hA : 0 < n → A = some ⟨g, 0, none⟩) (hg : 0 < n → g < w.heap.size) (ht : w.there g 0 n) (hn : n ≤ 1048576) :
    Calls Try.prog 17 #[.agg #[.int .i64 a, .int .i64 b, .slice A n c], .int .i64 1] w fun e w' => e = .returned (.int .i64 (1 + (n : Nat))) ∧ MarkH w w' g n 1 := by
  by_cases h0 : 0 < n
  · refine (c_markG A g c n a b w hA hg ht hn).mono ?_
    rintro e w' ⟨rfl, hm⟩
    exact ⟨rfl, fun g' h1 h2 => hm.same g' (h1 h0) h2, fun B h1 h2 => hm.below B (h1 h0) h2, hm.cells⟩
  · refine (c_markG A w.heap.size c n a b w (fun h => absurd h h0) (fun h => absurd h h0) (fun j hj => by omega) hn).mono ?_
    rintro e w' ⟨rfl, hm⟩
    exact ⟨rfl, fun g' _ h2 => hm.same g' (by omega) h2, fun B _ h2 => hm.below B h2 h2, fun j hj => by omega⟩

theorem LiesB.markedH {w w' : World} {g g' n : Nat} {k0 : Int} {v : Value} {xs : List Int} (h : LiesB w g v xs) (hm : MarkH w w' g' n k0) (hne : 0 < xs.length → 0 < n → g ≠ g') : LiesB w' g v xs := by
  by_cases hx : xs = []
  · subst hx
    obtain ⟨A, c, e, _⟩ := h
    exact ⟨A, c, e, fun h => absurd rfl h⟩
  · have h0 : 0 < xs.length := List.length_pos_iff.2 hx
    exact LiesR.on h fun hlt => hm.same g (hne h0) hlt
end Go.Proofs.Yteidjmliepmlmaa

namespace Go.Proofs.Yteidjmliepmlmaa
open Go Go.RowKit
set_option linter.unusedVariables false
set_option linter.unusedSimpArgs false

/-- So many walls in a row, from a place on. -/
def pRow (s : Nat) : Nat → List Int → List Int
  | 0, ys => ys
  | k + 1, ys => (pRow s k ys).set (s + k) 255

/-- So many rows of walls, from a row on. -/
def pRect (W l k t : Nat) : Nat → List Int → List Int
  | 0, ys => ys
  | m + 1, ys => pRow ((t + m) * W + l) k (pRect W l k t m ys)

theorem pRow_len (s k : Nat) (ys : List Int) : (pRow s k ys).length = ys.length := by
  induction k with
  | zero => rfl
  | succ k ih => rw [pRow, List.length_set, ih]

theorem pRect_len (W l k t m : Nat) (ys : List Int) : (pRect W l k t m ys).length = ys.length := by
  induction m with
  | zero => rfl
  | succ m ih => rw [pRect, pRow_len, ih]

theorem pRow_next {s l i : Nat} {ys : List Int} (h : l ≤ i) : pRow (s + l) (i + 1 - l) ys = (pRow (s + l) (i - l) ys).set (s + i) 255 := by
  obtain ⟨k, rfl⟩ : ∃ k, i = l + k := ⟨i - l, by omega⟩
  rw [show l + k + 1 - l = k + 1 by omega, show l + k - l = k by omega, pRow, show s + l + k = s + (l + k) by omega]

theorem pRect_next {W l k t r : Nat} {ys : List Int} (h : t ≤ r) : pRect W l k t (r + 1 - t) ys = pRow (r * W + l) k (pRect W l k t (r - t) ys) := by
  obtain ⟨m, rfl⟩ : ∃ m, r = t + m := ⟨r - t, by omega⟩
  rw [show t + m + 1 - t = m + 1 by omega, show t + m - t = m by omega, pRect]

theorem pRow_none {s l i : Nat} {ys : List Int} (h : i = l) : pRow s (i - l) ys = ys := by subst h; rw [Nat.sub_self]; rfl
theorem pRect_none {W l k t r : Nat} {ys : List Int} (h : r = t) : pRect W l k t (r - t) ys = ys := by subst h; rw [Nat.sub_self]; rfl

def around (W H X Y D : Nat) (ys : List Int) : List Int := pRect W (X - D) (min (W - 1) (X + D) + 1 - (X - D)) (Y - D) (min (H - 1) (Y + D) + 1 - (Y - D)) ys

theorem around_len (W H X Y D : Nat) (ys : List Int) : (around W H X Y D ys).length = ys.length := pRect_len _ _ _ _ _ _

/-- The row's walls, so far, are made thicker. -/
def gRow (W H D Y : Nat) (xs : List Int) : Nat → List Int → List Int
  | 0, ys => ys
  | x + 1, ys => if xs[Y * W + x]? = some 255 then around W H x Y D (gRow W H D Y xs x ys) else gRow W H D Y xs x ys

def gAll (W H D : Nat) (xs : List Int) : Nat → List Int
  | 0 => xs
  | y + 1 => gRow W H D y xs W (gAll W H D xs y)

theorem gRow_len (W H D Y : Nat) (xs : List Int) (x : Nat) (ys : List Int) : (gRow W H D Y xs x ys).length = ys.length := by
  induction x with
  | zero => rfl
  | succ x ih =>
    rw [gRow]
    split
    · rw [around_len, ih]
    · exact ih

theorem gAll_len (W H D : Nat) (xs : List Int) (y : Nat) : (gAll W H D xs y).length = xs.length := by
  induction y with
  | zero => rfl
  | succ y ih => rw [gAll, gRow_len, ih]

/-- Nothing but one block may have changed. -/
structure Paint (w w' : World) (g : Nat) : Prop where
  same : ∀ k, k ≠ g → k < w.heap.size → w'.heap[k]? = w.heap[k]?
  size : w.heap.size ≤ w'.heap.size
  below : ∀ B, B ≤ g → B ≤ w.heap.size → Below B w w'

theorem Paint.of {w w' : World} (g : Nat) (h : Stays w w') : Paint w w' g := ⟨fun k _ hk => Below.block h k hk, h.size, fun B _ hB => Below.mono h hB⟩

theorem Paint.trans {w w1 w2 : World} {g : Nat} (h : Paint w w1 g) (h' : Paint w1 w2 g) : Paint w w2 g :=
  ⟨fun k hk hl => (h'.same k hk (Nat.lt_of_lt_of_le hl h.size)).trans (h.same k hk hl), Nat.le_trans h.size h'.size, fun B h1 h2 => (h.below B h1 h2).trans (h'.below B h1 (Nat.le_trans h2 h.size))⟩

theorem Paint.on {w w1 w2 : World} {g : Nat} (h : Paint w w1 g) (hb : Stays w1 w2) : Paint w w2 g := h.trans (Paint.of g hb)

theorem Paint.set (w : World) (g i : Nat) (v : Value) : Paint w (w.setCell ⟨g, i, none⟩ v) g :=
  ⟨fun k hk _ => heap_setCell_other w ⟨g, i, none⟩ k v hk, by simp [World.setCell], fun B hB hS => Below.setCell (Below.refl _ _) hB _⟩

theorem Paint.sets {w w1 : World} {g : Nat} (h : Paint w w1 g) (i : Nat) (v : Value) : Paint w (w1.setCell ⟨g, i, none⟩ v) g := h.trans (Paint.set w1 g i v)

/-- The list that is painted. -/
structure LP (w : World) (g c : Nat) (ys : List Int) : Prop where
  lies : LiesB w g (.slice (some ⟨g, 0, none⟩) ys.length c) ys
  lt : g < w.heap.size

theorem LP.on {w w' : World} {g c : Nat} {ys : List Int} (h : LP w g c ys) (hb : Stays w w') : LP w' g c ys := ⟨LiesR.below h.lies hb, Nat.lt_of_lt_of_le h.lt hb.size⟩

theorem LP.set {w : World} {g c i : Nat} {ys : List Int} (h : LP w g c ys) (hi : i < ys.length) (z : Int) : LP (w.setCell ⟨g, i, none⟩ (.int .u8 z)) g c (ys.set i z) :=
  ⟨LiesB.set h.lies hi z, by simp [World.setCell]; exact h.lt⟩

theorem LP.cell {w : World} {g c i : Nat} {ys : List Int} (h : LP w g c ys) (hi : i < ys.length) : ∃ u, w.cell? ⟨g, i, none⟩ = some u ∧ w.frozen? ⟨g, i, none⟩ = false := by
  have ht := (there_part (LiesB.there h.lies) i 1 (by omega)) 0 (by omega)
  obtain ⟨u, hu⟩ := Option.isSome_iff_exists.1 ht.1
  exact ⟨u, hu, ht.2⟩
end Go.Proofs.Yteidjmliepmlmaa

namespace Go.Proofs.Yteidjmliepmlmaa
open Go Go.RowKit
set_option linter.unusedVariables false
set_option linter.unusedSimpArgs false

set_option maxRecDepth 100000 in
set_option maxHeartbeats 2000000 in
theorem c_build (W H X Y D : Nat) (g c : Nat) (ys : List Int) (w : World) (hW : 1 ≤ W ∧ W ≤ 24) (hH : 1 ≤ H ∧ H ≤ 24) (hX : X < W) (hY : Y < H) (hD : D ≤ 24) (hn : ys.length = W * H) (hc : ys.length ≤ c) (hL : LP w g c ys) :
    Calls Try.prog 63 #[.agg #[.int .i64 (W : Nat), .int .i64 (H : Nat), .slice (some ⟨g, 0, none⟩) ys.length c], .int .i64 (X : Nat), .int .i64 (Y : Nat), .int .i64 (D : Nat)] w fun e w' => e = .returned (.tuple #[]) ∧ Paint w w' g ∧ LP w' g c (around W H X Y D ys) := by
  have hst : Stays w (w.alloc (.cells #[.int .i64 (W : Nat), .int .i64 (H : Nat), .slice (some ⟨g, 0, none⟩) ys.length c] 28)) := by (repeat (first | exact Stays.refl _ | (with_reducible refine Stays.drewN ?_ _) | (with_reducible refine Stays.alloc ?_ _) | (with_reducible refine Stays.drew ?_) | (refine Stays.trans ?_ ‹Stays _ _›)))
  have hrow := heap_alloc_new w (.cells #[.int .i64 (W : Nat), .int .i64 (H : Nat), .slice (some ⟨g, 0, none⟩) ys.length c] 28)
  have hne : w.heap.size ≠ g := by have := hL.lt; omega
  have hP := Lib.hid (Paint.of g hst.drew)
  have hL1 := Lib.hid (hL.on hst.drew)
  have hcells := Lib.hid fun W1 (h : Paint (w.alloc (.cells #[.int .i64 (W : Nat), .int .i64 (H : Nat), .slice (some ⟨g, 0, none⟩) ys.length c] 28)).drew W1 g) =>
    (show W1.cell? ⟨w.heap.size, 0, none⟩ = some (.int .i64 (W : Nat)) ∧ W1.cell? ⟨w.heap.size, 1, none⟩ = some (.int .i64 (H : Nat)) ∧ W1.cell? ⟨w.heap.size, 2, none⟩ = some (.slice (some ⟨g, 0, none⟩) ys.length c) from by
      have e := (h.same w.heap.size hne (in_heap hrow)).trans hrow
      exact ⟨cell_of_row _ _ _ _ _ _ e, cell_of_row _ _ _ _ _ _ e, cell_of_row _ _ _ _ _ _ e⟩)
  have e1 : IntKind.i64.wrap ((X : Int) - (D : Int)) = (X : Int) - (D : Int) := IntWalk.i64_in _ (by omega)
  have e2 : IntKind.i64.wrap ((X : Int) + (D : Int)) = (X : Int) + (D : Int) := IntWalk.i64_in _ (by omega)
  have e3 : IntKind.i64.wrap ((W : Int) - 1) = (W : Int) - 1 := IntWalk.i64_in _ (by omega)
  have e4 : IntKind.i64.wrap ((Y : Int) - (D : Int)) = (Y : Int) - (D : Int) := IntWalk.i64_in _ (by omega)
  have e5 : IntKind.i64.wrap ((Y : Int) + (D : Int)) = (Y : Int) + (D : Int) := IntWalk.i64_in _ (by omega)
  have e6 : IntKind.i64.wrap ((H : Int) - 1) = (H : Int) - 1 := IntWalk.i64_in _ (by omega)
  clear hst hrow hne hL
  replace hn := Lib.hid hn
  go_enter Try.func63, Try.ntmps63
  go_upto_region 1 with fail
  go_cut [8, 9] from 13 to 23 (fun s8 s9 wx => s8 = .int .i64 ((X - D : Nat) : Nat) ∧ s9 = .int .i64 ((min (W - 1) (X + D) : Nat) : Nat) ∧ wx = (w.alloc (.cells #[.int .i64 (W : Nat), .int .i64 (H : Nat), .slice (some ⟨g, 0, none⟩) ys.length c] 28)).drew)
  case first =>
    go_region
    all_goals go_wp2
    all_goals (go_meet; exact ⟨by (congr 1; omega), by (congr 1; omega), rfl⟩)
  case rest =>
  obtain ⟨rfl, rfl, rfl⟩ := hcut
  generalize hl : X - D = l
  generalize hr : min (W - 1) (X + D) = r
  go_upto_region 2 with fail
  go_cut [10] from 24 to 27 (fun s10 wx => s10 = .int .i64 ((Y - D : Nat) : Nat) ∧ wx = (w.alloc (.cells #[.int .i64 (W : Nat), .int .i64 (H : Nat), .slice (some ⟨g, 0, none⟩) ys.length c] 28)).drew)
  case first =>
    go_wp2
    all_goals (go_meet; exact ⟨by (congr 1; omega), rfl⟩)
  case rest =>
  obtain ⟨rfl, rfl⟩ := hcut
  generalize ht : Y - D = t
  have hlr : l ≤ r ∧ r < W := by omega
  have htb : t ≤ Y := by omega
  have hpost : Hid (∀ m w', Paint w w' g → LP w' g c (pRect W l (r + 1 - l) t (m + 1 - t) ys) → m = min (H - 1) (Y + D) → Paint w w' g ∧ LP w' g c (around W H X Y D ys)) := Lib.hid fun m w' h1 h2 e => by
    refine ⟨h1, ?_⟩
    unfold around
    rw [hr, hl, ht, ← e]
    exact h2
  replace hl := Lib.hid hl
  replace hr := Lib.hid hr
  replace ht := Lib.hid ht
  have main : ∀ b : Nat, b = min (H - 1) (Y + D) → (((H : Int) - 1 < (Y : Int) + (D : Int) ∧ (b : Int) = (H : Int) - 1) ∨ ((Y : Int) + (D : Int) ≤ (H : Int) - 1 ∧ (b : Int) = (Y : Int) + (D : Int))) := fun b e => by omega
  obtain ⟨b, hb⟩ : ∃ b : Nat, b = min (H - 1) (Y + D) := ⟨_, rfl⟩
  have hbH : b < H ∧ t ≤ b := by omega
  have hor := main b hb
  replace hpost := Lib.hid (fun w' h1 h2 => hpost.out b w' h1 h2 hb)
  clear main hb
  rcases hor with ⟨hq, hqb⟩ | ⟨hq, hqb⟩
  all_goals
    replace hqb := Lib.hid hqb
    go_wp2_with fail
    go_loopw [10] (fun nv wr => ∃ n : Nat, t ≤ n ∧ n ≤ b + 1 ∧ nv = .int .i64 (n : Nat) ∧ Hid (Paint (w.alloc (.cells #[.int .i64 (W : Nat), .int .i64 (H : Nat), .slice (some ⟨g, 0, none⟩) ys.length c] 28)).drew wr g) ∧ Hid (LP wr g c (pRect W l (r + 1 - l) t (n - t) ys))) (fun nv _ => b + 1 - (intOf nv).toNat)
    case atStart => exact ⟨t, Nat.le_refl _, by omega, rfl, Lib.hid (Paint.of g (Stays.refl _)), Lib.hid (by rw [Nat.sub_self]; exact hL1.out)⟩
    case round =>
      obtain ⟨n, htn, hnb, rfl, hPr, hLr⟩ := hrel
      obtain ⟨q0, q1, q2⟩ := hcells.out wr hPr.out
      by_cases hlt : n ≤ b
      · have hl1 : (n : Int) ≤ (H : Int) - 1 := by omega
        have hl2 : (n : Int) ≤ (Y : Int) + (D : Int) := by have := hqb.out; omega
        have kR := fun W1 => c_row (W : Nat) (H : Nat) (n : Nat) ⟨g, 0, none⟩ c ys.length W1 (by omega) (by omega) ⟨by omega, by omega⟩ (by rw [hn.out]; exact_mod_cast rfl) hc
        have hadd : ((n : Int) * (W : Int)).toNat = n * W := Int.toNat_natCast _
        have hWW : ((W : Nat) : Int).toNat = W := by omega
        simp only [hadd, hWW, add_zero_b] at kR
        have hnx := Lib.hid (pRect_next (W := W) (l := l) (k := r + 1 - l) (ys := ys) htn)
        have hsW : n * W + W ≤ ys.length := by
          rw [hn.out]
          have : (n + 1) * W ≤ H * W := Nat.mul_le_mul_right _ (by omega)
          rw [Nat.add_mul, Nat.one_mul, Nat.mul_comm H W] at this
          exact this
        have hzl := pRect_len W l (r + 1 - l) t (n - t) ys
        generalize pRect W l (r + 1 - l) t (n - t) ys = zs at hLr hnx hzl
        generalize n * W = s at kR hnx hsW
        rw [← hzl] at hsW
        replace hzl := Lib.hid hzl
        replace kR := Lib.hid kR
        clear hadd hWW
        go_wp2_with fail
        refine (kR.out _).mono ?_
        rintro e w3 ⟨rfl, hw3⟩
        have hP3 := Lib.hid (hPr.out.on hw3)
        have hL3 := Lib.hid (hLr.out.on hw3)
        clear hw3 q0 q1 q2 hPr hLr
        go_wp2_with fail
        go_loopw [12] (fun iv wr => ∃ i : Nat, l ≤ i ∧ i ≤ r + 1 ∧ iv = .int .i64 (i : Nat) ∧ Hid (Paint (w.alloc (.cells #[.int .i64 (W : Nat), .int .i64 (H : Nat), .slice (some ⟨g, 0, none⟩) ys.length c] 28)).drew wr g) ∧ Hid (LP wr g c (pRow (s + l) (i - l) zs))) (fun iv _ => r + 1 - (intOf iv).toNat)
        case atStart => exact ⟨l, Nat.le_refl _, by omega, rfl, hP3, Lib.hid (by rw [Nat.sub_self]; exact hL3.out)⟩
        case round =>
          obtain ⟨i, hli, hir, rfl, hPi, hLi⟩ := hrel
          by_cases hlt2 : i ≤ r
          · have hi1 : (i : Int) ≤ (r : Int) := by omega
            have hi2 : (i : Int) < (W : Int) := by omega
            have hi3 : i < W := by omega
            have hii : s + i < (pRow (s + l) (i - l) zs).length := by rw [pRow_len]; omega
            obtain ⟨u, hu, hf⟩ := hLi.out.cell hii
            have hLn := Lib.hid (hLi.out.set hii 255)
            rw [← pRow_next hli] at hLn
            have hPn := Lib.hid (hPi.out.sets (s + i) (.int .u8 255))
            have e7 : IntKind.i64.wrap ((i : Int) + 1) = (i : Int) + 1 := IntWalk.i64_in _ (by omega)
            clear hLi hPi hii
            go_wp2
            go_round
            case rel => exact ⟨i + 1, by omega, by omega, by go_num, hPn, hLn⟩
            case measure => simp [intOf]; omega
          · obtain rfl : i = r + 1 := by omega
            have hi1 : ¬ (((r + 1 : Nat) : Int) ≤ (r : Int)) := by omega
            have hL4 := Lib.hid (show LP wr g c (pRect W l (r + 1 - l) t (n + 1 - t) ys) from by rw [hnx.out]; exact hLi.out)
            have e7 : IntKind.i64.wrap ((n : Int) + 1) = (n : Int) + 1 := IntWalk.i64_in _ (by omega)
            go_wp2
            go_round
            case rel => exact ⟨n + 1, by omega, by omega, by go_num, hPi, hL4⟩
            case measure => simp [intOf]; omega
      · obtain rfl : n = b + 1 := by omega
        have hq1 : ¬ ((((b + 1 : Nat) : Int) ≤ (H : Int) - 1) ∧ (((b + 1 : Nat) : Int) ≤ (Y : Int) + (D : Int))) := by have := hqb.out; omega
        have hend := Lib.hid (hpost.out wr (hP.out.trans hPr.out) hLr.out)
        first
          | (have hq2 : ¬ ((b : Int) + 1 ≤ (H : Int) - 1) := by have := hqb.out; omega)
          | (have hq2 : ¬ ((b : Int) + 1 ≤ (Y : Int) + (D : Int)) := by have := hqb.out; omega)
        clear hq1
        go_wp2
        go_end0
        exact ⟨rfl, hend.out⟩
end Go.Proofs.Yteidjmliepmlmaa

namespace Go.Proofs.Yteidjmliepmlmaa
open Go Go.RowKit
set_option linter.unusedVariables false
set_option linter.unusedSimpArgs false

def growC (a b : Int) (n : Nat) (d : Int) : Int := if gridB a b n then (if 0 ≤ d ∧ d ≤ 24 then 0 else 2) else 1
def growQ (a b : Int) (n : Nat) (d q : Int) : Int := if growC a b n d = 0 then q else 0
def growX (a b : Int) (xs : List Int) (d : Int) : List Int := if growC a b xs.length d = 0 then gAll a.toNat b.toNat d.toNat xs b.toNat else []

/-- What lies in the memory while walls are made thicker. -/
structure GwS (w : World) (A : Option Addr) (c : Nat) (a b : Int) (n g cg ph : Nat) (wr : World) (ys : List Int) : Prop where
  st : Stays w wr
  rp : wr.heap[w.heap.size]? = some (.cells #[.int .i64 a, .int .i64 b, .slice A n c] 28 (0, 0))
  rz : wr.heap[w.heap.size + 1]? = some (.cells #[.int .i64 0, .int .i64 0, .slice none 0 0] 28 (0, 0))
  rh : wr.heap[ph]? = some (.cells #[.int .i64 a, .int .i64 b, .slice (some ⟨g, 0, none⟩) n cg] 28 (0, 0))
  lp : LP wr g cg ys
  len : ys.length = n
  ge : w.heap.size + 2 ≤ g
  neh : ph ≠ g

theorem GwS.go {w : World} {A : Option Addr} {c : Nat} {a b : Int} {n g cg ph : Nat} {wr w' : World} {ys zs : List Int} (h : GwS w A c a b n g cg ph wr ys) (hp : Paint wr w' g) (hl : LP w' g cg zs) (he : zs.length = ys.length) : GwS w A c a b n g cg ph w' zs :=
  ⟨(show Below w.heap.size w w' from Below.trans (show Below w.heap.size w wr from h.st) (hp.below _ (by have := h.ge; omega) h.st.size)), (hp.same _ (by have := h.ge; omega) (in_heap h.rp)).trans h.rp, (hp.same _ (by have := h.ge; omega) (in_heap h.rz)).trans h.rz, (hp.same _ h.neh (in_heap h.rh)).trans h.rh, hl, he.trans h.len, h.ge, h.neh⟩

theorem GwS.on {w : World} {A : Option Addr} {c : Nat} {a b : Int} {n g cg ph : Nat} {wr w' : World} {ys : List Int} (h : GwS w A c a b n g cg ph wr ys) (hb : Stays wr w') : GwS w A c a b n g cg ph w' ys := h.go (Paint.of g hb) (h.lp.on hb) rfl

theorem GwS.set {w : World} {A : Option Addr} {c : Nat} {a b : Int} {n g cg ph : Nat} {wr : World} {ys : List Int} {i : Nat} (h : GwS w A c a b n g cg ph wr ys) (hi : i < n) (z : Int) : GwS w A c a b n g cg ph (wr.setCell ⟨g, i, none⟩ (.int .u8 z)) (ys.set i z) :=
  h.go (Paint.set wr g i _) (h.lp.set (by rw [h.len]; exact hi) z) (List.length_set ..)

theorem GwS.arg {w : World} {A : Option Addr} {c : Nat} {a b : Int} {n g cg ph : Nat} {wr : World} {ys : List Int} (h : GwS w A c a b n g cg ph wr ys) :
    wr.cell? ⟨w.heap.size, 0, none⟩ = some (.int .i64 a) ∧ wr.cell? ⟨w.heap.size, 1, none⟩ = some (.int .i64 b) ∧ wr.cell? ⟨w.heap.size, 2, none⟩ = some (.slice A n c) :=
  ⟨cell_of_row _ _ _ _ _ _ h.rp, cell_of_row _ _ _ _ _ _ h.rp, cell_of_row _ _ _ _ _ _ h.rp⟩

theorem GwS.box {w : World} {A : Option Addr} {c : Nat} {a b : Int} {n g cg ph : Nat} {wr : World} {ys : List Int} (h : GwS w A c a b n g cg ph wr ys) :
    wr.cell? ⟨ph, 0, none⟩ = some (.int .i64 a) ∧ wr.cell? ⟨ph, 1, none⟩ = some (.int .i64 b) ∧ wr.cell? ⟨ph, 2, none⟩ = some (.slice (some ⟨g, 0, none⟩) n cg) :=
  ⟨cell_of_row _ _ _ _ _ _ h.rh, cell_of_row _ _ _ _ _ _ h.rh, cell_of_row _ _ _ _ _ _ h.rh⟩

/-- The copy's box is made. -/
theorem GwS.new {w w1 w2 : World} {A : Option Addr} {c : Nat} {a b : Int} {xs : List Int} {g cg : Nat} (hw1 : Stays ((w.alloc (.cells #[.int .i64 a, .int .i64 b, .slice A xs.length c] 28)).alloc (.cells #[.int .i64 0, .int .i64 0, .slice none 0 0] 28)) w1) (hb : Stays w1 w2) (hge : w1.heap.size ≤ g) (hgl : g < w2.heap.size) (hL : LiesB w2 g (.slice (some ⟨g, 0, none⟩) xs.length cg) xs) :
    GwS w A c a b xs.length g cg w2.heap.size (w2.alloc (.cells #[.int .i64 a, .int .i64 b, .slice (some ⟨g, 0, none⟩) xs.length cg] 28)) xs := by
  have u0 : ((w.alloc (.cells #[.int .i64 a, .int .i64 b, .slice A xs.length c] 28)).alloc (.cells #[.int .i64 0, .int .i64 0, .slice none 0 0] 28)).heap[w.heap.size]? = some (.cells #[.int .i64 a, .int .i64 b, .slice A xs.length c] 28 (0, 0)) := by (repeat (first | (refine heap_top _ _ _ ?_; simp; done) | (with_reducible refine heap_drawn _ _ _ ?_) | (with_reducible refine heap_under _ _ _ ?_ ?_; (simp <;> omega))))
  have u1 : ((w.alloc (.cells #[.int .i64 a, .int .i64 b, .slice A xs.length c] 28)).alloc (.cells #[.int .i64 0, .int .i64 0, .slice none 0 0] 28)).heap[w.heap.size + 1]? = some (.cells #[.int .i64 0, .int .i64 0, .slice none 0 0] 28 (0, 0)) := by (repeat (first | (refine heap_top _ _ _ ?_; simp; done) | (with_reducible refine heap_drawn _ _ _ ?_) | (with_reducible refine heap_under _ _ _ ?_ ?_; (simp <;> omega))))
  have hst : Stays w ((w.alloc (.cells #[.int .i64 a, .int .i64 b, .slice A xs.length c] 28)).alloc (.cells #[.int .i64 0, .int .i64 0, .slice none 0 0] 28)) := by (repeat (first | exact Stays.refl _ | (with_reducible refine Stays.drewN ?_ _) | (with_reducible refine Stays.alloc ?_ _) | (with_reducible refine Stays.drew ?_) | (refine Stays.trans ?_ ‹Stays _ _›)))
  have hs : Stays w2 (w2.alloc (.cells #[.int .i64 a, .int .i64 b, .slice (some ⟨g, 0, none⟩) xs.length cg] 28)) := by (repeat (first | exact Stays.refl _ | (with_reducible refine Stays.drewN ?_ _) | (with_reducible refine Stays.alloc ?_ _) | (with_reducible refine Stays.drew ?_) | (refine Stays.trans ?_ ‹Stays _ _›)))
  have h := (hw1.trans hb).trans hs
  have hsz := hw1.size
  have hs2 : ((w.alloc (.cells #[.int .i64 a, .int .i64 b, .slice A xs.length c] 28)).alloc (.cells #[.int .i64 0, .int .i64 0, .slice none 0 0] 28)).heap.size = w.heap.size + 1 + 1 := by simp
  refine ⟨hst.trans h, (Below.block h _ (in_heap u0)).trans u0, (Below.block h _ (in_heap u1)).trans u1, heap_alloc_new w2 _, ⟨LiesR.below hL hs, Nat.lt_of_lt_of_le hgl hs.size⟩, rfl, by omega, by omega⟩

theorem src_on {w wr : World} {A : Option Addr} {xs : List Int} (h1 : Bs w w.heap.size A xs) (hs : Stays w wr) : Bs wr wr.heap.size A xs := (h1.below hs).more hs.size

theorem Bs.part {w : World} {B : Nat} {ad : Addr} {xs : List Int} (h : Bs w B (some ad) xs) (m n : Nat) : Bs w B (some (ad.add m)) ((xs.drop m).take n) := fun i r hr => by
  rw [List.getElem?_take] at hr
  split at hr
  · rw [List.getElem?_drop] at hr
    obtain ⟨ad', e, hlt, hrow⟩ := h (m + i) r hr
    cases e
    refine ⟨_, rfl, by unfold Addr.add; split <;> exact hlt, ?_⟩
    rw [Nat.mul_one] at hrow ⊢
    rw [add_twice]
    exact hrow
  · cases hr

theorem sub_at {xs : List Int} {s W x : Nat} (h : x < W) : ((xs.drop s).take W)[x]? = xs[s + x]? := by
  rw [List.getElem?_take_of_lt h, List.getElem?_drop]

set_option maxRecDepth 100000 in
set_option maxHeartbeats 2000000 in
theorem c_implGrow (A : Option Addr) (c : Nat) (a b d : Int) (xs : List Int) (w : World) (h1 : Bs w w.heap.size A xs) (hn : xs.length ≤ 1048576) (hc : xs.length ≤ c) :
    Calls Try.prog 20 #[.agg #[.int .i64 a, .int .i64 b, .slice A xs.length c], .int .i64 d] w (GDone w (growQ a b xs.length d a) (growQ a b xs.length d b) (growX a b xs d) (growC a b xs.length d)) := by
  have u0 : ((w.alloc (.cells #[.int .i64 a, .int .i64 b, .slice A xs.length c] 28)).alloc (.cells #[.int .i64 0, .int .i64 0, .slice none 0 0] 28)).heap[w.heap.size]? = some (.cells #[.int .i64 a, .int .i64 b, .slice A xs.length c] 28 (0, 0)) := by (repeat (first | (refine heap_top _ _ _ ?_; simp; done) | (with_reducible refine heap_drawn _ _ _ ?_) | (with_reducible refine heap_under _ _ _ ?_ ?_; (simp <;> omega))))
  have u1 : ((w.alloc (.cells #[.int .i64 a, .int .i64 b, .slice A xs.length c] 28)).alloc (.cells #[.int .i64 0, .int .i64 0, .slice none 0 0] 28)).heap[w.heap.size + 1]? = some (.cells #[.int .i64 0, .int .i64 0, .slice none 0 0] 28 (0, 0)) := by (repeat (first | (refine heap_top _ _ _ ?_; simp; done) | (with_reducible refine heap_drawn _ _ _ ?_) | (with_reducible refine heap_under _ _ _ ?_ ?_; (simp <;> omega))))
  have hst : Stays w ((w.alloc (.cells #[.int .i64 a, .int .i64 b, .slice A xs.length c] 28)).alloc (.cells #[.int .i64 0, .int .i64 0, .slice none 0 0] 28)) := by (repeat (first | exact Stays.refl _ | (with_reducible refine Stays.drewN ?_ _) | (with_reducible refine Stays.alloc ?_ _) | (with_reducible refine Stays.drew ?_) | (refine Stays.trans ?_ ‹Stays _ _›)))
  have kV := Lib.hid fun W (hb : Stays w W) => c_implValidGrid (.agg #[.int .i64 a, .int .i64 b, .slice A xs.length c]) a b xs W ⟨A, c, rfl, (h1.below hb).more hb.size⟩ hn
  have HR : Hid (∀ w1, Stays ((w.alloc (.cells #[.int .i64 a, .int .i64 b, .slice A xs.length c] 28)).alloc (.cells #[.int .i64 0, .int .i64 0, .slice none 0 0] 28)) w1 → w1.heap[w.heap.size + 1]? = some (.cells #[.int .i64 0, .int .i64 0, .slice none 0 0] 28 (0, 0))) := Lib.hid fun w1 h => (Below.block h _ (in_heap u1)).trans u1
  have HC := Lib.hid fun W (h : Stays ((w.alloc (.cells #[.int .i64 a, .int .i64 b, .slice A xs.length c] 28)).alloc (.cells #[.int .i64 0, .int .i64 0, .slice none 0 0] 28)) W) => (show W.cell? ⟨w.heap.size, 0, none⟩ = some (.int .i64 a) ∧ W.cell? ⟨w.heap.size, 1, none⟩ = some (.int .i64 b) ∧ W.cell? ⟨w.heap.size, 2, none⟩ = some (.slice A xs.length c) from ⟨row_of h u0 0, row_of h u0 1, row_of h u0 2⟩)
  unfold growQ growX growC
  cases hg : gridB a b xs.length with
  | false =>
    rw [hg] at kV
    replace hst := Lib.hid hst
    simp only [Bool.false_eq_true, if_false]
    rw [if_neg (by decide), if_neg (by decide), if_neg (by decide)]
    clear hg h1 u0 u1
    go_enter Try.func20, Try.ntmps20
    obtain ⟨q0, q1, q2⟩ := HC.out _ (Stays.refl _)
    go_wp2_with fail
    refine (kV.out _ hst.out).mono ?_
    rintro e w1 ⟨rfl, hw1⟩
    have hres := HR.out w1 hw1
    have hst1 : Stays w w1 := hst.out.trans hw1
    clear q0 q1 q2
    go_wp2_with (refine wpList_store_row rfl _ _ _ rfl _ _ _ rfl rfl hres ?hi ?ho ?h1 ?hB hst1 ?_; (case hi => kernel_rfl); (case ho => rfl); (case h1 => first | rfl | simp [Value.oneCell']); (case hB => first | omega | (simp <;> omega)); intro w6 hw6 hq6 hother hsame)
    apply end_gd rfl rfl rfl Try.underlying28 rfl (t := 28)
    case hg => exact hq6
    case hi => kernel_rfl
    case hR => exact ⟨w.heap.size + 1, none, 0, rfl, hw6, ⟨by omega, in_heap hq6⟩, lies_nil _ _⟩
  | true =>
    rw [hg] at kV
    simp only [if_true]
    by_cases hd : 0 ≤ d ∧ d ≤ 24
    · rw [if_pos hd, if_pos rfl, if_pos rfl, if_pos rfl]
      obtain ⟨ha, hb, hab⟩ := gridB_iff.1 hg
      clear hg u0 u1
      obtain ⟨W, rfl⟩ : ∃ W : Nat, a = W := ⟨a.toNat, by omega⟩
      obtain ⟨H, rfl⟩ : ∃ H : Nat, b = H := ⟨b.toNat, by omega⟩
      obtain ⟨D, rfl⟩ : ∃ D : Nat, d = D := ⟨d.toNat, by omega⟩
      simp only [Int.toNat_natCast]
      have hlen : xs.length = W * H := by exact_mod_cast hab
      have hWH := prod_bd ha hb
      rw [← hab] at hWH
      have h0 : 0 < xs.length := by omega
      obtain ⟨ad, rfl, z1, z2⟩ := h1.at_ (List.getElem?_eq_getElem h0)
      clear z1 z2
      have kC := Lib.hid fun W' (h : Stays w W') => c_clone (W : Nat) (H : Nat) ad c xs W' (src_on h1 h) h0 hn
      have hsrc := Lib.hid fun W' (h : Stays w W') => src_on h1 h
      have hd1 : ¬ ((D : Int) < 0) := by omega
      have hd2 : ¬ ((24 : Int) < (D : Int)) := by omega
      have hd3 : D ≤ 24 := by omega
      have hW1 : 1 ≤ W ∧ W ≤ 24 := by omega
      have hH1 : 1 ≤ H ∧ H ≤ 24 := by omega
      have hg0 : gAll W H D xs 0 = xs := rfl
      replace hst := Lib.hid hst
      replace hlen := Lib.hid hlen
      clear hd hab hWH h1 h0
      go_enter Try.func20, Try.ntmps20
      obtain ⟨q0, q1, q2⟩ := HC.out _ (Stays.refl _)
      go_wp2_with fail
      refine (kV.out _ hst.out).mono ?_
      rintro e w1 ⟨rfl, hw1⟩
      replace hw1 := Lib.hid (show Stays _ w1 from hw1)
      clear q0 q1 q2
      obtain ⟨q0, q1, q2⟩ := HC.out _ hw1.out
      go_wp2_with fail
      refine (kC.out w1 (hst.out.trans hw1.out)).mono ?_
      rintro e w2 ⟨g, cg, rfl, hb2, ⟨hge, hgl⟩, hL, hcap⟩
      have hS := Lib.hid (GwS.new hw1.out hb2 hge hgl hL)
      have hcap' := Lib.hid hcap
      clear hg0 hb2 hge hgl hL hcap q0 q1 q2
      obtain ⟨q0, q1, q2⟩ := hS.out.arg
      go_wp2_with fail
      clear q0 q1 q2
      generalize (w2.alloc (.cells #[.int .i64 (W : Nat), .int .i64 (H : Nat), .slice (some ⟨g, 0, none⟩) xs.length cg] 28)) = W2 at hS ⊢
      generalize w2.heap.size = ph at hS ⊢
      go_loopw [25] (fun iv wr => ∃ y : Nat, y ≤ H ∧ iv = .int .i64 (y : Nat) ∧ Hid (GwS w (some ad) c (W : Nat) (H : Nat) xs.length g cg ph wr (gAll W H D xs y))) (fun iv _ => H - (intOf iv).toNat)
      case atStart => exact ⟨0, Nat.zero_le _, rfl, hS⟩
      case round =>
        obtain ⟨y, hy, rfl, hS1⟩ := hrel
        obtain ⟨q0, q1, q2⟩ := hS1.out.arg
        by_cases hlt : y < H
        · have hlt' : (y : Int) < (H : Int) := by omega
          have kR := fun W1 => c_row (W : Nat) (H : Nat) (y : Nat) ad c xs.length W1 (by omega) (by omega) ⟨by omega, by omega⟩ (by rw [hlen.out]; exact_mod_cast rfl) hc
          have hadd : ((y : Int) * (W : Int)).toNat = y * W := Int.toNat_natCast _
          have hWW : ((W : Nat) : Int).toNat = W := by omega
          simp only [hadd, hWW] at kR
          have hsW : y * W + W ≤ xs.length := by
            rw [hlen.out]
            have : (y + 1) * W ≤ H * W := Nat.mul_le_mul_right _ (by omega)
            rw [Nat.add_mul, Nat.one_mul, Nat.mul_comm H W] at this
            exact this
          have hg1 : gAll W H D xs (y + 1) = gRow W H D y xs W (gAll W H D xs y) := rfl
          have hsub := Lib.hid fun W' (h' : Stays w W') => Bs.part (hsrc.out W' h') (y * W) W
          have hrl : ((xs.drop (y * W)).take W).length = W := by rw [List.length_take, List.length_drop]; omega
          have hat := Lib.hid fun x (hx : x < W) => (sub_at (xs := xs) (s := y * W) hx)
          generalize (xs.drop (y * W)).take W = R at hsub hrl hat
          have hr0 : gRow W H D y xs 0 (gAll W H D xs y) = gAll W H D xs y := rfl
          replace hg1 := Lib.hid hg1
          rw [← hr0] at hS1
          generalize gAll W H D xs y = zs at hS1 hr0 hg1
          replace hr0 := Lib.hid hr0
          replace kR := Lib.hid kR
          have e7 : IntKind.i64.wrap ((y : Int) + 1) = (y : Int) + 1 := IntWalk.i64_in _ (by omega)
          generalize ad.add (y * W) = q at kR hsub
          clear hadd hWW hsW
          go_wp2_with fail
          refine (kR.out _).mono ?_
          rintro e w3 ⟨rfl, hw3⟩
          have hS3 := Lib.hid (hS1.out.on hw3)
          clear hw3 q0 q1 q2 hS1
          go_wp2_with fail
          go_loopw [32] (fun iv wr => ∃ x : Nat, x ≤ W ∧ iv = .int .i64 (x : Nat) ∧ Hid (GwS w (some ad) c (W : Nat) (H : Nat) xs.length g cg ph wr (gRow W H D y xs x zs))) (fun iv _ => W - (intOf iv).toNat)
          case atStart => exact ⟨0, Nat.zero_le _, rfl, hS3⟩
          case round =>
            obtain ⟨x, hxW, rfl, hSx⟩ := hrel
            by_cases hxl : x < W
            · have hxl' : (x : Int) < (W : Int) := by omega
              obtain ⟨ad', e', hbl', hcell⟩ := Bs.at_ (hsub.out _ hSx.out.st) (List.getElem?_eq_getElem (show x < R.length by omega))
              cases e'
              have hXe : xs[y * W + x]? = some R[x] := by rw [← hat.out x hxl, List.getElem?_eq_getElem (show x < R.length by omega)]
              have hlr := gRow_len W H D y xs x zs
              have hll := hSx.out.len
              have hgr : gRow W H D y xs (x + 1) zs = if R[x] = 255 then around W H x y D (gRow W H D y xs x zs) else gRow W H D y xs x zs := by
                rw [gRow, hXe]
                by_cases e : R[x] = 255
                · rw [if_pos e, e, if_pos rfl]
                · rw [if_neg e, if_neg (fun h => e (Option.some.inj h))]
              generalize R[x] = X at hcell hgr
              generalize gRow W H D y xs x zs = us at hSx hgr hlr hll
              have e8 : IntKind.i64.wrap ((x : Int) + 1) = (x : Int) + 1 := IntWalk.i64_in _ (by omega)
              clear hXe hbl' hlr
              obtain ⟨r0, r1, r2⟩ := hSx.out.box
              by_cases hX : X = 255
              · subst hX
                rw [if_pos rfl] at hgr
                have kB := fun W' (hl : LP W' g cg us) => c_build W H x y D g cg us W' hW1 hH1 hxl hlt hd3 (hll.trans hlen.out) (by rw [hll]; exact hcap'.out) hl
                rw [hll] at kB
                replace kB := Lib.hid (kB wr hSx.out.lp)
                replace hgr := Lib.hid hgr
                replace hll := Lib.hid hll
                have hbl := Lib.hid (around_len W H x y D us)
                go_wp2_with fail
                refine kB.out.mono ?_
                rintro e w5 ⟨rfl, hP5, hL5⟩
                have hS5 := Lib.hid (hSx.out.go hP5 hL5 hbl.out)
                rw [← hgr.out] at hS5
                clear hP5 hL5 hSx r0 r1 r2
                go_wp2
                go_round
                case rel => exact ⟨x + 1, by omega, by go_num, hS5⟩
                case measure => simp [intOf]; omega
              · rw [if_neg hX] at hgr
                rw [← hgr] at hSx
                have hX1 : (X == 255) = false := by simpa using hX
                have hX2 : (X != 255) = true := by rw [bne, hX1]; rfl
                clear hgr hll
                go_wp2
                go_round
                case rel => exact ⟨x + 1, by omega, by go_num, hSx⟩
                case measure => simp [intOf]; omega
            · obtain rfl : x = W := by omega
              have hS6 := hSx
              rw [← hg1.out] at hS6
              clear hSx
              go_wp2
              go_round
              case rel => exact ⟨y + 1, by omega, by go_num, hS6⟩
              case measure => simp [intOf]; omega
        · obtain rfl : y = H := by omega
          have hlen2 := gAll_len W y D xs y
          have hres := hS1.out.rz
          have hst1 := hS1.out.st
          obtain ⟨r0, r1, r2⟩ := hS1.out.box
          have hne := Lib.hid hS1.out.ge
          have hL := Lib.hid hS1.out.lp
          rw [← hlen2] at r2
          replace hlen2 := Lib.hid hlen2
          clear hS1
          go_wp2_with (refine wpList_store_row rfl _ _ _ rfl _ _ _ rfl rfl hres ?hi ?ho ?h1 ?hB hst1 ?_; (case hi => kernel_rfl); (case ho => rfl); (case h1 => first | rfl | simp [Value.oneCell']); (case hB => first | omega | (simp <;> omega)); intro w6 hw6 hq6 hother hsame)
          apply end_gd rfl rfl rfl Try.underlying28 rfl (t := 28)
          case hg => exact hq6
          case hi => kernel_rfl
          case hR =>
            have h1 := hL.out.lt
            have h2 := hne.out
            have hb := hother g h1 (by omega)
            exact ⟨g, some ⟨g, 0, none⟩, cg, rfl, hw6, ⟨by omega, by omega⟩, LiesR.on hL.out.lies fun _ => block_same hb (by omega)⟩
    · rw [if_neg hd, if_neg (by decide), if_neg (by decide), if_neg (by decide)]
      have hdd : d < 0 ∨ 24 < d := by omega
      replace hst := Lib.hid hst
      clear hg h1 u0 u1 hd
      rcases hdd with hdd | hdd
      all_goals
        try (have hdn : ¬ d < 0 := by omega)
        go_enter Try.func20, Try.ntmps20
        obtain ⟨q0, q1, q2⟩ := HC.out _ (Stays.refl _)
        go_wp2_with fail
        refine (kV.out _ hst.out).mono ?_
        rintro e w1 ⟨rfl, hw1⟩
        have hres := HR.out w1 hw1
        have hst1 : Stays w w1 := hst.out.trans hw1
        clear q0 q1 q2
        go_wp2_with (refine wpList_store_row rfl _ _ _ rfl _ _ _ rfl rfl hres ?hi ?ho ?h1 ?hB hst1 ?_; (case hi => kernel_rfl); (case ho => rfl); (case h1 => first | rfl | simp [Value.oneCell']); (case hB => first | omega | (simp <;> omega)); intro w6 hw6 hq6 hother hsame)
        apply end_gd rfl rfl rfl Try.underlying28 rfl (t := 28)
        case hg => exact hq6
        case hi => kernel_rfl
        case hR => exact ⟨w.heap.size + 1, none, 0, rfl, hw6, ⟨by omega, in_heap hq6⟩, lies_nil _ _⟩
end Go.Proofs.Yteidjmliepmlmaa

namespace Go.Proofs.Yteidjmliepmlmaa
open Go Go.RowKit
set_option linter.unusedVariables false
set_option linter.unusedSimpArgs false

set_option maxRecDepth 100000 in
theorem c_l00Max (p q : Int) (w : World) : Calls Try.prog 60 #[.int .i64 p, .int .i64 q] w fun e w' => e = .returned (.int .i64 (max p q)) ∧ w = w' := by
  by_cases h : q < p
  · rw [show max p q = p by omega]
    go_enter Try.func60, Try.ntmps60
    go_wp2
    go_ret
    exact ⟨rfl, rfl⟩
  · rw [show max p q = q by omega]
    go_enter Try.func60, Try.ntmps60
    go_wp2
    go_ret
    exact ⟨rfl, rfl⟩

set_option maxRecDepth 100000 in
theorem c_l00Min (p q : Int) (w : World) : Calls Try.prog 61 #[.int .i64 p, .int .i64 q] w fun e w' => e = .returned (.int .i64 (min p q)) ∧ w = w' := by
  by_cases h : p < q
  · rw [show min p q = p by omega]
    go_enter Try.func61, Try.ntmps61
    go_wp2
    go_ret
    exact ⟨rfl, rfl⟩
  · rw [show min p q = q by omega]
    go_enter Try.func61, Try.ntmps61
    go_wp2
    go_ret
    exact ⟨rfl, rfl⟩

theorem k_max {p q : Int} {m : Nat} (w : World) (h : max p q = (m : Int)) : Calls Try.prog 60 #[.int .i64 p, .int .i64 q] w fun e w' => e = .returned (.int .i64 (m : Nat)) ∧ w = w' := h ▸ c_l00Max p q w
theorem k_min {p q : Int} {m : Nat} (w : World) (h : min p q = (m : Int)) : Calls Try.prog 61 #[.int .i64 p, .int .i64 q] w fun e w' => e = .returned (.int .i64 (m : Nat)) ∧ w = w' := h ▸ c_l00Min p q w

set_option maxRecDepth 100000 in
set_option maxHeartbeats 4000000 in
theorem c_specGrow (v : Value) (a b d : Int) (xs : List Int) (w : World) (h : GdV w w.heap.size v a b xs) (hn : xs.length ≤ 1048576) :
    Calls Try.prog 19 #[v, .int .i64 d] w (GDone w (growQ a b xs.length d a) (growQ a b xs.length d b) (growX a b xs d) (growC a b xs.length d)) := by
  obtain ⟨A, c, rfl, h1⟩ := h.val
  have u0 : ((w.alloc (.cells #[.int .i64 a, .int .i64 b, .slice A xs.length c] 28)).alloc (.cells #[.int .i64 0, .int .i64 0, .slice none 0 0] 28)).heap[w.heap.size]? = some (.cells #[.int .i64 a, .int .i64 b, .slice A xs.length c] 28 (0, 0)) := by (repeat (first | (refine heap_top _ _ _ ?_; simp; done) | (with_reducible refine heap_drawn _ _ _ ?_) | (with_reducible refine heap_under _ _ _ ?_ ?_; (simp <;> omega))))
  have u1 : ((w.alloc (.cells #[.int .i64 a, .int .i64 b, .slice A xs.length c] 28)).alloc (.cells #[.int .i64 0, .int .i64 0, .slice none 0 0] 28)).heap[w.heap.size + 1]? = some (.cells #[.int .i64 0, .int .i64 0, .slice none 0 0] 28 (0, 0)) := by (repeat (first | (refine heap_top _ _ _ ?_; simp; done) | (with_reducible refine heap_drawn _ _ _ ?_) | (with_reducible refine heap_under _ _ _ ?_ ?_; (simp <;> omega))))
  have hst : Stays w ((w.alloc (.cells #[.int .i64 a, .int .i64 b, .slice A xs.length c] 28)).alloc (.cells #[.int .i64 0, .int .i64 0, .slice none 0 0] 28)) := by (repeat (first | exact Stays.refl _ | (with_reducible refine Stays.drewN ?_ _) | (with_reducible refine Stays.alloc ?_ _) | (with_reducible refine Stays.drew ?_) | (refine Stays.trans ?_ ‹Stays _ _›)))
  have kV := c_l07Ok w.heap.size a b A c xs.length _ u0 hn
  have HG := grid_at u0
  have HR : Hid (∀ w1, Stays ((w.alloc (.cells #[.int .i64 a, .int .i64 b, .slice A xs.length c] 28)).alloc (.cells #[.int .i64 0, .int .i64 0, .slice none 0 0] 28)) w1 → w1.heap[w.heap.size + 1]? = some (.cells #[.int .i64 0, .int .i64 0, .slice none 0 0] 28 (0, 0))) := Lib.hid fun w1 h => (Below.block h _ (in_heap u1)).trans u1
  have kD := fun W => c_l00In d 0 24 W
  unfold growQ growX growC
  cases hg : gridB a b xs.length with
  | false =>
    rw [hg] at kV
    replace kV := Lib.hid kV
    replace hst := Lib.hid hst
    simp only [Bool.false_eq_true, if_false]
    rw [if_neg (by decide), if_neg (by decide), if_neg (by decide)]
    clear hg h1 h u0 u1 HG kD
    go_enter Try.func19, Try.ntmps19
    go_wp2_with fail
    refine kV.out.mono ?_
    rintro e w1 ⟨rfl, hw1⟩
    have hres := HR.out w1 hw1
    have hst1 : Stays w w1 := hst.out.trans hw1
    go_wp2_with (refine wpList_store_row rfl _ _ _ rfl _ _ _ rfl rfl hres ?hi ?ho ?h1 ?hB hst1 ?_; (case hi => kernel_rfl); (case ho => rfl); (case h1 => first | rfl | simp [Value.oneCell']); (case hB => first | omega | (simp <;> omega)); intro w6 hw6 hq6 hother hsame)
    apply end_gd rfl rfl rfl Try.underlying28 rfl (t := 28)
    case hg => exact hq6
    case hi => kernel_rfl
    case hR => exact ⟨w.heap.size + 1, none, 0, rfl, hw6, ⟨by omega, in_heap hq6⟩, lies_nil _ _⟩
  | true =>
    rw [hg] at kV
    replace kV := Lib.hid kV
    simp only [if_true]
    by_cases hd : 0 ≤ d ∧ d ≤ 24
    · rw [if_pos hd, if_pos rfl, if_pos rfl, if_pos rfl]
      rw [show (decide (0 ≤ d ∧ d ≤ 24)) = true from by simpa using hd] at kD
      replace kD := Lib.hid kD
      obtain ⟨ha, hb, hab⟩ := gridB_iff.1 hg
      clear hg u0 u1 h
      obtain ⟨W, rfl⟩ : ∃ W : Nat, a = W := ⟨a.toNat, by omega⟩
      obtain ⟨H, rfl⟩ : ∃ H : Nat, b = H := ⟨b.toNat, by omega⟩
      obtain ⟨D, rfl⟩ : ∃ D : Nat, d = D := ⟨d.toNat, by omega⟩
      simp only [Int.toNat_natCast]
      have hlen : xs.length = W * H := by exact_mod_cast hab
      have hWH := prod_bd ha hb
      rw [← hab] at hWH
      have h0 : 0 < xs.length := by omega
      obtain ⟨ad, rfl, z1, z2⟩ := h1.at_ (List.getElem?_eq_getElem h0)
      have kC := Lib.hid fun W' (h : Stays ((w.alloc (.cells #[.int .i64 (W : Nat), .int .i64 (H : Nat), .slice (some ad) xs.length c] 28)).alloc (.cells #[.int .i64 0, .int .i64 0, .slice none 0 0] 28)) W') => c_l07Copy w.heap.size (W : Nat) (H : Nat) (some ad) c xs W' (HG.on h) (src_on h1 (hst.trans h)) h0 hn
      have hsrc := Lib.hid fun W' (h : Stays w W') => src_on h1 h
      have hW1 : 1 ≤ W ∧ W ≤ 24 := by omega
      have hH1 : 1 ≤ H ∧ H ≤ 24 := by omega
      have hd3 : D ≤ 24 := by omega
      have hxn : xs.length ≤ 576 := by omega
      replace hst := Lib.hid hst
      replace hlen := Lib.hid hlen
      clear hd hab hWH h1 h0 z1 z2 HG
      go_enter Try.func19, Try.ntmps19
      go_wp2_with fail
      refine kV.out.mono ?_
      rintro e w1 ⟨rfl, hw1⟩
      replace hw1 := Lib.hid (show Stays _ w1 from hw1)
      go_wp2_with fail
      refine (kD.out _).mono ?_
      rintro e w1b ⟨rfl, rfl⟩
      go_wp2_with fail
      refine (kC.out w1 hw1.out).mono ?_
      rintro e w2 ⟨g, cg, rfl, hb2, ⟨hge, hgl⟩, hL, hcap⟩
      have hS := Lib.hid (GwS.new hw1.out hb2 hge hgl hL)
      clear hb2 hge hgl hL hcap
      go_wp2_with fail
      generalize (w2.alloc (.cells #[.int .i64 (W : Nat), .int .i64 (H : Nat), .slice (some ⟨g, 0, none⟩) xs.length cg] 28)) = W2 at hS ⊢
      generalize w2.heap.size = ph at hS ⊢
      clear hw1 kV kC kD HR
      go_loopw [7] (fun iv wr => ∃ y : Nat, y ≤ H ∧ iv = .int .i64 (y : Nat) ∧ Hid (GwS w (some ad) c (W : Nat) (H : Nat) xs.length g cg ph wr (gAll W H D xs y))) (fun iv _ => H - (intOf iv).toNat)
      case atStart => exact ⟨0, Nat.zero_le _, rfl, hS⟩
      case round =>
        obtain ⟨y, hy, rfl, hS1⟩ := hrel
        obtain ⟨q0, q1, q2⟩ := hS1.out.arg
        by_cases hlt : y < H
        · have hlt' : (y : Int) < (H : Int) := by omega
          have hsW : y * W + W ≤ xs.length := by
            rw [hlen.out]
            have : (y + 1) * W ≤ H * W := Nat.mul_le_mul_right _ (by omega)
            rw [Nat.add_mul, Nat.one_mul, Nat.mul_comm H W] at this
            exact this
          have hg1 : gAll W H D xs (y + 1) = gRow W H D y xs W (gAll W H D xs y) := rfl
          have hr0 : gRow W H D y xs 0 (gAll W H D xs y) = gAll W H D xs y := rfl
          replace hg1 := Lib.hid hg1
          rw [← hr0] at hS1
          generalize gAll W H D xs y = zs at hS1 hr0 hg1
          replace hr0 := Lib.hid hr0
          have e7 : IntKind.i64.wrap ((y : Int) + 1) = (y : Int) + 1 := IntWalk.i64_in _ (by omega)
          have hyW : IntKind.i64.wrap ((y : Int) * (W : Int)) = ((y * W : Nat) : Int) := by rw [IntWalk.i64_in _ (by omega)]; exact (Int.natCast_mul y W).symm
          have hrw := Lib.hid fun x us => show gRow W H D y xs (x + 1) us = if xs[y * W + x]? = some 255 then around W H x y D (gRow W H D y xs x us) else gRow W H D y xs x us from rfl
          generalize y * W = s at hyW hsW hrw
          go_wp2_with fail
          go_loopw [8] (fun iv wr => ∃ x : Nat, x ≤ W ∧ iv = .int .i64 (x : Nat) ∧ Hid (GwS w (some ad) c (W : Nat) (H : Nat) xs.length g cg ph wr (gRow W H D y xs x zs))) (fun iv _ => W - (intOf iv).toNat)
          case atStart => exact ⟨0, Nat.zero_le _, rfl, hS1⟩
          case round =>
            obtain ⟨x, hxW, rfl, hSx⟩ := hrel
            clear q0 q1 q2
            obtain ⟨q0, q1, q2⟩ := hSx.out.arg
            by_cases hxl : x < W
            · have hxl' : (x : Int) < (W : Int) := by omega
              obtain ⟨i, hi⟩ : ∃ i, s + x = i := ⟨_, rfl⟩
              have hil : i < xs.length := by omega
              have hil' : (i : Int) < (xs.length : Int) := by omega
              obtain ⟨ad', e', hbl', hcell⟩ := Bs.at_ (hsrc.out _ hSx.out.st) (List.getElem?_eq_getElem hil)
              cases e'
              have hgr : gRow W H D y xs (x + 1) zs = if xs[i] = 255 then around W H x y D (gRow W H D y xs x zs) else gRow W H D y xs x zs := by
                rw [hrw.out, hi, List.getElem?_eq_getElem hil]
                by_cases e : xs[i] = 255
                · rw [if_pos e, e, if_pos rfl]
                · rw [if_neg e, if_neg (fun h => e (Option.some.inj h))]
              have hsx : IntKind.i64.wrap ((s : Int) + (x : Int)) = (i : Int) := by rw [← hi, IntWalk.i64_in _ (by omega)]; exact (Int.natCast_add s x).symm
              have e8 : IntKind.i64.wrap ((x : Int) + 1) = (x : Int) + 1 := IntWalk.i64_in _ (by omega)
              generalize xs[i] = X at hcell hgr
              generalize gRow W H D y xs x zs = us at hSx hgr
              clear hi hbl'
              by_cases hX : X = 255
              · subst hX
                rw [if_pos rfl] at hgr
                unfold around at hgr
                have f1 : IntKind.i64.wrap ((y : Int) - (D : Int)) = (y : Int) - (D : Int) := IntWalk.i64_in _ (by omega)
                have f2 : IntKind.i64.wrap ((y : Int) + (D : Int)) = (y : Int) + (D : Int) := IntWalk.i64_in _ (by omega)
                have f3 : IntKind.i64.wrap ((x : Int) - (D : Int)) = (x : Int) - (D : Int) := IntWalk.i64_in _ (by omega)
                have f4 : IntKind.i64.wrap ((x : Int) + (D : Int)) = (x : Int) + (D : Int) := IntWalk.i64_in _ (by omega)
                have f5 : IntKind.i64.wrap ((W : Int) - 1) = (W : Int) - 1 := IntWalk.i64_in _ (by omega)
                have f6 : IntKind.i64.wrap ((H : Int) - 1) = (H : Int) - 1 := IntWalk.i64_in _ (by omega)
                have kT := Lib.hid fun W' => k_max (p := 0) (q := (y : Int) - (D : Int)) (m := y - D) W' (by omega)
                have kB := Lib.hid fun W' => k_min (p := (H : Int) - 1) (q := (y : Int) + (D : Int)) (m := min (H - 1) (y + D)) W' (by omega)
                have kL := Lib.hid fun W' => k_max (p := 0) (q := (x : Int) - (D : Int)) (m := x - D) W' (by omega)
                have kR := Lib.hid fun W' => k_min (p := (W : Int) - 1) (q := (x : Int) + (D : Int)) (m := min (W - 1) (x + D)) W' (by omega)
                have hbd : (x - D ≤ min (W - 1) (x + D) ∧ min (W - 1) (x + D) < W) ∧ (y - D ≤ min (H - 1) (y + D) ∧ min (H - 1) (y + D) < H) := by omega
                generalize x - D = l at kL hgr hbd
                generalize min (W - 1) (x + D) = r at kR hgr hbd
                generalize y - D = t at kT hgr hbd
                generalize min (H - 1) (y + D) = bt at kB hgr hbd
                obtain ⟨⟨hlr, hrW⟩, htb, hbH⟩ := hbd
                replace hgr := Lib.hid hgr
                go_wp2_with fail
                refine (kT.out _).mono ?_
                rintro e w4 ⟨rfl, rfl⟩
                go_wp2_with fail
                go_loopw [9] (fun nv wr => ∃ n : Nat, t ≤ n ∧ n ≤ bt + 1 ∧ nv = .int .i64 (n : Nat) ∧ Hid (GwS w (some ad) c (W : Nat) (H : Nat) xs.length g cg ph wr (pRect W l (r + 1 - l) t (n - t) us))) (fun nv _ => bt + 1 - (intOf nv).toNat)
                case atStart => exact ⟨t, Nat.le_refl _, by omega, rfl, Lib.hid (by rw [Nat.sub_self]; exact hSx.out)⟩
                case round =>
                  obtain ⟨n, htn, hnb, rfl, hSn⟩ := hrel
                  clear q0 q1 q2
                  obtain ⟨q0, q1, q2⟩ := hSn.out.arg
                  by_cases hnl : n ≤ bt
                  · have hnl' : (n : Int) ≤ (bt : Int) := by omega
                    have hnW : n * W + W ≤ xs.length := by
                      rw [hlen.out]
                      have : (n + 1) * W ≤ H * W := Nat.mul_le_mul_right _ (by omega)
                      rw [Nat.add_mul, Nat.one_mul, Nat.mul_comm H W] at this
                      exact this
                    have e9 : IntKind.i64.wrap ((n : Int) + 1) = (n : Int) + 1 := IntWalk.i64_in _ (by omega)
                    have hnW2 : IntKind.i64.wrap ((n : Int) * (W : Int)) = ((n * W : Nat) : Int) := by rw [IntWalk.i64_in _ (by omega)]; exact (Int.natCast_mul n W).symm
                    have hnx := Lib.hid (pRect_next (W := W) (l := l) (k := r + 1 - l) (ys := us) htn)
                    generalize pRect W l (r + 1 - l) t (n - t) us = ts at hSn hnx
                    generalize n * W = s2 at hnW2 hnW hnx
                    go_wp2_with fail
                    refine (kB.out _).mono ?_
                    rintro e w5 ⟨rfl, rfl⟩
                    go_wp2_with fail
                    refine (kL.out _).mono ?_
                    rintro e w6 ⟨rfl, rfl⟩
                    go_wp2_with fail
                    go_loopw [10] (fun iv wr => ∃ j : Nat, l ≤ j ∧ j ≤ r + 1 ∧ iv = .int .i64 (j : Nat) ∧ Hid (GwS w (some ad) c (W : Nat) (H : Nat) xs.length g cg ph wr (pRow (s2 + l) (j - l) ts))) (fun iv _ => r + 1 - (intOf iv).toNat)
                    case atStart => exact ⟨l, Nat.le_refl _, by omega, rfl, Lib.hid (by rw [Nat.sub_self]; exact hSn.out)⟩
                    case round =>
                      obtain ⟨j, hlj, hjr, rfl, hSj⟩ := hrel
                      clear q0 q1 q2
                      obtain ⟨q0, q1, q2⟩ := hSj.out.arg
                      by_cases hjl : j ≤ r
                      · have hjl' : (j : Int) ≤ (r : Int) := by omega
                        obtain ⟨k, hk⟩ : ∃ k, s2 + j = k := ⟨_, rfl⟩
                        have hkl : k < xs.length := by omega
                        have hkl' : (k : Int) < (xs.length : Int) := by omega
                        have hsj : IntKind.i64.wrap ((s2 : Int) + (j : Int)) = (k : Int) := by rw [← hk, IntWalk.i64_in _ (by omega)]; exact (Int.natCast_add s2 j).symm
                        have e10 : IntKind.i64.wrap ((j : Int) + 1) = (j : Int) + 1 := IntWalk.i64_in _ (by omega)
                        obtain ⟨u, hu, hf⟩ := hSj.out.lp.cell (i := k) (by rw [hSj.out.len]; exact hkl)
                        have hSn2 := Lib.hid (hSj.out.set hkl 255)
                        rw [← hk, ← pRow_next hlj, hk] at hSn2
                        obtain ⟨r0, r1, r2⟩ := hSj.out.box
                        clear hk hSj
                        go_wp2_with fail
                        refine (kR.out _).mono ?_
                        rintro e w7 ⟨rfl, rfl⟩
                        go_wp2
                        go_round
                        case rel => exact ⟨j + 1, by omega, by omega, by go_num, hSn2⟩
                        case measure => simp [intOf]; omega
                      · obtain rfl : j = r + 1 := by omega
                        have hjl' : ¬ ((r : Int) + 1 ≤ (r : Int)) := by omega
                        have hS8 := hSj
                        rw [← hnx.out] at hS8
                        clear hSj
                        go_wp2_with fail
                        refine (kR.out _).mono ?_
                        rintro e w7 ⟨rfl, rfl⟩
                        go_wp2
                        go_round
                        case rel => exact ⟨n + 1, by omega, by omega, by go_num, hS8⟩
                        case measure => simp [intOf]; omega
                  · obtain rfl : n = bt + 1 := by omega
                    have hnl' : ¬ ((bt : Int) + 1 ≤ (bt : Int)) := by omega
                    have hS9 := hSn
                    rw [← hgr.out] at hS9
                    clear hSn
                    go_wp2_with fail
                    refine (kB.out _).mono ?_
                    rintro e w7 ⟨rfl, rfl⟩
                    go_wp2
                    go_round
                    case rel => exact ⟨x + 1, by omega, by go_num, hS9⟩
                    case measure => simp [intOf]; omega
              · rw [if_neg hX] at hgr
                rw [← hgr] at hSx
                have hX1 : (X == 255) = false := by simpa using hX
                have hX2 : (X != 255) = true := by rw [bne, hX1]; rfl
                clear hgr
                go_wp2
                go_round
                case rel => exact ⟨x + 1, by omega, by go_num, hSx⟩
                case measure => simp [intOf]; omega
            · obtain rfl : x = W := by omega
              have hS6 := hSx
              rw [← hg1.out] at hS6
              clear hSx
              go_wp2
              go_round
              case rel => exact ⟨y + 1, by omega, by go_num, hS6⟩
              case measure => simp [intOf]; omega
        · obtain rfl : y = H := by omega
          have hlen2 := gAll_len W y D xs y
          have hres := hS1.out.rz
          have hst1 := hS1.out.st
          obtain ⟨r0, r1, r2⟩ := hS1.out.box
          have hne := Lib.hid hS1.out.ge
          have hL := Lib.hid hS1.out.lp
          rw [← hlen2] at r2
          replace hlen2 := Lib.hid hlen2
          clear hS1
          go_wp2_with (refine wpList_store_row rfl _ _ _ rfl _ _ _ rfl rfl hres ?hi ?ho ?h1 ?hB hst1 ?_; (case hi => kernel_rfl); (case ho => rfl); (case h1 => first | rfl | simp [Value.oneCell']); (case hB => first | omega | (simp <;> omega)); intro w6 hw6 hq6 hother hsame)
          apply end_gd rfl rfl rfl Try.underlying28 rfl (t := 28)
          case hg => exact hq6
          case hi => kernel_rfl
          case hR =>
            have h1 := hL.out.lt
            have h2 := hne.out
            have hb := hother g h1 (by omega)
            exact ⟨g, some ⟨g, 0, none⟩, cg, rfl, hw6, ⟨by omega, by omega⟩, LiesR.on hL.out.lies fun _ => block_same hb (by omega)⟩
    · rw [if_neg hd, if_neg (by decide), if_neg (by decide), if_neg (by decide)]
      rw [show (decide (0 ≤ d ∧ d ≤ 24)) = false from by simpa using hd] at kD
      replace kD := Lib.hid kD
      replace hst := Lib.hid hst
      clear hg h1 h u0 u1 hd HG
      go_enter Try.func19, Try.ntmps19
      go_wp2_with fail
      refine kV.out.mono ?_
      rintro e w1 ⟨rfl, hw1⟩
      have hres := HR.out w1 hw1
      have hst1 : Stays w w1 := hst.out.trans hw1
      go_wp2_with fail
      refine (kD.out _).mono ?_
      rintro e w1b ⟨rfl, rfl⟩
      go_wp2_with (refine wpList_store_row rfl _ _ _ rfl _ _ _ rfl rfl hres ?hi ?ho ?h1 ?hB hst1 ?_; (case hi => kernel_rfl); (case ho => rfl); (case h1 => first | rfl | simp [Value.oneCell']); (case hB => first | omega | (simp <;> omega)); intro w6 hw6 hq6 hother hsame)
      apply end_gd rfl rfl rfl Try.underlying28 rfl (t := 28)
      case hg => exact hq6
      case hi => kernel_rfl
      case hR => exact ⟨w.heap.size + 1, none, 0, rfl, hw6, ⟨by omega, in_heap hq6⟩, lies_nil _ _⟩
end Go.Proofs.Yteidjmliepmlmaa

namespace Go.Proofs.Yteidjmliepmlmaa
open Go Go.RowKit
set_option linter.unusedVariables false
set_option linter.unusedSimpArgs false

theorem growX_len (a b d : Int) (xs : List Int) : (growX a b xs d).length ≤ xs.length := by
  unfold growX
  split
  · rw [gAll_len]; exact Nat.le_refl _
  · exact Nat.zero_le _

/-- A grid whose list has room for its costs. -/
structure GdC (w : World) (v : Value) (a b : Int) (xs : List Int) : Prop where
  gdv : GdV w w.heap.size v a b xs
  cap : ∃ A c, v = .agg #[.int .i64 a, .int .i64 b, .slice A xs.length c] ∧ xs.length ≤ c

theorem c_toGdC (v : Value) (a b : Int) (xs : List Int) (w : World) (h : GdV w w.heap.size v a b xs) (hn : xs.length ≤ 1048576) :
    Calls Try.prog 13 #[v] w fun e w' => ∃ v', e = .returned v' ∧ Below w.heap.size w w' ∧ GdC w' v' a b xs := by
  refine (c_toGrid v a b xs w h hn).mono ?_
  rintro e w' ⟨g, rfl, _, hb, l⟩
  exact ⟨_, rfl, hb, ⟨_, _, rfl, l.rows⟩, _, _, rfl, Nat.le_refl _⟩

theorem c_implGrowV (v : Value) (a b d : Int) (xs : List Int) (w : World) (h : GdC w v a b xs) (hn : xs.length ≤ 1048576) :
    Calls Try.prog 20 #[v, .int .i64 d] w (GDone w (growQ a b xs.length d a) (growQ a b xs.length d b) (growX a b xs d) (growC a b xs.length d)) := by
  obtain ⟨⟨A, c, rfl, h1⟩, A', c', e, hc⟩ := h
  cases e
  exact c_implGrow A c a b d xs w h1 hn hc

set_option maxRecDepth 100000 in
set_option maxHeartbeats 4000000 in
theorem c_lawGrowWalls (v : Value) (a b d : Int) (xs : List Int) (w : World) (h : GdV w w.heap.size v a b xs) (hn : xs.length ≤ 9223372036854775807) :
    Calls Try.prog 4 #[v, .int .i64 d] w fun e w' => e = .returned (.bool true) ∧ Below w.heap.size w w' := by
  obtain ⟨A, c, rfl, h1⟩ := h.val
  have u0 : (w.alloc (.cells #[.int .i64 a, .int .i64 b, .slice A xs.length c] 24)).heap[w.heap.size]? = some (.cells #[.int .i64 a, .int .i64 b, .slice A xs.length c] 24 (0, 0)) := by (repeat (first | (refine heap_top _ _ _ ?_; simp; done) | (with_reducible refine heap_drawn _ _ _ ?_) | (with_reducible refine heap_under _ _ _ ?_ ?_; (simp <;> omega))))
  have hst : Stays w (w.alloc (.cells #[.int .i64 a, .int .i64 b, .slice A xs.length c] 24)) := by (repeat (first | exact Stays.refl _ | (with_reducible refine Stays.drewN ?_ _) | (with_reducible refine Stays.alloc ?_ _) | (with_reducible refine Stays.drew ?_) | (refine Stays.trans ?_ ‹Stays _ _›)))
  have hlt0 : Hid (w.heap.size < (w.alloc (.cells #[.int .i64 a, .int .i64 b, .slice A xs.length c] 24)).heap.size) := Lib.hid (by simp <;> omega)
  have HB : Hid (∀ w', Stays (w.alloc (.cells #[.int .i64 a, .int .i64 b, .slice A xs.length c] 24)) w' → (((w'.cell? ⟨w.heap.size, 0, none⟩ = some (.int .i64 a) ∧ w'.cell? ⟨w.heap.size, 1, none⟩ = some (.int .i64 b) ∧ w'.cell? ⟨w.heap.size, 2, none⟩ = some (.slice A xs.length c)) ∧ True) ∧ Below w.heap.size w w') ∧ GdV w' w'.heap.size (.agg #[.int .i64 a, .int .i64 b, .slice A xs.length c]) a b xs) :=
    Lib.hid fun w1 hs => ⟨⟨⟨⟨row_of hs u0 0, row_of hs u0 1, row_of hs u0 2⟩, trivial⟩, hst.trans hs⟩, GdV.on ⟨A, c, rfl, h1⟩ (hst.trans hs)⟩
  have hsz := fun W => c_szGrid A c xs.length a b 1048576 W hn (by omega) (by omega)
  clear h h1 u0  hst
  by_cases hl : (1048576 : Int) - xs.length < 0
  · simp only [if_pos hl] at hsz
    replace hsz := Lib.hid hsz
    go_enter Try.func4, Try.ntmps4
    go_wp2_with fail
    refine (hsz.out _).mono ?_
    rintro e w1 ⟨rfl, hb⟩
    go_wp2
    go_ret
    exact ⟨rfl, (HB.out _ hb).1.2⟩
  · simp only [if_neg hl] at hsz
    have hn' : xs.length ≤ 1048576 := by omega
    have hL : ¬ ((1048576 : Int) - xs.length < 0) := hl
    generalize (1048576 : Int) - xs.length = L at hL hsz
    replace hsz := Lib.hid hsz
    have kS := fun v w (h : GdC w v a b xs) => c_specGrow v a b d xs w h.gdv hn'
    have kI' := fun v w (h : GdC w v a b xs) => c_implGrowV v a b d xs w h hn'
    have kI := fun (A : Option Addr) w (h : GdV w w.heap.size (.agg #[.int .i64 a, .int .i64 b, .slice A xs.length xs.length]) a b xs) => c_implGrowV (.agg #[.int .i64 a, .int .i64 b, .slice A xs.length xs.length]) a b d xs w ⟨h, _, _, rfl, Nat.le_refl _⟩ hn'
    have hX := Nat.le_trans (growX_len a b d xs) hn'
    generalize growX a b xs d = XS at kS kI kI' hX
    generalize growQ a b xs.length d a = ra at kS kI kI'
    generalize growQ a b xs.length d b = rb at kS kI kI'
    generalize growC a b xs.length d = code at kS kI kI'
    replace kI' := Lib.hid kI'
    replace kS := Lib.hid kS
    replace kI := Lib.hid kI
    replace hX := Lib.hid hX
    have kG := Lib.hid fun W (hs : Stays (w.alloc (.cells #[.int .i64 a, .int .i64 b, .slice A xs.length c] 24)) W) => c_toGdC _ a b xs W (HB.out _ hs).2 hn'
    clear hl hn 
    go_enter Try.func4, Try.ntmps4
    go_wp2_with fail
    refine (hsz.out _).mono ?_
    rintro e w1 ⟨rfl, hb⟩
    have ha := Lib.hid (show Stays _ w1 from hb)
    clear hb hsz
    generalize (w.alloc (.cells #[.int .i64 a, .int .i64 b, .slice A xs.length c] 24)) = W0 at HB ha kG hlt0
    have o0 := Lib.hid (show w.heap.size < w1.heap.size from Nat.lt_of_lt_of_le hlt0.out ha.out.size)
    go_upto_region 5 with fail
    go_cut [6, 7] from 21 to 27 (fun s8 s9 wx => MadeG w1 ra rb XS code s8 s9 wx)
    case first =>
      have h1 := Lib.hid (Stays.refl w1)
      obtain ⟨⟨⟨⟨t0, t1, t2⟩, _⟩, _⟩, _⟩ := HB.out _ ha.out
      go_wp2_with (first
          | (go_at_call 19; first | ((with_reducible refine (kS.out v1 _ hv1.out).mono ?_); rintro e w4 ⟨g, A9, c9, rfl, hb, ⟨hge, hgl⟩, hL9⟩; have h4 := Lib.hid (h2.out.trans hb); have hF := Lib.hid (show FreshG w1 w4 g A9 c9 XS from ⟨h4.out, Nat.le_trans (h2.out).size hge, hgl, hL9⟩); (try (have hpg := Lib.hid (show _ ≠ g from Nat.ne_of_lt (Nat.lt_of_lt_of_le hz.out.lt hge)))); (try (replace hz := Lib.hid (hz.out.below hb); obtain ⟨⟨z0, z1, z2⟩, ⟨f0, f1, f2⟩⟩ := hz.out.cells)); clear hb) | ((with_reducible refine (kS.out v1 _ (hv1.out.al _)).mono ?_); rintro e w4 ⟨g, A9, c9, rfl, hb, ⟨hge, hgl⟩, hL9⟩; have hz := Lib.hid ((ZB.new (B := w1.heap.size) _ h2.out.size).below hb); obtain ⟨⟨z0, z1, z2⟩, ⟨f0, f1, f2⟩⟩ := hz.out.cells; have h4 := Lib.hid ((h2.out.alloc _).trans hb); have hF := Lib.hid (show FreshG w1 w4 g A9 c9 XS from ⟨h4.out, Nat.le_trans ((h2.out.alloc _)).size hge, hgl, hL9⟩); (try (have hpg := Lib.hid (show _ ≠ g from Nat.ne_of_lt (Nat.lt_of_lt_of_le (ZB.new (B := w1.heap.size) _ h2.out.size).lt hge)))); clear hb))
          | (go_at_call 13; first | ((with_reducible refine (kG.out _ (ha.out.trans h1.out)).mono ?_); rintro e w2 ⟨v1, rfl, hb, hv1⟩; have h2 := Lib.hid (h1.out.trans hb); replace hv1 := Lib.hid hv1; (try (replace hz := Lib.hid (hz.out.below hb); skip)); clear hb) | ((with_reducible refine (kG.out _ (ha.out.trans (h1.out.alloc _))).mono ?_); rintro e w2 ⟨v1, rfl, hb, hv1⟩; have hz := Lib.hid ((ZB.newD w1).below hb); skip; have h2 := Lib.hid ((h1.out.alloc _).trans hb); replace hv1 := Lib.hid hv1; clear hb) | ((with_reducible refine (kG.out _ (ha.out.trans ((Stays.refl w1).alloc _).drew)).mono ?_); rintro e w2 ⟨v1, rfl, hb, hv1⟩; have hz := Lib.hid (((ZB.new (B := w1.heap.size) _ (Nat.le_refl _)).below (Stays.refl _).drew).below hb); skip; have h2 := Lib.hid ((((Stays.refl w1).alloc _).drew).trans hb); replace hv1 := Lib.hid hv1; clear hb)))
      go_meet
      exact hF.out.alloc ra rb code _
    case rest =>
    obtain ⟨p0, g0, A0, c0, hmade⟩ := hcut
    obtain ⟨rfl, rfl, hX0, hF0, hge0, hne0⟩ := hmade
    rename World => w4
    replace hX0 := Lib.hid hX0
    have hL0 := Lib.hid hF0.lies
    have o1 := Lib.hid (show w1.heap.size ≤ p0 from hge0)
    have o2 := Lib.hid (show w1.heap.size ≤ g0 ∧ g0 < w4.heap.size from ⟨hF0.ge, hF0.lt⟩)
    have o3 := Lib.hid (show p0 < w4.heap.size from hX0.out.lt)
    have hs := hF0.st
    replace ha := Lib.hid (ha.out.trans hs)
    have o11 := Lib.hid (show W0.heap.size ≤ w4.heap.size from ha.out.size)
    clear hs hF0 hge0 hne0
    obtain ⟨⟨⟨⟨a0, a1, a2⟩, _⟩, _⟩, hg⟩ := HB.out _ ha.out
    replace hg := Lib.hid hg
    go_wp2_with fail
    refine (c_toGrid _ a b xs w4 hg.out hn').mono ?_
    rintro e w5 ⟨gx, rfl, hge, hb, hLx⟩
    have hs5 : Stays w5 (w5.alloc (.cells #[.int .i64 a, .int .i64 b, .slice (some ⟨gx, 0, none⟩) xs.length xs.length] 28)) := by (repeat (first | exact Stays.refl _ | (with_reducible refine Stays.drewN ?_ _) | (with_reducible refine Stays.alloc ?_ _) | (with_reducible refine Stays.drew ?_) | (refine Stays.trans ?_ ‹Stays _ _›)))
    have hs45 := (show Stays w4 w5 from hb).trans hs5
    have o4 := Lib.hid (show w4.heap.size ≤ gx from hge)
    have o5 : Hid (0 < xs.length → gx < w5.heap.size) := Lib.hid (LiesB.lt_ hLx)
    replace ha := Lib.hid (ha.out.trans hs45)
    replace hX0 := Lib.hid (hX0.out.below hs45)
    replace hL0 := Lib.hid (LiesR.below hL0.out hs45)
    have hXx := Lib.hid (BoxG.new w5 a b (some ⟨gx, 0, none⟩) xs.length xs.length 28)
    replace hLx := Lib.hid (LiesR.below hLx hs5)
    have o6 : Hid (w5.heap.size < (w5.alloc (.cells #[.int .i64 a, .int .i64 b, .slice (some ⟨gx, 0, none⟩) xs.length xs.length] 28)).heap.size) := Lib.hid (by simp)
    have o7 : Hid (w4.heap.size ≤ w5.heap.size) := Lib.hid hb.size
    clear hb hge hs5 hs45 hg a0 a1 a2
    go_upto_region 7 with fail
    generalize (w5.alloc (.cells #[.int .i64 a, .int .i64 b, .slice (some ⟨gx, 0, none⟩) xs.length xs.length] 28)) = W5 at ha hX0 hL0 hXx hLx o6 ⊢
    generalize w5.heap.size = px at hXx o5 o6 o7 ⊢
    go_cut [9, 10] from 30 to 35 (fun s8 s9 wx => MadeG W5 ra rb XS code s8 s9 wx)
    case first =>
      have h1 := Lib.hid (Stays.refl W5)
      obtain ⟨t0, t1, t2⟩ := hXx.out.cells
      go_wp2_with (first
          | (go_at_call 20; first | (have hvx := Lib.hid (LiesB.val (a := a) (b := b) (LiesR.below hLx.out h1.out)); (with_reducible refine (kI.out _ _ hvx.out).mono ?_); rintro e w4 ⟨g, A9, c9, rfl, hb, ⟨hge, hgl⟩, hL9⟩; have h4 := Lib.hid (h1.out.trans hb); have hF := Lib.hid (show FreshG W5 w4 g A9 c9 XS from ⟨h4.out, Nat.le_trans (h1.out).size hge, hgl, hL9⟩); (try (have hpg := Lib.hid (show _ ≠ g from Nat.ne_of_lt (Nat.lt_of_lt_of_le hz.out.lt hge)))); (try (replace hz := Lib.hid (hz.out.below hb); obtain ⟨⟨z0, z1, z2⟩, ⟨f0, f1, f2⟩⟩ := hz.out.cells)); clear hb) | (have hvx := Lib.hid (LiesB.val (a := a) (b := b) (LiesR.below hLx.out (h1.out.alloc (.cells #[.int .i64 0, .int .i64 0, .slice none 0 0] 28)))); (with_reducible refine (kI.out _ _ hvx.out).mono ?_); rintro e w4 ⟨g, A9, c9, rfl, hb, ⟨hge, hgl⟩, hL9⟩; have hz := Lib.hid ((ZB.newD W5).below hb); obtain ⟨⟨z0, z1, z2⟩, ⟨f0, f1, f2⟩⟩ := hz.out.cells; have h4 := Lib.hid ((h1.out.alloc _).trans hb); have hF := Lib.hid (show FreshG W5 w4 g A9 c9 XS from ⟨h4.out, Nat.le_trans ((h1.out.alloc _)).size hge, hgl, hL9⟩); (try (have hpg := Lib.hid (show _ ≠ g from Nat.ne_of_lt (Nat.lt_of_lt_of_le (ZB.new (B := W5.heap.size) _ h1.out.size).lt hge)))); clear hb) | ((with_reducible refine (kI.out _ _ hvx.out).mono ?_); rintro e w4 ⟨g, A9, c9, rfl, hb, ⟨hge, hgl⟩, hL9⟩; have hz := Lib.hid (((ZB.new (B := W5.heap.size) _ (Nat.le_refl _)).below (Stays.refl _).drew).below hb); obtain ⟨⟨z0, z1, z2⟩, ⟨f0, f1, f2⟩⟩ := hz.out.cells; have h4 := Lib.hid ((((Stays.refl W5).alloc _).drew).trans hb); have hF := Lib.hid (show FreshG W5 w4 g A9 c9 XS from ⟨h4.out, Nat.le_trans ((((Stays.refl W5).alloc _).drew)).size hge, hgl, hL9⟩); (try (have hpg := Lib.hid (show _ ≠ g from Nat.ne_of_lt (Nat.lt_of_lt_of_le (ZB.new (B := W5.heap.size) _ h1.out.size).lt hge)))); clear hb)))
      go_meet
      exact hF.out.alloc ra rb code _
    case rest =>
    obtain ⟨p1, g1, A1, c1, hmade⟩ := hcut
    obtain ⟨rfl, rfl, hX1, hF1, hge1, hne1⟩ := hmade
    rename World => w6
    replace hX1 := Lib.hid hX1
    have hL1 := Lib.hid hF1.lies
    have o8 := Lib.hid (show W5.heap.size ≤ p1 from hge1)
    have o9 := Lib.hid (show W5.heap.size ≤ g1 ∧ g1 < w6.heap.size from ⟨hF1.ge, hF1.lt⟩)
    have o10 := Lib.hid hne1
    have hl := Lib.hid (show g1 < w6.heap.size from hF1.lt)
    have hs := hF1.st
    replace ha := Lib.hid (ha.out.trans hs)
    replace hX0 := Lib.hid (hX0.out.below hs)
    replace hL0 := Lib.hid (LiesR.below hL0.out hs)
    replace hXx := Lib.hid (hXx.out.below hs)
    replace hLx := Lib.hid (LiesR.below hLx.out hs)
    clear hs hF1 hge1 hne1
    obtain ⟨p00, p01, p02⟩ := hX0.out.cells
    obtain ⟨q0, q1, q2⟩ := hX1.out.cells
    go_wp2_with fail
    refine (c_eqGrid _ _ ra rb XS w6 (LiesB.val hL1.out) (LiesB.val hL0.out) hX.out).mono ?_
    rintro e w7 ⟨rfl, hb⟩
    replace hb : Stays w6 w7 := hb
    replace ha := Lib.hid (ha.out.trans hb)
    replace hX0 := Lib.hid (hX0.out.below hb)
    replace hL0 := Lib.hid (LiesR.below hL0.out hb)
    replace hXx := Lib.hid (hXx.out.below hb)
    replace hLx := Lib.hid (LiesR.below hLx.out hb)
    replace hX1 := Lib.hid (hX1.out.below hb)
    replace hL1 := Lib.hid (LiesR.below hL1.out hb)
    replace hl := Lib.hid (Nat.lt_of_lt_of_le hl.out (hb).size)
    clear hb p00 p01 p02 q0 q1 q2
    obtain ⟨⟨⟨⟨a0, a1, a2⟩, _⟩, _⟩, _⟩ := HB.out _ ha.out
    obtain ⟨x0, x1, x2⟩ := hXx.out.cells
    have G1 : Hid (∀ w', Stays w7 w' → (((w'.cell? ⟨w.heap.size, 0, none⟩ = some (.int .i64 a) ∧ w'.cell? ⟨w.heap.size, 1, none⟩ = some (.int .i64 b) ∧ w'.cell? ⟨w.heap.size, 2, none⟩ = some (.slice A xs.length c)) ∧ (w'.cell? ⟨px, 0, none⟩ = some (.int .i64 a) ∧ w'.cell? ⟨px, 1, none⟩ = some (.int .i64 b) ∧ w'.cell? ⟨px, 2, none⟩ = some (.slice (some ⟨gx, 0, none⟩) xs.length xs.length))) ∧ Hid (Stays w7 w'))) := Lib.hid fun w' h => ⟨⟨(HB.out _ (ha.out.trans h)).1.1.1, (hXx.out.below h).cells⟩, Lib.hid h⟩
    have h5 := Lib.hid (show Stays w7 w7.drew from (Stays.refl w7).drew)
    go_wp2_with fail
    go_region_held (fun w' => (((w'.cell? ⟨w.heap.size, 0, none⟩ = some (.int .i64 a) ∧ w'.cell? ⟨w.heap.size, 1, none⟩ = some (.int .i64 b) ∧ w'.cell? ⟨w.heap.size, 2, none⟩ = some (.slice A xs.length c)) ∧ (w'.cell? ⟨px, 0, none⟩ = some (.int .i64 a) ∧ w'.cell? ⟨px, 1, none⟩ = some (.int .i64 b) ∧ w'.cell? ⟨px, 2, none⟩ = some (.slice (some ⟨gx, 0, none⟩) xs.length xs.length))) ∧ Hid (Stays w7 w'))) (first | exact G1.out _ h5.out | exact G1.out _ h6.out | exact G1.out _ h7.out)
      (first
        | (go_at_call 13; refine (kG.out _ (ha.out.trans h5.out)).mono ?_; rintro e w8 ⟨v3, rfl, hb, hv3⟩; have h6 := Lib.hid (h5.out.trans hb); clear hb; replace hv3 := Lib.hid hv3)
        | (go_at_call 16; refine (c_eqGrid _ v3 a b xs w8 (LiesB.val (LiesR.below hLx.out h6.out)) hv3.out.gdv hn').mono ?_; rintro e w9 ⟨rfl, hb⟩; have h7 := Lib.hid (h6.out.trans hb); clear hb))
    have hb := h7.out
    replace ha := Lib.hid (ha.out.trans hb)
    replace hX0 := Lib.hid (hX0.out.below hb)
    replace hL0 := Lib.hid (LiesR.below hL0.out hb)
    replace hXx := Lib.hid (hXx.out.below hb)
    replace hLx := Lib.hid (LiesR.below hLx.out hb)
    replace hX1 := Lib.hid (hX1.out.below hb)
    replace hL1 := Lib.hid (LiesR.below hL1.out hb)
    replace hl := Lib.hid (Nat.lt_of_lt_of_le hl.out (hb).size)
    clear hb a0 a1 a2 x0 x1 x2 G1 h5 h6 h7 hv3
    obtain ⟨x0, x1, x2⟩ := hXx.out.cells
    go_wp2_with fail
    refine (c_markH (some ⟨gx, 0, none⟩) gx xs.length xs.length a b w9 (LiesB.at_ hLx.out) (LiesB.lt_ hLx.out) (LiesB.there hLx.out) hn').mono ?_
    rintro e w10 ⟨rfl, hm⟩
    have hp1 := Lib.hid hX1.out.lt
    replace ha := Lib.hid (show Stays W0 _ from Below.trans (show Below W0.heap.size W0 _ from ha.out) (hm.below W0.heap.size (fun _ => by have := o4.out; have := o11.out; omega) ha.out.size))
    replace hX0 := Lib.hid (hX0.out.on (hm.same _ (fun _ => by have := o3.out; have := o4.out; omega) hX0.out.lt))
    replace hL0 := Lib.hid (LiesB.markedH hL0.out hm fun _ _ => by have := o2.out; have := o4.out; omega)
    replace hX1 := Lib.hid (hX1.out.on (hm.same _ (fun h => by have := o5.out h; have := o6.out; have := o8.out; omega) hX1.out.lt))
    replace hL1 := Lib.hid (LiesB.markedH hL1.out hm fun _ h => by have := o5.out h; have := o6.out; have := o9.out; omega)
    replace hl := Lib.hid (Nat.lt_of_lt_of_le hl.out (hm.same _ (fun h => by have := o5.out h; have := o6.out; have := o8.out; omega) hp1.out).size)
    clear hm hXx hLx x0 x1 x2 hp1
    have hk0 : ¬ ((1 : Int) + (xs.length : Nat) < 0) := by omega
    generalize (1 : Int) + (xs.length : Nat) = kx at hk0 ⊢
    obtain ⟨p00, p01, p02⟩ := hX0.out.cells
    obtain ⟨q0, q1, q2⟩ := hX1.out.cells
    go_wp2_with fail
    refine (c_eqGrid _ _ ra rb XS w10 (LiesB.val hL1.out) (LiesB.val hL0.out) hX.out).mono ?_
    rintro e w11 ⟨rfl, hb⟩
    replace hb : Stays w10 w11 := hb
    replace ha := Lib.hid (ha.out.trans hb)
    replace hX0 := Lib.hid (hX0.out.below hb)
    replace hL0 := Lib.hid (LiesR.below hL0.out hb)
    replace hX1 := Lib.hid (hX1.out.below hb)
    replace hL1 := Lib.hid (LiesR.below hL1.out hb)
    replace hl := Lib.hid (Nat.lt_of_lt_of_le hl.out (hb).size)
    clear hb p00 p01 p02 q0 q1 q2
    obtain ⟨q0, q1, q2⟩ := hX1.out.cells
    go_wp2_with fail
    refine (c_markH A1 g1 c1 XS.length ra rb w11 (LiesB.at_ hL1.out) (LiesB.lt_ hL1.out) (LiesB.there hL1.out) hX.out).mono ?_
    rintro e w12 ⟨rfl, hm⟩
    have hp1 := Lib.hid hX1.out.lt
    have hA1 := Lib.hid (LiesB.at_ hL1.out)
    replace ha := Lib.hid (show Stays W0 _ from Below.trans (show Below W0.heap.size W0 _ from ha.out) (hm.below W0.heap.size (fun _ => by have := o11.out; have := o7.out; have := o6.out; have := o9.out; omega) ha.out.size))
    replace hX0 := Lib.hid (hX0.out.on (hm.same _ (fun _ => by have := o3.out; have := o7.out; have := o6.out; have := o9.out; omega) hX0.out.lt))
    replace hL0 := Lib.hid (LiesB.markedH hL0.out hm fun _ _ => by have := o2.out; have := o7.out; have := o6.out; have := o9.out; omega)
    replace hX1 := Lib.hid (hX1.out.on (hm.same _ (fun _ => o10.out) hX1.out.lt))
    have hM := Lib.hid hm.cells
    replace hl := Lib.hid (show g1 < w12.heap.size from Nat.lt_of_lt_of_le hl.out (hm.same _ (fun _ => o10.out) hp1.out).size)
    clear hm hL1 q0 q1 q2
    have hk : ¬ ((1 : Int) + (XS.length : Nat) < 0) := by omega
    obtain ⟨q0, q1, q2⟩ := hX1.out.cells
    go_wp2_with fail
    refine (c_heldG A1 g1 c1 XS.length ra rb w12 hA1.out (fun _ => hl.out) hM.out hX.out).mono ?_
    rintro e w13 ⟨rfl, hb⟩
    replace ha := Lib.hid (ha.out.trans hb)
    replace hX0 := Lib.hid (hX0.out.below hb)
    replace hL0 := Lib.hid (LiesR.below hL0.out hb)
    replace hX1 := Lib.hid (hX1.out.below hb)
    replace hM : Hid (∀ j, j < XS.length → w13.cell? ⟨g1, j, none⟩ = some (.int .u8 (IntKind.u8.wrap (1 + (j : Nat))))) := Lib.hid fun j hj => (Below.cell (p := ⟨g1, j, none⟩) hb hl.out).trans (hM.out j hj)
    replace hl := Lib.hid (Nat.lt_of_lt_of_le hl.out hb.size)
    clear hb q0 q1 q2
    generalize hkk : (1 : Int) + (XS.length : Nat) = kk at hk ⊢
    replace hkk := Lib.hid hkk
    go_upto_region 24 with fail
    go_cut [14, 15] from 77 to 83 (fun s8 s9 wx => MadeG w13 ra rb XS code s8 s9 wx)
    case first =>
      have h1 := Lib.hid (Stays.refl w13)
      obtain ⟨⟨⟨⟨t0, t1, t2⟩, _⟩, _⟩, _⟩ := HB.out _ ha.out
      go_wp2_with (first
          | (go_at_call 20; first | ((with_reducible refine (kI'.out v1 _ hv1.out).mono ?_); rintro e w4 ⟨g, A9, c9, rfl, hb, ⟨hge, hgl⟩, hL9⟩; have h4 := Lib.hid (h2.out.trans hb); have hF := Lib.hid (show FreshG w13 w4 g A9 c9 XS from ⟨h4.out, Nat.le_trans (h2.out).size hge, hgl, hL9⟩); (try (have hpg := Lib.hid (show _ ≠ g from Nat.ne_of_lt (Nat.lt_of_lt_of_le hz.out.lt hge)))); (try (replace hz := Lib.hid (hz.out.below hb); obtain ⟨⟨z0, z1, z2⟩, ⟨f0, f1, f2⟩⟩ := hz.out.cells)); clear hb) | ((with_reducible refine (kI'.out v1 _ (hv1.out.al _)).mono ?_); rintro e w4 ⟨g, A9, c9, rfl, hb, ⟨hge, hgl⟩, hL9⟩; have hz := Lib.hid ((ZB.new (B := w13.heap.size) _ h2.out.size).below hb); obtain ⟨⟨z0, z1, z2⟩, ⟨f0, f1, f2⟩⟩ := hz.out.cells; have h4 := Lib.hid ((h2.out.alloc _).trans hb); have hF := Lib.hid (show FreshG w13 w4 g A9 c9 XS from ⟨h4.out, Nat.le_trans ((h2.out.alloc _)).size hge, hgl, hL9⟩); (try (have hpg := Lib.hid (show _ ≠ g from Nat.ne_of_lt (Nat.lt_of_lt_of_le (ZB.new (B := w13.heap.size) _ h2.out.size).lt hge)))); clear hb))
          | (go_at_call 13; first | ((with_reducible refine (kG.out _ (ha.out.trans h1.out)).mono ?_); rintro e w2 ⟨v1, rfl, hb, hv1⟩; have h2 := Lib.hid (h1.out.trans hb); replace hv1 := Lib.hid hv1; (try (replace hz := Lib.hid (hz.out.below hb); skip)); clear hb) | ((with_reducible refine (kG.out _ (ha.out.trans (h1.out.alloc _))).mono ?_); rintro e w2 ⟨v1, rfl, hb, hv1⟩; have hz := Lib.hid ((ZB.newD w13).below hb); skip; have h2 := Lib.hid ((h1.out.alloc _).trans hb); replace hv1 := Lib.hid hv1; clear hb) | ((with_reducible refine (kG.out _ (ha.out.trans ((Stays.refl w13).alloc _).drew)).mono ?_); rintro e w2 ⟨v1, rfl, hb, hv1⟩; have hz := Lib.hid (((ZB.new (B := w13.heap.size) _ (Nat.le_refl _)).below (Stays.refl _).drew).below hb); skip; have h2 := Lib.hid ((((Stays.refl w13).alloc _).drew).trans hb); replace hv1 := Lib.hid hv1; clear hb)))
      go_meet
      exact hF.out.alloc ra rb code _
    case rest =>
    obtain ⟨p2, g2, A2, c2, hmade⟩ := hcut
    obtain ⟨rfl, rfl, hX2, hF2, hge2, hne2⟩ := hmade
    rename World => w14
    replace hX2 := Lib.hid hX2
    have hL2 := Lib.hid hF2.lies
    have hs := hF2.st
    replace ha := Lib.hid (ha.out.trans hs)
    replace hX0 := Lib.hid (hX0.out.below hs)
    replace hL0 := Lib.hid (LiesR.below hL0.out hs)
    replace hX1 := Lib.hid (hX1.out.below hs)
    replace hM : Hid (∀ j, j < XS.length → w14.cell? ⟨g1, j, none⟩ = some (.int .u8 (IntKind.u8.wrap (1 + (j : Nat))))) := Lib.hid fun j hj => (Below.cell (p := ⟨g1, j, none⟩) hs hl.out).trans (hM.out j hj)
    replace hl := Lib.hid (Nat.lt_of_lt_of_le hl.out (hs).size)
    clear hs hF2 hge2 hne2
    obtain ⟨p00, p01, p02⟩ := hX0.out.cells
    obtain ⟨q0, q1, q2⟩ := hX2.out.cells
    go_wp2_with fail
    refine (c_eqGrid _ _ ra rb XS w14 (LiesB.val hL2.out) (LiesB.val hL0.out) hX.out).mono ?_
    rintro e w15 ⟨rfl, hb⟩
    replace hb : Stays w14 w15 := hb
    replace ha := Lib.hid (ha.out.trans hb)
    replace hX1 := Lib.hid (hX1.out.below hb)
    replace hM : Hid (∀ j, j < XS.length → w15.cell? ⟨g1, j, none⟩ = some (.int .u8 (IntKind.u8.wrap (1 + (j : Nat))))) := Lib.hid fun j hj => (Below.cell (p := ⟨g1, j, none⟩) hb hl.out).trans (hM.out j hj)
    replace hl := Lib.hid (Nat.lt_of_lt_of_le hl.out (hb).size)
    clear hb p00 p01 p02 q0 q1 q2 hX0 hX2 hL0 hL2
    obtain ⟨q0, q1, q2⟩ := hX1.out.cells
    go_wp2_with fail
    refine (c_heldG A1 g1 c1 XS.length ra rb w15 hA1.out (fun _ => hl.out) hM.out hX.out).mono ?_
    rintro e w16 ⟨rfl, hb⟩
    rw [hkk.out]
    replace ha := Lib.hid (ha.out.trans hb)
    clear hb
    go_wp2
    go_ret
    exact ⟨rfl, (HB.out _ ha.out).1.2⟩

theorem c_law2GrowWalls {p q : Prop} (v : Value) (a b : Int) (xs : List Int) (d : Int) (w : World) (h : GdV w w.heap.size v a b xs) (hn : xs.length ≤ 9223372036854775807) (_ : p) (_ : q) :
    Calls Try.prog 4 #[v, .int .i64 d] w fun e w' => e = .returned (.bool true) ∧ Below w.heap.size w w' := c_lawGrowWalls v a b d xs w h hn
end Go.Proofs.Yteidjmliepmlmaa
