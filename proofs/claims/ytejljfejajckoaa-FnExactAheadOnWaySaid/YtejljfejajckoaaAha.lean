/- The point that lies ahead on a way, as the document tells it. No condition. -/
import Derived.Test.YtejljfejajckoaaGfB
import Derived.Test.YtejljfejajckoaaFz
import Derived.Test.YtejljfejajckoaaGdF
namespace Go.Proofs.Ytejljfejajckoaa
open Go Go.ChangeShapes Go.WideShapes Go.RowKit
set_option linter.unusedVariables false
set_option linter.unusedSimpArgs false

def gx (r : List NV) : Option Nat := (r.getD 0 (.i 0)).gf
def gy (r : List NV) : Option Nat := (r.getD 1 (.i 0)).gf
def sq4 (px py qx qy : Option Nat) : Option Nat := fop .add .f32 (fop .mul .f32 (fop .sub .f32 qx px) (fop .sub .f32 qx px)) (fop .mul .f32 (fop .sub .f32 qy py) (fop .sub .f32 qy py))
theorem sq4_swap (a b c d : Option Nat) : sq4 a b c d = sq4 c d a b := by
  unfold sq4
  rw [sq_swap c a, sq_swap d b]
theorem sq4_pos (a b c d : Option Nat) : PosW (froot (sq4 a b c d)) := pos_root (pos_add (pos_sq _) (pos_sq _))
set_option maxRecDepth 100000 in
theorem squO_eq (a b c d : Option Nat) : squO [.f a, .f b] [.f c, .f d] = sq4 a b c d := by kernel_rfl

def btw (a b q : Option Nat) : Option Nat := fop .add .f32 a (fop .mul .f32 (fop .sub .f32 b a) q)
def dst (p q : List NV) : Option Nat := froot (sq4 (gx p) (gy p) (gx q) (gy q))
/-- The nearest of the first points. -/
def nearK (ax ay : Option Nat) (xs : List (List NV)) : Nat → Nat
  | 0 => 0
  | k + 1 => if ltO (sq4 ax ay (gx (xs.getD k [])) (gy (xs.getD k []))) (sq4 ax ay (gx (xs.getD (nearK ax ay xs k) [])) (gy (xs.getD (nearK ax ay xs k) []))) then k else nearK ax ay xs k
theorem nearK_lt (ax ay : Option Nat) (xs : List (List NV)) (n : Nat) : ∀ k, k ≤ n → 0 < n → nearK ax ay xs k < n
  | 0, _, h => h
  | k + 1, h, h0 => by
    show (if _ then k else nearK ax ay xs k) < n
    split
    · omega
    · exact nearK_lt ax ay xs n k (by omega) h0
theorem nearK_one (ax ay : Option Nat) (xs : List (List NV)) : nearK ax ay xs 1 = 0 := by
  show (if _ then 0 else 0) = 0
  split <;> rfl
theorem nearK_next {ax ay : Option Nat} {xs : List (List NV)} {k n : Nat} {p q : List NV} (hp : xs[k]? = some p) (hn : nearK ax ay xs k = n) (hq : xs[n]? = some q) : nearK ax ay xs (k + 1) = if ltO (sq4 ax ay (gx p) (gy p)) (sq4 ax ay (gx q) (gy q)) then k else n := by
  show (if ltO (sq4 ax ay (gx (xs.getD k [])) (gy (xs.getD k []))) (sq4 ax ay (gx (xs.getD (nearK ax ay xs k) [])) (gy (xs.getD (nearK ax ay xs k) []))) then k else nearK ax ay xs k) = _
  rw [hn, List.getD_eq_getElem?_getD, List.getD_eq_getElem?_getD, hp, hq]; rfl

/-- From a point on, so far ahead. -/
def aheadL (o : Option Nat) : List (List NV) → List NV
  | [] => []
  | [p] => p
  | p :: q :: l => if isZ (dst p q) then aheadL o (q :: l) else if leO o (dst p q) then [.f (btw (gx p) (gx q) (fop .quo .f32 o (dst p q))), .f (btw (gy p) (gy q) (fop .quo .f32 o (dst p q)))] else aheadL (fop .sub .f32 o (dst p q)) (q :: l)
theorem drop_at {α : Type} {xs : List α} {k : Nat} {p : α} (h : xs[k]? = some p) : xs.drop k = p :: xs.drop (k + 1) := by
  obtain ⟨hk, rfl⟩ := List.getElem?_eq_some_iff.1 h
  exact List.drop_eq_getElem_cons hk
theorem ahead_next {o : Option Nat} {xs : List (List NV)} {k : Nat} {p q : List NV} (hp : xs[k]? = some p) (hq : xs[k + 1]? = some q) : aheadL o (xs.drop k) = if isZ (dst p q) then aheadL o (xs.drop (k + 1)) else if leO o (dst p q) then [.f (btw (gx p) (gx q) (fop .quo .f32 o (dst p q))), .f (btw (gy p) (gy q) (fop .quo .f32 o (dst p q)))] else aheadL (fop .sub .f32 o (dst p q)) (xs.drop (k + 1)) := by
  rw [drop_at hp, drop_at hq]
  rfl
theorem ahead_last {o : Option Nat} {xs : List (List NV)} {k : Nat} {p : List NV} (hp : xs[k]? = some p) (hk : xs.length = k + 1) : aheadL o (xs.drop k) = p := by
  rw [drop_at hp, List.drop_eq_nil_of_le (by omega)]
  rfl
noncomputable def aheadX (ax ay o : Option Nat) (xs : List (List NV)) : List NV := aheadL o (xs.drop (nearK ax ay xs xs.length))

/-! ### Calls in regions that draw -/

def sqC (F : FuncId) (f : FuncId) (args : Array Value) (v : Value) : Prop := f = F → ∀ a b c d, args = #[.agg #[.float .f32 a, .float .f32 b], .agg #[.float .f32 c, .float .f32 d]] → ∃ x, v = .float .f32 x ∧ FIs .f32 x (sq4 (can .f32 a) (can .f32 b) (can .f32 c) (can .f32 d))
theorem sqC_iff {F : FuncId} {a b c d : Nat} {v : Value} : sqC F F #[.agg #[.float .f32 a, .float .f32 b], .agg #[.float .f32 c, .float .f32 d]] v ↔ ∃ x, v = .float .f32 x ∧ FIs .f32 x (sq4 (can .f32 a) (can .f32 b) (can .f32 c) (can .f32 d)) :=
  ⟨fun h => h rfl _ _ _ _ rfl, fun h _ a' b' c' d' e => by cases e; exact h⟩
def sqrC (F G : FuncId) (f : FuncId) (args : Array Value) (v : Value) : Prop := sqC F f args v ∧ (f = G → ∀ y, args = #[.float .f32 y] → ∃ x, v = .float .f32 x ∧ FIs .f32 x (froot (can .f32 y)))
theorem sqrC_1 {F G : FuncId} (hne : F ≠ G) {a b c d : Nat} {v : Value} : sqrC F G F #[.agg #[.float .f32 a, .float .f32 b], .agg #[.float .f32 c, .float .f32 d]] v ↔ ∃ x, v = .float .f32 x ∧ FIs .f32 x (sq4 (can .f32 a) (can .f32 b) (can .f32 c) (can .f32 d)) :=
  ⟨fun h => sqC_iff.1 h.1, fun h => ⟨sqC_iff.2 h, fun e => absurd e hne⟩⟩
theorem sqrC_2 {F G : FuncId} (hne : F ≠ G) {y : Nat} {v : Value} : sqrC F G G #[.float .f32 y] v ↔ ∃ x, v = .float .f32 x ∧ FIs .f32 x (froot (can .f32 y)) :=
  ⟨fun h => h.2 rfl y rfl, fun h => ⟨fun e => absurd e.symm hne, fun _ z e => by cases e; exact h⟩⟩
def btC (F : FuncId) (f : FuncId) (args : Array Value) (v : Value) : Prop := f = F → ∀ a b q, args = #[.float .f32 a, .float .f32 b, .float .f32 q] → ∃ x, v = .float .f32 x ∧ FIs .f32 x (btw (can .f32 a) (can .f32 b) (can .f32 q))
theorem btC_iff {F : FuncId} {a b q : Nat} {v : Value} : btC F F #[.float .f32 a, .float .f32 b, .float .f32 q] v ↔ ∃ x, v = .float .f32 x ∧ FIs .f32 x (btw (can .f32 a) (can .f32 b) (can .f32 q)) :=
  ⟨fun h => h rfl _ _ _ rfl, fun h _ a' b' q' e => by cases e; exact h⟩

theorem c_sqE (a b c d : Nat) (ha : a < 2 ^ 32) (hb : b < 2 ^ 32) (hc : c < 2 ^ 32) (hd : d < 2 ^ 32) (w : World) :
    Calls Try.prog 133 #[.agg #[.float .f32 a, .float .f32 b], .agg #[.float .f32 c, .float .f32 d]] w fun e w' => ∃ v, e = .returned v ∧ (∃ x, v = .float .f32 x ∧ FIs .f32 x (sq4 (can .f32 a) (can .f32 b) (can .f32 c) (can .f32 d))) ∧ Stays w w' := by
  have := c_l07Square (.agg #[.float .f32 a, .float .f32 b]) (.agg #[.float .f32 c, .float .f32 d]) [.f (can .f32 a), .f (can .f32 b)] [.f (can .f32 c), .f (can .f32 d)] ⟨_, rfl, ⟨a, rfl, FIs.self ha⟩, ⟨b, rfl, FIs.self hb⟩, trivial⟩ ⟨_, rfl, ⟨c, rfl, FIs.self hc⟩, ⟨d, rfl, FIs.self hd⟩, trivial⟩ w
  rw [squO_eq] at this
  exact this
theorem c_sqI (a b c d : Nat) (ha : a < 2 ^ 32) (hb : b < 2 ^ 32) (hc : c < 2 ^ 32) (hd : d < 2 ^ 32) (w : World) :
    Calls Try.prog 78 #[.agg #[.float .f32 a, .float .f32 b], .agg #[.float .f32 c, .float .f32 d]] w fun e w' => ∃ v, e = .returned v ∧ (∃ x, v = .float .f32 x ∧ FIs .f32 x (sq4 (can .f32 a) (can .f32 b) (can .f32 c) (can .f32 d))) ∧ Stays w w' := by
  have := c_squareBetween (.agg #[.float .f32 a, .float .f32 b]) (.agg #[.float .f32 c, .float .f32 d]) [.f (can .f32 a), .f (can .f32 b)] [.f (can .f32 c), .f (can .f32 d)] ⟨_, rfl, ⟨a, rfl, FIs.self ha⟩, ⟨b, rfl, FIs.self hb⟩, trivial⟩ ⟨_, rfl, ⟨c, rfl, FIs.self hc⟩, ⟨d, rfl, FIs.self hd⟩, trivial⟩ w
  rw [squO_eq] at this
  exact this

theorem lt_of (r q : Nat) : (FloatKind.f32.format.order r q == some Ordering.lt) = ltO (can .f32 r) (can .f32 q) := by rw [order_can]; rfl
theorem le_of (r q : Nat) : (FloatKind.f32.format.order r q == some Ordering.lt || FloatKind.f32.format.order r q == some Ordering.eq) = leO (can .f32 r) (can .f32 q) := by rw [order_can]; rfl
theorem z_of (q : Nat) : (FloatKind.f32.format.order q 0 == some Ordering.eq) = isZ (can .f32 q) := by rw [order_can]; rfl
theorem gz_of (q : Nat) : (FloatKind.f32.format.order q 0 == some Ordering.gt) = gtZ (can .f32 q) := by rw [order_can]; rfl

/-- A point, its words in memory. -/
structure PtAt (W : World) (ad : Addr) (r : List NV) (x y : Nat) : Prop where
  h0 : ∀ W', Stays W W' → W'.cell? ad = some (.float .f32 x)
  h1 : ∀ W', Stays W W' → W'.cell? ⟨ad.block, ad.off + 1, none⟩ = some (.float .f32 y)
  fx : FIs .f32 x (gx r)
  fy : FIs .f32 y (gy r)
theorem pt_at {B : Nat} {W : World} {ad : Addr} {xs : List (List NV)} {k : Nat} {r : List NV} (hB : B ≤ W.heap.size) (h : Ls KPt 2 W B (some ad) xs) (hk : xs[k]? = some r) : ∃ x y, PtAt W (ad.add (k * 2)) r x y := by
  obtain ⟨ad', e, hbl, hrow⟩ := h k r hk
  cases e
  obtain ⟨c0, c1, hK, g0, g1⟩ := row2 rfl hrow
  obtain ⟨x, y, e, hx, hy⟩ := pt_cells hK
  cases e
  have hb : (ad.add (k * 2)).block < W.heap.size := by rw [block_add]; omega
  exact ⟨x, y, fun W' hW => (hW.cell (p := ad.add (k * 2)) hb).trans g0, fun W' hW => (hW.cell (p := ⟨(ad.add (k * 2)).block, (ad.add (k * 2)).off + 1, none⟩) hb).trans g1, hx, hy⟩

/-! ### The document's side -/

def PtIs (w : World) (r : List NV) (e : Ending) (w' : World) : Prop := ∃ x y, e = .returned (.agg #[.float .f32 x, .float .f32 y]) ∧ FIs .f32 x (gx r) ∧ FIs .f32 y (gy r) ∧ Stays w w'

set_option maxRecDepth 100000 in
set_option maxHeartbeats 2000000 in
theorem c_l07Ahead (A : Option Addr) (c : Nat) (xs : List (List NV)) (ax ay o0 : Nat) (w : World) (h : Ls KPt 2 w w.heap.size A xs) (hn : xs.length ≤ 1048576) (hpos : 1 ≤ xs.length) (hax : ax < 2 ^ 32) (hay : ay < 2 ^ 32) (ho : o0 < 2 ^ 32) :
    Calls Try.prog 73 #[.slice A xs.length c, .agg #[.float .f32 ax, .float .f32 ay], .float .f32 o0] w (PtIs w (aheadX (can .f32 ax) (can .f32 ay) (can .f32 o0) xs)) := by
  obtain ⟨ad, rfl, hbl0, _⟩ := h 0 xs[0] (List.getElem?_eq_getElem (by omega))
  have hst : Stays w ((w.alloc (.cells #[.float .f32 ax, .float .f32 ay] 26)).alloc (.cells #[.float .f32 0, .float .f32 0] 26)) := by (repeat (first | exact Stays.refl _ | (with_reducible refine Stays.drewN ?_ _) | (with_reducible refine Stays.alloc ?_ _) | (with_reducible refine Stays.drew ?_) | (refine Stays.trans ?_ ‹Stays _ _›)))
  have u0 : ((w.alloc (.cells #[.float .f32 ax, .float .f32 ay] 26)).alloc (.cells #[.float .f32 0, .float .f32 0] 26)).heap[w.heap.size]? = some (.cells #[.float .f32 ax, .float .f32 ay] 26 (0, 0)) := by (repeat (first | (refine heap_top _ _ _ ?_; simp; done) | (with_reducible refine heap_drawn _ _ _ ?_) | (with_reducible refine heap_under _ _ _ ?_ ?_; (simp <;> omega))))
  have u1 : ((w.alloc (.cells #[.float .f32 ax, .float .f32 ay] 26)).alloc (.cells #[.float .f32 0, .float .f32 0] 26)).heap[w.heap.size + 1]? = some (.cells #[.float .f32 0, .float .f32 0] 26 (0, 0)) := by (repeat (first | (refine heap_top _ _ _ ?_; simp; done) | (with_reducible refine heap_drawn _ _ _ ?_) | (with_reducible refine heap_under _ _ _ ?_ ?_; (simp <;> omega))))
  have HW : Hid (∀ W, Stays ((w.alloc (.cells #[.float .f32 ax, .float .f32 ay] 26)).alloc (.cells #[.float .f32 0, .float .f32 0] 26)) W → (W.cell? ⟨w.heap.size, 0, none⟩ = some (.float .f32 ax) ∧ W.cell? ⟨w.heap.size, 1, none⟩ = some (.float .f32 ay)) ∧ Stays w W ∧ W.heap[w.heap.size + 1]? = some (.cells #[.float .f32 0, .float .f32 0] 26 (0, 0))) := Lib.hid fun W hW => ⟨⟨row_of hW u0 0, row_of hW u0 1⟩, hst.trans hW, (Below.block hW _ (in_heap u1)).trans u1⟩
  have H : Hid (∀ W, Stays ((w.alloc (.cells #[.float .f32 ax, .float .f32 ay] 26)).alloc (.cells #[.float .f32 0, .float .f32 0] 26)) W → ∀ k r, xs[k]? = some r → ∃ x y, PtAt W (ad.add (k * 2)) r x y) := Lib.hid fun W hW k r hk => pt_at (Nat.le_trans hst.size hW.size) (h.below (hst.trans hW)) hk
  have kS := Lib.hid fun a b c d ha hb hc hd W => c_sqE a b c d ha hb hc hd W
  generalize hcx : can .f32 ax = cx
  generalize hcy : can .f32 ay = cy
  generalize hres : aheadX cx cy (can .f32 o0) xs = res
  have hlim := nearK_lt cx cy xs xs.length
  replace hres := Lib.hid hres
  replace hcx := Lib.hid hcx
  replace hcy := Lib.hid hcy
  replace hlim := Lib.hid hlim
  clear u0 u1 h hst hbl0
  go_enter Try.func73, Try.ntmps73
  go_wp2
  generalize ((w.alloc (.cells #[.float .f32 ax, .float .f32 ay] 26)).alloc (.cells #[.float .f32 0, .float .f32 0] 26)) = W0 at HW H ⊢
  go_loopw [7, 8] (fun bv iv wr => ∃ (k n : Nat), 1 ≤ k ∧ k ≤ xs.length ∧ iv = .int .i64 k ∧ bv = .int .i64 n ∧ Hid (nearK cx cy xs k = n) ∧ Hid (Stays W0 wr)) (fun _ iv _ => xs.length - (intOf iv).toNat)
  case atStart => exact ⟨1, 0, Nat.le_refl _, hpos, rfl, rfl, Lib.hid (nearK_one _ _ _), Lib.hid (Stays.refl _)⟩
  case round =>
    obtain ⟨k, n, hk1, hk, rfl, rfl, hnr, hb⟩ := hrel
    have hnl : n < xs.length := by have := hlim.out k hk hpos; rw [hnr.out] at this; exact this
    by_cases hlt : k < xs.length
    · have hlt' : (k : Int) < (xs.length : Int) := by omega
      have hnl' : (n : Int) < (xs.length : Int) := by omega
      have hk9 : IntKind.i64.wrap ((k : Int) + 1) = (k : Int) + 1 := IntWalk.i64_in _ (by omega)
      have nx := nearK_next (List.getElem?_eq_getElem hlt) hnr.out (List.getElem?_eq_getElem hnl)
      obtain ⟨px, py, hp⟩ := H.out wr hb.out k xs[k] (List.getElem?_eq_getElem hlt)
      obtain ⟨qx, qy, hq⟩ := H.out wr hb.out n xs[n] (List.getElem?_eq_getElem hnl)
      generalize xs[k] = p at hp nx
      generalize xs[n] = q at hq nx
      rw [← hp.fx.out, ← hp.fy.out, ← hq.fx.out, ← hq.fy.out, ← hcx.out, ← hcy.out] at nx
      have hcells : ∀ W, Stays wr W → (W.cell? ⟨w.heap.size, 0, none⟩ = some (.float .f32 ax) ∧ W.cell? ⟨w.heap.size, 1, none⟩ = some (.float .f32 ay)) ∧ (W.cell? (ad.add (k * 2)) = some (.float .f32 px) ∧ W.cell? ⟨(ad.add (k * 2)).block, (ad.add (k * 2)).off + 1, none⟩ = some (.float .f32 py)) ∧ (W.cell? (ad.add (n * 2)) = some (.float .f32 qx) ∧ W.cell? ⟨(ad.add (n * 2)).block, (ad.add (n * 2)).off + 1, none⟩ = some (.float .f32 qy)) := fun W hW => ⟨(HW.out W (hb.out.trans hW)).1, ⟨hp.h0 W hW, hp.h1 W hW⟩, ⟨hq.h0 W hW, hq.h1 W hW⟩⟩
      have kP := kS.out ax ay px py hax hay hp.fx.lt hp.fy.lt
      have kQ := kS.out ax ay qx qy hax hay hq.fx.lt hq.fy.lt
      replace kP := Lib.hid kP
      replace kQ := Lib.hid kQ
      replace nx := Lib.hid nx
      clear hp hq hnr
      go_wp2_with fail
      refine wp_region_soft_tail 12 (Stays.refl _) (sqC 133) [] (by kernel_rfl) (by kernel_rfl) (fun _ h => by cases h) ?_
      simp only [List.take_succ_cons, List.take_zero, List.drop_succ_cons, List.drop_zero]
      repeat ((with_reducible apply soft_detG); (case hwa => rfl); (case hA => rfl); (case h => (intro w1 hw1; have hc := hcells w1 hw1; go_simp; exact rfl)); go_simp)
      refine soft_callW (by rfl) rfl ?h (fun w2 _ => kP.out w2) (fun v hv => sqC_iff.2 hv) (fun v hv => sqC_iff.1 hv) ?_
      case h => (intro w1 hw1; have hc := hcells w1 hw1; go_simp; try exact ⟨rfl, rfl⟩)
      rintro v ⟨y, rfl, hy⟩
      go_simp
      repeat ((with_reducible apply soft_detG); (case hwa => rfl); (case hA => rfl); (case h => (intro w1 hw1; have hc := hcells w1 hw1; go_simp; exact rfl)); go_simp)
      refine soft_callW (by rfl) rfl ?h (fun w2 _ => kQ.out w2) (fun v hv => sqC_iff.2 hv) (fun v hv => sqC_iff.1 hv) ?_
      case h => (intro w1 hw1; have hc := hcells w1 hw1; go_simp; try exact ⟨rfl, rfl⟩)
      rintro v ⟨z, rfl, hz⟩
      go_simp
      repeat ((with_reducible apply soft_detG); (case hwa => rfl); (case hA => rfl); (case h => (intro w1 hw1; have hc := hcells w1 hw1; go_simp; exact rfl)); go_simp)
      refine soft_nil ?_
      rintro w2 ⟨hw2, _⟩
      have nx' := nx.out
      rw [← hy.out, ← hz.out, ← lt_of, hcx.out, hcy.out] at nx'
      replace hw2 := Lib.hid (hb.out.trans hw2)
      clear hcells nx
      cases hvl : (FloatKind.f32.format.order y z == some Ordering.lt) with
      | false =>
        rw [hvl, if_neg (by decide)] at nx'
        have nx := Lib.hid nx'
        clear nx' hy hz
        go_wp2
        go_roundw
        case rel => exact ⟨k + 1, n, by omega, by omega, by go_num, rfl, nx, hw2⟩
        case measure => simp [intOf]; omega
      | true =>
        rw [hvl, if_pos rfl] at nx'
        have nx := Lib.hid nx'
        clear nx' hy hz
        go_wp2
        go_roundw
        case rel => exact ⟨k + 1, k, by omega, by omega, by go_num, rfl, nx, hw2⟩
        case measure => simp [intOf]; omega
    · have ek : k = xs.length := by omega
      subst ek
      have hr2 := hres.out
      unfold aheadX at hr2
      rw [hnr.out] at hr2
      replace hr2 := Lib.hid hr2
      have hfo := Lib.hid (FIs.self (k := .f32) ho)
      clear hlt hnr hlim hres hk1 hk
      go_wp2
      go_loopw [2, 9] (fun ov iv wr => ∃ (k x : Nat) (o : Option Nat), k + 1 ≤ xs.length ∧ iv = .int .i64 k ∧ ov = .float .f32 x ∧ Hid (FIs .f32 x o) ∧ Hid (aheadL o (xs.drop k) = res) ∧ Hid (Stays W0 wr)) (fun _ iv _ => xs.length - (intOf iv).toNat)
      case atStart => exact ⟨n, o0, _, hnl, rfl, rfl, hfo, hr2, hb⟩
      case round =>
        obtain ⟨k, x, o, hk, rfl, rfl, hx, hrs, hb2⟩ := hrel
        by_cases hlt : k + 1 < xs.length
        · have hlt' : (k : Int) + 1 < (xs.length : Int) := by omega
          have hlt0 : (k : Int) < (xs.length : Int) := by omega
          have hk9 : IntKind.i64.wrap ((k : Int) + 1) = (k : Int) + 1 := IntWalk.i64_in _ (by omega)
          have hk8 : ((k : Int) + 1).toNat = k + 1 := by omega
          have nx := ahead_next (o := o) (List.getElem?_eq_getElem (show k < xs.length by omega)) (List.getElem?_eq_getElem hlt)
          rw [hrs.out] at nx
          obtain ⟨px, py, hp⟩ := H.out wr hb2.out k (xs[k]'(by omega)) (List.getElem?_eq_getElem (by omega))
          obtain ⟨qx, qy, hq⟩ := H.out wr hb2.out (k + 1) xs[k + 1] (List.getElem?_eq_getElem hlt)
          generalize xs[k]'(by omega) = p at hp nx
          generalize xs[k + 1] = q at hq nx
          have hd : dst p q = froot (sq4 (can .f32 px) (can .f32 py) (can .f32 qx) (can .f32 qy)) := by
            unfold dst
            rw [hp.fx.out, hp.fy.out, hq.fx.out, hq.fy.out]
          rw [hd, ← hp.fx.out, ← hp.fy.out, ← hq.fx.out, ← hq.fy.out] at nx
          have hcells : ∀ W, Stays wr W → (W.cell? (ad.add (k * 2)) = some (.float .f32 px) ∧ W.cell? ⟨(ad.add (k * 2)).block, (ad.add (k * 2)).off + 1, none⟩ = some (.float .f32 py)) ∧ (W.cell? (ad.add ((k + 1) * 2)) = some (.float .f32 qx) ∧ W.cell? ⟨(ad.add ((k + 1) * 2)).block, (ad.add ((k + 1) * 2)).off + 1, none⟩ = some (.float .f32 qy)) := fun W hW => ⟨⟨hp.h0 W hW, hp.h1 W hW⟩, ⟨hq.h0 W hW, hq.h1 W hW⟩⟩
          have kP := kS.out px py qx qy hp.fx.lt hp.fy.lt hq.fx.lt hq.fy.lt
          replace kP := Lib.hid kP
          replace nx := Lib.hid nx
          have hcl := Lib.hid hcells
          clear hp hq hd
          go_wp2_with fail
          refine wp_region_soft_tail 11 (Stays.refl _) (sqrC 133 134) [] (by kernel_rfl) (by kernel_rfl) (fun _ h => by cases h) ?_
          simp only [List.take_succ_cons, List.take_zero, List.drop_succ_cons, List.drop_zero]
          repeat ((with_reducible apply soft_detG); (case hwa => rfl); (case hA => rfl); (case h => (intro w1 hw1; have hc := hcells w1 hw1; go_simp; exact rfl)); go_simp)
          refine soft_callW (by rfl) rfl ?h (fun w2 _ => kP.out w2) (fun v hv => (sqrC_1 (by decide)).2 hv) (fun v hv => (sqrC_1 (by decide)).1 hv) ?_
          case h => (intro w1 hw1; have hc := hcells w1 hw1; go_simp; try exact ⟨rfl, rfl⟩)
          rintro v ⟨y, rfl, hy⟩
          go_simp
          repeat ((with_reducible apply soft_detG); (case hwa => rfl); (case hA => rfl); (case h => (intro w1 hw1; have hc := hcells w1 hw1; go_simp; exact rfl)); go_simp)
          refine soft_callW (by rfl) rfl ?h (fun w2 _ => c_l01RootO y _ (FIs.self hy.lt) w2) (fun v hv => (sqrC_2 (by decide)).2 hv) (fun v hv => (sqrC_2 (by decide)).1 hv) ?_
          case h => (intro w1 hw1; go_simp; try exact ⟨rfl, rfl⟩)
          rintro v ⟨z, rfl, hz⟩
          go_simp
          repeat ((with_reducible apply soft_detG); (case hwa => rfl); (case hA => rfl); (case h => (intro w1 hw1; have hc := hcells w1 hw1; go_simp; exact rfl)); go_simp)
          refine soft_nil ?_
          rintro w2 ⟨hw2, _⟩
          have nx' := nx.out
          have hz' := Lib.hid hz
          rw [← hy.out, ← hz.out] at nx'
          clear hcells nx
          have hcells2 := Lib.hid fun W (hW : Stays w2 W) => hcl.out W (hw2.trans hW)
          replace hw2 := Lib.hid (hb2.out.trans hw2)
          clear hcl
          cases hvz : (FloatKind.f32.format.order z 0 == some Ordering.eq) with
          | true =>
            rw [← z_of, hvz, if_pos rfl] at nx'
            have nx := Lib.hid nx'.symm
            clear nx' hy hz hcells2
            go_wp2
            go_roundw
            case rel => exact ⟨k + 1, x, o, by omega, by go_num, rfl, hx, nx, hw2⟩
            case measure => simp [intOf]; omega
          | false =>
            rw [← z_of, hvz, if_neg (by decide), ← hx.out.out, ← le_of] at nx'
            cases hvl : (FloatKind.f32.format.order x z == some Ordering.lt || FloatKind.f32.format.order x z == some Ordering.eq) with
            | false =>
              rw [hvl, if_neg (by decide)] at nx'
              have nx := Lib.hid nx'.symm
              clear nx' hy hz hcells2
              go_wp2_with ((with_reducible refine wpList_fop rfl _ _ _ _ _ rfl rfl _ _ _ rfl rfl ?_); intro r n hr)
              have hr' := Lib.hid hr
              clear hr
              go_roundw
              case rel => exact ⟨k + 1, r, _, by omega, by go_num, rfl, hr', nx, Lib.hid (hw2.out.drewN _)⟩
              case measure => simp [intOf]; omega
            | true =>
              rw [hvl, if_pos rfl] at nx'
              have nx := Lib.hid nx'
              clear nx' hy hz
              go_wp2_with ((with_reducible refine wpList_fop rfl _ _ _ _ _ rfl rfl _ _ _ rfl rfl ?_); intro r n hr)
              have hq' := Lib.hid hr
              clear hr
              have hw2d := Lib.hid (hw2.out.drewN n)
              have hcl := Lib.hid fun W (hW : Stays (w2.drewN n) W) => hcells2.out W (((Stays.refl w2).drewN n).trans hW)
              clear hcells2 hw2
              generalize (w2.drewN n) = w3 at hw2d hcl ⊢
              have hcells := hcl.out
              refine wp_region_soft_tail 20 (Stays.refl _) (fun _ _ _ => False) [] (by kernel_rfl) (by kernel_rfl) (fun _ h => by cases h) ?_
              simp only [List.take_succ_cons, List.take_zero, List.drop_succ_cons, List.drop_zero]
              repeat ((with_reducible apply soft_detG); (case hwa => rfl); (case hA => rfl); (case h => (intro w1 hw1; have hc := hcells w1 hw1; go_simp; exact rfl)); go_simp)
              ((with_reducible refine soft_fop rfl ?hA _ _ _ _ _ rfl rfl _ _ _ rfl rfl ?_); (case hA => rfl); intro r1 hr1; go_simp)
              repeat ((with_reducible apply soft_detG); (case hwa => rfl); (case hA => rfl); (case h => (intro w1 hw1; have hc := hcells w1 hw1; go_simp; exact rfl)); go_simp)
              ((with_reducible refine soft_fop rfl ?hA _ _ _ _ _ rfl rfl _ _ _ rfl rfl ?_); (case hA => rfl); intro r2 hr2; go_simp)
              repeat ((with_reducible apply soft_detG); (case hwa => rfl); (case hA => rfl); (case h => (intro w1 hw1; have hc := hcells w1 hw1; go_simp; exact rfl)); go_simp)
              ((with_reducible refine soft_fop rfl ?hA _ _ _ _ _ rfl rfl _ _ _ rfl rfl ?_); (case hA => rfl); intro r3 hr3; go_simp)
              repeat ((with_reducible apply soft_detG); (case hwa => rfl); (case hA => rfl); (case h => (intro w1 hw1; have hc := hcells w1 hw1; go_simp; exact rfl)); go_simp)
              refine soft_nil ?_
              rintro w4 ⟨hw4, _⟩
              have hX := Lib.hid (show FIs .f32 r3 (gx res) from hr3.of_eq (by rw [nx.out]; show _ = btw _ _ _; unfold btw; rw [hr2.out, hr1.out, hq'.out.out]))
              clear hr1 hr2 hr3 hcells
              have hcells := fun W (hW : Stays w4 W) => hcl.out W (hw4.trans hW)
              replace hw4 := Lib.hid (hw2d.out.trans hw4)
              clear hcl
              go_wp2_with fail
              refine wp_region_soft_tail 20 (Stays.refl _) (fun _ _ _ => False) [] (by kernel_rfl) (by kernel_rfl) (fun _ h => by cases h) ?_
              simp only [List.take_succ_cons, List.take_zero, List.drop_succ_cons, List.drop_zero]
              repeat ((with_reducible apply soft_detG); (case hwa => rfl); (case hA => rfl); (case h => (intro w1 hw1; have hc := hcells w1 hw1; go_simp; exact rfl)); go_simp)
              ((with_reducible refine soft_fop rfl ?hA _ _ _ _ _ rfl rfl _ _ _ rfl rfl ?_); (case hA => rfl); intro r4 hr4; go_simp)
              repeat ((with_reducible apply soft_detG); (case hwa => rfl); (case hA => rfl); (case h => (intro w1 hw1; have hc := hcells w1 hw1; go_simp; exact rfl)); go_simp)
              ((with_reducible refine soft_fop rfl ?hA _ _ _ _ _ rfl rfl _ _ _ rfl rfl ?_); (case hA => rfl); intro r5 hr5; go_simp)
              repeat ((with_reducible apply soft_detG); (case hwa => rfl); (case hA => rfl); (case h => (intro w1 hw1; have hc := hcells w1 hw1; go_simp; exact rfl)); go_simp)
              ((with_reducible refine soft_fop rfl ?hA _ _ _ _ _ rfl rfl _ _ _ rfl rfl ?_); (case hA => rfl); intro r6 hr6; go_simp)
              repeat ((with_reducible apply soft_detG); (case hwa => rfl); (case hA => rfl); (case h => (intro w1 hw1; have hc := hcells w1 hw1; go_simp; exact rfl)); go_simp)
              refine soft_nil ?_
              rintro w5 ⟨hw5, _⟩
              have hY := Lib.hid (show FIs .f32 r6 (gy res) from hr6.of_eq (by rw [nx.out]; show _ = btw _ _ _; unfold btw; rw [hr5.out, hr4.out, hq'.out.out]))
              clear hr4 hr5 hr6 hcells
              obtain ⟨_, hst, hres⟩ := HW.out w5 (hw4.out.trans hw5)
              clear hw5
              go_wp2_with ((refine wpList_store_row rfl _ _ _ rfl _ _ _ rfl rfl hres ?hi ?ho ?h1 ?hB hst ?_); (case hi => kernel_rfl); (case ho => rfl); (case h1 => first | rfl | simp [Value.oneCell']); (case hB => first | omega | (simp <;> omega)); intro w2 hw2 hq2 _ _)
              apply end_agg rfl rfl rfl Try.underlying26 rfl (t := 26)
              case hg => exact hq2
              case hi => kernel_rfl
              case hR => exact ⟨_, _, rfl, hX.out, hY.out, hw2⟩
        · have ek : xs.length = k + 1 := by omega
          have ek' : (k : Int) + 1 = (xs.length : Int) := by omega
          have hlt0 : (k : Int) < (xs.length : Int) := by omega
          have hlt1 : ¬ (k : Int) + 1 < (xs.length : Int) := by omega
          have hk9 : IntKind.i64.wrap ((k : Int) + 1) = (k : Int) + 1 := IntWalk.i64_in _ (by omega)
          have hk8 : IntKind.i64.wrap ((xs.length : Int) - 1) = (k : Int) := by rw [IntWalk.i64_in _ (by omega)]; omega
          have nx := ahead_last (o := o) (List.getElem?_eq_getElem (show k < xs.length by omega)) ek
          rw [hrs.out] at nx
          obtain ⟨px, py, hp⟩ := H.out wr hb2.out k (xs[k]'(by omega)) (List.getElem?_eq_getElem (by omega))
          rw [← nx] at hp
          have hX := Lib.hid hp.fx
          have hY := Lib.hid hp.fy
          have p0 := hp.h0 wr (Stays.refl _)
          have p1 := hp.h1 wr (Stays.refl _)
          obtain ⟨_, hst, hres⟩ := HW.out wr hb2.out
          replace ek := Lib.hid ek
          clear nx hp ek'
          go_wp2_with ((refine wpList_store_row rfl _ _ _ rfl _ _ _ rfl rfl hres ?hi ?ho ?h1 ?hB hst ?_); (case hi => kernel_rfl); (case ho => rfl); (case h1 => first | rfl | simp [Value.oneCell']); (case hB => first | omega | (simp <;> omega)); intro w2 hw2 hq2 _ _)
          apply end_agg rfl rfl rfl Try.underlying26 rfl (t := 26)
          case hg => exact hq2
          case hi => kernel_rfl
          case hR => exact ⟨_, _, rfl, hX.out, hY.out, hw2⟩
end Go.Proofs.Ytejljfejajckoaa
