/- Graphs: what links cost, on both sides. Graphs: CostOf on both sides, and its law. No condition. -/
import Derived.Test.YtfjchhfoefgldaaGrD
import Derived.Test.YtfjchhfoefgldaaODot
namespace Go.Proofs.Ytfjchhfoefgldaa
open Go Go.RowKit
set_option linter.unusedVariables false
set_option linter.unusedSimpArgs false

noncomputable def dotO (p q : List NV) : Option Nat := (oDot.Φ (17 * 64 + 0) (canK KPose p ++ canK KPose q)).gf
noncomputable def sqOf (ps : List (List NV)) (r : List NV) : Option Nat := fop .mul .f32 (r.getD 5 (.i 0)).gf (dotO (offOf ps r) (offOf ps r))
noncomputable def costTo (ps ls : List (List NV)) : Nat → Option Nat
  | 0 => can .f32 0
  | k + 1 => fop .add .f32 (costTo ps ls k) (sqOf ps (ls.getD k []))

theorem calls_row2F {P : Program} {Φ : Syms} {e : Opq} {K : List Kd} (h : OpqOK P Φ e) (h0 : e.ext = 0) (h1 : e.same = false) (ha : e.args = [.agg K, .agg K]) (hr : e.res = .p (.one (.f .f32))) (u1 u2 : Value) (p q : List NV) (w : World) (hp : ShM (.agg K) u1 p) (hq : ShM (.agg K) u2 q) :
    Calls P e.f #[u1, u2] w fun en w' => ∃ v, en = .returned v ∧ (∃ x, v = .float .f32 x ∧ FIs .f32 x (Φ (e.sym * 64 + 0) (canK K p ++ canK K q)).gf) ∧ Stays w w' := by
  have := opq_symR h h0 h1 #[u1, u2] (canK K p ++ canK K q) w (by rw [ha]; exact ⟨_, _, rfl, (ShM_can hp).1, _, [], by simp, (ShM_can hq).1, rfl⟩)
  refine this.mono ?_
  rintro en w' ⟨v', rfl, hm, hs⟩
  rw [hr] at hm
  obtain ⟨n, hn, x, hx, hf⟩ := hm
  cases hn
  exact ⟨v', rfl, ⟨x, hx, hf⟩, hs⟩

theorem c_l01Dot (u1 u2 : Value) (p q : List NV) (h1 : ShM (.agg KPose) u1 p) (h2 : ShM (.agg KPose) u2 q) (w : World) : Calls Try.prog 97 #[u1, u2] w fun e w' => ∃ v, e = .returned v ∧ (∃ x, v = .float .f32 x ∧ FIs .f32 x (dotO p q)) ∧ Stays w w' :=
  calls_row2F oDot.okS rfl rfl rfl rfl u1 u2 p q w h1 h2
theorem c_DotVec (u1 u2 : Value) (p q : List NV) (h1 : ShM (.agg KPose) u1 p) (h2 : ShM (.agg KPose) u2 q) (w : World) : Calls Try.prog 98 #[u1, u2] w fun e w' => ∃ v, e = .returned v ∧ (∃ x, v = .float .f32 x ∧ FIs .f32 x (dotO p q)) ∧ Stays w w' :=
  calls_row2F oDot.okI rfl rfl rfl rfl u1 u2 p q w h1 h2

set_option maxRecDepth 100000 in
set_option maxHeartbeats 1000000 in
theorem c_l06Square (p : Nat) (A A' : Option Addr) (c c' i j : Nat) (ps ls : List (List NV)) (q : Addr) (r a b : List NV) (w : World) (hg : w.heap[p]? = some (.cells #[.slice A ps.length c, .slice A' ls.length c'] 46 (0, 0)))
    (h : Ls KPose 3 w w.heap.size A ps) (hr : RowAt KLink w q r) (hq : q.block < w.heap.size) (hi : (r.getD 0 (.i 0)).gi = i) (hj : (r.getD 1 (.i 0)).gi = j) (ha : ps[i]? = some a) (hb : ps[j]? = some b) :
    Calls Try.prog 86 #[.pointer (some ⟨p, 0, none⟩), .pointer (some q)] w fun e w' => ∃ x, e = .returned (.float .f32 x) ∧ FIs .f32 x (sqOf ps r) ∧ Below w.heap.size w w' := by
  have kO := Lib.hid (c_l06Off p A A' c c' i j ps ls q r a b w hg h hr hq hi hj ha hb)
  obtain ⟨l0, l1, l2, l3, l4, l5, hK, g0, g1, g2, g3, g4, g5⟩ := row6 rfl hr
  have h5 : ∃ x, l5 = .float .f32 x ∧ FIs .f32 x (r.getD 5 (.i 0)).gf := by
    have hlen := KMs_rlen hK
    match r, hlen, hK with
    | [n0, n1, n2, n3, n4, n5], _, ⟨_, _, _, _, _, ⟨x, hx, hf⟩, _⟩ => exact ⟨x, hx, hf⟩
  obtain ⟨x5, rfl, hf5⟩ := h5
  have g5 : w.cell? ⟨q.block, q.off + 5, none⟩ = some (.float .f32 x5) := g5
  have hsq : sqOf ps r = fop .mul .f32 (can .f32 x5) (dotO (offOf ps r) (offOf ps r)) := by unfold sqOf; rw [hf5.out]
  rw [hsq]
  generalize offOf ps r = off at kO ⊢
  replace g5 := Lib.hid g5
  clear g0 g1 g2 g3 g4 hK hf5 hsq hr h hg hi hj ha hb
  go_enter Try.func86, Try.ntmps86
  go_wp2_with fail
  refine kO.out.mono ?_
  rintro e w1 ⟨v, rfl, hv, hs⟩
  obtain ⟨ra, rb, rc, rfl⟩ := pose_val hv
  have hs1 := Lib.hid (Stays.trans (show Stays w w1 from hs) (show Stays w1 (w1.alloc (.cells #[.float .f32 ra, .float .f32 rb, .float .f32 rc] 59)) from by (repeat (first | exact Stays.refl _ | (with_reducible refine Stays.drewN ?_ _) | (with_reducible refine Stays.alloc ?_ _) | (with_reducible refine Stays.drew ?_) | (refine Stays.trans ?_ ‹Stays _ _›)))))
  have hg1 := Lib.hid (heap_alloc_new w1 (.cells #[.float .f32 ra, .float .f32 rb, .float .f32 rc] 59))
  have kD := Lib.hid fun W => c_l01Dot _ _ _ _ hv hv W
  clear hs hv
  go_wp2
  generalize (w1.alloc (.cells #[.float .f32 ra, .float .f32 rb, .float .f32 rc] 59)) = W0 at hs1 hg1 ⊢
  have hcells : ∀ w2, Stays W0 w2 → _ := fun w2 h => And.intro ((Below.cell (p := ⟨q.block, q.off + 5, none⟩) (hs1.out.trans h) hq).trans g5.out) (And.intro (row_of h hg1.out 0) (And.intro (row_of h hg1.out 1) (row_of h hg1.out 2)))
  refine wp_region_soft_tail 8 (Stays.refl _) (oneS 97 #[.agg #[.float .f32 ra, .float .f32 rb, .float .f32 rc], .agg #[.float .f32 ra, .float .f32 rb, .float .f32 rc]] (fun v => ∃ x, v = .float .f32 x ∧ FIs .f32 x (dotO off off))) [] (by kernel_rfl) (by kernel_rfl) (fun _ h => by cases h) ?_
  simp only [List.take_succ_cons, List.take_zero, List.drop_succ_cons, List.drop_zero]
  repeat ((with_reducible apply soft_detG); (case hwa => rfl); (case hA => rfl); (case h => (intro w1 hw1; have hc := hcells w1 hw1; go_simp; exact rfl)); go_simp)
  refine soft_callO (by rfl) rfl ?h (fun w2 _ => kD.out w2) ?_
  case h => (intro w1 hw1; have hc := hcells w1 hw1; go_simp; try exact ⟨rfl, rfl⟩)
  rintro v ⟨x, rfl, hx⟩
  go_simp
  ((with_reducible refine soft_fop rfl ?hA _ _ _ _ _ rfl rfl _ _ _ rfl rfl ?_); (case hA => rfl); intro r hr; go_simp)
  refine soft_nil ?_
  rintro w2 ⟨hw2, _⟩
  rw [hx.out] at hr
  clear hcells
  go_wp2
  go_ret
  exact ⟨_, rfl, hr, hs1.out.trans hw2⟩

set_option maxRecDepth 100000 in
set_option maxHeartbeats 1000000 in
theorem c_cost (A : Option Addr) (c i j : Nat) (ps : List (List NV)) (cs0 : Array Value) (r a b : List NV) (w : World) (hv0 : KMs KLink cs0.toList r)
    (h : Ls KPose 3 w w.heap.size A ps) (hi : (r.getD 0 (.i 0)).gi = i) (hj : (r.getD 1 (.i 0)).gi = j) (ha : ps[i]? = some a) (hb : ps[j]? = some b) :
    Calls Try.prog 87 #[.agg cs0, .slice A ps.length c] w fun e w' => ∃ x, e = .returned (.float .f32 x) ∧ FIs .f32 x (sqOf ps r) ∧ Below w.heap.size w w' := by
  have kO := Lib.hid fun W (hs : Below w.heap.size w W) => c_off A c i j ps cs0 r a b W hv0 ((h.below hs).more hs.size) hi hj ha hb
  obtain ⟨l⟩ := cs0
  have hlen := KMs_rlen hv0
  obtain ⟨fr, to, r2, r3, r4, r5, e⟩ := link_cells hv0
  have e : l = _ := e
  subst e
  have hf5 : FIs .f32 r5 (r.getD 5 (.i 0)).gf := by
    match r, hlen, hv0 with
    | [n0, n1, n2, n3, n4, n5], _, ⟨_, _, _, _, _, ⟨x, hx, hf⟩, _⟩ => cases hx; exact hf
  have hsq : sqOf ps r = fop .mul .f32 (can .f32 r5) (dotO (offOf ps r) (offOf ps r)) := by unfold sqOf; rw [hf5.out]
  rw [hsq]
  generalize offOf ps r = off at kO ⊢
  clear hf5 hsq h hi hj ha hb hv0 hlen
  go_enter Try.func87, Try.ntmps87
  go_wp2_with fail
  have hsb : Stays w (w.alloc (.cells #[.int .i64 fr, .int .i64 to, .float .f32 r2, .float .f32 r3, .float .f32 r4, .float .f32 r5] 69)) := by (repeat (first | exact Stays.refl _ | (with_reducible refine Stays.drewN ?_ _) | (with_reducible refine Stays.alloc ?_ _) | (with_reducible refine Stays.drew ?_) | (refine Stays.trans ?_ ‹Stays _ _›)))
  have hgb := heap_alloc_new w (.cells #[.int .i64 fr, .int .i64 to, .float .f32 r2, .float .f32 r3, .float .f32 r4, .float .f32 r5] 69)
  generalize (w.alloc (.cells #[.int .i64 fr, .int .i64 to, .float .f32 r2, .float .f32 r3, .float .f32 r4, .float .f32 r5] 69)) = Wb at hsb hgb ⊢
  refine (kO.out _ hsb).mono ?_
  rintro e w1 ⟨v, rfl, hv, hs⟩
  obtain ⟨ra, rb, rc, rfl⟩ := pose_val hv
  have hss := Stays.trans (show Stays Wb w1 from hs) (show Stays w1 (w1.alloc (.cells #[.float .f32 ra, .float .f32 rb, .float .f32 rc] 59)) from by (repeat (first | exact Stays.refl _ | (with_reducible refine Stays.drewN ?_ _) | (with_reducible refine Stays.alloc ?_ _) | (with_reducible refine Stays.drew ?_) | (refine Stays.trans ?_ ‹Stays _ _›))))
  have hs1 := Lib.hid (hsb.trans hss)
  have hg0 := Lib.hid (Stays.heap hss (in_heap hgb) hgb)
  have hg1 := Lib.hid (heap_alloc_new w1 (.cells #[.float .f32 ra, .float .f32 rb, .float .f32 rc] 59))
  have kD := Lib.hid fun W => c_DotVec _ _ _ _ hv hv W
  clear hs hv hss hsb hgb
  go_wp2
  generalize (w1.alloc (.cells #[.float .f32 ra, .float .f32 rb, .float .f32 rc] 59)) = W0 at hs1 hg1 hg0 ⊢
  have hcells : ∀ w2, Stays W0 w2 → _ := fun w2 h => And.intro (row_of h hg0.out 5) (And.intro (row_of h hg1.out 0) (And.intro (row_of h hg1.out 1) (row_of h hg1.out 2)))
  refine wp_region_soft_tail 6 (Stays.refl _) (oneS 98 #[.agg #[.float .f32 ra, .float .f32 rb, .float .f32 rc], .agg #[.float .f32 ra, .float .f32 rb, .float .f32 rc]] (fun v => ∃ x, v = .float .f32 x ∧ FIs .f32 x (dotO off off))) [] (by kernel_rfl) (by kernel_rfl) (fun _ h => by cases h) ?_
  simp only [List.take_succ_cons, List.take_zero, List.drop_succ_cons, List.drop_zero]
  repeat ((with_reducible apply soft_detG); (case hwa => rfl); (case hA => rfl); (case h => (intro w1 hw1; have hc := hcells w1 hw1; go_simp; exact rfl)); go_simp)
  refine soft_callO (by rfl) rfl ?h (fun w2 _ => kD.out w2) ?_
  case h => (intro w1 hw1; have hc := hcells w1 hw1; go_simp; try exact ⟨rfl, rfl⟩)
  rintro v ⟨x, rfl, hx⟩
  go_simp
  ((with_reducible refine soft_fop rfl ?hA _ _ _ _ _ rfl rfl _ _ _ rfl rfl ?_); (case hA => rfl); intro r hr; go_simp)
  refine soft_nil ?_
  rintro w2 ⟨hw2, _⟩
  rw [hx.out] at hr
  clear hcells
  go_wp2
  go_ret
  exact ⟨_, rfl, hr, hs1.out.trans hw2⟩
end Go.Proofs.Ytfjchhfoefgldaa

namespace Go.Proofs.Ytfjchhfoefgldaa
open Go Go.RowKit
set_option linter.unusedVariables false
set_option linter.unusedSimpArgs false

theorem costTo_next {ps ls : List (List NV)} {k : Nat} {r : List NV} (hr : ls[k]? = some r) : costTo ps ls (k + 1) = fop .add .f32 (costTo ps ls k) (sqOf ps r) := by
  show fop .add .f32 (costTo ps ls k) (sqOf ps (ls.getD k [])) = _
  rw [List.getD_eq_getElem?_getD, hr]; rfl

set_option maxRecDepth 100000 in
set_option maxHeartbeats 1000000 in
theorem c_l06Cost (p : Nat) (A A' : Option Addr) (c c' : Nat) (ps ls : List (List NV)) (w : World) (hg : w.heap[p]? = some (.cells #[.slice A ps.length c, .slice A' ls.length c'] 46 (0, 0)))
    (h : Ls KPose 3 w w.heap.size A ps) (h' : Ls KLink 6 w w.heap.size A' ls) (hgr : graphB ps ls = true) (hm : ls.length ≤ 1048576) :
    Calls Try.prog 67 #[.pointer (some ⟨p, 0, none⟩)] w fun e w' => ∃ x, e = .returned (.float .f32 x) ∧ FIs .f32 x (costTo ps ls ls.length) ∧ Below w.heap.size w w' := by
  have HB := Lib.hid (boxed2 hg)
  have H' := Lib.hid h'
  have hplt : p < w.heap.size := (Array.getElem?_eq_some_iff.1 hg).1
  have kSq := Lib.hid fun (W : World) (hs : Below w.heap.size w W) (q : Addr) (r a b : List NV) (i j : Nat) (hr : RowAt KLink W q r) (hq : q.block < W.heap.size) hi hj ha hb => c_l06Square p A A' c c' i j ps ls q r a b W (by rw [hs.block p hplt]; exact hg) ((h.below hs).more hs.size) hr hq hi hj ha hb
  replace hgr := Lib.hid hgr
  clear h h' hg
  go_enter Try.func67, Try.ntmps67
  go_wp2
  go_loopw [3, 4] (fun sv iv wr => ∃ (k x : Nat), k ≤ ls.length ∧ iv = .int .i64 k ∧ sv = .float .f32 x ∧ Hid (FIs .f32 x (costTo ps ls k)) ∧ Hid (Below w.heap.size w wr)) (fun _ iv _ => ls.length - (intOf iv).toNat)
  case atStart => exact ⟨0, 0, Nat.zero_le _, rfl, rfl, Lib.hid (FIs.self (by decide)), Lib.hid (Below.refl _ _)⟩
  case round =>
    obtain ⟨k, x, hk, rfl, rfl, hx, hb⟩ := hrel
    obtain ⟨q0, q1⟩ := HB.out _ hb.out
    by_cases hlt : k < ls.length
    · obtain ⟨ad, rfl, hbl, hrow⟩ := (H'.out.below hb.out) k ls[k] (List.getElem?_eq_getElem hlt)
      have hrk := List.getElem?_eq_getElem hlt
      generalize ls[k] = r at hrow hrk
      obtain ⟨i, j, a, b, hi, hj, ha, hb'⟩ := link_ok hgr.out hrk
      have kS := Lib.hid (kSq.out wr hb.out (ad.add (k * 6)) r a b i j hrow (by rw [block_add]; exact Nat.lt_of_lt_of_le hbl hb.out.size) hi hj ha hb')
      have hnx := Lib.hid (costTo_next (ps := ps) hrk)
      clear hrow hi hj ha hb' hrk
      have hlt' : (k : Int) < (ls.length : Int) := by omega
      go_wp2_with (first
        | (go_at_call 86; refine kS.out.mono ?_; rintro e w1 ⟨y, rfl, hy, hw1⟩; have hb2 := Lib.hid (hb.out.trans (hw1.mono hb.out.size)); replace hy := Lib.hid hy; clear hw1)
        | ((with_reducible refine wpList_fop rfl _ _ _ _ _ rfl rfl _ _ _ rfl rfl ?_); intro r n hr))
      rw [hx.out.out, hy.out.out, ← hnx.out] at hr
      replace hr := Lib.hid hr
      go_roundw
      case rel => exact ⟨k + 1, _, by omega, by go_num, rfl, hr, Lib.hid (hb2.out.trans (Below.mono (below_drewN _ _) hb2.out.size))⟩
      case measure => simp [intOf]; omega
    · have e : k = ls.length := by omega
      subst e
      go_wp2
      go_ret
      exact ⟨_, rfl, hx.out, hb.out⟩

set_option maxRecDepth 100000 in
set_option maxHeartbeats 1000000 in
theorem c_costOf (A A' : Option Addr) (c c' : Nat) (ps ls : List (List NV)) (w : World) (h : Ls KPose 3 w w.heap.size A ps) (h' : Ls KLink 6 w w.heap.size A' ls) (hgr : graphB ps ls = true) (hm : ls.length ≤ 1048576) :
    Calls Try.prog 68 #[.slice A ps.length c, .slice A' ls.length c'] w fun e w' => ∃ x, e = .returned (.float .f32 x) ∧ FIs .f32 x (costTo ps ls ls.length) ∧ Below w.heap.size w w' := by
  have H' := Lib.hid h'
  have kSq := Lib.hid fun (W : World) (hs : Below w.heap.size w W) (cs0 : Array Value) (r a b : List NV) (i j : Nat) (hv : KMs KLink cs0.toList r) hi hj ha hb => c_cost A c i j ps cs0 r a b W hv ((h.below hs).more hs.size) hi hj ha hb
  replace hgr := Lib.hid hgr
  clear h h'
  go_enter Try.func68, Try.ntmps68
  go_wp2
  go_loopw [5, 10] (fun sv iv wr => ∃ (k x : Nat), k ≤ ls.length ∧ iv = .int .i64 k ∧ sv = .float .f32 x ∧ Hid (FIs .f32 x (costTo ps ls k)) ∧ Hid (Below w.heap.size w wr)) (fun _ iv _ => ls.length - (intOf iv).toNat)
  case atStart => exact ⟨0, 0, Nat.zero_le _, rfl, rfl, Lib.hid (FIs.self (by decide)), Lib.hid (Below.refl _ _)⟩
  case round =>
    obtain ⟨k, x, hk, rfl, rfl, hx, hb⟩ := hrel
    by_cases hlt : k < ls.length
    · obtain ⟨ad, rfl, hbl, hrow⟩ := (H'.out.below hb.out) k ls[k] (List.getElem?_eq_getElem hlt)
      have hrk := List.getElem?_eq_getElem hlt
      generalize ls[k] = r at hrow hrk
      obtain ⟨i, j, a, b, hi, hj, ha, hb'⟩ := link_ok hgr.out hrk
      obtain ⟨c0, c1, c2, c3, c4, c5, hK, g0, g1, g2, g3, g4, g5⟩ := row6 rfl hrow
      have kS := Lib.hid fun W hs => kSq.out W hs #[c0, c1, c2, c3, c4, c5] r a b i j hK hi hj ha hb'
      obtain ⟨fr, to, ra, rb, rc, rd, e⟩ := link_cells hK
      cases e
      have hnx := Lib.hid (costTo_next (ps := ps) hrk)
      clear hrow hi hj ha hb' hrk hK
      have hlt' : (k : Int) < (ls.length : Int) := by omega
      go_wp2_with (first
        | (go_at_call 87; refine (kS.out _ (hb.out.trans (Below.mono (show Stays wr _ from by (repeat (first | exact Stays.refl _ | (with_reducible refine Stays.drewN ?_ _) | (with_reducible refine Stays.alloc ?_ _) | (with_reducible refine Stays.drew ?_) | (refine Stays.trans ?_ ‹Stays _ _›)))) hb.out.size))).mono ?_; rintro e w1 ⟨y, rfl, hy, hw1⟩; have hb2 := Lib.hid (hb.out.trans (((show Stays wr _ from by (repeat (first | exact Stays.refl _ | (with_reducible refine Stays.drewN ?_ _) | (with_reducible refine Stays.alloc ?_ _) | (with_reducible refine Stays.drew ?_) | (refine Stays.trans ?_ ‹Stays _ _›)))).trans hw1).mono hb.out.size)); replace hy := Lib.hid hy; clear hw1)
        | ((with_reducible refine wpList_fop rfl _ _ _ _ _ rfl rfl _ _ _ rfl rfl ?_); intro r n hr))
      rw [hx.out.out, hy.out.out, ← hnx.out] at hr
      replace hr := Lib.hid hr
      go_roundw
      case rel => exact ⟨k + 1, _, by omega, by go_num, rfl, hr, Lib.hid (hb2.out.trans (Below.mono (below_drewN _ _) hb2.out.size))⟩
      case measure => simp [intOf]; omega
    · have e : k = ls.length := by omega
      subst e
      go_wp2
      go_ret
      exact ⟨_, rfl, hx.out, hb.out⟩

noncomputable def costVal (ps ls : List (List NV)) : Option Nat := if graphB ps ls = true then costTo ps ls ls.length else can .f32 0
noncomputable def costCode (ps ls : List (List NV)) : Int := if graphB ps ls = true then 0 else 1
def CostAs (w : World) (o : Option Nat) (code : Int) (e : Ending) (w' : World) : Prop := ∃ x, e = .returned (.tuple #[.float .f32 x, .int .i64 code]) ∧ FIs .f32 x o ∧ Below w.heap.size w w'

set_option maxRecDepth 100000 in
theorem c_specCost (v : Value) (ps ls : List (List NV)) (w : World) (h : GrV w w.heap.size v ps ls) (hn : ps.length ≤ 1048576) (hm : ls.length ≤ 1048576) :
    Calls Try.prog 38 #[v] w (CostAs w (costVal ps ls) (costCode ps ls)) := by
  obtain ⟨A, c, A', c', rfl, h1, h2⟩ := h.val
  have hst : Stays w (w.alloc (.cells #[.slice A ps.length c, .slice A' ls.length c'] 46)) := by (repeat (first | exact Stays.refl _ | (with_reducible refine Stays.drewN ?_ _) | (with_reducible refine Stays.alloc ?_ _) | (with_reducible refine Stays.drew ?_) | (refine Stays.trans ?_ ‹Stays _ _›)))
  have hgg := heap_alloc_new w (.cells #[.slice A ps.length c, .slice A' ls.length c'] 46)
  have kC := fun hgr (W : World) (hs : Stays (w.alloc (.cells #[.slice A ps.length c, .slice A' ls.length c'] 46)) W) => c_l06Cost w.heap.size A A' c c' ps ls W (hs.heap (in_heap hgg) hgg) ((h1.below (hst.trans hs)).more (hst.trans hs).size) ((h2.below (hst.trans hs)).more (hst.trans hs).size) hgr hm
  have hk : Calls Try.prog 53 #[.pointer (some ⟨w.heap.size, 0, none⟩)] (w.alloc (.cells #[.slice A ps.length c, .slice A' ls.length c'] 46)) fun e w' => e = .returned (.bool (graphB ps ls)) ∧ Stays (w.alloc (.cells #[.slice A ps.length c, .slice A' ls.length c'] 46)) w' :=
    c_l06Ok w.heap.size A A' c c' ps ls _ hgg ((h1.below hst).more hst.size) ((h2.below hst).more hst.size) hn hm
  unfold costVal costCode
  replace hst := Lib.hid hst
  clear h h1 h2 hgg
  cases hgr : graphB ps ls with
  | false =>
    rw [hgr] at hk
    replace hk := Lib.hid hk
    go_enter Try.func38, Try.ntmps38
    go_wp2_with (go_at_call 53; refine hk.out.mono ?_; rintro e w1 ⟨rfl, hw1⟩)
    go_ret2
    exact ⟨0, rfl, FIs.self (by decide), hst.out.trans hw1⟩
  | true =>
    rw [hgr] at hk
    replace hk := Lib.hid hk
    replace kC := Lib.hid (kC hgr)
    go_enter Try.func38, Try.ntmps38
    go_wp2_with (first | (go_at_call 53; refine hk.out.mono ?_; rintro e w1 ⟨rfl, hw1⟩) | (go_at_call 67; refine (kC.out _ hw1).mono ?_; rintro e w2 ⟨x, rfl, hx, hw2⟩; replace hx := Lib.hid hx))
    go_ret2
    exact ⟨x, rfl, hx.out, hst.out.trans (Stays.trans hw1 hw2)⟩

set_option maxRecDepth 100000 in
theorem c_implCost (v : Value) (ps ls : List (List NV)) (w : World) (h : GrV w w.heap.size v ps ls) (hn : ps.length ≤ 1048576) (hm : ls.length ≤ 1048576) :
    Calls Try.prog 39 #[v] w (CostAs w (costVal ps ls) (costCode ps ls)) := by
  obtain ⟨A, c, A', c', rfl, h1, h2⟩ := h.val
  have hst : Stays w (w.alloc (.cells #[.slice A ps.length c, .slice A' ls.length c'] 46)) := by (repeat (first | exact Stays.refl _ | (with_reducible refine Stays.drewN ?_ _) | (with_reducible refine Stays.alloc ?_ _) | (with_reducible refine Stays.drew ?_) | (refine Stays.trans ?_ ‹Stays _ _›)))
  have hgg := heap_alloc_new w (.cells #[.slice A ps.length c, .slice A' ls.length c'] 46)
  have kC := fun hgr (W : World) (hs : Stays (w.alloc (.cells #[.slice A ps.length c, .slice A' ls.length c'] 46)) W) => c_costOf A A' c c' ps ls W ((h1.below (hst.trans hs)).more (hst.trans hs).size) ((h2.below (hst.trans hs)).more (hst.trans hs).size) hgr hm
  have hk : Calls Try.prog 32 #[.agg #[.slice A ps.length c, .slice A' ls.length c']] (w.alloc (.cells #[.slice A ps.length c, .slice A' ls.length c'] 46)) fun e w' => e = .returned (.bool (graphB ps ls)) ∧ Stays (w.alloc (.cells #[.slice A ps.length c, .slice A' ls.length c'] 46)) w' :=
    c_implValidGraph _ ps ls _ (h.on hst) hn hm
  have HC := Lib.hid fun (W : World) (hs : Stays (w.alloc (.cells #[.slice A ps.length c, .slice A' ls.length c'] 46)) W) => And.intro (row_of hs hgg 0) (row_of hs hgg 1)
  unfold costVal costCode
  replace hst := Lib.hid hst
  clear h h1 h2 hgg
  cases hgr : graphB ps ls with
  | false =>
    rw [hgr] at hk
    replace hk := Lib.hid hk
    go_enter Try.func39, Try.ntmps39
    go_wp2_with (go_at_call 32; refine hk.out.mono ?_; rintro e w1 ⟨rfl, hw1⟩)
    go_ret2
    exact ⟨0, rfl, FIs.self (by decide), hst.out.trans hw1⟩
  | true =>
    rw [hgr] at hk
    replace hk := Lib.hid hk
    replace kC := Lib.hid (kC hgr)
    go_enter Try.func39, Try.ntmps39
    go_wp2_with (first | (go_at_call 32; refine hk.out.mono ?_; rintro e w1 ⟨rfl, hw1⟩; obtain ⟨q0, q1⟩ := HC.out _ hw1) | (go_at_call 68; refine (kC.out _ hw1).mono ?_; rintro e w2 ⟨x, rfl, hx, hw2⟩; replace hx := Lib.hid hx))
    go_ret2
    exact ⟨x, rfl, hx.out, hst.out.trans (Stays.trans hw1 hw2)⟩
set_option maxRecDepth 100000 in
set_option maxHeartbeats 1000000 in
theorem c_lawCostOf (v : Value) (ps ls : List (List NV)) (w : World) (h : GrV w w.heap.size v ps ls) (hn : ps.length ≤ 9223372036854775807) (hm : ls.length ≤ 9223372036854775807) :
    Calls Try.prog 12 #[v] w fun e w' => e = .returned (.bool true) ∧ Below w.heap.size w w' := by
  obtain ⟨A, c, A', c', rfl, HB⟩ := boxGr 40 h
  clear h
  replace HB := Lib.hid HB
  have hsz := fun W => c_szPoseGraph A A' c c' ps.length ls.length 1048576 W hn hm (by omega) (by omega)
  by_cases hl : (1048576 : Int) - ps.length - ls.length < 0
  · simp only [if_pos hl] at hsz
    replace hsz := Lib.hid hsz
    go_enter Try.func12, Try.ntmps12
    go_wp2_with fail
    refine (hsz.out _).mono ?_
    rintro e w1 ⟨rfl, hb⟩
    go_wp2
    go_ret
    exact ⟨rfl, (HB.out _ hb).1.2⟩
  · simp only [if_neg hl] at hsz
    have hn' : ps.length ≤ 1048576 := by omega
    have hm' : ls.length ≤ 1048576 := by omega
    have hX : ¬ ((1048576 : Int) - ps.length - ls.length < 0) := hl
    generalize (1048576 : Int) - ps.length - ls.length = X at hX hsz
    replace hsz := Lib.hid hsz
    clear hl hn hm
    have kS := Lib.hid fun v w h => c_specCost v ps ls w h hn' hm'
    have kI := Lib.hid fun v w h => c_implCost v ps ls w h hn' hm'
    generalize costVal ps ls = val at kS kI
    generalize costCode ps ls = code at kS kI
    go_enter Try.func12, Try.ntmps12
    go_wp2_with fail
    refine (hsz.out _).mono ?_
    rintro e w1 ⟨rfl, hb⟩
    have hb1 := Lib.hid (show Stays _ w1 from hb)
    clear hb
    generalize (w.alloc (.cells #[.slice A ps.length c, .slice A' ls.length c'] 40)) = W0 at HB hb1
    obtain ⟨⟨⟨q0, q1⟩, _⟩, hg⟩ := HB.out _ hb1.out
    replace hg := Lib.hid hg
    go_wp2_with fail
    refine (c_toGr _ ps ls w1 hg.out hn' hm').mono ?_
    rintro e w2 ⟨v1, rfl, hb, hv1⟩
    have hb2 := Lib.hid (hb1.out.trans hb)
    clear hb
    replace hv1 := Lib.hid hv1
    go_wp2_with fail
    refine (kS.out v1 w2 hv1.out).mono ?_
    rintro e W3 ⟨x0, rfl, hx0, hb⟩
    have hb3 := Lib.hid (hb2.out.trans hb)
    replace hx0 := Lib.hid hx0
    clear hb hv1 q0 q1 hg
    obtain ⟨⟨⟨q0, q1⟩, _⟩, hg⟩ := HB.out _ hb3.out
    replace hg := Lib.hid hg
    go_wp2_with fail
    refine (c_toGr _ ps ls W3 hg.out hn' hm').mono ?_
    rintro e w4 ⟨v2, rfl, hb, hv2⟩
    have hb4 := Lib.hid (hb3.out.trans hb)
    clear hb q0 q1 hg
    obtain ⟨D, d, D', d', rfl, HX⟩ := boxGr 46 hv2
    clear hv2
    replace HX := Lib.hid HX
    go_wp2_with fail
    have hs4 := show Stays w4 (w4.alloc (.cells #[.slice D ps.length d, .slice D' ls.length d'] 46)) from by (repeat (first | exact Stays.refl _ | (with_reducible refine Stays.drewN ?_ _) | (with_reducible refine Stays.alloc ?_ _) | (with_reducible refine Stays.drew ?_) | (refine Stays.trans ?_ ‹Stays _ _›)))
    have hb4x := Lib.hid (hb4.out.trans hs4)
    have hxx := Lib.hid (Stays.refl (w4.alloc (.cells #[.slice D ps.length d, .slice D' ls.length d'] 46)))
    generalize (w4.alloc (.cells #[.slice D ps.length d, .slice D' ls.length d'] 46)) = WX at HX hb4x hxx ⊢
    clear hs4
    refine (kI.out _ WX (HX.out _ hxx.out).2).mono ?_
    rintro e w5 ⟨x1, rfl, hx1, hb⟩
    have hb5 := Lib.hid (hb4x.out.trans hb)
    replace hxx := Lib.hid (hxx.out.trans hb)
    have hee : can .f32 x1 = can .f32 x0 := by rw [hx1.out, hx0.out.out]
    replace hee := Lib.hid hee
    clear hb hx1
    go_wp2_with (first
      | ((with_reducible refine wpList_widen rfl _ _ _ rfl _ rfl (some_of Try.underlying22) Try.underlying57 ?_); intro r n hr)
      | (go_at_call 40; refine (c_sameFloat _ _ _ (wide_same hee.out ‹FIs _ _ _› ‹FIs _ _ _›)).mono ?_; rintro e w6 ⟨rfl, hb⟩))
    have hsz6 : Stays w5 w6 := Stays.trans (by (repeat (first | exact Stays.refl _ | (with_reducible refine Stays.drewN ?_ _) | (with_reducible refine Stays.alloc ?_ _) | (with_reducible refine Stays.drew ?_) | (refine Stays.trans ?_ ‹Stays _ _›)))) hb
    have hb6 := Lib.hid (hb5.out.trans hsz6)
    replace hxx := Lib.hid (hxx.out.trans hsz6)
    clear hb hsz6
    have G : Hid (∀ w', Stays w6 w' → (w'.cell? ⟨w.heap.size, 0, none⟩ = some (.slice A ps.length c) ∧ w'.cell? ⟨w.heap.size, 1, none⟩ = some (.slice A' ls.length c') ∧ w'.cell? ⟨w4.heap.size, 0, none⟩ = some (.slice D ps.length d) ∧ w'.cell? ⟨w4.heap.size, 1, none⟩ = some (.slice D' ls.length d') ∧ Hid (Stays w6 w'))) := Lib.hid fun w' h => ⟨(HB.out _ (hb6.out.trans h)).1.1.1, (HB.out _ (hb6.out.trans h)).1.1.2, (HX.out _ (hxx.out.trans h)).1.1.1, (HX.out _ (hxx.out.trans h)).1.1.2, Lib.hid h⟩
    have h6 := Lib.hid (show Stays w6 w6.drew from (Stays.refl w6).drew)
    go_region_held (fun w' => (w'.cell? ⟨w.heap.size, 0, none⟩ = some (.slice A ps.length c) ∧ w'.cell? ⟨w.heap.size, 1, none⟩ = some (.slice A' ls.length c') ∧ w'.cell? ⟨w4.heap.size, 0, none⟩ = some (.slice D ps.length d) ∧ w'.cell? ⟨w4.heap.size, 1, none⟩ = some (.slice D' ls.length d') ∧ Hid (Stays w6 w'))) (first | exact G.out _ h6.out | exact G.out _ h7.out | exact G.out _ h8.out)
      (first
        | (go_at_call 31; refine (c_toGr _ ps ls _ (HB.out _ (hb6.out.trans h6.out)).2 hn' hm').mono ?_; rintro e w7 ⟨v3, rfl, hb, hv3⟩; have h7 := Lib.hid (h6.out.trans hb); clear hb; replace hv3 := Lib.hid hv3)
        | (go_at_call 33; refine (c_eqPoseGraph _ v3 ps ls w7 (HX.out _ (hxx.out.trans h7.out)).2 hv3.out hn' hm').mono ?_; rintro e w8 ⟨rfl, hb⟩; have h8 := Lib.hid (h7.out.trans hb); clear hb))
    go_wp2
    go_ret
    exact ⟨rfl, (HB.out _ (hb6.out.trans h8.out)).1.2⟩
end Go.Proofs.Ytfjchhfoefgldaa
