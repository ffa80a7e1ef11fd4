/- Graphs: what a link is off, on both sides. Graphs: ResidualOf on both sides, and its law. Graphs: the law on ResidualOf. No condition. -/
import Derived.Test.YtfjchhfoefgldaaGrC
import Derived.Test.YtfjchhfoefgldaaGv
namespace Go.Proofs.Ytfjchhfoefgldaa
open Go Go.RowKit
set_option linter.unusedVariables false
set_option linter.unusedSimpArgs false

noncomputable abbrev btw : List NV → List NV → List NV := fun2 oBtw.Φ 15 3 KPose
noncomputable def offOf (ps : List (List NV)) (r : List NV) : List NV := btw ((r.drop 2).take 3) (btw (ps.getD (r.getD 0 (.i 0)).gi.toNat []) (ps.getD (r.getD 1 (.i 0)).gi.toNat []))

theorem c_l06Between (u1 u2 : Value) (p q : List NV) (h1 : ShM (.agg KPose) u1 p) (h2 : ShM (.agg KPose) u2 q) : ∀ w : World, Calls Try.prog 50 #[u1, u2] w fun e w' => ∃ v, e = .returned v ∧ ShM (.agg KPose) v (btw p q) ∧ Stays w w' :=
  fun w => calls_row2 oBtw.okS rfl rfl rfl rfl rfl u1 u2 p q w h1 h2
theorem c_StepBetween (u1 u2 : Value) (p q : List NV) (h1 : ShM (.agg KPose) u1 p) (h2 : ShM (.agg KPose) u2 q) : ∀ w : World, Calls Try.prog 24 #[u1, u2] w fun e w' => ∃ v, e = .returned v ∧ ShM (.agg KPose) v (btw p q) ∧ Stays w w' :=
  fun w => calls_row2 oBtw.okI rfl rfl rfl rfl rfl u1 u2 p q w h1 h2

set_option maxRecDepth 100000 in
set_option maxHeartbeats 1000000 in
theorem c_l06Off (p : Nat) (A A' : Option Addr) (c c' i j : Nat) (ps ls : List (List NV)) (q : Addr) (r a b : List NV) (w : World) (hg : w.heap[p]? = some (.cells #[.slice A ps.length c, .slice A' ls.length c'] 46 (0, 0)))
    (h : Ls KPose 3 w w.heap.size A ps) (hr : RowAt KLink w q r) (hq : q.block < w.heap.size) (hi : (r.getD 0 (.i 0)).gi = i) (hj : (r.getD 1 (.i 0)).gi = j) (ha : ps[i]? = some a) (hb : ps[j]? = some b) :
    Calls Try.prog 65 #[.pointer (some ⟨p, 0, none⟩), .pointer (some q)] w fun e w' => ∃ v, e = .returned v ∧ ShM (.agg KPose) v (offOf ps r) ∧ Below w.heap.size w w' := by
  have ho : offOf ps r = btw ((r.drop 2).take 3) (btw a b) := by
    unfold offOf
    rw [hi, hj, Int.toNat_natCast, Int.toNat_natCast, List.getD_eq_getElem?_getD, List.getD_eq_getElem?_getD, ha, hb]; rfl
  rw [ho]
  obtain ⟨l0, l1, l2, l3, l4, l5, hK, g0, g1, g2, g3, g4, g5⟩ := row6 rfl hr
  obtain ⟨ad, rfl, hbl, hra⟩ := h i a ha
  obtain ⟨ad', e, hbl', hrb⟩ := h j b hb
  cases e
  obtain ⟨x0, x1, x2, hKa, a0, a1, a2⟩ := row3 rfl hra
  obtain ⟨y0, y1, y2, hKb, b0, b1, b2⟩ := row3 rfl hrb
  have hia : i < ps.length := (List.getElem?_eq_some_iff.1 ha).1
  have hjb : j < ps.length := (List.getElem?_eq_some_iff.1 hb).1
  have hlen := KMs_rlen hK
  match r, hlen, hK with
  | [n0, n1, n2, n3, n4, n5], _, ⟨k0, k1, k2, k3, k4, k5, _⟩ =>
    have k0 : l0 = .int .i64 n0.gi := k0
    have k1 : l1 = .int .i64 n1.gi := k1
    have hi : n0.gi = i := hi
    have hj : n1.gi = j := hj
    subst k0 k1
    rw [hi] at g0
    rw [hj] at g1
    have hL : ShM (.agg KPose) (.agg #[l2, l3, l4]) [n2, n3, n4] := ⟨_, rfl, k2, k3, k4, trivial⟩
    have hX : ShM (.agg KPose) (.agg #[x0, x1, x2]) a := ⟨_, rfl, hKa⟩
    have hY : ShM (.agg KPose) (.agg #[y0, y1, y2]) b := ⟨_, rfl, hKb⟩
    have hcells0 : Hid (∀ w', Stays w w' → w'.cell? q = some (.int .i64 i) ∧ w'.cell? ⟨q.block, q.off + 1, none⟩ = some (.int .i64 j) ∧ w'.cell? ⟨q.block, q.off + 2, none⟩ = some l2 ∧ w'.cell? ⟨q.block, q.off + 2 + 1, none⟩ = some l3 ∧ w'.cell? ⟨q.block, q.off + 2 + 2, none⟩ = some l4 ∧
        w'.cell? (ad.add (i * 3)) = some x0 ∧ w'.cell? ⟨(ad.add (i * 3)).block, (ad.add (i * 3)).off + 1, none⟩ = some x1 ∧ w'.cell? ⟨(ad.add (i * 3)).block, (ad.add (i * 3)).off + 2, none⟩ = some x2 ∧
        w'.cell? (ad.add (j * 3)) = some y0 ∧ w'.cell? ⟨(ad.add (j * 3)).block, (ad.add (j * 3)).off + 1, none⟩ = some y1 ∧ w'.cell? ⟨(ad.add (j * 3)).block, (ad.add (j * 3)).off + 2, none⟩ = some y2 ∧
        w'.cell? ⟨p, 0, none⟩ = some (.slice (some ad) ps.length c)) := by
      refine Lib.hid fun w' hs => ?_
      have hA : ∀ n, (ad.add n).block < w.heap.size := fun n => by rw [block_add]; exact hbl
      exact ⟨(Below.cell hs hq).trans g0, (Below.cell (p := ⟨q.block, _, none⟩) hs hq).trans g1, (Below.cell (p := ⟨q.block, q.off + 2, none⟩) hs hq).trans g2, (Below.cell (p := ⟨q.block, q.off + 3, none⟩) hs hq).trans g3, (Below.cell (p := ⟨q.block, q.off + 4, none⟩) hs hq).trans g4,
        (Below.cell hs (hA _)).trans a0, (Below.cell (p := ⟨(ad.add (i * 3)).block, _, none⟩) hs (hA _)).trans a1, (Below.cell (p := ⟨(ad.add (i * 3)).block, _, none⟩) hs (hA _)).trans a2,
        (Below.cell hs (hA _)).trans b0, (Below.cell (p := ⟨(ad.add (j * 3)).block, _, none⟩) hs (hA _)).trans b1, (Below.cell (p := ⟨(ad.add (j * 3)).block, _, none⟩) hs (hA _)).trans b2,
        (boxed2 hg w' hs).1⟩
    clear g0 g1 g2 g3 g4 g5 a0 a1 a2 b0 b1 b2 hr hra hrb h hK hKa hKb k2 k3 k4 k5 hg
    have kB : Hid (∀ w1, Calls Try.prog 50 #[.agg #[x0, x1, x2], .agg #[y0, y1, y2]] w1 fun e w' => ∃ v, e = .returned v ∧ ShM (.agg KPose) v (btw a b) ∧ Stays w1 w') := Lib.hid (c_l06Between _ _ _ _ hX hY)
    have kC : Hid (∀ v, ShM (.agg KPose) v (btw a b) → ∀ w1, Calls Try.prog 50 #[.agg #[l2, l3, l4], v] w1 fun e w' => ∃ u, e = .returned u ∧ ShM (.agg KPose) u (btw [n2, n3, n4] (btw a b)) ∧ Stays w1 w') := Lib.hid fun v hv => c_l06Between _ _ _ _ hL hv
    replace hL := Lib.hid hL
    replace hX := Lib.hid hX
    replace hY := Lib.hid hY
    have hi1 : (i : Int) < (ps.length : Int) := by omega
    have hj1 : (j : Int) < (ps.length : Int) := by omega
    go_enter Try.func65, Try.ntmps65
    go_wp2
    have hW : Hid (Stays w (w.alloc (.cells #[.float .f32 0, .float .f32 0, .float .f32 0] 25)) ∧ (w.alloc (.cells #[.float .f32 0, .float .f32 0, .float .f32 0] 25)).heap[w.heap.size]? = some (.cells #[.float .f32 0, .float .f32 0, .float .f32 0] 25 (0, 0))) := Lib.hid ⟨by (repeat (first | exact Stays.refl _ | (with_reducible refine Stays.drewN ?_ _) | (with_reducible refine Stays.alloc ?_ _) | (with_reducible refine Stays.drew ?_) | (refine Stays.trans ?_ ‹Stays _ _›))), by (repeat (first | (refine heap_top _ _ _ ?_; simp; done) | (with_reducible refine heap_drawn _ _ _ ?_) | (with_reducible refine heap_under _ _ _ ?_ ?_; (simp <;> omega))))⟩
    generalize (w.alloc (.cells #[.float .f32 0, .float .f32 0, .float .f32 0] 25)) = W0 at hW ⊢
    have hcells : ∀ w1, Stays W0 w1 → _ := fun w1 hs => hcells0.out w1 (hW.out.1.trans hs)
    refine wp_region_soft_tail 26 (Stays.refl _) (rowS 50 btw KPose KPose) [] (by kernel_rfl) (by kernel_rfl) (fun _ h => by cases h) ?_
    simp only [List.take_succ_cons, List.take_zero, List.drop_succ_cons, List.drop_zero]
    repeat (first | ((with_reducible apply soft_detG); (case hwa => rfl); (case hA => rfl); (case h => (intro w1 hw1; have hc := hcells w1 hw1; go_simp; exact rfl)); go_simp) | ((with_reducible apply soft_skipG); (case hwa => rfl); (case hA => rfl); go_simp))
    refine soft_callR (by rfl) rfl ?h hX.out hY.out kB.out ?_
    case h => (intro w1 hw1; have hc := hcells w1 hw1; go_simp; try exact ⟨rfl, rfl⟩)
    intro v hv
    replace hv := Lib.hid hv
    go_simp
    refine soft_callR (by rfl) rfl ?h hL.out hv.out (kC.out v hv.out) ?_
    case h => (intro w1 hw1; have hc := hcells w1 hw1; go_simp; try exact ⟨rfl, rfl⟩)
    rintro u ⟨cs, rfl, hu⟩
    have hcs : cs.size = 3 := (KMs_len hu)
    have hone := KMs_one hu
    replace hu := Lib.hid hu
    go_simp
    refine soft_nil ?_
    rintro w2 ⟨hw2, _⟩
    have hres := Stays.heap hw2 (Array.getElem?_eq_some_iff.1 hW.out.2).1 hW.out.2
    have hst := hW.out.1.trans hw2
    clear hw2
    refine wpList_store_row rfl _ _ _ rfl _ _ _ rfl rfl hres ?hi ?ho ?h1 ?hB hst ?_
    case hi => rw [hcs]; kernel_rfl
    case ho => rw [hcs]; rfl
    case h1 => exact Array.all_eq_true_iff_forall_mem.2 fun x hx => hone x (by simpa using hx)
    case hB => exact Nat.le_refl _
    intro w3 hw3 hq3 _ _
    clear hone hres hst
    go_wp2
    apply end_agg rfl rfl rfl Try.underlying25 rfl (t := 25)
    case hg => exact hq3
    case hi => rw [hcs]; kernel_rfl
    case hR => exact ⟨_, rfl, ⟨cs, rfl, hu.out⟩, hw3⟩

set_option maxRecDepth 100000 in
set_option maxHeartbeats 1000000 in
theorem c_off (A : Option Addr) (c i j : Nat) (ps : List (List NV)) (cs0 : Array Value) (r a b : List NV) (w : World) (hv : KMs KLink cs0.toList r)
    (h : Ls KPose 3 w w.heap.size A ps) (hi : (r.getD 0 (.i 0)).gi = i) (hj : (r.getD 1 (.i 0)).gi = j) (ha : ps[i]? = some a) (hb : ps[j]? = some b) :
    Calls Try.prog 66 #[.agg cs0, .slice A ps.length c] w fun e w' => ∃ v, e = .returned v ∧ ShM (.agg KPose) v (offOf ps r) ∧ Below w.heap.size w w' := by
  have ho : offOf ps r = btw ((r.drop 2).take 3) (btw a b) := by
    unfold offOf
    rw [hi, hj, Int.toNat_natCast, Int.toNat_natCast, List.getD_eq_getElem?_getD, List.getD_eq_getElem?_getD, ha, hb]; rfl
  rw [ho]
  obtain ⟨ad, rfl, hbl, hra⟩ := h i a ha
  obtain ⟨ad', e, hbl', hrb⟩ := h j b hb
  cases e
  obtain ⟨x0, x1, x2, hKa, a0, a1, a2⟩ := row3 rfl hra
  obtain ⟨y0, y1, y2, hKb, b0, b1, b2⟩ := row3 rfl hrb
  have hia : i < ps.length := (List.getElem?_eq_some_iff.1 ha).1
  have hjb : j < ps.length := (List.getElem?_eq_some_iff.1 hb).1
  obtain ⟨l⟩ := cs0
  have hl := KMs_len hv
  have hlen := KMs_rlen hv
  match l, r, hl, hlen, hv with
  | [l0, l1, l2, l3, l4, l5], [n0, n1, n2, n3, n4, n5], _, _, ⟨k0, k1, k2, k3, k4, k5, _⟩ =>
    have k0 : l0 = .int .i64 n0.gi := k0
    have k1 : l1 = .int .i64 n1.gi := k1
    have hi : n0.gi = i := hi
    have hj : n1.gi = j := hj
    subst k0 k1
    rw [hi, hj]
    have hL : ShM (.agg KPose) (.agg #[l2, l3, l4]) [n2, n3, n4] := ⟨_, rfl, k2, k3, k4, trivial⟩
    have hX : ShM (.agg KPose) (.agg #[x0, x1, x2]) a := ⟨_, rfl, hKa⟩
    have hY : ShM (.agg KPose) (.agg #[y0, y1, y2]) b := ⟨_, rfl, hKb⟩
    obtain ⟨r2, rfl, _⟩ := k2
    obtain ⟨r3, rfl, _⟩ := k3
    obtain ⟨r4, rfl, _⟩ := k4
    obtain ⟨r5, rfl, _⟩ := k5
    have hW : Hid (Stays w ((w.alloc (.cells #[.int .i64 i, .int .i64 j, .float .f32 r2, .float .f32 r3, .float .f32 r4, .float .f32 r5] 69)).alloc (.cells #[.float .f32 0, .float .f32 0, .float .f32 0] 25)) ∧ ((w.alloc (.cells #[.int .i64 i, .int .i64 j, .float .f32 r2, .float .f32 r3, .float .f32 r4, .float .f32 r5] 69)).alloc (.cells #[.float .f32 0, .float .f32 0, .float .f32 0] 25)).heap[w.heap.size]? = some (.cells #[.int .i64 i, .int .i64 j, .float .f32 r2, .float .f32 r3, .float .f32 r4, .float .f32 r5] 69 (0, 0)) ∧ ((w.alloc (.cells #[.int .i64 i, .int .i64 j, .float .f32 r2, .float .f32 r3, .float .f32 r4, .float .f32 r5] 69)).alloc (.cells #[.float .f32 0, .float .f32 0, .float .f32 0] 25)).heap[w.heap.size + 1]? = some (.cells #[.float .f32 0, .float .f32 0, .float .f32 0] 25 (0, 0))) := Lib.hid ⟨by (repeat (first | exact Stays.refl _ | (with_reducible refine Stays.drewN ?_ _) | (with_reducible refine Stays.alloc ?_ _) | (with_reducible refine Stays.drew ?_) | (refine Stays.trans ?_ ‹Stays _ _›))), by (repeat (first | (refine heap_top _ _ _ ?_; simp; done) | (with_reducible refine heap_drawn _ _ _ ?_) | (with_reducible refine heap_under _ _ _ ?_ ?_; (simp <;> omega)))), by (repeat (first | (refine heap_top _ _ _ ?_; simp; done) | (with_reducible refine heap_drawn _ _ _ ?_) | (with_reducible refine heap_under _ _ _ ?_ ?_; (simp <;> omega))))⟩
    have hcells0 : Hid (∀ w', Stays w w' → w'.cell? (ad.add (i * 3)) = some x0 ∧ w'.cell? ⟨(ad.add (i * 3)).block, (ad.add (i * 3)).off + 1, none⟩ = some x1 ∧ w'.cell? ⟨(ad.add (i * 3)).block, (ad.add (i * 3)).off + 2, none⟩ = some x2 ∧
        w'.cell? (ad.add (j * 3)) = some y0 ∧ w'.cell? ⟨(ad.add (j * 3)).block, (ad.add (j * 3)).off + 1, none⟩ = some y1 ∧ w'.cell? ⟨(ad.add (j * 3)).block, (ad.add (j * 3)).off + 2, none⟩ = some y2) := by
      refine Lib.hid fun w' hs => ?_
      have hA : ∀ n, (ad.add n).block < w.heap.size := fun n => by rw [block_add]; exact hbl
      exact ⟨(Below.cell hs (hA _)).trans a0, (Below.cell (p := ⟨(ad.add (i * 3)).block, _, none⟩) hs (hA _)).trans a1, (Below.cell (p := ⟨(ad.add (i * 3)).block, _, none⟩) hs (hA _)).trans a2,
        (Below.cell hs (hA _)).trans b0, (Below.cell (p := ⟨(ad.add (j * 3)).block, _, none⟩) hs (hA _)).trans b1, (Below.cell (p := ⟨(ad.add (j * 3)).block, _, none⟩) hs (hA _)).trans b2⟩
    clear a0 a1 a2 b0 b1 b2 hra hrb h hKa hKb hv
    have kB : Hid (∀ w1, Calls Try.prog 24 #[.agg #[x0, x1, x2], .agg #[y0, y1, y2]] w1 fun e w' => ∃ v, e = .returned v ∧ ShM (.agg KPose) v (btw a b) ∧ Stays w1 w') := Lib.hid (c_StepBetween _ _ _ _ hX hY)
    have kC : Hid (∀ v, ShM (.agg KPose) v (btw a b) → ∀ w1, Calls Try.prog 24 #[.agg #[.float .f32 r2, .float .f32 r3, .float .f32 r4], v] w1 fun e w' => ∃ u, e = .returned u ∧ ShM (.agg KPose) u (btw [n2, n3, n4] (btw a b)) ∧ Stays w1 w') := Lib.hid fun v hv => c_StepBetween _ _ _ _ hL hv
    replace hL := Lib.hid hL
    replace hX := Lib.hid hX
    replace hY := Lib.hid hY
    have hi1 : (i : Int) < (ps.length : Int) := by omega
    have hj1 : (j : Int) < (ps.length : Int) := by omega
    go_enter Try.func66, Try.ntmps66
    go_wp2
    generalize ((w.alloc (.cells #[.int .i64 i, .int .i64 j, .float .f32 r2, .float .f32 r3, .float .f32 r4, .float .f32 r5] 69)).alloc (.cells #[.float .f32 0, .float .f32 0, .float .f32 0] 25)) = W0 at hW ⊢
    have hcells : ∀ w1, Stays W0 w1 → _ := fun w1 hs => And.intro (hcells0.out w1 (hW.out.1.trans hs)) (And.intro (row_of hs hW.out.2.1 0) (And.intro (row_of hs hW.out.2.1 1) (And.intro (row_of hs hW.out.2.1 2) (And.intro (row_of hs hW.out.2.1 3) (row_of hs hW.out.2.1 4)))))
    refine wp_region_soft_tail 14 (Stays.refl _) (rowS 24 btw KPose KPose) [] (by kernel_rfl) (by kernel_rfl) (fun _ h => by cases h) ?_
    simp only [List.take_succ_cons, List.take_zero, List.drop_succ_cons, List.drop_zero]
    repeat (first | ((with_reducible apply soft_detG); (case hwa => rfl); (case hA => rfl); (case h => (intro w1 hw1; have hc := hcells w1 hw1; go_simp; exact rfl)); go_simp) | ((with_reducible apply soft_skipG); (case hwa => rfl); (case hA => rfl); go_simp))
    refine soft_callR (by rfl) rfl ?h hX.out hY.out kB.out ?_
    case h => (intro w1 hw1; have hc := hcells w1 hw1; go_simp; try exact ⟨rfl, rfl⟩)
    intro v hv
    replace hv := Lib.hid hv
    go_simp
    refine soft_callR (by rfl) rfl ?h hL.out hv.out (kC.out v hv.out) ?_
    case h => (intro w1 hw1; have hc := hcells w1 hw1; go_simp; try exact ⟨rfl, rfl⟩)
    rintro u ⟨cs, rfl, hu⟩
    have hcs : cs.size = 3 := (KMs_len hu)
    have hone := KMs_one hu
    replace hu := Lib.hid hu
    go_simp
    refine soft_nil ?_
    rintro w2 ⟨hw2, _⟩
    have hres := Stays.heap hw2 (Array.getElem?_eq_some_iff.1 hW.out.2.2).1 hW.out.2.2
    have hst := hW.out.1.trans hw2
    clear hw2
    refine wpList_store_row rfl _ _ _ rfl _ _ _ rfl rfl hres ?hi ?ho ?h1 ?hB hst ?_
    case hi => rw [hcs]; kernel_rfl
    case ho => rw [hcs]; rfl
    case h1 => exact Array.all_eq_true_iff_forall_mem.2 fun x hx => hone x (by simpa using hx)
    case hB => omega
    intro w3 hw3 hq3 _ _
    clear hone hres hst
    go_wp2
    apply end_agg rfl rfl rfl Try.underlying25 rfl (t := 25)
    case hg => exact hq3
    case hi => rw [hcs]; kernel_rfl
    case hR => exact ⟨_, rfl, ⟨cs, rfl, hu.out⟩, hw3⟩
end Go.Proofs.Ytfjchhfoefgldaa

namespace Go.Proofs.Ytfjchhfoefgldaa
open Go Go.RowKit
set_option linter.unusedVariables false
set_option linter.unusedSimpArgs false

theorem end_ct {P : Program} {fn : Func} {R : Ending → World → Prop} {a : Act} {w : World} {p u : Tmp} {ty t : TypeId} {g : Nat} {cs : Array Value} {d : TypeDesc}
    (h : fn.results = #[.cell p ty, .tmp u]) (hp : a.tmps.getD p undef = .pointer (some ⟨g, 0, none⟩)) (hf : a.defers = [])
    (hu : P.underlying ty = some d) (hd : (match d with | .struct _ | .array _ _ => true | _ => false) = true)
    (hg : w.heap[g]? = some (.cells cs t (0, 0))) (hi : (P.info? ty).map (·.size) = some cs.size) (hR : R (.returned (.tuple #[.agg cs, a.tmps.getD u undef])) w) : bodyPost P fn R .ret a w := by
  refine bodyPost_ret ?_ hf hR
  rw [results_cell_tmp h, hp]
  simp [asAddr, run_loadVar_row w g t ty cs (0, 0) d hg hu hd hi, Result.andThen]

def zP : List NV := [.f (can .f32 0), .f (can .f32 0), .f (can .f32 0)]
theorem zP_is : ShM (.agg KPose) (.agg #[.float .f32 0, .float .f32 0, .float .f32 0]) zP := ⟨_, rfl, ⟨0, rfl, FIs.self (by decide)⟩, ⟨0, rfl, FIs.self (by decide)⟩, ⟨0, rfl, FIs.self (by decide)⟩, trivial⟩

noncomputable def resRow (ps ls : List (List NV)) (k : Int) : List NV := if graphB ps ls = true ∧ 0 ≤ k ∧ k ≤ (ls.length : Int) - 1 then offOf ps (ls.getD k.toNat []) else zP
noncomputable def resCode (ps ls : List (List NV)) (k : Int) : Int := if graphB ps ls = true then (if 0 ≤ k ∧ k ≤ (ls.length : Int) - 1 then 0 else 2) else 1

theorem link_ok {ps ls : List (List NV)} {k : Nat} {r : List NV} (h : graphB ps ls = true) (hr : ls[k]? = some r) : ∃ i j a b, (r.getD 0 (.i 0)).gi = ((i : Nat) : Int) ∧ (r.getD 1 (.i 0)).gi = ((j : Nat) : Int) ∧ ps[i]? = some a ∧ ps[j]? = some b := by
  unfold graphB at h
  simp only [Bool.and_eq_true, decide_eq_true_eq] at h
  have hl := List.all_eq_true.1 h.2.2.2 r (List.mem_of_getElem? hr)
  unfold linkB at hl
  simp only [Bool.and_eq_true, decide_eq_true_eq] at hl
  obtain ⟨⟨⟨h1, h2⟩, h3, h4⟩, _⟩ := hl
  obtain ⟨i, hi⟩ := Int.eq_ofNat_of_zero_le h1
  obtain ⟨j, hj⟩ := Int.eq_ofNat_of_zero_le h3
  exact ⟨i, j, ps[i]'(by omega), ps[j]'(by omega), hi, hj, List.getElem?_eq_getElem _, List.getElem?_eq_getElem _⟩

def ResAs (w : World) (row : List NV) (code : Int) (e : Ending) (w' : World) : Prop := ∃ v, e = .returned (.tuple #[v, .int .i64 code]) ∧ ShM (.agg KPose) v row ∧ Below w.heap.size w w'

set_option maxRecDepth 100000 in
set_option maxHeartbeats 1000000 in
theorem c_specRes (v : Value) (ps ls : List (List NV)) (k : Int) (w : World) (h : GrV w w.heap.size v ps ls) (hn : ps.length ≤ 1048576) (hm : ls.length ≤ 1048576) :
    Calls Try.prog 36 #[v, .int .i64 k] w (ResAs w (resRow ps ls k) (resCode ps ls k)) := by
  obtain ⟨A, c, A', c', rfl, h1, h2⟩ := h.val
  have hW : Hid (∀ w1, Stays ((w.alloc (.cells #[.slice A ps.length c, .slice A' ls.length c'] 46)).alloc (.cells #[.float .f32 0, .float .f32 0, .float .f32 0] 25)) w1 →
      w1.heap[w.heap.size]? = some (.cells #[.slice A ps.length c, .slice A' ls.length c'] 46 (0, 0)) ∧ w1.heap[w.heap.size + 1]? = some (.cells #[.float .f32 0, .float .f32 0, .float .f32 0] 25 (0, 0)) ∧ Stays w w1) := by
    have u0 : ((w.alloc (.cells #[.slice A ps.length c, .slice A' ls.length c'] 46)).alloc (.cells #[.float .f32 0, .float .f32 0, .float .f32 0] 25)).heap[w.heap.size]? = some (.cells #[.slice A ps.length c, .slice A' ls.length c'] 46 (0, 0)) := by (repeat (first | (refine heap_top _ _ _ ?_; simp; done) | (with_reducible refine heap_drawn _ _ _ ?_) | (with_reducible refine heap_under _ _ _ ?_ ?_; (simp <;> omega))))
    have u1 : ((w.alloc (.cells #[.slice A ps.length c, .slice A' ls.length c'] 46)).alloc (.cells #[.float .f32 0, .float .f32 0, .float .f32 0] 25)).heap[w.heap.size + 1]? = some (.cells #[.float .f32 0, .float .f32 0, .float .f32 0] 25 (0, 0)) := by (repeat (first | (refine heap_top _ _ _ ?_; simp; done) | (with_reducible refine heap_drawn _ _ _ ?_) | (with_reducible refine heap_under _ _ _ ?_ ?_; (simp <;> omega))))
    exact Lib.hid fun w1 hs => ⟨hs.heap (in_heap u0) u0, hs.heap (in_heap u1) u1, Stays.trans (by (repeat (first | exact Stays.refl _ | (with_reducible refine Stays.drewN ?_ _) | (with_reducible refine Stays.alloc ?_ _) | (with_reducible refine Stays.drew ?_) | (refine Stays.trans ?_ ‹Stays _ _›)))) hs⟩
  generalize hWe : ((w.alloc (.cells #[.slice A ps.length c, .slice A' ls.length c'] 46)).alloc (.cells #[.float .f32 0, .float .f32 0, .float .f32 0] 25)) = W1 at hW
  have kOk : Hid (∀ w1, Stays W1 w1 → Calls Try.prog 53 #[.pointer (some ⟨w.heap.size, 0, none⟩)] w1 fun e w' => e = .returned (.bool (graphB ps ls)) ∧ Stays w1 w') := Lib.hid fun w1 hs => by
    obtain ⟨a0, _, a2⟩ := hW.out w1 hs
    exact c_l06Ok w.heap.size A A' c c' ps ls w1 a0 ((h1.below a2).more a2.size) ((h2.below a2).more a2.size) hn hm
  have hc : Stays W1 W1 := Stays.refl W1
  have hcell : Hid (∀ w1, Stays W1 w1 → w1.cell? ⟨w.heap.size, 1, none⟩ = some (.slice A' ls.length c')) := Lib.hid fun w1 hs => cell_of_row _ _ _ _ _ _ (hW.out w1 hs).1
  have hfin : ∀ (w2 : World) (v : Value) (code : Int) (row : List NV), Stays w w2 → ShM (.agg KPose) v row → row = resRow ps ls k → code = resCode ps ls k → ResAs w (resRow ps ls k) (resCode ps ls k) (.returned (.tuple #[v, .int .i64 code])) w2 := fun w2 v code row hs hv e1 e2 => ⟨v, by rw [e2], e1 ▸ hv, hs⟩
  replace hfin := Lib.hid hfin
  cases hgr : graphB ps ls with
  | false =>
    have e1 : zP = resRow ps ls k := by unfold resRow; rw [hgr]; simp
    have e2 : (1 : Int) = resCode ps ls k := by unfold resCode; rw [hgr]; simp
    simp only [hgr] at kOk
    replace e1 := Lib.hid e1
    replace e2 := Lib.hid e2
    clear h h1 h2
    go_enter Try.func36, Try.ntmps36
    go_wp2_with fail
    refine (kOk.out W1 hc).mono ?_
    rintro e w1 ⟨rfl, hs⟩
    obtain ⟨_, hres, hst⟩ := hW.out w1 hs
    clear hs hWe
    go_wp2_with (first | ((refine wpList_store_row rfl _ _ _ rfl _ _ _ rfl rfl hres ?hi ?ho ?h1 ?hB hst ?_); (case hi => kernel_rfl); (case ho => rfl); (case h1 => first | rfl | simp [Value.oneCell']); (case hB => first | omega | (simp <;> omega)); intro w2 hw2 hq2 _ _))
    apply end_ct rfl rfl rfl Try.underlying25 rfl (t := 25)
    case hg => exact hq2
    case hi => kernel_rfl
    case hR => exact hfin.out _ _ _ _ hw2 zP_is e1.out e2.out
  | true =>
    simp only [hgr] at kOk
    by_cases hk : 0 ≤ k ∧ k ≤ (ls.length : Int) - 1
    · obtain ⟨kk, rfl⟩ := Int.eq_ofNat_of_zero_le hk.1
      have hkl : kk < ls.length := by omega
      obtain ⟨ad', rfl, hbl, hrow⟩ := h2 kk ls[kk] (List.getElem?_eq_getElem hkl)
      have hr := List.getElem?_eq_getElem hkl
      obtain ⟨i, j, a, b, hi, hj, ha, hb⟩ := link_ok hgr hr
      have e1 : offOf ps ls[kk] = resRow ps ls kk := by
        unfold resRow
        rw [if_pos ⟨hgr, hk⟩, Int.toNat_natCast, List.getD_eq_getElem?_getD, hr]; rfl
      have e2 : (0 : Int) = resCode ps ls kk := by unfold resCode; rw [if_pos hgr, if_pos hk]
      generalize ls[kk] = r at hrow hi hj e1
      have kOff : Hid (∀ w1, Stays W1 w1 → Calls Try.prog 65 #[.pointer (some ⟨w.heap.size, 0, none⟩), .pointer (some (ad'.add (kk * 6)))] w1 fun e w' => ∃ v, e = .returned v ∧ ShM (.agg KPose) v (offOf ps r) ∧ Stays w1 w') := Lib.hid fun w1 hs => by
        obtain ⟨a0, _, a2⟩ := hW.out w1 hs
        exact c_l06Off w.heap.size A _ c c' i j ps ls _ r a b w1 a0 ((h1.below a2).more a2.size) (hrow.below a2 (by rw [block_add]; exact hbl)) (by rw [block_add]; exact Nat.lt_of_lt_of_le hbl a2.size) hi hj ha hb
      have hw1 : IntKind.i64.wrap ((ls.length : Int) - 1) = (ls.length : Int) - 1 := IntWalk.i64_in _ (by omega)
      have hk1 : (kk : Int) < (ls.length : Int) := by omega
      have hkd : decide (0 ≤ (kk : Int) ∧ (kk : Int) ≤ (ls.length : Int) - 1) = true := decide_eq_true hk
      replace e1 := Lib.hid e1
      replace e2 := Lib.hid e2
      replace hkd := Lib.hid hkd
      clear h h1 h2 hrow hi hj ha hb hr hk
      go_enter Try.func36, Try.ntmps36
      go_wp2_with fail
      refine (kOk.out W1 hc).mono ?_
      rintro e w1 ⟨rfl, hs⟩
      have q1 := hcell.out _ hs
      replace hs := Lib.hid hs
      clear hWe hc
      go_wp2_with (go_at_call 64; refine (c_l00In _ _ _ _).mono ?_; rintro e w' ⟨rfl, rfl⟩; rw [hkd.out])
      refine (kOff.out _ hs.out).mono ?_
      rintro e w2 ⟨v, rfl, ⟨cs, rfl, hv⟩, hs2⟩
      obtain ⟨_, hres, hst⟩ := hW.out w2 (hs.out.trans hs2)
      have hcs : cs.size = 3 := KMs_len hv
      have hone := KMs_one hv
      replace hv := Lib.hid hv
      clear hs2
      go_wp2_with (refine wpList_store_row rfl _ _ _ rfl _ _ _ rfl rfl hres ?hi ?ho ?h1 ?hB hst ?_; (case hi => (rw [hcs]; kernel_rfl)); (case ho => (rw [hcs]; rfl)); (case h1 => exact Array.all_eq_true_iff_forall_mem.2 fun x hx => hone x (by simpa using hx)); (case hB => first | omega | (simp <;> omega)); intro w3 hw3 hq3 _ _)
      apply end_ct rfl rfl rfl Try.underlying25 rfl (t := 25)
      case hg => exact hq3
      case hi => rw [hcs]; kernel_rfl
      case hR => exact hfin.out _ _ _ _ hw3 ⟨cs, rfl, hv.out⟩ e1.out e2.out
    · have e1 : zP = resRow ps ls k := by unfold resRow; rw [if_neg fun h => hk h.2]
      have e2 : (2 : Int) = resCode ps ls k := by unfold resCode; rw [if_pos hgr, if_neg hk]
      have hw1 : IntKind.i64.wrap ((ls.length : Int) - 1) = (ls.length : Int) - 1 := IntWalk.i64_in _ (by omega)
      have hkd : decide (0 ≤ k ∧ k ≤ (ls.length : Int) - 1) = false := decide_eq_false hk
      replace e1 := Lib.hid e1
      replace e2 := Lib.hid e2
      replace hkd := Lib.hid hkd
      clear h h1 h2
      go_enter Try.func36, Try.ntmps36
      go_wp2_with fail
      refine (kOk.out W1 hc).mono ?_
      rintro e w1 ⟨rfl, hs⟩
      have q1 := hcell.out _ hs
      obtain ⟨_, hres, hst⟩ := hW.out w1 hs
      clear hs hWe hc
      go_wp2_with (first | (go_at_call 64; refine (c_l00In _ _ _ _).mono ?_; rintro e w' ⟨rfl, rfl⟩; rw [hkd.out]) | ((refine wpList_store_row rfl _ _ _ rfl _ _ _ rfl rfl hres ?hi ?ho ?h1 ?hB hst ?_); (case hi => kernel_rfl); (case ho => rfl); (case h1 => first | rfl | simp [Value.oneCell']); (case hB => first | omega | (simp <;> omega)); intro w2 hw2 hq2 _ _))
      apply end_ct rfl rfl rfl Try.underlying25 rfl (t := 25)
      case hg => exact hq2
      case hi => kernel_rfl
      case hR => exact hfin.out _ _ _ _ hw2 zP_is e1.out e2.out
set_option maxRecDepth 100000 in
set_option maxHeartbeats 1000000 in
theorem c_implRes (v : Value) (ps ls : List (List NV)) (k : Int) (w : World) (h : GrV w w.heap.size v ps ls) (hn : ps.length ≤ 1048576) (hm : ls.length ≤ 1048576) :
    Calls Try.prog 37 #[v, .int .i64 k] w (ResAs w (resRow ps ls k) (resCode ps ls k)) := by
  obtain ⟨A, c, A', c', rfl, h1, h2⟩ := h.val
  have hW : Hid (∀ w1, Stays ((w.alloc (.cells #[.slice A ps.length c, .slice A' ls.length c'] 46)).alloc (.cells #[.float .f32 0, .float .f32 0, .float .f32 0] 25)) w1 →
      w1.heap[w.heap.size]? = some (.cells #[.slice A ps.length c, .slice A' ls.length c'] 46 (0, 0)) ∧ w1.heap[w.heap.size + 1]? = some (.cells #[.float .f32 0, .float .f32 0, .float .f32 0] 25 (0, 0)) ∧ Stays w w1) := by
    have u0 : ((w.alloc (.cells #[.slice A ps.length c, .slice A' ls.length c'] 46)).alloc (.cells #[.float .f32 0, .float .f32 0, .float .f32 0] 25)).heap[w.heap.size]? = some (.cells #[.slice A ps.length c, .slice A' ls.length c'] 46 (0, 0)) := by (repeat (first | (refine heap_top _ _ _ ?_; simp; done) | (with_reducible refine heap_drawn _ _ _ ?_) | (with_reducible refine heap_under _ _ _ ?_ ?_; (simp <;> omega))))
    have u1 : ((w.alloc (.cells #[.slice A ps.length c, .slice A' ls.length c'] 46)).alloc (.cells #[.float .f32 0, .float .f32 0, .float .f32 0] 25)).heap[w.heap.size + 1]? = some (.cells #[.float .f32 0, .float .f32 0, .float .f32 0] 25 (0, 0)) := by (repeat (first | (refine heap_top _ _ _ ?_; simp; done) | (with_reducible refine heap_drawn _ _ _ ?_) | (with_reducible refine heap_under _ _ _ ?_ ?_; (simp <;> omega))))
    exact Lib.hid fun w1 hs => ⟨hs.heap (in_heap u0) u0, hs.heap (in_heap u1) u1, Stays.trans (by (repeat (first | exact Stays.refl _ | (with_reducible refine Stays.drewN ?_ _) | (with_reducible refine Stays.alloc ?_ _) | (with_reducible refine Stays.drew ?_) | (refine Stays.trans ?_ ‹Stays _ _›)))) hs⟩
  generalize hWe : ((w.alloc (.cells #[.slice A ps.length c, .slice A' ls.length c'] 46)).alloc (.cells #[.float .f32 0, .float .f32 0, .float .f32 0] 25)) = W1 at hW
  have kOk : Hid (∀ w1, Stays W1 w1 → Calls Try.prog 32 #[.agg #[.slice A ps.length c, .slice A' ls.length c']] w1 fun e w' => e = .returned (.bool (graphB ps ls)) ∧ Stays w1 w') := Lib.hid fun w1 hs => by
    obtain ⟨a0, _, a2⟩ := hW.out w1 hs
    exact c_implValidGraph _ ps ls w1 (h.on a2) hn hm
  have hc : Stays W1 W1 := Stays.refl W1
  have hcell : Hid (∀ w1, Stays W1 w1 → w1.cell? ⟨w.heap.size, 0, none⟩ = some (.slice A ps.length c) ∧ w1.cell? ⟨w.heap.size, 1, none⟩ = some (.slice A' ls.length c')) := Lib.hid fun w1 hs => ⟨cell_of_row _ _ _ _ _ _ (hW.out w1 hs).1, cell_of_row _ _ _ _ _ _ (hW.out w1 hs).1⟩
  obtain ⟨z0, z1⟩ := hcell.out W1 hc
  have hfin : ∀ (w2 : World) (v : Value) (code : Int) (row : List NV), Stays w w2 → ShM (.agg KPose) v row → row = resRow ps ls k → code = resCode ps ls k → ResAs w (resRow ps ls k) (resCode ps ls k) (.returned (.tuple #[v, .int .i64 code])) w2 := fun w2 v code row hs hv e1 e2 => ⟨v, by rw [e2], e1 ▸ hv, hs⟩
  replace hfin := Lib.hid hfin
  cases hgr : graphB ps ls with
  | false =>
    have e1 : zP = resRow ps ls k := by unfold resRow; rw [hgr]; simp
    have e2 : (1 : Int) = resCode ps ls k := by unfold resCode; rw [hgr]; simp
    simp only [hgr] at kOk
    replace e1 := Lib.hid e1
    replace e2 := Lib.hid e2
    clear h h1 h2
    go_enter Try.func37, Try.ntmps37
    go_wp2_with fail
    refine (kOk.out W1 hc).mono ?_
    rintro e w1 ⟨rfl, hs⟩
    obtain ⟨_, hres, hst⟩ := hW.out w1 hs
    clear hs hWe
    go_wp2_with (first | ((refine wpList_store_row rfl _ _ _ rfl _ _ _ rfl rfl hres ?hi ?ho ?h1 ?hB hst ?_); (case hi => kernel_rfl); (case ho => rfl); (case h1 => first | rfl | simp [Value.oneCell']); (case hB => first | omega | (simp <;> omega)); intro w2 hw2 hq2 _ _))
    apply end_ct rfl rfl rfl Try.underlying25 rfl (t := 25)
    case hg => exact hq2
    case hi => kernel_rfl
    case hR => exact hfin.out _ _ _ _ hw2 zP_is e1.out e2.out
  | true =>
    simp only [hgr] at kOk
    by_cases hk : 0 ≤ k ∧ k ≤ (ls.length : Int) - 1
    · obtain ⟨kk, rfl⟩ := Int.eq_ofNat_of_zero_le hk.1
      have hkl : kk < ls.length := by omega
      obtain ⟨ad', rfl, hbl, hrow⟩ := h2 kk ls[kk] (List.getElem?_eq_getElem hkl)
      have hr := List.getElem?_eq_getElem hkl
      obtain ⟨i, j, a, b, hi, hj, ha, hb⟩ := link_ok hgr hr
      have e1 : offOf ps ls[kk] = resRow ps ls kk := by
        unfold resRow
        rw [if_pos ⟨hgr, hk⟩, Int.toNat_natCast, List.getD_eq_getElem?_getD, hr]; rfl
      have e2 : (0 : Int) = resCode ps ls kk := by unfold resCode; rw [if_pos hgr, if_pos hk]
      generalize ls[kk] = r at hrow hi hj e1
      obtain ⟨l0, l1, l2, l3, l4, l5, hK, g0, g1, g2, g3, g4, g5⟩ := row6 rfl hrow
      have kOff : Hid (∀ w1, Stays W1 w1 → Calls Try.prog 66 #[.agg #[l0, l1, l2, l3, l4, l5], .slice A ps.length c] w1 fun e w' => ∃ v, e = .returned v ∧ ShM (.agg KPose) v (offOf ps r) ∧ Stays w1 w') := Lib.hid fun w1 hs => by
        obtain ⟨a0, _, a2⟩ := hW.out w1 hs
        exact c_off A c i j ps #[l0, l1, l2, l3, l4, l5] r a b w1 hK ((h1.below a2).more a2.size) hi hj ha hb
      have hlc : Hid (∀ w1, Stays W1 w1 → w1.cell? (ad'.add (kk * 6)) = some l0 ∧ w1.cell? ⟨(ad'.add (kk * 6)).block, (ad'.add (kk * 6)).off + 1, none⟩ = some l1 ∧ w1.cell? ⟨(ad'.add (kk * 6)).block, (ad'.add (kk * 6)).off + 2, none⟩ = some l2 ∧ w1.cell? ⟨(ad'.add (kk * 6)).block, (ad'.add (kk * 6)).off + 3, none⟩ = some l3 ∧ w1.cell? ⟨(ad'.add (kk * 6)).block, (ad'.add (kk * 6)).off + 4, none⟩ = some l4 ∧ w1.cell? ⟨(ad'.add (kk * 6)).block, (ad'.add (kk * 6)).off + 5, none⟩ = some l5) := Lib.hid fun w1 hs => by
        obtain ⟨_, _, a2⟩ := hW.out w1 hs
        have hA : ∀ n, (ad'.add n).block < w.heap.size := fun n => by rw [block_add]; exact hbl
        exact ⟨(Below.cell a2 (hA _)).trans g0, (Below.cell (p := ⟨(ad'.add (kk * 6)).block, _, none⟩) a2 (hA _)).trans g1, (Below.cell (p := ⟨(ad'.add (kk * 6)).block, _, none⟩) a2 (hA _)).trans g2, (Below.cell (p := ⟨(ad'.add (kk * 6)).block, _, none⟩) a2 (hA _)).trans g3, (Below.cell (p := ⟨(ad'.add (kk * 6)).block, _, none⟩) a2 (hA _)).trans g4, (Below.cell (p := ⟨(ad'.add (kk * 6)).block, _, none⟩) a2 (hA _)).trans g5⟩
      clear g0 g1 g2 g3 g4 g5 hK
      have hw1 : IntKind.i64.wrap ((ls.length : Int) - 1) = (ls.length : Int) - 1 := IntWalk.i64_in _ (by omega)
      have hk1 : (kk : Int) < (ls.length : Int) := by omega
      have hkd : decide (0 ≤ (kk : Int) ∧ (kk : Int) ≤ (ls.length : Int) - 1) = true := decide_eq_true hk
      replace e1 := Lib.hid e1
      replace e2 := Lib.hid e2
      replace hkd := Lib.hid hkd
      clear h h1 h2 hrow hi hj ha hb hr hk
      go_enter Try.func37, Try.ntmps37
      go_wp2_with fail
      refine (kOk.out W1 hc).mono ?_
      rintro e w1 ⟨rfl, hs⟩
      clear z0 z1
      obtain ⟨q0, q1⟩ := hcell.out _ hs
      replace hs := Lib.hid hs
      clear hWe hc
      have hk0 : ¬ ((kk : Int) < 0) := by omega
      have hk2 : ¬ ((ls.length : Int) ≤ (kk : Int)) := by omega
      go_wp2
      have hcells : ∀ w2, Stays w1 w2 → _ := fun w2 h => And.intro (hcell.out w2 (hs.out.trans h)) (hlc.out w2 (hs.out.trans h))
      have kOff2 : Hid (∀ w2, Stays w1 w2 → Calls Try.prog 66 #[.agg #[l0, l1, l2, l3, l4, l5], .slice A ps.length c] w2 fun e w' => ∃ v, e = .returned v ∧ ShM (.agg KPose) v (offOf ps r) ∧ Stays w2 w') := Lib.hid fun w2 h => kOff.out w2 (hs.out.trans h)
      clear q0 q1 kOff hkd
      refine wp_region_soft_tail 8 (Stays.refl _) (oneS 66 #[.agg #[l0, l1, l2, l3, l4, l5], .slice A ps.length c] (fun v => ShM (.agg KPose) v (offOf ps r))) [] (by kernel_rfl) (by kernel_rfl) (fun _ h => by cases h) ?_
      simp only [List.take_succ_cons, List.take_zero, List.drop_succ_cons, List.drop_zero]
      repeat ((with_reducible apply soft_detG); (case hwa => rfl); (case hA => rfl); (case h => (intro w1 hw1; have hc := hcells w1 hw1; go_simp; exact rfl)); go_simp)
      refine soft_callO (by rfl) rfl ?h kOff2.out ?_
      case h => (intro w1 hw1; have hc := hcells w1 hw1; go_simp; try exact ⟨rfl, rfl⟩)
      rintro v ⟨cs, rfl, hv⟩
      have hcs : cs.size = 3 := KMs_len hv
      have hone := KMs_one hv
      replace hv := Lib.hid hv
      go_simp
      refine soft_nil ?_
      rintro w2 ⟨hs2, _⟩
      obtain ⟨_, hres, hst⟩ := hW.out w2 (hs.out.trans hs2)
      clear hs2 hcells
      refine wpList_store_row rfl _ _ _ rfl _ _ _ rfl rfl hres ?hi ?ho ?h1 ?hB hst ?_
      case hi => rw [hcs]; kernel_rfl
      case ho => rw [hcs]; rfl
      case h1 => exact Array.all_eq_true_iff_forall_mem.2 fun x hx => hone x (by simpa using hx)
      case hB => omega
      intro w3 hw3 hq3 _ _
      clear hone hres hst
      go_wp2
      apply end_ct rfl rfl rfl Try.underlying25 rfl (t := 25)
      case hg => exact hq3
      case hi => rw [hcs]; kernel_rfl
      case hR => exact hfin.out _ _ _ _ hw3 ⟨cs, rfl, hv.out⟩ e1.out e2.out
    · have e1 : zP = resRow ps ls k := by unfold resRow; rw [if_neg fun h => hk h.2]
      have e2 : (2 : Int) = resCode ps ls k := by unfold resCode; rw [if_pos hgr, if_neg hk]
      have hw1 : IntKind.i64.wrap ((ls.length : Int) - 1) = (ls.length : Int) - 1 := IntWalk.i64_in _ (by omega)
      replace e1 := Lib.hid e1
      replace e2 := Lib.hid e2
      clear h h1 h2
      have hk3 : k < 0 ∨ ¬ k < 0 ∧ (ls.length : Int) ≤ k := by omega
      rcases hk3 with hk3 | ⟨hk3, hk4⟩
      all_goals
        go_enter Try.func37, Try.ntmps37
        go_wp2_with fail
        refine (kOk.out W1 hc).mono ?_
        rintro e w1 ⟨rfl, hs⟩
        clear z0 z1
        obtain ⟨q0, q1⟩ := hcell.out _ hs
        obtain ⟨_, hres, hst⟩ := hW.out w1 hs
        clear hs hWe hc
        go_wp2_with ((refine wpList_store_row rfl _ _ _ rfl _ _ _ rfl rfl hres ?hi ?ho ?h1 ?hB hst ?_); (case hi => kernel_rfl); (case ho => rfl); (case h1 => first | rfl | simp [Value.oneCell']); (case hB => first | omega | (simp <;> omega)); intro w2 hw2 hq2 _ _)
        apply end_ct rfl rfl rfl Try.underlying25 rfl (t := 25)
        case hg => exact hq2
        case hi => kernel_rfl
        case hR => exact hfin.out _ _ _ _ hw2 zP_is e1.out e2.out
end Go.Proofs.Ytfjchhfoefgldaa

namespace Go.Proofs.Ytfjchhfoefgldaa
open Go Go.RowKit
set_option linter.unusedVariables false
set_option linter.unusedSimpArgs false

theorem pose_val {v : Value} {r : List NV} (h : ShM (.agg KPose) v r) : ∃ ra rb rc, v = .agg #[.float .f32 ra, .float .f32 rb, .float .f32 rc] := by
  obtain ⟨⟨cs⟩, rfl, hk⟩ := h
  obtain ⟨ra, rb, rc, e⟩ := pose_cells hk
  have e : cs = _ := e
  subst e
  exact ⟨ra, rb, rc, rfl⟩

/-- A pose in a block of its own. -/
theorem boxPose {w : World} {a b c : Nat} {r : List NV} (h : ShM (.agg KPose) (.agg #[.float .f32 a, .float .f32 b, .float .f32 c]) r) : ∀ w1, Stays (w.alloc (.cells #[.float .f32 a, .float .f32 b, .float .f32 c] 25)) w1 →
    w1.cell? ⟨w.heap.size, 0, none⟩ = some (.float .f32 a) ∧ w1.cell? ⟨w.heap.size, 1, none⟩ = some (.float .f32 b) ∧ w1.cell? ⟨w.heap.size, 2, none⟩ = some (.float .f32 c) ∧ Stays w w1 := fun w1 hb =>
  ⟨row_of hb (heap_alloc_new w _) 0, row_of hb (heap_alloc_new w _) 1, row_of hb (heap_alloc_new w _) 2, (show Stays w _ from by (repeat (first | exact Stays.refl _ | (with_reducible refine Stays.drewN ?_ _) | (with_reducible refine Stays.alloc ?_ _) | (with_reducible refine Stays.drew ?_) | (refine Stays.trans ?_ ‹Stays _ _›)))).trans hb⟩

set_option maxRecDepth 100000 in
set_option maxHeartbeats 1000000 in
theorem c_lawResidualOf (v : Value) (ps ls : List (List NV)) (k : Int) (w : World) (h : GrV w w.heap.size v ps ls) (hn : ps.length ≤ 9223372036854775807) (hm : ls.length ≤ 9223372036854775807) :
    Calls Try.prog 11 #[v, .int .i64 k] w fun e w' => e = .returned (.bool true) ∧ Below w.heap.size w w' := by
  obtain ⟨A, c, A', c', rfl, HB⟩ := boxGr 40 h
  clear h
  replace HB := Lib.hid HB
  have hsz := fun W => c_szPoseGraph A A' c c' ps.length ls.length 1048576 W hn hm (by omega) (by omega)
  by_cases hl : (1048576 : Int) - ps.length - ls.length < 0
  · simp only [if_pos hl] at hsz
    replace hsz := Lib.hid hsz
    go_enter Try.func11, Try.ntmps11
    go_wp2_with fail
    refine (hsz.out _).mono ?_
    rintro e w1 ⟨rfl, hb⟩
    go_wp2
    go_ret
    exact ⟨rfl, (HB.out _ hb).1.2⟩
  · simp only [if_neg hl] at hsz
    have hn' : ps.length ≤ 1048576 := by omega
    have hm' : ls.length ≤ 1048576 := by omega
    have hX : ¬ ((1048576 : Int) - ps.length - ls.length < 0) := hl
    generalize (1048576 : Int) - ps.length - ls.length = X at hX hsz
    replace hsz := Lib.hid hsz
    clear hl hn hm
    have kS := Lib.hid fun v w h => c_specRes v ps ls k w h hn' hm'
    have kI := Lib.hid fun v w h => c_implRes v ps ls k w h hn' hm'
    generalize resRow ps ls k = row at kS kI
    generalize resCode ps ls k = code at kS kI
    go_enter Try.func11, Try.ntmps11
    go_wp2_with fail
    refine (hsz.out _).mono ?_
    rintro e w1 ⟨rfl, hb⟩
    have hb1 := Lib.hid (show Stays _ w1 from hb)
    clear hb
    generalize (w.alloc (.cells #[.slice A ps.length c, .slice A' ls.length c'] 40)) = W0 at HB hb1
    obtain ⟨⟨⟨q0, q1⟩, _⟩, hg⟩ := HB.out _ hb1.out
    replace hg := Lib.hid hg
    go_wp2_with fail
    refine (c_toGr _ ps ls w1 hg.out hn' hm').mono ?_
    rintro e w2 ⟨v1, rfl, hb, hv1⟩
    have hb2 := Lib.hid (hb1.out.trans hb)
    clear hb
    replace hv1 := Lib.hid hv1
    go_wp2_with fail
    refine (kS.out v1 w2 hv1.out).mono ?_
    rintro e w3 ⟨u0, rfl, hu0, hb⟩
    obtain ⟨ra, rb, rc, rfl⟩ := pose_val hu0
    have hb3 := Lib.hid ((hb2.out.trans hb).trans (show Stays w3 (w3.alloc (.cells #[.float .f32 ra, .float .f32 rb, .float .f32 rc] 25)) from by (repeat (first | exact Stays.refl _ | (with_reducible refine Stays.drewN ?_ _) | (with_reducible refine Stays.alloc ?_ _) | (with_reducible refine Stays.drew ?_) | (refine Stays.trans ?_ ‹Stays _ _›)))))
    have h3 := Lib.hid (Stays.refl (w3.alloc (.cells #[.float .f32 ra, .float .f32 rb, .float .f32 rc] 25)))
    have H3 := Lib.hid (boxPose (w := w3) hu0)
    replace hu0 := Lib.hid hu0
    clear hb hv1 q0 q1 hg
    obtain ⟨⟨⟨q0, q1⟩, _⟩, hg⟩ := HB.out _ hb3.out
    replace hg := Lib.hid hg
    go_wp2_with fail
    generalize (w3.alloc (.cells #[.float .f32 ra, .float .f32 rb, .float .f32 rc] 25)) = W3 at hb3 h3 H3 q0 q1 hg ⊢
    refine (c_toGr _ ps ls W3 hg.out hn' hm').mono ?_
    rintro e w4 ⟨v2, rfl, hb, hv2⟩
    have hb4 := Lib.hid (hb3.out.trans hb)
    have h4 := Lib.hid (h3.out.trans hb)
    clear hb q0 q1 hg
    obtain ⟨D, d, D', d', rfl, HX⟩ := boxGr 46 hv2
    clear hv2
    replace HX := Lib.hid HX
    go_wp2_with fail
    have hs4 := show Stays w4 (w4.alloc (.cells #[.slice D ps.length d, .slice D' ls.length d'] 46)) from by (repeat (first | exact Stays.refl _ | (with_reducible refine Stays.drewN ?_ _) | (with_reducible refine Stays.alloc ?_ _) | (with_reducible refine Stays.drew ?_) | (refine Stays.trans ?_ ‹Stays _ _›)))
    have hb4x := Lib.hid (hb4.out.trans hs4)
    have h4x := Lib.hid (h4.out.trans hs4)
    have hxx := Lib.hid (Stays.refl (w4.alloc (.cells #[.slice D ps.length d, .slice D' ls.length d'] 46)))
    generalize (w4.alloc (.cells #[.slice D ps.length d, .slice D' ls.length d'] 46)) = WX at HX hb4x hxx h4x ⊢
    clear hs4
    refine (kI.out _ WX (HX.out _ hxx.out).2).mono ?_
    rintro e w5 ⟨u1, rfl, hu1, hb⟩
    obtain ⟨sa, sb, sc, rfl⟩ := pose_val hu1
    have hs5 := Stays.trans (show Stays WX w5 from hb) (show Stays w5 (w5.alloc (.cells #[.float .f32 sa, .float .f32 sb, .float .f32 sc] 25)) from by (repeat (first | exact Stays.refl _ | (with_reducible refine Stays.drewN ?_ _) | (with_reducible refine Stays.alloc ?_ _) | (with_reducible refine Stays.drew ?_) | (refine Stays.trans ?_ ‹Stays _ _›))))
    have hb5 := Lib.hid (hb4x.out.trans hs5)
    have h5 := Lib.hid (h4x.out.trans hs5)
    replace hxx := Lib.hid (hxx.out.trans hs5)
    have H5 := Lib.hid (boxPose (w := w5) hu1)
    clear hb hs5
    obtain ⟨y0, y1, y2, _⟩ := H3.out _ h5.out
    have keq := Lib.hid fun W => c_eqPose (.agg #[.float .f32 sa, .float .f32 sb, .float .f32 sc]) (.agg #[.float .f32 ra, .float .f32 rb, .float .f32 rc]) row W hu1 hu0.out
    obtain ⟨z0, z1, z2, _⟩ := H5.out _ (Stays.refl _)
    replace hu1 := Lib.hid hu1
    go_wp2_with fail
    generalize (w5.alloc (.cells #[.float .f32 sa, .float .f32 sb, .float .f32 sc] 25)) = W5 at hb5 h5 hxx y0 y1 y2 z0 z1 z2 H5 ⊢
    refine (keq.out W5).mono ?_
    rintro e w6 ⟨rfl, hb⟩
    have hb6 := Lib.hid (hb5.out.trans hb)
    replace hxx := Lib.hid (hxx.out.trans hb)
    clear hb y0 y1 y2 z0 z1 z2
    have G : Hid (∀ w', Stays w6 w' → (w'.cell? ⟨w.heap.size, 0, none⟩ = some (.slice A ps.length c) ∧ w'.cell? ⟨w.heap.size, 1, none⟩ = some (.slice A' ls.length c') ∧ w'.cell? ⟨w4.heap.size, 0, none⟩ = some (.slice D ps.length d) ∧ w'.cell? ⟨w4.heap.size, 1, none⟩ = some (.slice D' ls.length d') ∧ Hid (Stays w6 w'))) := Lib.hid fun w' h => ⟨(HB.out _ (hb6.out.trans h)).1.1.1, (HB.out _ (hb6.out.trans h)).1.1.2, (HX.out _ (hxx.out.trans h)).1.1.1, (HX.out _ (hxx.out.trans h)).1.1.2, Lib.hid h⟩
    have h6 := Lib.hid (show Stays w6 w6.drew from (Stays.refl w6).drew)
    go_wp2_with fail
    go_region_held (fun w' => (w'.cell? ⟨w.heap.size, 0, none⟩ = some (.slice A ps.length c) ∧ w'.cell? ⟨w.heap.size, 1, none⟩ = some (.slice A' ls.length c') ∧ w'.cell? ⟨w4.heap.size, 0, none⟩ = some (.slice D ps.length d) ∧ w'.cell? ⟨w4.heap.size, 1, none⟩ = some (.slice D' ls.length d') ∧ Hid (Stays w6 w'))) (first | exact G.out _ h6.out | exact G.out _ h7.out | exact G.out _ h8.out)
      (first
        | (go_at_call 31; refine (c_toGr _ ps ls _ (HB.out _ (hb6.out.trans h6.out)).2 hn' hm').mono ?_; rintro e w7 ⟨v3, rfl, hb, hv3⟩; have h7 := Lib.hid (h6.out.trans hb); clear hb; replace hv3 := Lib.hid hv3)
        | (go_at_call 33; refine (c_eqPoseGraph _ v3 ps ls w7 (HX.out _ (hxx.out.trans h7.out)).2 hv3.out hn' hm').mono ?_; rintro e w8 ⟨rfl, hb⟩; have h8 := Lib.hid (h7.out.trans hb); clear hb))
    go_wp2
    go_ret
    exact ⟨rfl, (HB.out _ (hb6.out.trans h8.out)).1.2⟩
end Go.Proofs.Ytfjchhfoefgldaa
