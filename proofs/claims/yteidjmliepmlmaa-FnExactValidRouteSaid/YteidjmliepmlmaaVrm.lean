/- Steps: one that may be made, as the document says it. Routes: whether one is valid, as the document says it. The law on valid routes. No condition. -/
import Derived.Test.YteidjmliepmlmaaGhB
import Derived.Test.YteidjmliepmlmaaGv
import Derived.Deep.RegionHeld
import Derived.Test.YteidjmliepmlmaaGdF
import Derived.Test.YteidjmliepmlmaaGhF
import Derived.Test.YteidjmliepmlmaaGeF
import Derived.Test.YteidjmliepmlmaaGdG
namespace Go.Proofs.Yteidjmliepmlmaa
open Go Go.RowKit
set_option linter.unusedVariables false
set_option linter.unusedSimpArgs false

theorem end_gd3 {P : Program} {fn : Func} {R : Ending → World → Prop} {a : Act} {w : World} {p u v : Tmp} {ty t : TypeId} {g : Nat} {cs : Array Value} {d : TypeDesc}
    (h : fn.results = #[.cell p ty, .tmp u, .tmp v]) (hp : a.tmps.getD p undef = .pointer (some ⟨g, 0, none⟩)) (hf : a.defers = [])
    (hu : P.underlying ty = some d) (hd : (match d with | .struct _ | .array _ _ => true | _ => false) = true)
    (hg : w.heap[g]? = some (.cells cs t (0, 0))) (hi : (P.info? ty).map (·.size) = some cs.size) (hR : R (.returned (.tuple #[.agg cs, a.tmps.getD u undef, a.tmps.getD v undef])) w) : bodyPost P fn R .ret a w := by
  refine bodyPost_ret ?_ hf hR
  rw [Array.getD_eq_getD_getElem?] at hp
  simp only [results, h]
  simp [Sem.run_bind, Result.andThen, hp, asAddr, run_loadVar_row w g t ty cs (0, 0) d hg hu hd hi]

def moveB (a b : Int) (xs : List Int) (x y dx dy : Int) : Bool := freeB a b xs (x + dx) (y + dy) && (if dx ≠ 0 ∧ dy ≠ 0 then !wallB a xs (x + dx) y && !wallB a xs x (y + dy) else true)

def MoveAs (w : World) (ok : Bool) (e : Ending) (w' : World) : Prop := ∃ s t cost, e = .returned (.tuple #[.agg #[.int .i16 s, .int .i16 t], .int .i64 cost, .bool ok]) ∧ Stays w w'

set_option maxRecDepth 100000 in
set_option maxHeartbeats 2000000 in
theorem c_l07Move (p : Nat) (a b x y dx dy : Int) (A : Option Addr) (c : Nat) (xs : List Int) (w : World) (hG : GridAt w p a b A c xs.length) (h1 : Bs w w.heap.size A xs) (hg : gridB a b xs.length = true) (hh : hasB a b x y = true) (hdx : -1 ≤ dx ∧ dx ≤ 1) (hdy : -1 ≤ dy ∧ dy ≤ 1) :
    Calls Try.prog 90 #[.pointer (some ⟨p, 0, none⟩), .agg #[.int .i16 x, .int .i16 y], .int .i64 dx, .int .i64 dy] w (MoveAs w (moveB a b xs x y dx dy)) := by
  obtain ⟨ha, hb, hne⟩ := gridB_iff.1 hg
  obtain ⟨hx1, hy1⟩ := hasB_iff.1 hh
  have e1 : IntKind.i64.wrap x = x := IntWalk.i64_in _ (by omega)
  have e2 : IntKind.i64.wrap y = y := IntWalk.i64_in _ (by omega)
  have e3 : IntKind.i64.wrap (x + dx) = x + dx := IntWalk.i64_in _ (by omega)
  have e4 : IntKind.i64.wrap (y + dy) = y + dy := IntWalk.i64_in _ (by omega)
  have e5 : IntKind.i16.wrap (x + dx) = x + dx := IntWalk.i16_in _ (by omega)
  have e6 : IntKind.i16.wrap (y + dy) = y + dy := IntWalk.i16_in _ (by omega)
  have hst : Stays w ((w.alloc (.cells #[.int .i16 x, .int .i16 y] 32)).alloc (.cells #[.int .i16 0, .int .i16 0] 32)) := by (repeat (first | exact Stays.refl _ | (with_reducible refine Stays.drewN ?_ _) | (with_reducible refine Stays.alloc ?_ _) | (with_reducible refine Stays.drew ?_) | (refine Stays.trans ?_ ‹Stays _ _›)))
  have hres : ((w.alloc (.cells #[.int .i16 x, .int .i16 y] 32)).alloc (.cells #[.int .i16 0, .int .i16 0] 32)).heap[w.heap.size + 1]? = some (.cells #[.int .i16 0, .int .i16 0] 32 (0, 0)) := by (repeat (first | (refine heap_top _ _ _ ?_; simp; done) | (with_reducible refine heap_drawn _ _ _ ?_) | (with_reducible refine heap_under _ _ _ ?_ ?_; (simp <;> omega))))
  have kA := c_l07At p a b (x + dx) (y + dy) A c xs.length ((w.alloc (.cells #[.int .i16 x, .int .i16 y] 32)).alloc (.cells #[.int .i16 0, .int .i16 0] 32)) (hG.on hst) ha hb
  unfold moveB freeB
  cases huv : hasB a b (x + dx) (y + dy) with
  | false =>
    rw [huv] at kA
    replace kA := Lib.hid kA
    simp only [Bool.false_and]
    clear hG h1 hg hh hdx hdy ha hb hne hx1 hy1 huv
    go_enter Try.func90, Try.ntmps90
    go_wp2_with (first | (go_at_call 100; refine kA.out.mono ?_; rintro e w1 ⟨rfl, rfl⟩) | (refine wpList_store_row rfl _ _ _ rfl _ _ _ rfl rfl hres ?hi ?ho ?h1 ?hB hst ?_; (case hi => kernel_rfl); (case ho => rfl); (case h1 => first | rfl | simp [Value.oneCell']); (case hB => first | omega | (simp <;> omega)); intro w2 hw2 hq2 _ _))
    apply end_gd3 rfl rfl rfl Try.underlying32 rfl (t := 32)
    case hg => exact hq2
    case hi => kernel_rfl
    case hR => exact ⟨_, _, _, rfl, hw2⟩
  | true =>
    obtain ⟨hu1, hv1⟩ := hasB_iff.1 huv
    have huy : hasB a b (x + dx) y = true := hasB_iff.2 ⟨hu1, hy1⟩
    have hxv : hasB a b x (y + dy) = true := hasB_iff.2 ⟨hx1, hv1⟩
    have hst' : Stays w (((w.alloc (.cells #[.int .i16 x, .int .i16 y] 32)).alloc (.cells #[.int .i16 0, .int .i16 0] 32)).alloc (.cells #[.int .i16 (x + dx), .int .i16 (y + dy)] 32)) := by (repeat (first | exact Stays.refl _ | (with_reducible refine Stays.drewN ?_ _) | (with_reducible refine Stays.alloc ?_ _) | (with_reducible refine Stays.drew ?_) | (refine Stays.trans ?_ ‹Stays _ _›)))
    have n0 : (((w.alloc (.cells #[.int .i16 x, .int .i16 y] 32)).alloc (.cells #[.int .i16 0, .int .i16 0] 32)).alloc (.cells #[.int .i16 (x + dx), .int .i16 (y + dy)] 32)).heap[w.heap.size]? = some (.cells #[.int .i16 x, .int .i16 y] 32 (0, 0)) := by (repeat (first | (refine heap_top _ _ _ ?_; simp; done) | (with_reducible refine heap_drawn _ _ _ ?_) | (with_reducible refine heap_under _ _ _ ?_ ?_; (simp <;> omega))))
    have n1 : (((w.alloc (.cells #[.int .i16 x, .int .i16 y] 32)).alloc (.cells #[.int .i16 0, .int .i16 0] 32)).alloc (.cells #[.int .i16 (x + dx), .int .i16 (y + dy)] 32)).heap[w.heap.size + 1]? = some (.cells #[.int .i16 0, .int .i16 0] 32 (0, 0)) := by (repeat (first | (refine heap_top _ _ _ ?_; simp; done) | (with_reducible refine heap_drawn _ _ _ ?_) | (with_reducible refine heap_under _ _ _ ?_ ?_; (simp <;> omega))))
    have n2 : (((w.alloc (.cells #[.int .i16 x, .int .i16 y] 32)).alloc (.cells #[.int .i16 0, .int .i16 0] 32)).alloc (.cells #[.int .i16 (x + dx), .int .i16 (y + dy)] 32)).heap[w.heap.size + 1 + 1]? = some (.cells #[.int .i16 (x + dx), .int .i16 (y + dy)] 32 (0, 0)) := by (repeat (first | (refine heap_top _ _ _ ?_; simp; done) | (with_reducible refine heap_drawn _ _ _ ?_) | (with_reducible refine heap_under _ _ _ ?_ ?_; (simp <;> omega))))
    have HW : Hid (∀ w1, Stays (((w.alloc (.cells #[.int .i16 x, .int .i16 y] 32)).alloc (.cells #[.int .i16 0, .int .i16 0] 32)).alloc (.cells #[.int .i16 (x + dx), .int .i16 (y + dy)] 32)) w1 → (w1.cell? ⟨w.heap.size, 0, none⟩ = some (.int .i16 x) ∧ w1.cell? ⟨w.heap.size, 1, none⟩ = some (.int .i16 y) ∧ w1.cell? ⟨w.heap.size + 1 + 1, 0, none⟩ = some (.int .i16 (x + dx)) ∧ w1.cell? ⟨w.heap.size + 1 + 1, 1, none⟩ = some (.int .i16 (y + dy))) ∧ Stays w w1 ∧ w1.heap[w.heap.size + 1]? = some (.cells #[.int .i16 0, .int .i16 0] 32 (0, 0))) :=
      Lib.hid fun w1 h => ⟨⟨row_of h n0 0, row_of h n0 1, row_of h n2 0, row_of h n2 1⟩, hst'.trans h, (Below.block h _ (in_heap n1)).trans n1⟩
    have kW := c_l07Wall p a b (x + dx) (y + dy) A c xs (((w.alloc (.cells #[.int .i16 x, .int .i16 y] 32)).alloc (.cells #[.int .i16 0, .int .i16 0] 32)).alloc (.cells #[.int .i16 (x + dx), .int .i16 (y + dy)] 32)) (hG.on hst') ((h1.below hst').more hst'.size) hg huv
    have kU := fun W (h : Stays w W) => c_l07Wall p a b (x + dx) y A c xs W (hG.on h) ((h1.below h).more h.size) hg huy
    have kV := fun W (h : Stays w W) => c_l07Wall p a b x (y + dy) A c xs W (hG.on h) ((h1.below h).more h.size) hg hxv
    have bdi := idx_bd ha hb hu1 hv1
    rw [Int.mul_comm b a] at bdi
    obtain ⟨i, hi⟩ : ∃ i : Nat, (y + dy) * a + (x + dx) = i := ⟨((y + dy) * a + (x + dx)).toNat, by omega⟩
    have hil : i < xs.length := by omega
    have kI := fun W (h : Stays w W) => c_l07Index p a b (x + dx) (y + dy) A c xs.length W (hG.on h) ha hb hu1 hv1
    rw [hi] at kI
    obtain ⟨ad, rfl, hbl, hc0⟩ := Bs.at_ h1 (List.getElem?_eq_getElem hil)
    generalize xs[i] = z at hc0
    have hZ : Hid (∀ w1, Stays w w1 → w1.cell? (ad.add i) = some (.int .u8 z) ∧ w1.cell? ⟨p, 2, none⟩ = some (.slice (some ad) xs.length c)) := Lib.hid fun w1 h => ⟨(Below.cell h (by rw [block_add]; exact hbl)).trans hc0, (hG w1 h).2.2⟩
    have hil' : (i : Int) < (xs.length : Int) := by omega
    have HF : Hid (∀ w3, Stays (((w.alloc (.cells #[.int .i16 x, .int .i16 y] 32)).alloc (.cells #[.int .i16 0, .int .i16 0] 32)).alloc (.cells #[.int .i16 (x + dx), .int .i16 (y + dy)] 32)) w3 → ((w3.cell? ⟨w.heap.size + 1, 0, none⟩ = some (.int .i16 0) ∧ w3.cell? ⟨w.heap.size + 1, 1, none⟩ = some (.int .i16 0)) ∧ w3.frozen? ⟨w.heap.size + 1, 0, none⟩ = false ∧ w3.frozen? ⟨w.heap.size + 1, 1, none⟩ = false) ∧ ((((w3.setCell ⟨w.heap.size + 1, 0, none⟩ (.int .i16 (x + dx))).setCell ⟨w.heap.size + 1, 1, none⟩ (.int .i16 (y + dy))).cell? ⟨w.heap.size + 1 + 1, 0, none⟩ = some (.int .i16 (x + dx)) ∧ ((w3.setCell ⟨w.heap.size + 1, 0, none⟩ (.int .i16 (x + dx))).setCell ⟨w.heap.size + 1, 1, none⟩ (.int .i16 (y + dy))).cell? ⟨w.heap.size + 1 + 1, 1, none⟩ = some (.int .i16 (y + dy))) ∧ ((w3.setCell ⟨w.heap.size + 1, 0, none⟩ (.int .i16 (x + dx))).setCell ⟨w.heap.size + 1, 1, none⟩ (.int .i16 (y + dy))).cell? (ad.add i) = some (.int .u8 z) ∧ ((w3.setCell ⟨w.heap.size + 1, 0, none⟩ (.int .i16 (x + dx))).setCell ⟨w.heap.size + 1, 1, none⟩ (.int .i16 (y + dy))).cell? ⟨p, 2, none⟩ = some (.slice (some ad) xs.length c)) ∧ ((w3.setCell ⟨w.heap.size + 1, 0, none⟩ (.int .i16 (x + dx))).setCell ⟨w.heap.size + 1, 1, none⟩ (.int .i16 (y + dy))).heap[w.heap.size + 1]? = some (.cells #[.int .i16 (x + dx), .int .i16 (y + dy)] 32 (0, 0)) ∧ Stays w ((w3.setCell ⟨w.heap.size + 1, 0, none⟩ (.int .i16 (x + dx))).setCell ⟨w.heap.size + 1, 1, none⟩ (.int .i16 (y + dy)))) := Lib.hid fun w3 h => by
      obtain ⟨⟨_, _, t0, t1⟩, h2, h3⟩ := HW.out w3 h
      have m1 := heap_setCell_same w3 (w.heap.size + 1) 0 _ _ (.int .i16 (x + dx)) h3
      have m2 := heap_setCell_same _ (w.heap.size + 1) 1 _ _ (.int .i16 (y + dy)) m1
      have hs : Stays w ((w3.setCell ⟨w.heap.size + 1, 0, none⟩ (.int .i16 (x + dx))).setCell ⟨w.heap.size + 1, 1, none⟩ (.int .i16 (y + dy))) := (Below.setCell (show Below w.heap.size w w3 from h2) (show w.heap.size ≤ w.heap.size + 1 by omega) _).setCell (show w.heap.size ≤ w.heap.size + 1 by omega) _
      have hq := (same_sets (w.heap.size + 1) (w.heap.size + 1 + 1) 0 [.int .i16 (x + dx)] w3 (by omega)).trans (same_sets (w.heap.size + 1) (w.heap.size + 1 + 1) 1 [.int .i16 (y + dy)] _ (by omega))
      exact ⟨⟨⟨cell_of_row _ _ _ _ _ _ h3, cell_of_row _ _ _ _ _ _ h3⟩, frozen_of_row _ _ _ _ _ h3, frozen_of_row _ _ _ _ _ h3⟩, ⟨⟨(hq.cell ⟨w.heap.size + 1 + 1, 0, none⟩ rfl).trans t0, (hq.cell ⟨w.heap.size + 1 + 1, 1, none⟩ rfl).trans t1⟩, hZ.out _ hs⟩, m2, hs⟩
    rw [huv] at kA
    simp only [Bool.true_and]
    generalize wallB a xs (x + dx) (y + dy) = q0 at kW ⊢
    generalize wallB a xs (x + dx) y = q1 at kU ⊢
    generalize wallB a xs x (y + dy) = q2 at kV ⊢
    replace kA := Lib.hid kA
    replace kW := Lib.hid kW
    replace kI := Lib.hid kI
    clear hst hres hst' n0 n1 n2 hG h1 hg hh hdx hdy ha hb hne hx1 hy1 huv hu1 hv1 huy hxv hi hil hc0 hbl bdi
    cases q0 with
    | true =>
      simp only [Bool.not_true, Bool.false_and]
      replace kU := Lib.hid kU
      replace kV := Lib.hid kV
      go_enter Try.func90, Try.ntmps90
      go_wp2_with fail
      refine kA.out.mono ?_
      rintro e w1 ⟨rfl, rfl⟩
      go_wp2_with fail
      refine kW.out.mono ?_
      rintro e w1 ⟨rfl, hw1⟩
      obtain ⟨_, hst, hres⟩ := HW.out w1 hw1
      go_wp2_with (refine wpList_store_row rfl _ _ _ rfl _ _ _ rfl rfl hres ?hi ?ho ?h1 ?hB hst ?_; (case hi => kernel_rfl); (case ho => rfl); (case h1 => first | rfl | simp [Value.oneCell']); (case hB => first | omega | (simp <;> omega)); intro w2 hw2 hq2 _ _)
      apply end_gd3 rfl rfl rfl Try.underlying32 rfl (t := 32)
      case hg => exact hq2
      case hi => kernel_rfl
      case hR => exact ⟨_, _, _, rfl, hw2⟩
    | false =>
      simp only [Bool.not_false, Bool.true_and]
      by_cases hx0 : dx = 0
      · have hif : (if dx ≠ 0 ∧ dy ≠ 0 then !q1 && !q2 else true) = true := if_neg fun h => h.1 hx0
        rw [hif]
        have hx0' : (dx != 0) = false := by simp [hx0]
        have hx1' : (dx == 0) = true := by simp [hx0]
        replace hx0 := Lib.hid hx0
        replace kU := Lib.hid kU
        replace kV := Lib.hid kV
        clear hif
        go_enter Try.func90, Try.ntmps90
        go_wp2_with fail
        refine kA.out.mono ?_
        rintro e w1 ⟨rfl, rfl⟩
        go_wp2_with fail
        refine kW.out.mono ?_
        rintro e w1 ⟨rfl, hw1⟩
        replace hw1 := Lib.hid (show Stays _ w1 from hw1)
        go_wp2_with fail
        have G : Hid (∀ w', Stays w1 w' → ((w'.cell? ⟨w.heap.size + 1 + 1, 0, none⟩ = some (.int .i16 (x + dx)) ∧ w'.cell? ⟨w.heap.size + 1 + 1, 1, none⟩ = some (.int .i16 (y + dy))) ∧ w'.cell? (ad.add i) = some (.int .u8 z) ∧ w'.cell? ⟨p, 2, none⟩ = some (.slice (some ad) xs.length c))) := Lib.hid fun w' h => by
          obtain ⟨⟨_, _, t0, t1⟩, h2, _⟩ := HW.out w' (hw1.out.trans h)
          exact ⟨⟨t0, t1⟩, hZ.out _ h2⟩
        have h5 := Lib.hid (show Stays w1 w1.drew from (Stays.refl w1).drew)
        go_region_held (fun w' => ((w'.cell? ⟨w.heap.size + 1 + 1, 0, none⟩ = some (.int .i16 (x + dx)) ∧ w'.cell? ⟨w.heap.size + 1 + 1, 1, none⟩ = some (.int .i16 (y + dy))) ∧ w'.cell? (ad.add i) = some (.int .u8 z) ∧ w'.cell? ⟨p, 2, none⟩ = some (.slice (some ad) xs.length c))) (first | exact G.out _ h5.out | exact G.out _ h6.out | exact hS2.out)
          (first
            | (go_at_call 48; refine (kI.out _ (HW.out _ (hw1.out.trans h5.out)).2.1).mono ?_; rintro e w3 ⟨rfl, hb⟩; have h6 := Lib.hid (h5.out.trans hb); obtain ⟨⟨⟨z0, z1⟩, f0, f1⟩, hS2, hfin, hsf⟩ := HF.out w3 (hw1.out.trans h6.out); replace hS2 := Lib.hid hS2; replace hfin := Lib.hid hfin; replace hsf := Lib.hid hsf; clear hb))
        all_goals
          go_wp2_with fail
          apply end_gd3 rfl rfl rfl Try.underlying32 rfl (t := 32)
          case hg => exact hfin.out
          case hi => kernel_rfl
          case hR => exact ⟨_, _, _, rfl, hsf.out⟩
      · by_cases hy0 : dy = 0
        · have hif : (if dx ≠ 0 ∧ dy ≠ 0 then !q1 && !q2 else true) = true := if_neg fun h => h.2 hy0
          rw [hif]
          have hx0' : (dx != 0) = true := by simp [hx0]
          have hx1' : (dx == 0) = false := by simp [hx0]
          have hy0' : (dy != 0) = false := by simp [hy0]
          have hy1' : (dy == 0) = true := by simp [hy0]
          replace hx0 := Lib.hid hx0
          replace hy0 := Lib.hid hy0
          replace kU := Lib.hid kU
          replace kV := Lib.hid kV
          clear hif
          go_enter Try.func90, Try.ntmps90
          go_wp2_with fail
          refine kA.out.mono ?_
          rintro e w1 ⟨rfl, rfl⟩
          go_wp2_with fail
          refine kW.out.mono ?_
          rintro e w1 ⟨rfl, hw1⟩
          replace hw1 := Lib.hid (show Stays _ w1 from hw1)
          go_wp2_with fail
          have G : Hid (∀ w', Stays w1 w' → ((w'.cell? ⟨w.heap.size + 1 + 1, 0, none⟩ = some (.int .i16 (x + dx)) ∧ w'.cell? ⟨w.heap.size + 1 + 1, 1, none⟩ = some (.int .i16 (y + dy))) ∧ w'.cell? (ad.add i) = some (.int .u8 z) ∧ w'.cell? ⟨p, 2, none⟩ = some (.slice (some ad) xs.length c))) := Lib.hid fun w' h => by
            obtain ⟨⟨_, _, t0, t1⟩, h2, _⟩ := HW.out w' (hw1.out.trans h)
            exact ⟨⟨t0, t1⟩, hZ.out _ h2⟩
          have h5 := Lib.hid (show Stays w1 w1.drew from (Stays.refl w1).drew)
          go_region_held (fun w' => ((w'.cell? ⟨w.heap.size + 1 + 1, 0, none⟩ = some (.int .i16 (x + dx)) ∧ w'.cell? ⟨w.heap.size + 1 + 1, 1, none⟩ = some (.int .i16 (y + dy))) ∧ w'.cell? (ad.add i) = some (.int .u8 z) ∧ w'.cell? ⟨p, 2, none⟩ = some (.slice (some ad) xs.length c))) (first | exact G.out _ h5.out | exact G.out _ h6.out | exact hS2.out)
            (first
              | (go_at_call 48; refine (kI.out _ (HW.out _ (hw1.out.trans h5.out)).2.1).mono ?_; rintro e w3 ⟨rfl, hb⟩; have h6 := Lib.hid (h5.out.trans hb); obtain ⟨⟨⟨z0, z1⟩, f0, f1⟩, hS2, hfin, hsf⟩ := HF.out w3 (hw1.out.trans h6.out); replace hS2 := Lib.hid hS2; replace hfin := Lib.hid hfin; replace hsf := Lib.hid hsf; clear hb))
          all_goals
            go_wp2_with fail
            apply end_gd3 rfl rfl rfl Try.underlying32 rfl (t := 32)
            case hg => exact hfin.out
            case hi => kernel_rfl
            case hR => exact ⟨_, _, _, rfl, hsf.out⟩
        · have hif : (if dx ≠ 0 ∧ dy ≠ 0 then !q1 && !q2 else true) = (!q1 && !q2) := if_pos ⟨hx0, hy0⟩
          rw [hif]
          have hx0' : (dx != 0) = true := by simp [hx0]
          have hx1' : (dx == 0) = false := by simp [hx0]
          have hy0' : (dy != 0) = true := by simp [hy0]
          have hy1' : (dy == 0) = false := by simp [hy0]
          replace hx0 := Lib.hid hx0
          replace hy0 := Lib.hid hy0
          clear hif
          cases q1 with
          | true =>
            replace kU := Lib.hid kU
            replace kV := Lib.hid kV
            go_enter Try.func90, Try.ntmps90
            go_wp2_with fail
            refine kA.out.mono ?_
            rintro e w1 ⟨rfl, rfl⟩
            go_wp2_with fail
            refine kW.out.mono ?_
            rintro e w1 ⟨rfl, hw1⟩
            replace hw1 := Lib.hid (show Stays _ w1 from hw1)
            obtain ⟨⟨q0, q1, q2, q3⟩, hs1, _⟩ := HW.out w1 hw1.out
            replace hs1 := Lib.hid hs1
            go_wp2_with fail
            refine (kU.out _ hs1.out).mono ?_
            rintro e wu ⟨rfl, hwu⟩
            replace hw1 := Lib.hid (hw1.out.trans hwu)
            clear q0 q1 q2 q3 hs1 hwu
            obtain ⟨_, hst, hres⟩ := HW.out _ hw1.out
            simp only [Bool.not_true, Bool.not_false, Bool.false_and, Bool.and_false]
            go_wp2_with (refine wpList_store_row rfl _ _ _ rfl _ _ _ rfl rfl hres ?hi ?ho ?h1 ?hB hst ?_; (case hi => kernel_rfl); (case ho => rfl); (case h1 => first | rfl | simp [Value.oneCell']); (case hB => first | omega | (simp <;> omega)); intro w2 hw2 hq2 _ _)
            apply end_gd3 rfl rfl rfl Try.underlying32 rfl (t := 32)
            case hg => exact hq2
            case hi => kernel_rfl
            case hR => exact ⟨_, _, _, rfl, hw2⟩
          | false =>
            cases q2 with
            | true =>
              replace kU := Lib.hid kU
              replace kV := Lib.hid kV
              go_enter Try.func90, Try.ntmps90
              go_wp2_with fail
              refine kA.out.mono ?_
              rintro e w1 ⟨rfl, rfl⟩
              go_wp2_with fail
              refine kW.out.mono ?_
              rintro e w1 ⟨rfl, hw1⟩
              replace hw1 := Lib.hid (show Stays _ w1 from hw1)
              obtain ⟨⟨q0, q1, q2, q3⟩, hs1, _⟩ := HW.out w1 hw1.out
              replace hs1 := Lib.hid hs1
              go_wp2_with fail
              refine (kU.out _ hs1.out).mono ?_
              rintro e wu ⟨rfl, hwu⟩
              replace hw1 := Lib.hid (hw1.out.trans hwu)
              clear q0 q1 q2 q3 hs1 hwu
              obtain ⟨⟨q0, q1, q2, q3⟩, hs1, _⟩ := HW.out wu hw1.out
              replace hs1 := Lib.hid hs1
              go_wp2_with fail
              refine (kV.out _ hs1.out).mono ?_
              rintro e wv ⟨rfl, hwv⟩
              replace hw1 := Lib.hid (hw1.out.trans hwv)
              clear q0 q1 q2 q3 hs1 hwv
              obtain ⟨_, hst, hres⟩ := HW.out _ hw1.out
              simp only [Bool.not_true, Bool.not_false, Bool.false_and, Bool.and_false]
              go_wp2_with (refine wpList_store_row rfl _ _ _ rfl _ _ _ rfl rfl hres ?hi ?ho ?h1 ?hB hst ?_; (case hi => kernel_rfl); (case ho => rfl); (case h1 => first | rfl | simp [Value.oneCell']); (case hB => first | omega | (simp <;> omega)); intro w2 hw2 hq2 _ _)
              apply end_gd3 rfl rfl rfl Try.underlying32 rfl (t := 32)
              case hg => exact hq2
              case hi => kernel_rfl
              case hR => exact ⟨_, _, _, rfl, hw2⟩
            | false =>
              replace kU := Lib.hid kU
              replace kV := Lib.hid kV
              go_enter Try.func90, Try.ntmps90
              go_wp2_with fail
              refine kA.out.mono ?_
              rintro e w1 ⟨rfl, rfl⟩
              go_wp2_with fail
              refine kW.out.mono ?_
              rintro e w1 ⟨rfl, hw1⟩
              replace hw1 := Lib.hid (show Stays _ w1 from hw1)
              obtain ⟨⟨q0, q1, q2, q3⟩, hs1, _⟩ := HW.out w1 hw1.out
              replace hs1 := Lib.hid hs1
              go_wp2_with fail
              refine (kU.out _ hs1.out).mono ?_
              rintro e wu ⟨rfl, hwu⟩
              replace hw1 := Lib.hid (hw1.out.trans hwu)
              clear q0 q1 q2 q3 hs1 hwu
              obtain ⟨⟨q0, q1, q2, q3⟩, hs1, _⟩ := HW.out wu hw1.out
              replace hs1 := Lib.hid hs1
              go_wp2_with fail
              refine (kV.out _ hs1.out).mono ?_
              rintro e wv ⟨rfl, hwv⟩
              replace hw1 := Lib.hid (hw1.out.trans hwv)
              clear q0 q1 q2 q3 hs1 hwv
              simp only [Bool.not_false, Bool.and_self]
              go_wp2_with fail
              have G : Hid (∀ w', Stays wv w' → ((w'.cell? ⟨w.heap.size + 1 + 1, 0, none⟩ = some (.int .i16 (x + dx)) ∧ w'.cell? ⟨w.heap.size + 1 + 1, 1, none⟩ = some (.int .i16 (y + dy))) ∧ w'.cell? (ad.add i) = some (.int .u8 z) ∧ w'.cell? ⟨p, 2, none⟩ = some (.slice (some ad) xs.length c))) := Lib.hid fun w' h => by
                obtain ⟨⟨_, _, t0, t1⟩, h2, _⟩ := HW.out w' (hw1.out.trans h)
                exact ⟨⟨t0, t1⟩, hZ.out _ h2⟩
              have h5 := Lib.hid (show Stays wv wv.drew from (Stays.refl wv).drew)
              go_region_held (fun w' => ((w'.cell? ⟨w.heap.size + 1 + 1, 0, none⟩ = some (.int .i16 (x + dx)) ∧ w'.cell? ⟨w.heap.size + 1 + 1, 1, none⟩ = some (.int .i16 (y + dy))) ∧ w'.cell? (ad.add i) = some (.int .u8 z) ∧ w'.cell? ⟨p, 2, none⟩ = some (.slice (some ad) xs.length c))) (first | exact G.out _ h5.out | exact G.out _ h6.out | exact hS2.out)
                (first
                  | (go_at_call 48; refine (kI.out _ (HW.out _ (hw1.out.trans h5.out)).2.1).mono ?_; rintro e w3 ⟨rfl, hb⟩; have h6 := Lib.hid (h5.out.trans hb); obtain ⟨⟨⟨z0, z1⟩, f0, f1⟩, hS2, hfin, hsf⟩ := HF.out w3 (hw1.out.trans h6.out); replace hS2 := Lib.hid hS2; replace hfin := Lib.hid hfin; replace hsf := Lib.hid hsf; clear hb))
              all_goals
                go_wp2_with fail
                apply end_gd3 rfl rfl rfl Try.underlying32 rfl (t := 32)
                case hg => exact hfin.out
                case hi => kernel_rfl
                case hR => exact ⟨_, _, _, rfl, hsf.out⟩
end Go.Proofs.Yteidjmliepmlmaa

namespace Go.Proofs.Yteidjmliepmlmaa
open Go Go.RowKit
set_option linter.unusedVariables false
set_option linter.unusedSimpArgs false

theorem free_iff {a b : Int} {xs : List Int} {x y : Int} : freeB a b xs x y = true ↔ hasB a b x y = true ∧ wallB a xs x y = false := by
  unfold freeB
  rw [Bool.and_eq_true, Bool.not_eq_true']

/-- From a free spot, a step leads where the spots are neighbours and the step may be made. -/
theorem lead_move {a b : Int} {xs : List Int} {x y u v : Int} (hf : freeB a b xs x y = true) : leadB a b xs x y u v = (nbB x y u v && moveB a b xs x y (u - x) (v - y)) := by
  unfold leadB moveB
  rw [show x + (u - x) = u by omega, show y + (v - y) = v by omega]
  cases hn : nbB x y u v
  · rfl
  · cases hq : freeB a b xs u v
    · rfl
    · simp only [Bool.true_and]
      obtain ⟨h1, h1'⟩ := hasB_iff.1 (free_iff.1 hf).1
      obtain ⟨h2, h2'⟩ := hasB_iff.1 (free_iff.1 hq).1
      by_cases hx : u - x = 0
      · have e : u = x := by omega
        subst e
        rw [if_neg (fun h => h.1 hx), hq, hf]
        rfl
      · by_cases hy : v - y = 0
        · have e : v = y := by omega
          subst e
          rw [if_neg (fun h => h.2 hy), hf, hq]
          rfl
        · rw [if_pos ⟨hx, hy⟩]
          have e1 : freeB a b xs x v = !wallB a xs x v := by unfold freeB; rw [hasB_iff.2 ⟨h1, h2'⟩]; rfl
          have e2 : freeB a b xs u y = !wallB a xs u y := by unfold freeB; rw [hasB_iff.2 ⟨h2, h1'⟩]; rfl
          rw [e1, e2, Bool.and_comm]

theorem nb_iff {x y u v : Int} : nbB x y u v = true ↔ ¬ (u - x = 0 ∧ v - y = 0) ∧ ((-1 ≤ u - x ∧ u - x ≤ 1) ∧ (-1 ≤ v - y ∧ v - y ≤ 1)) := by
  unfold nbB
  rw [Bool.and_eq_true, Bool.and_eq_true, Bool.not_eq_true', decide_eq_true_iff, decide_eq_true_iff, Bool.and_eq_false_iff, decide_eq_false_iff_not, decide_eq_false_iff_not]
  constructor
  · rintro ⟨h1, h2⟩
    refine ⟨fun h => ?_, h2⟩
    rcases h1 with h1 | h1 <;> omega
  · rintro ⟨h1, h2⟩
    refine ⟨?_, h2⟩
    by_cases h : x = u
    · right; omega
    · left; exact h

def RouteAs (w : World) (ok : Bool) (e : Ending) (w' : World) : Prop := ∃ s : Int, e = .returned (.tuple #[.int .i64 s, .bool ok]) ∧ Stays w w'

theorem ret_sb {s : Int} {b c : Bool} (h : b = c) : Ending.returned (.tuple #[.int .i64 s, .bool b]) = .returned (.tuple #[.int .i64 s, .bool c]) := by rw [h]

theorem valid_route {a b : Int} {xs : List Int} {rs : List (List NV)} (hg : gridB a b xs.length = true) (hn : rs.length ≤ 600) : validR a b xs rs = routeB a b xs rs := by
  unfold validR
  rw [hg, decide_eq_true hn]
  rfl

set_option maxRecDepth 100000 in
set_option maxHeartbeats 4000000 in
theorem c_l07Route (p : Nat) (a b : Int) (A D : Option Addr) (c d : Nat) (xs : List Int) (rs : List (List NV)) (w : World) (hr : w.heap[p]? = some (.cells #[.int .i64 a, .int .i64 b, .slice A xs.length c] 28 (0, 0))) (h1 : Bs w w.heap.size A xs) (h2 : Ls KSpot 2 w w.heap.size D rs) (hS : InS rs) (hx : xs.length ≤ 1048576) (hn : rs.length ≤ 1048576) :
    Calls Try.prog 64 #[.pointer (some ⟨p, 0, none⟩), .slice D rs.length d] w (RouteAs w (validR a b xs rs)) := by
  have HG := grid_at hr
  have kO := c_l07Ok p a b A c xs.length w hr hx
  have kN := fun W => c_l00In (rs.length : Nat) 1 600 W
  cases hg : gridB a b xs.length with
  | false =>
    have r := Lib.hid (show validR a b xs rs = false from by unfold validR; rw [hg]; rfl)
    rw [hg] at kO
    replace kO := Lib.hid kO
    clear h1 h2 hS hg HG hr kN
    go_enter Try.func64, Try.ntmps64
    go_wp2_with fail
    refine kO.out.mono ?_
    rintro e w1 ⟨rfl, hw1⟩
    replace hw1 := Lib.hid hw1
    go_wp2
    go_ret2
    exact ⟨_, ret_sb r.out.symm, hw1.out⟩
  | true =>
    rw [hg] at kO
    replace kO := Lib.hid kO
    by_cases hl : 1 ≤ rs.length ∧ rs.length ≤ 600
    · have hv := valid_route (rs := rs) hg hl.2
      rw [hv]
      rw [show decide ((1 : Int) ≤ (rs.length : Nat) ∧ ((rs.length : Nat) : Int) ≤ 600) = true from decide_eq_true (by omega)] at kN
      replace kN := Lib.hid kN
      obtain ⟨ha, hb, hne⟩ := gridB_iff.1 hg
      obtain ⟨r0, rs', e⟩ : ∃ r0 rs', rs = r0 :: rs' := by
        cases rs with
        | nil => simp at hl
        | cons r0 rs' => exact ⟨_, _, rfl⟩
      have hr0 : rs[0]? = some r0 := by rw [e]; rfl
      have hh : headB a b xs rs = freeB a b xs (sx r0) (sy r0) := by rw [e]; rfl
      clear e
      obtain ⟨hx0, hy0⟩ := hS 0 r0 hr0
      obtain ⟨dd, rfl, hbl, hrow⟩ := h2 0 r0 hr0
      replace hrow : RowAt KSpot w (dd.add (0 * 2)) r0 := hrow
      obtain ⟨c0', c1', hK, g0, g1⟩ := row2 rfl hrow
      obtain ⟨rfl, rfl⟩ := sp_cells hK
      have ha0 : dd.add (0 * 2) = dd := rfl
      rw [ha0] at g0 g1
      have hC0 := Lib.hid fun W (h : Stays w W) => (show W.cell? dd = some (.int .i16 (sx r0)) ∧ W.cell? ⟨dd.block, dd.off + 1, none⟩ = some (.int .i16 (sy r0)) from ⟨(h.cell (p := dd) hbl).trans g0, (h.cell (p := ⟨dd.block, dd.off + 1, none⟩) hbl).trans g1⟩)
      have kSp := Lib.hid fun W (h : Stays w W) => c_l07Spot p a b (sx r0) (sy r0) A c xs.length W (HG.on h) ha hb hx0 hy0
      have kWa := Lib.hid fun (hh : hasB a b (sx r0) (sy r0) = true) W (h : Stays w W) => c_l07Wall p a b (sx r0) (sy r0) A c xs W (HG.on h) ((h1.below h).more h.size) hg hh
      have kMv := Lib.hid fun x y dx dy (hh : hasB a b x y = true) (h3 : -1 ≤ dx ∧ dx ≤ 1) (h4 : -1 ≤ dy ∧ dy ≤ 1) W (h : Stays w W) => c_l07Move p a b x y dx dy A c xs W (HG.on h) ((h1.below h).more h.size) hg hh h3 h4
      have H2 := Lib.hid fun W (h : Stays w W) => h2.below h
      replace hS := Lib.hid hS
      have hl1 : 0 < rs.length := by omega
      have hl2 : (0 : Int) < (rs.length : Nat) := by omega
      replace hr0 := Lib.hid hr0
      clear h1 h2 hg hv hr HG hrow hK g0 g1 hne ha hb hx0 hy0 ha0 hx
      cases hhas : hasB a b (sx r0) (sy r0) with
      | false =>
        have r := Lib.hid (show routeB a b xs rs = false from routeB_head (by rw [hh]; unfold freeB; rw [hhas]; rfl))
        have kSp' := fun W h => kSp.out W h
        simp only [hhas] at kSp'
        replace kSp' := Lib.hid kSp'
        clear kSp kWa kMv H2 hhas hh
        go_enter Try.func64, Try.ntmps64
        go_wp2_with fail
        refine kO.out.mono ?_
        rintro e w1 ⟨rfl, hw1⟩
        replace hw1 := Lib.hid (show Stays w w1 from hw1)
        go_wp2_with fail
        refine (kN.out _).mono ?_
        rintro e w1b ⟨rfl, rfl⟩
        obtain ⟨q0, q1⟩ := hC0.out w1 hw1.out
        go_wp2_with fail
        refine (kSp'.out _ hw1.out).mono ?_
        rintro e w2 ⟨rfl, hw2⟩
        replace hw2 := Lib.hid (hw1.out.trans hw2)
        clear q0 q1
        go_wp2
        go_ret2
        exact ⟨_, ret_sb r.out.symm, hw2.out⟩
      | true =>
        have kSp' := fun W h => kSp.out W h
        simp only [hhas] at kSp'
        replace kSp' := Lib.hid kSp'
        have kWa' := fun W h => kWa.out hhas W h
        cases hwl : wallB a xs (sx r0) (sy r0) with
        | true =>
          have r := Lib.hid (show routeB a b xs rs = false from routeB_head (by rw [hh]; unfold freeB; rw [hhas, hwl]; rfl))
          simp only [hwl] at kWa'
          replace kWa' := Lib.hid kWa'
          clear kSp kWa kMv H2 hhas hwl hh
          go_enter Try.func64, Try.ntmps64
          go_wp2_with fail
          refine kO.out.mono ?_
          rintro e w1 ⟨rfl, hw1⟩
          replace hw1 := Lib.hid (show Stays w w1 from hw1)
          go_wp2_with fail
          refine (kN.out _).mono ?_
          rintro e w1b ⟨rfl, rfl⟩
          obtain ⟨q0, q1⟩ := hC0.out w1 hw1.out
          go_wp2_with fail
          refine (kSp'.out _ hw1.out).mono ?_
          rintro e w2 ⟨rfl, hw2⟩
          replace hw2 := Lib.hid (hw1.out.trans hw2)
          clear q0 q1
          obtain ⟨q0, q1⟩ := hC0.out w2 hw2.out
          go_wp2_with fail
          refine (kWa'.out _ hw2.out).mono ?_
          rintro e w3 ⟨rfl, hw3⟩
          replace hw3 := Lib.hid (hw2.out.trans hw3)
          go_wp2
          go_ret2
          exact ⟨_, ret_sb r.out.symm, hw3.out⟩
        | false =>
          have hfr : Hid (freeB a b xs (sx r0) (sy r0) = true) := Lib.hid (free_iff.2 ⟨hhas, hwl⟩)
          simp only [hwl] at kWa'
          replace kWa' := Lib.hid kWa'
          rw [hfr.out] at hh
          replace hh := Lib.hid hh
          clear kSp kWa hhas hwl
          go_enter Try.func64, Try.ntmps64
          go_wp2_with fail
          refine kO.out.mono ?_
          rintro e w1 ⟨rfl, hw1⟩
          replace hw1 := Lib.hid (show Stays w w1 from hw1)
          go_wp2_with fail
          refine (kN.out _).mono ?_
          rintro e w1b ⟨rfl, rfl⟩
          obtain ⟨q0, q1⟩ := hC0.out w1 hw1.out
          go_wp2_with fail
          refine (kSp'.out _ hw1.out).mono ?_
          rintro e w2 ⟨rfl, hw2⟩
          replace hw2 := Lib.hid (hw1.out.trans hw2)
          clear q0 q1
          obtain ⟨q0, q1⟩ := hC0.out w2 hw2.out
          go_wp2_with fail
          refine (kWa'.out _ hw2.out).mono ?_
          rintro e w3 ⟨rfl, hw3⟩
          replace hw3 := Lib.hid (hw2.out.trans hw3)
          clear q0 q1 kO kN kSp' kWa' hC0
          go_wp2
          go_loopw [7, 8] (fun sv iv wr => ∃ (i : Nat) (s : Int), 1 ≤ i ∧ i ≤ rs.length ∧ iv = .int .i64 (i : Nat) ∧ sv = .int .i64 s ∧ Hid (∀ j, j + 1 < i → stepB a b xs rs j) ∧ Hid (∀ r, rs[i - 1]? = some r → freeB a b xs (sx r) (sy r) = true) ∧ Hid (Stays w wr)) (fun _ iv _ => rs.length - (intOf iv).toNat)
          case atStart =>
            refine ⟨1, 0, Nat.le_refl _, hl.1, rfl, rfl, Lib.hid fun j hj => by omega, Lib.hid fun r hr => ?_, hw3⟩
            have e := hr0.out.symm.trans hr
            cases e
            exact hfr.out
          case round =>
            obtain ⟨i, s, hi1, hin, rfl, rfl, hst0, hfr0, hb0⟩ := hrel
            by_cases hlt : i < rs.length
            · have hlt' : (i : Int) < (rs.length : Nat) := by omega
              obtain ⟨k, hk⟩ : ∃ k, i = k + 1 := ⟨i - 1, by omega⟩
              have hkl : k < rs.length := by omega
              have hkl' : (k : Int) < (rs.length : Nat) := by omega
              have e0 : IntKind.i64.wrap ((i : Int) - 1) = (k : Int) := by rw [IntWalk.i64_in _ (by omega)]; omega
              have e9 : IntKind.i64.wrap ((i : Int) + 1) = (i : Int) + 1 := IntWalk.i64_in _ (by omega)
              obtain ⟨ad, e1, hbl1, hrow1⟩ := (H2.out wr hb0.out) i rs[i] (List.getElem?_eq_getElem hlt)
              cases e1
              obtain ⟨ad, e1, hbl2, hrow2⟩ := (H2.out wr hb0.out) k rs[k] (List.getElem?_eq_getElem hkl)
              cases e1
              obtain ⟨hIu, hIv⟩ := hS.out i rs[i] (List.getElem?_eq_getElem hlt)
              obtain ⟨hIx, hIy⟩ := hS.out k rs[k] (List.getElem?_eq_getElem hkl)
              have hfp : freeB a b xs (sx rs[k]) (sy rs[k]) = true := hfr0.out _ (by rw [show i - 1 = k by omega]; exact List.getElem?_eq_getElem hkl)
              have hstep := stepB_at (a := a) (b := b) (xs := xs) (List.getElem?_eq_getElem hkl) (show rs[k + 1]? = some rs[i] from by rw [← hk]; exact List.getElem?_eq_getElem hlt)
              have hqq := Lib.hid (show rs[i]? = some rs[i] from List.getElem?_eq_getElem hlt)
              rw [lead_move hfp, Bool.and_eq_true, nb_iff] at hstep
              generalize hqe : rs[i] = q at hrow1 hIu hIv hstep hqq
              generalize hpe : rs[k] = p0 at hrow2 hIx hIy hfp hstep
              clear hqe hpe
              replace hrow1 : RowAt KSpot wr (dd.add (i * 2)) q := hrow1
              replace hrow2 : RowAt KSpot wr (dd.add (k * 2)) p0 := hrow2
              obtain ⟨c0', c1', hK1, g0, g1⟩ := row2 rfl hrow1
              obtain ⟨rfl, rfl⟩ := sp_cells hK1
              obtain ⟨c2', c3', hK2, g2, g3⟩ := row2 rfl hrow2
              obtain ⟨rfl, rfl⟩ := sp_cells hK2
              have hfq : Hid (freeB a b xs (sx q) (sy q) = true → ∀ r, rs[i + 1 - 1]? = some r → freeB a b xs (sx r) (sy r) = true) := Lib.hid fun h r hr => by
                rw [Nat.add_sub_cancel, hqq.out] at hr
                cases hr
                exact h
              generalize sx q = u at *
              generalize sy q = v at *
              generalize sx p0 = x at *
              generalize sy p0 = y at *
              have eu := in16 hIu
              have ev := in16 hIv
              have ex := in16 hIx
              have ey := in16 hIy
              obtain ⟨dx, hdx⟩ : ∃ dx, u - x = dx := ⟨_, rfl⟩
              obtain ⟨dy, hdy⟩ : ∃ dy, v - y = dy := ⟨_, rfl⟩
              unfold In16 at hIu hIv hIx hIy
              have edx : IntKind.i64.wrap (u - x) = dx := by rw [← hdx]; exact IntWalk.i64_in _ (by omega)
              have edy : IntKind.i64.wrap (v - y) = dy := by rw [← hdy]; exact IntWalk.i64_in _ (by omega)
              rw [hdx, hdy] at hstep
              have hmf : Hid (moveB a b xs x y dx dy = true → freeB a b xs u v = true) := Lib.hid fun h => by
                unfold moveB at h
                rw [Bool.and_eq_true, show x + dx = u by omega, show y + dy = v by omega] at h
                exact h.1
              have hbk1 : (dd.add (i * 2)).block < wr.heap.size := by rw [block_add]; have := hb0.out.size; omega
              have hbk2 : (dd.add (k * 2)).block < wr.heap.size := by rw [block_add]; have := hb0.out.size; omega
              have hrows := Lib.hid fun W (hW : Stays wr W) => (show ((W.cell? (dd.add (i * 2)) = some (.int .i16 u) ∧ W.cell? ⟨(dd.add (i * 2)).block, (dd.add (i * 2)).off + 1, none⟩ = some (.int .i16 v)) ∧ W.cell? (dd.add (k * 2)) = some (.int .i16 x) ∧ W.cell? ⟨(dd.add (k * 2)).block, (dd.add (k * 2)).off + 1, none⟩ = some (.int .i16 y)) from ⟨⟨(hW.cell (p := dd.add (i * 2)) hbk1).trans g0, (hW.cell (p := ⟨(dd.add (i * 2)).block, (dd.add (i * 2)).off + 1, none⟩) hbk1).trans g1⟩, (hW.cell (p := dd.add (k * 2)) hbk2).trans g2, (hW.cell (p := ⟨(dd.add (k * 2)).block, (dd.add (k * 2)).off + 1, none⟩) hbk2).trans g3⟩)
              have hxy := (free_iff.1 hfp).1
              replace hk := Lib.hid hk
              replace hstep := Lib.hid hstep
              have hIK := Lib.hid (And.intro hIu (And.intro hIv (And.intro hIx hIy)))
              replace hxy := Lib.hid hxy
              have kX := fun W => c_l00In dx (-1) 1 W
              have kY := fun W => c_l00In dy (-1) 1 W
              clear hdx hdy g0 g1 g2 g3 hrow1 hrow2 hK1 hK2 hbk1 hbk2 hbl1 hbl2 hIu hIv hIx hIy hfp hfr0 hqq
              have hcells : ∀ W, Stays wr W → ((W.cell? (dd.add (i * 2)) = some (.int .i16 u) ∧ W.cell? ⟨(dd.add (i * 2)).block, (dd.add (i * 2)).off + 1, none⟩ = some (.int .i16 v)) ∧ W.cell? (dd.add (k * 2)) = some (.int .i16 x) ∧ W.cell? ⟨(dd.add (k * 2)).block, (dd.add (k * 2)).off + 1, none⟩ = some (.int .i16 y)) := fun W hW => hrows.out W hW
              go_wp2_with fail
              refine wp_region_soft_tail 14 (Stays.refl _) (fun _ _ _ => False) [] (by kernel_rfl) (by kernel_rfl) (fun _ h => by cases h) ?_
              simp only [List.take_succ_cons, List.take_zero, List.drop_succ_cons, List.drop_zero]
              repeat ((with_reducible apply soft_detG); (case hwa => rfl); (case hA => rfl); (case h => (intro w1 hw1; have hc := hcells w1 hw1; go_simp; exact rfl)); go_simp)
              refine soft_nil ?_
              rintro w4 ⟨hw4, _⟩
              replace hw4 := Lib.hid hw4
              clear hcells
              have hcells : ∀ W, Stays w4 W → ((W.cell? (dd.add (i * 2)) = some (.int .i16 u) ∧ W.cell? ⟨(dd.add (i * 2)).block, (dd.add (i * 2)).off + 1, none⟩ = some (.int .i16 v)) ∧ W.cell? (dd.add (k * 2)) = some (.int .i16 x) ∧ W.cell? ⟨(dd.add (k * 2)).block, (dd.add (k * 2)).off + 1, none⟩ = some (.int .i16 y)) := fun W hW => hrows.out W (hw4.out.trans hW)
              go_wp2_with fail
              refine wp_region_soft_tail 14 (Stays.refl _) (fun _ _ _ => False) [] (by kernel_rfl) (by kernel_rfl) (fun _ h => by cases h) ?_
              simp only [List.take_succ_cons, List.take_zero, List.drop_succ_cons, List.drop_zero]
              repeat ((with_reducible apply soft_detG); (case hwa => rfl); (case hA => rfl); (case h => (intro w1 hw1; have hc := hcells w1 hw1; go_simp; exact rfl)); go_simp)
              refine soft_nil ?_
              rintro w5 ⟨hw5, _⟩
              have hb5 := Lib.hid (hb0.out.trans (hw4.out.trans hw5))
              have hrow5 := Lib.hid fun W (hW : Stays w5 W) => hrows.out W (hw4.out.trans (hw5.trans hW))
              clear hcells hw4 hw5 eu ev ex ey edx edy hb0 hrows
              by_cases hz : dx = 0 ∧ dy = 0
              · have r : ¬ stepB a b xs rs k := fun h => (hstep.out.1 h).1.1 hz
                obtain ⟨rfl, rfl⟩ := hz
                replace r := Lib.hid (routeB_bad r)
                go_wp2
                go_ret2
                exact ⟨_, ret_sb r.out.symm, hb5.out⟩
              · have hcase : (dx = 0 ∧ ¬ dy = 0) ∨ ¬ dx = 0 := by omega
                have hz' := Lib.hid hz
                clear hz
                by_cases hX : -1 ≤ dx ∧ dx ≤ 1
                · rw [show decide (-1 ≤ dx ∧ dx ≤ 1) = true from decide_eq_true hX] at kX
                  by_cases hY : -1 ≤ dy ∧ dy ≤ 1
                  · rw [show decide (-1 ≤ dy ∧ dy ≤ 1) = true from decide_eq_true hY] at kY
                    have kM := kMv.out x y dx dy hxy.out hX hY
                    replace kX := Lib.hid kX
                    replace kY := Lib.hid kY
                    cases hm : moveB a b xs x y dx dy with
                    | false =>
                      rw [hm] at kM
                      have r : ¬ stepB a b xs rs k := fun h => by
                        have h2 := (hstep.out.1 h).2
                        rw [hm] at h2
                        cases h2
                      replace kM := Lib.hid kM
                      replace r := Lib.hid (routeB_bad r)
                      clear hm hX hY
                      rcases hcase with ⟨hc1, hc2⟩ | hc1
                      all_goals
                        first
                          | (have b1 : (dx == 0) = true := by simp [hc1])
                          | (have b1 : (dx == 0) = false := by simp [hc1])
                        try (have b2 : (dy == 0) = false := by simp [hc2])
                        try (replace hc2 := Lib.hid hc2)
                        replace hc1 := Lib.hid hc1
                        go_wp2_with fail
                        refine (kX.out _).mono ?_
                        rintro e wx ⟨rfl, rfl⟩
                        go_wp2_with fail
                        refine (kY.out _).mono ?_
                        rintro e wy ⟨rfl, rfl⟩
                        obtain ⟨_, t2, t3⟩ := hrow5.out w5 (Stays.refl _)
                        go_wp2_with fail
                        refine (kM.out _ hb5.out).mono ?_
                        rintro e w6 ⟨s1, t1, cost, rfl, hw6⟩
                        replace hw6 := Lib.hid ((hb5.out.trans hw6).trans (show Stays w6 (w6.alloc (.cells #[.int .i16 s1, .int .i16 t1] 32)) from by (repeat (first | exact Stays.refl _ | (with_reducible refine Stays.drewN ?_ _) | (with_reducible refine Stays.alloc ?_ _) | (with_reducible refine Stays.drew ?_) | (refine Stays.trans ?_ ‹Stays _ _›)))))
                        clear t2 t3
                        go_wp2
                        go_ret2
                        exact ⟨_, ret_sb r.out.symm, hw6.out⟩
                    | true =>
                      rw [hm] at kM
                      have hst1 : Hid (∀ j, j + 1 < i + 1 → stepB a b xs rs j) := Lib.hid fun j hj => by
                        by_cases e : j = k
                        · rw [e]; exact hstep.out.2 ⟨⟨hz'.out, hX, hY⟩, hm⟩
                        · exact hst0.out j (by have := hk.out; omega)
                      have hfr1 := Lib.hid (hfq.out (hmf.out hm))
                      replace kM := Lib.hid kM
                      clear hm hX hY
                      rcases hcase with ⟨hc1, hc2⟩ | hc1
                      all_goals
                        first
                          | (have b1 : (dx == 0) = true := by simp [hc1])
                          | (have b1 : (dx == 0) = false := by simp [hc1])
                        try (have b2 : (dy == 0) = false := by simp [hc2])
                        try (replace hc2 := Lib.hid hc2)
                        replace hc1 := Lib.hid hc1
                        go_wp2_with fail
                        refine (kX.out _).mono ?_
                        rintro e wx ⟨rfl, rfl⟩
                        go_wp2_with fail
                        refine (kY.out _).mono ?_
                        rintro e wy ⟨rfl, rfl⟩
                        obtain ⟨_, t2, t3⟩ := hrow5.out w5 (Stays.refl _)
                        go_wp2_with fail
                        refine (kM.out _ hb5.out).mono ?_
                        rintro e w6 ⟨s1, t1, cost, rfl, hw6⟩
                        replace hw6 := Lib.hid ((hb5.out.trans hw6).trans (show Stays w6 (w6.alloc (.cells #[.int .i16 s1, .int .i16 t1] 32)) from by (repeat (first | exact Stays.refl _ | (with_reducible refine Stays.drewN ?_ _) | (with_reducible refine Stays.alloc ?_ _) | (with_reducible refine Stays.drew ?_) | (refine Stays.trans ?_ ‹Stays _ _›)))))
                        clear t2 t3
                        go_wp2
                        go_round
                        case rel => exact ⟨i + 1, _, by omega, by omega, by go_num, rfl, hst1, hfr1, hw6⟩
                        case measure => simp [intOf]; omega
                  · rw [show decide (-1 ≤ dy ∧ dy ≤ 1) = false from decide_eq_false hY] at kY
                    have r : ¬ stepB a b xs rs k := fun h => hY (hstep.out.1 h).1.2.2
                    replace r := Lib.hid (routeB_bad r)
                    replace kX := Lib.hid kX
                    replace kY := Lib.hid kY
                    clear hX hY
                    rcases hcase with ⟨hc1, hc2⟩ | hc1
                    all_goals
                      first
                        | (have b1 : (dx == 0) = true := by simp [hc1])
                        | (have b1 : (dx == 0) = false := by simp [hc1])
                      try (have b2 : (dy == 0) = false := by simp [hc2])
                      try (replace hc2 := Lib.hid hc2)
                      replace hc1 := Lib.hid hc1
                      go_wp2_with fail
                      refine (kX.out _).mono ?_
                      rintro e wx ⟨rfl, rfl⟩
                      go_wp2_with fail
                      refine (kY.out _).mono ?_
                      rintro e wy ⟨rfl, rfl⟩
                      go_wp2
                      go_ret2
                      exact ⟨_, ret_sb r.out.symm, hb5.out⟩
                · rw [show decide (-1 ≤ dx ∧ dx ≤ 1) = false from decide_eq_false hX] at kX
                  have r : ¬ stepB a b xs rs k := fun h => hX (hstep.out.1 h).1.2.1
                  replace r := Lib.hid (routeB_bad r)
                  replace kX := Lib.hid kX
                  clear hX kY
                  rcases hcase with ⟨hc1, hc2⟩ | hc1
                  all_goals
                    first
                      | (have b1 : (dx == 0) = true := by simp [hc1])
                      | (have b1 : (dx == 0) = false := by simp [hc1])
                    try (have b2 : (dy == 0) = false := by simp [hc2])
                    try (replace hc2 := Lib.hid hc2)
                    replace hc1 := Lib.hid hc1
                    go_wp2_with fail
                    refine (kX.out _).mono ?_
                    rintro e wx ⟨rfl, rfl⟩
                    go_wp2
                    go_ret2
                    exact ⟨_, ret_sb r.out.symm, hb5.out⟩
            · obtain rfl : i = rs.length := by omega
              have r := Lib.hid (routeB_end (k := rs.length - 1) hh.out (by omega) fun j hj => hst0.out j (by omega))
              go_wp2
              go_ret2
              exact ⟨s, ret_sb r.out.symm, hb0.out⟩
    · have r := Lib.hid (show validR a b xs rs = false from by
        unfold validR
        by_cases h6 : rs.length ≤ 600
        · have e0 : rs = [] := List.eq_nil_of_length_eq_zero (by omega)
          subst e0
          rw [routeB_head rfl, Bool.and_false]
        · rw [decide_eq_false h6, Bool.and_false, Bool.false_and])
      rw [show decide ((1 : Int) ≤ (rs.length : Nat) ∧ ((rs.length : Nat) : Int) ≤ 600) = false from decide_eq_false (by omega)] at kN
      replace kN := Lib.hid kN
      clear h1 h2 hS hg HG hr hl
      go_enter Try.func64, Try.ntmps64
      go_wp2_with fail
      refine kO.out.mono ?_
      rintro e w1 ⟨rfl, hw1⟩
      replace hw1 := Lib.hid hw1
      go_wp2_with fail
      refine (kN.out _).mono ?_
      rintro e w1b ⟨rfl, rfl⟩
      go_wp2
      go_ret2
      exact ⟨_, ret_sb r.out.symm, hw1.out⟩
end Go.Proofs.Yteidjmliepmlmaa

namespace Go.Proofs.Yteidjmliepmlmaa
open Go Go.ChangeShapes Go.WideShapes Go.RowKit
set_option linter.unusedVariables false
set_option linter.unusedSimpArgs false

set_option maxRecDepth 100000 in
/-- An argument that is a list of spots, opened. -/
theorem open_spots {H : Type} {enc : TypeId × Value → H} {w : World} {held : Bool} {r : Reach} {b0 : Nat} {v : Value} {d : DataW H} {p : List MemPlace} (hval : Value.okWide Try.prog w r b0 39 v)
    (h : DataW.Trod enc Try.prog w 0 (fun _ => true) held 39 v d p) : ∃ A xs c, v = .slice A xs.length c ∧ Ls KSpot 2 w w.heap.size A xs ∧ xs.length ≤ 9223372036854775807 ∧ InS xs := by
  obtain ⟨fuel, hf⟩ := h
  obtain ⟨A, xs, c, hcs, h1, h2, rg⟩ := trod_rowsG (K := KSpot) Try.underlying39 rfl (by decide) (by kernel_rfl) (by kernel_rfl) hf
  refine ⟨A, xs, c, slice_val (P := Try.prog) Try.underlying39 hval hcs, h1, h2, fun i r hr => ?_⟩
  have hg := rg i r hr
  match r, hg with
  | [n0, n1], ⟨r0, r1, _⟩ =>
    have r0 : (decide (IntKind.i16.min ≤ n0.gi) && decide (n0.gi ≤ IntKind.i16.max)) = true := r0
    have r1 : (decide (IntKind.i16.min ≤ n1.gi) && decide (n1.gi ≤ IntKind.i16.max)) = true := r1
    simp only [Bool.and_eq_true, decide_eq_true_eq] at r0 r1
    exact ⟨r0, r1⟩

theorem c_toSpotsV (A : Option Addr) (c : Nat) (xs : List (List NV)) (w : World) (h : Ls KSpot 2 w w.heap.size A xs) (hn : xs.length ≤ 1048576) :
    Calls Try.prog 23 #[.slice A xs.length c] w fun e w' => e = .returned (.slice (some ⟨w.heap.size, 0, none⟩) xs.length xs.length) ∧ Stays w w' ∧ LiesL KSpot 2 w' w.heap.size (.slice (some ⟨w.heap.size, 0, none⟩) xs.length xs.length) xs := by
  refine (c_toSpotS A c xs w h hn).mono ?_
  rintro e w' ⟨rfl, hp⟩
  exact ⟨rfl, hp.below, hp.lies⟩

set_option maxRecDepth 100000 in
set_option maxHeartbeats 1000000 in
theorem c_specVR (v : Value) (a b : Int) (D : Option Addr) (d : Nat) (xs : List Int) (rs : List (List NV)) (w : World) (h : GdV w w.heap.size v a b xs) (h2 : Ls KSpot 2 w w.heap.size D rs) (hS : InS rs) (hx : xs.length ≤ 1048576) (hn : rs.length ≤ 1048576) :
    Calls Try.prog 22 #[v, .slice D rs.length d] w fun e w' => e = .returned (.bool (validR a b xs rs)) ∧ Stays w w' := by
  obtain ⟨A, c, rfl, h1⟩ := h.val
  have u0 := heap_alloc_new w (.cells #[.int .i64 a, .int .i64 b, .slice A xs.length c] 28)
  have hst : Stays w (w.alloc (.cells #[.int .i64 a, .int .i64 b, .slice A xs.length c] 28)) := by (repeat (first | exact Stays.refl _ | (with_reducible refine Stays.drewN ?_ _) | (with_reducible refine Stays.alloc ?_ _) | (with_reducible refine Stays.drew ?_) | (refine Stays.trans ?_ ‹Stays _ _›)))
  have kR := c_l07Route w.heap.size a b A D c d xs rs _ u0 ((h1.below hst).more hst.size) ((h2.below hst).more hst.size) hS hx hn
  generalize validR a b xs rs = val at kR ⊢
  replace kR := Lib.hid kR
  replace hst := Lib.hid hst
  clear u0 h h1 h2 hS
  go_enter Try.func22, Try.ntmps22
  go_wp2_with fail
  refine kR.out.mono ?_
  rintro e w1 ⟨s, rfl, hb⟩
  replace hb := Lib.hid (hst.out.trans hb)
  go_wp2
  go_ret
  exact ⟨rfl, hb.out⟩

set_option maxRecDepth 100000 in
set_option maxHeartbeats 4000000 in
theorem c_lawVR (v : Value) (a b : Int) (xs : List Int) (D : Option Addr) (d : Nat) (rs : List (List NV)) (w : World) (h : GdV w w.heap.size v a b xs) (hn : xs.length ≤ 9223372036854775807) (h2 : Ls KSpot 2 w w.heap.size D rs) (hm : rs.length ≤ 9223372036854775807) (hS : InS rs) :
    Calls Try.prog 5 #[v, .slice D rs.length d] w fun e w' => e = .returned (.bool true) ∧ Below w.heap.size w w' := by
  obtain ⟨A, c, rfl, HB⟩ := boxGd 24 h
  have hst : Stays w (w.alloc (.cells #[.int .i64 a, .int .i64 b, .slice A xs.length c] 24)) := by (repeat (first | exact Stays.refl _ | (with_reducible refine Stays.drewN ?_ _) | (with_reducible refine Stays.alloc ?_ _) | (with_reducible refine Stays.drew ?_) | (refine Stays.trans ?_ ‹Stays _ _›)))
  have HX := Lib.hid fun W (hW : Stays (w.alloc (.cells #[.int .i64 a, .int .i64 b, .slice A xs.length c] 24)) W) => (h2.below (hst.trans hW)).more (hst.trans hW).size
  replace HB := Lib.hid HB
  have hsz := fun W => c_szGrid A c xs.length a b 1048576 W hn (by omega) (by omega)
  clear h h2 hst
  by_cases hl : (1048576 : Int) - xs.length < 0
  · simp only [if_pos hl] at hsz
    replace hsz := Lib.hid hsz
    clear HX
    go_enter Try.func5, Try.ntmps5
    go_wp2_with fail
    refine (hsz.out _).mono ?_
    rintro e w1 ⟨rfl, hb⟩
    go_wp2
    go_ret
    exact ⟨rfl, (HB.out _ hb).1.2⟩
  · simp only [if_neg hl] at hsz
    have hn' : xs.length ≤ 1048576 := by omega
    have hL : ¬ ((1048576 : Int) - xs.length < 0) := hl
    have hL1 : (0 : Int) ≤ (1048576 : Int) - xs.length ∧ (1048576 : Int) - xs.length ≤ 1048576 := by omega
    generalize (1048576 : Int) - xs.length = L at hL hsz hL1
    replace hsz := Lib.hid hsz
    have hsy := fun W => c_szSpotS D d rs.length L W hm hL1.1 hL1.2
    clear hl hn
    by_cases hl2 : L - rs.length < 0
    · simp only [if_pos hl2] at hsy
      replace hsy := Lib.hid hsy
      clear HX hL1
      go_enter Try.func5, Try.ntmps5
      go_wp2_with fail
      refine (hsz.out _).mono ?_
      rintro e w1 ⟨rfl, hb⟩
      replace hb := Lib.hid (show Stays _ w1 from hb)
      go_wp2_with fail
      refine (hsy.out _).mono ?_
      rintro e w2 ⟨rfl, rfl⟩
      go_wp2
      go_ret
      exact ⟨rfl, (HB.out _ hb.out).1.2⟩
    · simp only [if_neg hl2] at hsy
      have hm' : rs.length ≤ 1048576 := by omega
      have hL2 : ¬ (L - rs.length < 0) := hl2
      generalize L - (rs.length : Int) = L2 at hL2 hsy
      replace hsy := Lib.hid hsy
      have kS := fun v D d W h h2 => c_specVR v a b D d xs rs W h h2 hS hn' hm'
      have kI := fun A D W h1 h2 => c_implValidRoute a b A D xs.length rs.length xs rs W h1 (Nat.le_refl _) h2 (Nat.le_refl _) hS hn' hm'
      have kT := Lib.hid fun W (hW : Stays (w.alloc (.cells #[.int .i64 a, .int .i64 b, .slice A xs.length c] 24)) W) => c_toSpotsV D d rs W (HX.out W hW) hm'
      have kG := Lib.hid fun W (hW : Stays (w.alloc (.cells #[.int .i64 a, .int .i64 b, .slice A xs.length c] 24)) W) => c_toGd _ a b xs W (HB.out _ hW).2 hn'
      generalize validR a b xs rs = val at kS kI
      replace kS := Lib.hid kS
      replace kI := Lib.hid kI
      clear hl2 hm hL1 hS HX
      go_enter Try.func5, Try.ntmps5
      go_wp2_with fail
      refine (hsz.out _).mono ?_
      rintro e w1 ⟨rfl, hb⟩
      have ha := Lib.hid (show Stays _ w1 from hb)
      clear hb
      go_wp2_with fail
      refine (hsy.out _).mono ?_
      rintro e w2 ⟨rfl, rfl⟩
      clear hsz hsy
      generalize (w.alloc (.cells #[.int .i64 a, .int .i64 b, .slice A xs.length c] 24)) = W0 at HB ha kG kT
      obtain ⟨⟨⟨a0, a1, a2⟩, _⟩, _⟩ := HB.out _ ha.out
      go_wp2_with fail
      refine (kG.out _ ha.out).mono ?_
      rintro e w3 ⟨v1, rfl, hb, hv1⟩
      replace hb : Stays w1 w3 := hb
      replace ha := Lib.hid (ha.out.trans hb)
      replace hv1 := Lib.hid hv1
      clear hb a0 a1 a2
      go_wp2_with fail
      refine (kT.out _ ha.out).mono ?_
      rintro e w4 ⟨rfl, hb, hLa⟩
      replace hb : Stays w3 w4 := hb
      replace ha := Lib.hid (ha.out.trans hb)
      replace hv1 := Lib.hid (hv1.out.on hb)
      replace hLa := Lib.hid hLa
      clear hb
      go_wp2_with fail
      refine (kS.out v1 _ _ w4 hv1.out hLa.out.rows).mono ?_
      rintro e w5 ⟨rfl, hb⟩
      replace ha := Lib.hid (ha.out.trans hb)
      clear hb hv1 hLa
      obtain ⟨⟨⟨a0, a1, a2⟩, _⟩, hg⟩ := HB.out _ ha.out
      replace hg := Lib.hid hg
      go_wp2_with fail
      refine (c_toGrid _ a b xs w5 hg.out hn').mono ?_
      rintro e w6 ⟨gx, rfl, hge, hb, hLx⟩
      have hs6 : Stays w6 (w6.alloc (.cells #[.int .i64 a, .int .i64 b, .slice (some ⟨gx, 0, none⟩) xs.length xs.length] 28)) := by (repeat (first | exact Stays.refl _ | (with_reducible refine Stays.drewN ?_ _) | (with_reducible refine Stays.alloc ?_ _) | (with_reducible refine Stays.drew ?_) | (refine Stays.trans ?_ ‹Stays _ _›)))
      have hs56 := (show Stays w5 w6 from hb).trans hs6
      replace ha := Lib.hid (ha.out.trans hs56)
      have hXx := Lib.hid (BoxG.new w6 a b (some ⟨gx, 0, none⟩) xs.length xs.length 28)
      replace hLx := Lib.hid (LiesR.below hLx hs6)
      clear hb hge hs6 hs56 hg a0 a1 a2
      go_wp2_with fail
      generalize (w6.alloc (.cells #[.int .i64 a, .int .i64 b, .slice (some ⟨gx, 0, none⟩) xs.length xs.length] 28)) = W6 at ha hXx hLx ⊢
      generalize w6.heap.size = px at hXx ⊢
      refine (kT.out _ ha.out).mono ?_
      rintro e w7 ⟨rfl, hb, hLy⟩
      replace hb : Stays W6 w7 := hb
      replace ha := Lib.hid (ha.out.trans hb)
      replace hXx := Lib.hid (hXx.out.below hb)
      replace hLx := Lib.hid (LiesR.below hLx.out hb)
      replace hLy := Lib.hid hLy
      clear hb
      obtain ⟨x0, x1, x2⟩ := hXx.out.cells
      go_wp2_with fail
      refine (kI.out _ _ w7 hLx.out.rows hLy.out.rows).mono ?_
      rintro e w8 ⟨rfl, hb⟩
      replace hb : Stays w7 w8 := hb
      replace ha := Lib.hid (ha.out.trans hb)
      replace hXx := Lib.hid (hXx.out.below hb)
      replace hLx := Lib.hid (LiesR.below hLx.out hb)
      replace hLy := Lib.hid (LiesR.below hLy.out hb)
      clear hb x0 x1 x2
      obtain ⟨⟨⟨a0, a1, a2⟩, _⟩, _⟩ := HB.out _ ha.out
      obtain ⟨x0, x1, x2⟩ := hXx.out.cells
      have G1 : Hid (∀ w', Stays w8 w' → (((w'.cell? ⟨w.heap.size, 0, none⟩ = some (.int .i64 a) ∧ w'.cell? ⟨w.heap.size, 1, none⟩ = some (.int .i64 b) ∧ w'.cell? ⟨w.heap.size, 2, none⟩ = some (.slice A xs.length c)) ∧ (w'.cell? ⟨px, 0, none⟩ = some (.int .i64 a) ∧ w'.cell? ⟨px, 1, none⟩ = some (.int .i64 b) ∧ w'.cell? ⟨px, 2, none⟩ = some (.slice (some ⟨gx, 0, none⟩) xs.length xs.length))) ∧ Hid (Stays w8 w'))) := Lib.hid fun w' h => ⟨⟨(HB.out _ (ha.out.trans h)).1.1, (hXx.out.below h).cells⟩, Lib.hid h⟩
      have h5 := Lib.hid (show Stays w8 w8.drew from (Stays.refl w8).drew)
      have hvv : (val != val) = false := by simp
      go_wp2_with fail
      go_region_held (fun w' => (((w'.cell? ⟨w.heap.size, 0, none⟩ = some (.int .i64 a) ∧ w'.cell? ⟨w.heap.size, 1, none⟩ = some (.int .i64 b) ∧ w'.cell? ⟨w.heap.size, 2, none⟩ = some (.slice A xs.length c)) ∧ (w'.cell? ⟨px, 0, none⟩ = some (.int .i64 a) ∧ w'.cell? ⟨px, 1, none⟩ = some (.int .i64 b) ∧ w'.cell? ⟨px, 2, none⟩ = some (.slice (some ⟨gx, 0, none⟩) xs.length xs.length))) ∧ Hid (Stays w8 w'))) (first | exact G1.out _ h5.out | exact G1.out _ h6.out | exact G1.out _ h7.out)
        (first
          | (go_at_call 13; refine (kG.out _ (ha.out.trans h5.out)).mono ?_; rintro e w9 ⟨v3, rfl, hb, hv3⟩; have h6 := Lib.hid (h5.out.trans hb); clear hb; replace hv3 := Lib.hid hv3)
          | (go_at_call 16; refine (c_eqGrid _ v3 a b xs w9 (LiesB.val (LiesR.below hLx.out h6.out)) hv3.out hn').mono ?_; rintro e w10 ⟨rfl, hb⟩; have h7 := Lib.hid (h6.out.trans hb); clear hb))
      have hb := h7.out
      replace ha := Lib.hid (ha.out.trans hb)
      replace hLy := Lib.hid (LiesR.below hLy.out hb)
      clear hb a0 a1 a2 x0 x1 x2 G1 h5 h6 h7 hv3 hXx hLx
      go_wp2_with fail
      refine (kT.out _ ha.out).mono ?_
      rintro e w11 ⟨rfl, hb, hLz⟩
      replace ha := Lib.hid (ha.out.trans hb)
      replace hLy := Lib.hid (LiesR.below hLy.out hb)
      replace hLz := Lib.hid hLz
      clear hb
      go_wp2_with fail
      refine (c_eqSpotS _ _ _ _ rs w11 hLy.out.rows hLz.out.rows hm').mono ?_
      rintro e w12 ⟨rfl, hb⟩
      replace ha := Lib.hid (ha.out.trans hb)
      clear hb
      go_wp2
      go_ret
      exact ⟨rfl, (HB.out _ ha.out).1.2⟩

theorem c_lawValidRoute {p : Prop} (v : Value) (a b : Int) (xs : List Int) (D : Option Addr) (d : Nat) (rs : List (List NV)) (w : World) (h : GdV w w.heap.size v a b xs) (hn : xs.length ≤ 9223372036854775807) (_ : p) (h2 : Ls KSpot 2 w w.heap.size D rs) (hm : rs.length ≤ 9223372036854775807) (hS : InS rs) :
    Calls Try.prog 5 #[v, .slice D rs.length d] w fun e w' => e = .returned (.bool true) ∧ Below w.heap.size w w' := c_lawVR v a b xs D d rs w h hn h2 hm hS
end Go.Proofs.Yteidjmliepmlmaa
