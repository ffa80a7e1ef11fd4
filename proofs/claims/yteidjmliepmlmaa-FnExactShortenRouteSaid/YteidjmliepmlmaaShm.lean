/- Steps: one that may be made, as the document says it. Routes: whether one is valid, as the document says it. Routes that are made shorter, as the program does it. Routes that are made shorter, on both sides. Routes that are made shorter, as the document does it. The law on routes that are made shorter. No condition. -/
import Derived.Test.YteidjmliepmlmaaGhB
import Derived.Test.YteidjmliepmlmaaGv
import Derived.Deep.RegionHeld
import Derived.Test.YteidjmliepmlmaaGdF
import Derived.Test.YteidjmliepmlmaaGhF
import Derived.Test.YteidjmliepmlmaaSq
import Derived.Test.YteidjmliepmlmaaGdG
namespace Go.Proofs.Yteidjmliepmlmaa
open Go Go.RowKit
set_option linter.unusedVariables false
set_option linter.unusedSimpArgs false

theorem end_gd3 {P : Program} {fn : Func} {R : Ending → World → Prop} {a : Act} {w : World} {p u v : Tmp} {ty t : TypeId} {g : Nat} {cs : Array Value} {d : TypeDesc}
    (h : fn.results = #[.cell p ty, .tmp u, .tmp v]) (hp : a.tmps.getD p undef = .pointer (some ⟨g, 0, none⟩)) (hf : a.defers = [])
    (hu : P.underlying ty = some d) (hd : (match d with | .struct _ | .array _ _ => true | _ => false) = true)
    (hg : w.heap[g]? = some (.cells cs t (0, 0))) (hi : (P.info? ty).map (·.size) = some cs.size) (hR : R (.returned (.tuple #[.agg cs, a.tmps.getD u undef, a.tmps.getD v undef])) w) : bodyPost P fn R .ret a w := by
  refine bodyPost_ret ?_ hf hR
  rw [Array.getD_eq_getD_getElem?] at hp
  simp only [results, h]
  simp [Sem.run_bind, Result.andThen, hp, asAddr, run_loadVar_row w g t ty cs (0, 0) d hg hu hd hi]

def moveB (a b : Int) (xs : List Int) (x y dx dy : Int) : Bool := freeB a b xs (x + dx) (y + dy) && (if dx ≠ 0 ∧ dy ≠ 0 then !wallB a xs (x + dx) y && !wallB a xs x (y + dy) else true)

def MoveAs (w : World) (ok : Bool) (e : Ending) (w' : World) : Prop := ∃ s t cost, e = .returned (.tuple #[.agg #[.int .i16 s, .int .i16 t], .int .i64 cost, .bool ok]) ∧ Stays w w'

set_option maxRecDepth 100000 in
set_option maxHeartbeats 2000000 in
theorem c_l07Move (p : Nat) (a b x y dx dy : Int) (A : Option Addr) (c : Nat) (xs : List Int) (w : World) (hG : GridAt w p a b A c xs.length) (h1 : Bs w w.heap.size A xs) (hg : gridB a b xs.length = true) (hh : hasB a b x y = true) (hdx : -1 ≤ dx ∧ dx ≤ 1) (hdy : -1 ≤ dy ∧ dy ≤ 1) :
    Calls Try.prog 90 #[.pointer (some ⟨p, 0, none⟩), .agg #[.int .i16 x, .int .i16 y], .int .i64 dx, .int .i64 dy] w (MoveAs w (moveB a b xs x y dx dy)) := by
  obtain ⟨ha, hb, hne⟩ := gridB_iff.1 hg
  obtain ⟨hx1, hy1⟩ := hasB_iff.1 hh
  have e1 : IntKind.i64.wrap x = x := IntWalk.i64_in _ (by omega)
  have e2 : IntKind.i64.wrap y = y := IntWalk.i64_in _ (by omega)
  have e3 : IntKind.i64.wrap (x + dx) = x + dx := IntWalk.i64_in _ (by omega)
  have e4 : IntKind.i64.wrap (y + dy) = y + dy := IntWalk.i64_in _ (by omega)
  have e5 : IntKind.i16.wrap (x + dx) = x + dx := IntWalk.i16_in _ (by omega)
  have e6 : IntKind.i16.wrap (y + dy) = y + dy := IntWalk.i16_in _ (by omega)
  have hst : Stays w ((w.alloc (.cells #[.int .i16 x, .int .i16 y] 32)).alloc (.cells #[.int .i16 0, .int .i16 0] 32)) := by (repeat (first | exact Stays.refl _ | (with_reducible refine Stays.drewN ?_ _) | (with_reducible refine Stays.alloc ?_ _) | (with_reducible refine Stays.drew ?_) | (refine Stays.trans ?_ ‹Stays _ _›)))
  have hres : ((w.alloc (.cells #[.int .i16 x, .int .i16 y] 32)).alloc (.cells #[.int .i16 0, .int .i16 0] 32)).heap[w.heap.size + 1]? = some (.cells #[.int .i16 0, .int .i16 0] 32 (0, 0)) := by (repeat (first | (refine heap_top _ _ _ ?_; simp; done) | (with_reducible refine heap_drawn _ _ _ ?_) | (with_reducible refine heap_under _ _ _ ?_ ?_; (simp <;> omega))))
  have kA := c_l07At p a b (x + dx) (y + dy) A c xs.length ((w.alloc (.cells #[.int .i16 x, .int .i16 y] 32)).alloc (.cells #[.int .i16 0, .int .i16 0] 32)) (hG.on hst) ha hb
  unfold moveB freeB
  cases huv : hasB a b (x + dx) (y + dy) with
  | false =>
    rw [huv] at kA
    replace kA := Lib.hid kA
    simp only [Bool.false_and]
    clear hG h1 hg hh hdx hdy ha hb hne hx1 hy1 huv
    go_enter Try.func90, Try.ntmps90
    go_wp2_with (first | (go_at_call 100; refine kA.out.mono ?_; rintro e w1 ⟨rfl, rfl⟩) | (refine wpList_store_row rfl _ _ _ rfl _ _ _ rfl rfl hres ?hi ?ho ?h1 ?hB hst ?_; (case hi => kernel_rfl); (case ho => rfl); (case h1 => first | rfl | simp [Value.oneCell']); (case hB => first | omega | (simp <;> omega)); intro w2 hw2 hq2 _ _))
    apply end_gd3 rfl rfl rfl Try.underlying32 rfl (t := 32)
    case hg => exact hq2
    case hi => kernel_rfl
    case hR => exact ⟨_, _, _, rfl, hw2⟩
  | true =>
    obtain ⟨hu1, hv1⟩ := hasB_iff.1 huv
    have huy : hasB a b (x + dx) y = true := hasB_iff.2 ⟨hu1, hy1⟩
    have hxv : hasB a b x (y + dy) = true := hasB_iff.2 ⟨hx1, hv1⟩
    have hst' : Stays w (((w.alloc (.cells #[.int .i16 x, .int .i16 y] 32)).alloc (.cells #[.int .i16 0, .int .i16 0] 32)).alloc (.cells #[.int .i16 (x + dx), .int .i16 (y + dy)] 32)) := by (repeat (first | exact Stays.refl _ | (with_reducible refine Stays.drewN ?_ _) | (with_reducible refine Stays.alloc ?_ _) | (with_reducible refine Stays.drew ?_) | (refine Stays.trans ?_ ‹Stays _ _›)))
    have n0 : (((w.alloc (.cells #[.int .i16 x, .int .i16 y] 32)).alloc (.cells #[.int .i16 0, .int .i16 0] 32)).alloc (.cells #[.int .i16 (x + dx), .int .i16 (y + dy)] 32)).heap[w.heap.size]? = some (.cells #[.int .i16 x, .int .i16 y] 32 (0, 0)) := by (repeat (first | (refine heap_top _ _ _ ?_; simp; done) | (with_reducible refine heap_drawn _ _ _ ?_) | (with_reducible refine heap_under _ _ _ ?_ ?_; (simp <;> omega))))
    have n1 : (((w.alloc (.cells #[.int .i16 x, .int .i16 y] 32)).alloc (.cells #[.int .i16 0, .int .i16 0] 32)).alloc (.cells #[.int .i16 (x + dx), .int .i16 (y + dy)] 32)).heap[w.heap.size + 1]? = some (.cells #[.int .i16 0, .int .i16 0] 32 (0, 0)) := by (repeat (first | (refine heap_top _ _ _ ?_; simp; done) | (with_reducible refine heap_drawn _ _ _ ?_) | (with_reducible refine heap_under _ _ _ ?_ ?_; (simp <;> omega))))
    have n2 : (((w.alloc (.cells #[.int .i16 x, .int .i16 y] 32)).alloc (.cells #[.int .i16 0, .int .i16 0] 32)).alloc (.cells #[.int .i16 (x + dx), .int .i16 (y + dy)] 32)).heap[w.heap.size + 1 + 1]? = some (.cells #[.int .i16 (x + dx), .int .i16 (y + dy)] 32 (0, 0)) := by (repeat (first | (refine heap_top _ _ _ ?_; simp; done) | (with_reducible refine heap_drawn _ _ _ ?_) | (with_reducible refine heap_under _ _ _ ?_ ?_; (simp <;> omega))))
    have HW : Hid (∀ w1, Stays (((w.alloc (.cells #[.int .i16 x, .int .i16 y] 32)).alloc (.cells #[.int .i16 0, .int .i16 0] 32)).alloc (.cells #[.int .i16 (x + dx), .int .i16 (y + dy)] 32)) w1 → (w1.cell? ⟨w.heap.size, 0, none⟩ = some (.int .i16 x) ∧ w1.cell? ⟨w.heap.size, 1, none⟩ = some (.int .i16 y) ∧ w1.cell? ⟨w.heap.size + 1 + 1, 0, none⟩ = some (.int .i16 (x + dx)) ∧ w1.cell? ⟨w.heap.size + 1 + 1, 1, none⟩ = some (.int .i16 (y + dy))) ∧ Stays w w1 ∧ w1.heap[w.heap.size + 1]? = some (.cells #[.int .i16 0, .int .i16 0] 32 (0, 0))) :=
      Lib.hid fun w1 h => ⟨⟨row_of h n0 0, row_of h n0 1, row_of h n2 0, row_of h n2 1⟩, hst'.trans h, (Below.block h _ (in_heap n1)).trans n1⟩
    have kW := c_l07Wall p a b (x + dx) (y + dy) A c xs (((w.alloc (.cells #[.int .i16 x, .int .i16 y] 32)).alloc (.cells #[.int .i16 0, .int .i16 0] 32)).alloc (.cells #[.int .i16 (x + dx), .int .i16 (y + dy)] 32)) (hG.on hst') ((h1.below hst').more hst'.size) hg huv
    have kU := fun W (h : Stays w W) => c_l07Wall p a b (x + dx) y A c xs W (hG.on h) ((h1.below h).more h.size) hg huy
    have kV := fun W (h : Stays w W) => c_l07Wall p a b x (y + dy) A c xs W (hG.on h) ((h1.below h).more h.size) hg hxv
    have bdi := idx_bd ha hb hu1 hv1
    rw [Int.mul_comm b a] at bdi
    obtain ⟨i, hi⟩ : ∃ i : Nat, (y + dy) * a + (x + dx) = i := ⟨((y + dy) * a + (x + dx)).toNat, by omega⟩
    have hil : i < xs.length := by omega
    have kI := fun W (h : Stays w W) => c_l07Index p a b (x + dx) (y + dy) A c xs.length W (hG.on h) ha hb hu1 hv1
    rw [hi] at kI
    obtain ⟨ad, rfl, hbl, hc0⟩ := Bs.at_ h1 (List.getElem?_eq_getElem hil)
    generalize xs[i] = z at hc0
    have hZ : Hid (∀ w1, Stays w w1 → w1.cell? (ad.add i) = some (.int .u8 z) ∧ w1.cell? ⟨p, 2, none⟩ = some (.slice (some ad) xs.length c)) := Lib.hid fun w1 h => ⟨(Below.cell h (by rw [block_add]; exact hbl)).trans hc0, (hG w1 h).2.2⟩
    have hil' : (i : Int) < (xs.length : Int) := by omega
    have HF : Hid (∀ w3, Stays (((w.alloc (.cells #[.int .i16 x, .int .i16 y] 32)).alloc (.cells #[.int .i16 0, .int .i16 0] 32)).alloc (.cells #[.int .i16 (x + dx), .int .i16 (y + dy)] 32)) w3 → ((w3.cell? ⟨w.heap.size + 1, 0, none⟩ = some (.int .i16 0) ∧ w3.cell? ⟨w.heap.size + 1, 1, none⟩ = some (.int .i16 0)) ∧ w3.frozen? ⟨w.heap.size + 1, 0, none⟩ = false ∧ w3.frozen? ⟨w.heap.size + 1, 1, none⟩ = false) ∧ ((((w3.setCell ⟨w.heap.size + 1, 0, none⟩ (.int .i16 (x + dx))).setCell ⟨w.heap.size + 1, 1, none⟩ (.int .i16 (y + dy))).cell? ⟨w.heap.size + 1 + 1, 0, none⟩ = some (.int .i16 (x + dx)) ∧ ((w3.setCell ⟨w.heap.size + 1, 0, none⟩ (.int .i16 (x + dx))).setCell ⟨w.heap.size + 1, 1, none⟩ (.int .i16 (y + dy))).cell? ⟨w.heap.size + 1 + 1, 1, none⟩ = some (.int .i16 (y + dy))) ∧ ((w3.setCell ⟨w.heap.size + 1, 0, none⟩ (.int .i16 (x + dx))).setCell ⟨w.heap.size + 1, 1, none⟩ (.int .i16 (y + dy))).cell? (ad.add i) = some (.int .u8 z) ∧ ((w3.setCell ⟨w.heap.size + 1, 0, none⟩ (.int .i16 (x + dx))).setCell ⟨w.heap.size + 1, 1, none⟩ (.int .i16 (y + dy))).cell? ⟨p, 2, none⟩ = some (.slice (some ad) xs.length c)) ∧ ((w3.setCell ⟨w.heap.size + 1, 0, none⟩ (.int .i16 (x + dx))).setCell ⟨w.heap.size + 1, 1, none⟩ (.int .i16 (y + dy))).heap[w.heap.size + 1]? = some (.cells #[.int .i16 (x + dx), .int .i16 (y + dy)] 32 (0, 0)) ∧ Stays w ((w3.setCell ⟨w.heap.size + 1, 0, none⟩ (.int .i16 (x + dx))).setCell ⟨w.heap.size + 1, 1, none⟩ (.int .i16 (y + dy)))) := Lib.hid fun w3 h => by
      obtain ⟨⟨_, _, t0, t1⟩, h2, h3⟩ := HW.out w3 h
      have m1 := heap_setCell_same w3 (w.heap.size + 1) 0 _ _ (.int .i16 (x + dx)) h3
      have m2 := heap_setCell_same _ (w.heap.size + 1) 1 _ _ (.int .i16 (y + dy)) m1
      have hs : Stays w ((w3.setCell ⟨w.heap.size + 1, 0, none⟩ (.int .i16 (x + dx))).setCell ⟨w.heap.size + 1, 1, none⟩ (.int .i16 (y + dy))) := (Below.setCell (show Below w.heap.size w w3 from h2) (show w.heap.size ≤ w.heap.size + 1 by omega) _).setCell (show w.heap.size ≤ w.heap.size + 1 by omega) _
      have hq := (same_sets (w.heap.size + 1) (w.heap.size + 1 + 1) 0 [.int .i16 (x + dx)] w3 (by omega)).trans (same_sets (w.heap.size + 1) (w.heap.size + 1 + 1) 1 [.int .i16 (y + dy)] _ (by omega))
      exact ⟨⟨⟨cell_of_row _ _ _ _ _ _ h3, cell_of_row _ _ _ _ _ _ h3⟩, frozen_of_row _ _ _ _ _ h3, frozen_of_row _ _ _ _ _ h3⟩, ⟨⟨(hq.cell ⟨w.heap.size + 1 + 1, 0, none⟩ rfl).trans t0, (hq.cell ⟨w.heap.size + 1 + 1, 1, none⟩ rfl).trans t1⟩, hZ.out _ hs⟩, m2, hs⟩
    rw [huv] at kA
    simp only [Bool.true_and]
    generalize wallB a xs (x + dx) (y + dy) = q0 at kW ⊢
    generalize wallB a xs (x + dx) y = q1 at kU ⊢
    generalize wallB a xs x (y + dy) = q2 at kV ⊢
    replace kA := Lib.hid kA
    replace kW := Lib.hid kW
    replace kI := Lib.hid kI
    clear hst hres hst' n0 n1 n2 hG h1 hg hh hdx hdy ha hb hne hx1 hy1 huv hu1 hv1 huy hxv hi hil hc0 hbl bdi
    cases q0 with
    | true =>
      simp only [Bool.not_true, Bool.false_and]
      replace kU := Lib.hid kU
      replace kV := Lib.hid kV
      go_enter Try.func90, Try.ntmps90
      go_wp2_with fail
      refine kA.out.mono ?_
      rintro e w1 ⟨rfl, rfl⟩
      go_wp2_with fail
      refine kW.out.mono ?_
      rintro e w1 ⟨rfl, hw1⟩
      obtain ⟨_, hst, hres⟩ := HW.out w1 hw1
      go_wp2_with (refine wpList_store_row rfl _ _ _ rfl _ _ _ rfl rfl hres ?hi ?ho ?h1 ?hB hst ?_; (case hi => kernel_rfl); (case ho => rfl); (case h1 => first | rfl | simp [Value.oneCell']); (case hB => first | omega | (simp <;> omega)); intro w2 hw2 hq2 _ _)
      apply end_gd3 rfl rfl rfl Try.underlying32 rfl (t := 32)
      case hg => exact hq2
      case hi => kernel_rfl
      case hR => exact ⟨_, _, _, rfl, hw2⟩
    | false =>
      simp only [Bool.not_false, Bool.true_and]
      by_cases hx0 : dx = 0
      · have hif : (if dx ≠ 0 ∧ dy ≠ 0 then !q1 && !q2 else true) = true := if_neg fun h => h.1 hx0
        rw [hif]
        have hx0' : (dx != 0) = false := by simp [hx0]
        have hx1' : (dx == 0) = true := by simp [hx0]
        replace hx0 := Lib.hid hx0
        replace kU := Lib.hid kU
        replace kV := Lib.hid kV
        clear hif
        go_enter Try.func90, Try.ntmps90
        go_wp2_with fail
        refine kA.out.mono ?_
        rintro e w1 ⟨rfl, rfl⟩
        go_wp2_with fail
        refine kW.out.mono ?_
        rintro e w1 ⟨rfl, hw1⟩
        replace hw1 := Lib.hid (show Stays _ w1 from hw1)
        go_wp2_with fail
        have G : Hid (∀ w', Stays w1 w' → ((w'.cell? ⟨w.heap.size + 1 + 1, 0, none⟩ = some (.int .i16 (x + dx)) ∧ w'.cell? ⟨w.heap.size + 1 + 1, 1, none⟩ = some (.int .i16 (y + dy))) ∧ w'.cell? (ad.add i) = some (.int .u8 z) ∧ w'.cell? ⟨p, 2, none⟩ = some (.slice (some ad) xs.length c))) := Lib.hid fun w' h => by
          obtain ⟨⟨_, _, t0, t1⟩, h2, _⟩ := HW.out w' (hw1.out.trans h)
          exact ⟨⟨t0, t1⟩, hZ.out _ h2⟩
        have h5 := Lib.hid (show Stays w1 w1.drew from (Stays.refl w1).drew)
        go_region_held (fun w' => ((w'.cell? ⟨w.heap.size + 1 + 1, 0, none⟩ = some (.int .i16 (x + dx)) ∧ w'.cell? ⟨w.heap.size + 1 + 1, 1, none⟩ = some (.int .i16 (y + dy))) ∧ w'.cell? (ad.add i) = some (.int .u8 z) ∧ w'.cell? ⟨p, 2, none⟩ = some (.slice (some ad) xs.length c))) (first | exact G.out _ h5.out | exact G.out _ h6.out | exact hS2.out)
          (first
            | (go_at_call 48; refine (kI.out _ (HW.out _ (hw1.out.trans h5.out)).2.1).mono ?_; rintro e w3 ⟨rfl, hb⟩; have h6 := Lib.hid (h5.out.trans hb); obtain ⟨⟨⟨z0, z1⟩, f0, f1⟩, hS2, hfin, hsf⟩ := HF.out w3 (hw1.out.trans h6.out); replace hS2 := Lib.hid hS2; replace hfin := Lib.hid hfin; replace hsf := Lib.hid hsf; clear hb))
        all_goals
          go_wp2_with fail
          apply end_gd3 rfl rfl rfl Try.underlying32 rfl (t := 32)
          case hg => exact hfin.out
          case hi => kernel_rfl
          case hR => exact ⟨_, _, _, rfl, hsf.out⟩
      · by_cases hy0 : dy = 0
        · have hif : (if dx ≠ 0 ∧ dy ≠ 0 then !q1 && !q2 else true) = true := if_neg fun h => h.2 hy0
          rw [hif]
          have hx0' : (dx != 0) = true := by simp [hx0]
          have hx1' : (dx == 0) = false := by simp [hx0]
          have hy0' : (dy != 0) = false := by simp [hy0]
          have hy1' : (dy == 0) = true := by simp [hy0]
          replace hx0 := Lib.hid hx0
          replace hy0 := Lib.hid hy0
          replace kU := Lib.hid kU
          replace kV := Lib.hid kV
          clear hif
          go_enter Try.func90, Try.ntmps90
          go_wp2_with fail
          refine kA.out.mono ?_
          rintro e w1 ⟨rfl, rfl⟩
          go_wp2_with fail
          refine kW.out.mono ?_
          rintro e w1 ⟨rfl, hw1⟩
          replace hw1 := Lib.hid (show Stays _ w1 from hw1)
          go_wp2_with fail
          have G : Hid (∀ w', Stays w1 w' → ((w'.cell? ⟨w.heap.size + 1 + 1, 0, none⟩ = some (.int .i16 (x + dx)) ∧ w'.cell? ⟨w.heap.size + 1 + 1, 1, none⟩ = some (.int .i16 (y + dy))) ∧ w'.cell? (ad.add i) = some (.int .u8 z) ∧ w'.cell? ⟨p, 2, none⟩ = some (.slice (some ad) xs.length c))) := Lib.hid fun w' h => by
            obtain ⟨⟨_, _, t0, t1⟩, h2, _⟩ := HW.out w' (hw1.out.trans h)
            exact ⟨⟨t0, t1⟩, hZ.out _ h2⟩
          have h5 := Lib.hid (show Stays w1 w1.drew from (Stays.refl w1).drew)
          go_region_held (fun w' => ((w'.cell? ⟨w.heap.size + 1 + 1, 0, none⟩ = some (.int .i16 (x + dx)) ∧ w'.cell? ⟨w.heap.size + 1 + 1, 1, none⟩ = some (.int .i16 (y + dy))) ∧ w'.cell? (ad.add i) = some (.int .u8 z) ∧ w'.cell? ⟨p, 2, none⟩ = some (.slice (some ad) xs.length c))) (first | exact G.out _ h5.out | exact G.out _ h6.out | exact hS2.out)
            (first
              | (go_at_call 48; refine (kI.out _ (HW.out _ (hw1.out.trans h5.out)).2.1).mono ?_; rintro e w3 ⟨rfl, hb⟩; have h6 := Lib.hid (h5.out.trans hb); obtain ⟨⟨⟨z0, z1⟩, f0, f1⟩, hS2, hfin, hsf⟩ := HF.out w3 (hw1.out.trans h6.out); replace hS2 := Lib.hid hS2; replace hfin := Lib.hid hfin; replace hsf := Lib.hid hsf; clear hb))
          all_goals
            go_wp2_with fail
            apply end_gd3 rfl rfl rfl Try.underlying32 rfl (t := 32)
            case hg => exact hfin.out
            case hi => kernel_rfl
            case hR => exact ⟨_, _, _, rfl, hsf.out⟩
        · have hif : (if dx ≠ 0 ∧ dy ≠ 0 then !q1 && !q2 else true) = (!q1 && !q2) := if_pos ⟨hx0, hy0⟩
          rw [hif]
          have hx0' : (dx != 0) = true := by simp [hx0]
          have hx1' : (dx == 0) = false := by simp [hx0]
          have hy0' : (dy != 0) = true := by simp [hy0]
          have hy1' : (dy == 0) = false := by simp [hy0]
          replace hx0 := Lib.hid hx0
          replace hy0 := Lib.hid hy0
          clear hif
          cases q1 with
          | true =>
            replace kU := Lib.hid kU
            replace kV := Lib.hid kV
            go_enter Try.func90, Try.ntmps90
            go_wp2_with fail
            refine kA.out.mono ?_
            rintro e w1 ⟨rfl, rfl⟩
            go_wp2_with fail
            refine kW.out.mono ?_
            rintro e w1 ⟨rfl, hw1⟩
            replace hw1 := Lib.hid (show Stays _ w1 from hw1)
            obtain ⟨⟨q0, q1, q2, q3⟩, hs1, _⟩ := HW.out w1 hw1.out
            replace hs1 := Lib.hid hs1
            go_wp2_with fail
            refine (kU.out _ hs1.out).mono ?_
            rintro e wu ⟨rfl, hwu⟩
            replace hw1 := Lib.hid (hw1.out.trans hwu)
            clear q0 q1 q2 q3 hs1 hwu
            obtain ⟨_, hst, hres⟩ := HW.out _ hw1.out
            simp only [Bool.not_true, Bool.not_false, Bool.false_and, Bool.and_false]
            go_wp2_with (refine wpList_store_row rfl _ _ _ rfl _ _ _ rfl rfl hres ?hi ?ho ?h1 ?hB hst ?_; (case hi => kernel_rfl); (case ho => rfl); (case h1 => first | rfl | simp [Value.oneCell']); (case hB => first | omega | (simp <;> omega)); intro w2 hw2 hq2 _ _)
            apply end_gd3 rfl rfl rfl Try.underlying32 rfl (t := 32)
            case hg => exact hq2
            case hi => kernel_rfl
            case hR => exact ⟨_, _, _, rfl, hw2⟩
          | false =>
            cases q2 with
            | true =>
              replace kU := Lib.hid kU
              replace kV := Lib.hid kV
              go_enter Try.func90, Try.ntmps90
              go_wp2_with fail
              refine kA.out.mono ?_
              rintro e w1 ⟨rfl, rfl⟩
              go_wp2_with fail
              refine kW.out.mono ?_
              rintro e w1 ⟨rfl, hw1⟩
              replace hw1 := Lib.hid (show Stays _ w1 from hw1)
              obtain ⟨⟨q0, q1, q2, q3⟩, hs1, _⟩ := HW.out w1 hw1.out
              replace hs1 := Lib.hid hs1
              go_wp2_with fail
              refine (kU.out _ hs1.out).mono ?_
              rintro e wu ⟨rfl, hwu⟩
              replace hw1 := Lib.hid (hw1.out.trans hwu)
              clear q0 q1 q2 q3 hs1 hwu
              obtain ⟨⟨q0, q1, q2, q3⟩, hs1, _⟩ := HW.out wu hw1.out
              replace hs1 := Lib.hid hs1
              go_wp2_with fail
              refine (kV.out _ hs1.out).mono ?_
              rintro e wv ⟨rfl, hwv⟩
              replace hw1 := Lib.hid (hw1.out.trans hwv)
              clear q0 q1 q2 q3 hs1 hwv
              obtain ⟨_, hst, hres⟩ := HW.out _ hw1.out
              simp only [Bool.not_true, Bool.not_false, Bool.false_and, Bool.and_false]
              go_wp2_with (refine wpList_store_row rfl _ _ _ rfl _ _ _ rfl rfl hres ?hi ?ho ?h1 ?hB hst ?_; (case hi => kernel_rfl); (case ho => rfl); (case h1 => first | rfl | simp [Value.oneCell']); (case hB => first | omega | (simp <;> omega)); intro w2 hw2 hq2 _ _)
              apply end_gd3 rfl rfl rfl Try.underlying32 rfl (t := 32)
              case hg => exact hq2
              case hi => kernel_rfl
              case hR => exact ⟨_, _, _, rfl, hw2⟩
            | false =>
              replace kU := Lib.hid kU
              replace kV := Lib.hid kV
              go_enter Try.func90, Try.ntmps90
              go_wp2_with fail
              refine kA.out.mono ?_
              rintro e w1 ⟨rfl, rfl⟩
              go_wp2_with fail
              refine kW.out.mono ?_
              rintro e w1 ⟨rfl, hw1⟩
              replace hw1 := Lib.hid (show Stays _ w1 from hw1)
              obtain ⟨⟨q0, q1, q2, q3⟩, hs1, _⟩ := HW.out w1 hw1.out
              replace hs1 := Lib.hid hs1
              go_wp2_with fail
              refine (kU.out _ hs1.out).mono ?_
              rintro e wu ⟨rfl, hwu⟩
              replace hw1 := Lib.hid (hw1.out.trans hwu)
              clear q0 q1 q2 q3 hs1 hwu
              obtain ⟨⟨q0, q1, q2, q3⟩, hs1, _⟩ := HW.out wu hw1.out
              replace hs1 := Lib.hid hs1
              go_wp2_with fail
              refine (kV.out _ hs1.out).mono ?_
              rintro e wv ⟨rfl, hwv⟩
              replace hw1 := Lib.hid (hw1.out.trans hwv)
              clear q0 q1 q2 q3 hs1 hwv
              simp only [Bool.not_false, Bool.and_self]
              go_wp2_with fail
              have G : Hid (∀ w', Stays wv w' → ((w'.cell? ⟨w.heap.size + 1 + 1, 0, none⟩ = some (.int .i16 (x + dx)) ∧ w'.cell? ⟨w.heap.size + 1 + 1, 1, none⟩ = some (.int .i16 (y + dy))) ∧ w'.cell? (ad.add i) = some (.int .u8 z) ∧ w'.cell? ⟨p, 2, none⟩ = some (.slice (some ad) xs.length c))) := Lib.hid fun w' h => by
                obtain ⟨⟨_, _, t0, t1⟩, h2, _⟩ := HW.out w' (hw1.out.trans h)
                exact ⟨⟨t0, t1⟩, hZ.out _ h2⟩
              have h5 := Lib.hid (show Stays wv wv.drew from (Stays.refl wv).drew)
              go_region_held (fun w' => ((w'.cell? ⟨w.heap.size + 1 + 1, 0, none⟩ = some (.int .i16 (x + dx)) ∧ w'.cell? ⟨w.heap.size + 1 + 1, 1, none⟩ = some (.int .i16 (y + dy))) ∧ w'.cell? (ad.add i) = some (.int .u8 z) ∧ w'.cell? ⟨p, 2, none⟩ = some (.slice (some ad) xs.length c))) (first | exact G.out _ h5.out | exact G.out _ h6.out | exact hS2.out)
                (first
                  | (go_at_call 48; refine (kI.out _ (HW.out _ (hw1.out.trans h5.out)).2.1).mono ?_; rintro e w3 ⟨rfl, hb⟩; have h6 := Lib.hid (h5.out.trans hb); obtain ⟨⟨⟨z0, z1⟩, f0, f1⟩, hS2, hfin, hsf⟩ := HF.out w3 (hw1.out.trans h6.out); replace hS2 := Lib.hid hS2; replace hfin := Lib.hid hfin; replace hsf := Lib.hid hsf; clear hb))
              all_goals
                go_wp2_with fail
                apply end_gd3 rfl rfl rfl Try.underlying32 rfl (t := 32)
                case hg => exact hfin.out
                case hi => kernel_rfl
                case hR => exact ⟨_, _, _, rfl, hsf.out⟩
end Go.Proofs.Yteidjmliepmlmaa

namespace Go.Proofs.Yteidjmliepmlmaa
open Go Go.RowKit
set_option linter.unusedVariables false
set_option linter.unusedSimpArgs false

theorem free_iff {a b : Int} {xs : List Int} {x y : Int} : freeB a b xs x y = true ↔ hasB a b x y = true ∧ wallB a xs x y = false := by
  unfold freeB
  rw [Bool.and_eq_true, Bool.not_eq_true']

/-- From a free spot, a step leads where the spots are neighbours and the step may be made. -/
theorem lead_move {a b : Int} {xs : List Int} {x y u v : Int} (hf : freeB a b xs x y = true) : leadB a b xs x y u v = (nbB x y u v && moveB a b xs x y (u - x) (v - y)) := by
  unfold leadB moveB
  rw [show x + (u - x) = u by omega, show y + (v - y) = v by omega]
  cases hn : nbB x y u v
  · rfl
  · cases hq : freeB a b xs u v
    · rfl
    · simp only [Bool.true_and]
      obtain ⟨h1, h1'⟩ := hasB_iff.1 (free_iff.1 hf).1
      obtain ⟨h2, h2'⟩ := hasB_iff.1 (free_iff.1 hq).1
      by_cases hx : u - x = 0
      · have e : u = x := by omega
        subst e
        rw [if_neg (fun h => h.1 hx), hq, hf]
        rfl
      · by_cases hy : v - y = 0
        · have e : v = y := by omega
          subst e
          rw [if_neg (fun h => h.2 hy), hf, hq]
          rfl
        · rw [if_pos ⟨hx, hy⟩]
          have e1 : freeB a b xs x v = !wallB a xs x v := by unfold freeB; rw [hasB_iff.2 ⟨h1, h2'⟩]; rfl
          have e2 : freeB a b xs u y = !wallB a xs u y := by unfold freeB; rw [hasB_iff.2 ⟨h2, h1'⟩]; rfl
          rw [e1, e2, Bool.and_comm]

theorem nb_iff {x y u v : Int} : nbB x y u v = true ↔ ¬ (u - x = 0 ∧ v - y = 0) ∧ ((-1 ≤ u - x ∧ u - x ≤ 1) ∧ (-1 ≤ v - y ∧ v - y ≤ 1)) := by
  unfold nbB
  rw [Bool.and_eq_true, Bool.and_eq_true, Bool.not_eq_true', decide_eq_true_iff, decide_eq_true_iff, Bool.and_eq_false_iff, decide_eq_false_iff_not, decide_eq_false_iff_not]
  constructor
  · rintro ⟨h1, h2⟩
    refine ⟨fun h => ?_, h2⟩
    rcases h1 with h1 | h1 <;> omega
  · rintro ⟨h1, h2⟩
    refine ⟨?_, h2⟩
    by_cases h : x = u
    · right; omega
    · left; exact h

def RouteAs (w : World) (ok : Bool) (e : Ending) (w' : World) : Prop := ∃ s : Int, e = .returned (.tuple #[.int .i64 s, .bool ok]) ∧ Stays w w'

theorem ret_sb {s : Int} {b c : Bool} (h : b = c) : Ending.returned (.tuple #[.int .i64 s, .bool b]) = .returned (.tuple #[.int .i64 s, .bool c]) := by rw [h]

theorem valid_route {a b : Int} {xs : List Int} {rs : List (List NV)} (hg : gridB a b xs.length = true) (hn : rs.length ≤ 600) : validR a b xs rs = routeB a b xs rs := by
  unfold validR
  rw [hg, decide_eq_true hn]
  rfl

set_option maxRecDepth 100000 in
set_option maxHeartbeats 4000000 in
theorem c_l07Route (p : Nat) (a b : Int) (A D : Option Addr) (c d : Nat) (xs : List Int) (rs : List (List NV)) (w : World) (hr : w.heap[p]? = some (.cells #[.int .i64 a, .int .i64 b, .slice A xs.length c] 28 (0, 0))) (h1 : Bs w w.heap.size A xs) (h2 : Ls KSpot 2 w w.heap.size D rs) (hS : InS rs) (hx : xs.length ≤ 1048576) (hn : rs.length ≤ 1048576) :
    Calls Try.prog 64 #[.pointer (some ⟨p, 0, none⟩), .slice D rs.length d] w (RouteAs w (validR a b xs rs)) := by
  have HG := grid_at hr
  have kO := c_l07Ok p a b A c xs.length w hr hx
  have kN := fun W => c_l00In (rs.length : Nat) 1 600 W
  cases hg : gridB a b xs.length with
  | false =>
    have r := Lib.hid (show validR a b xs rs = false from by unfold validR; rw [hg]; rfl)
    rw [hg] at kO
    replace kO := Lib.hid kO
    clear h1 h2 hS hg HG hr kN
    go_enter Try.func64, Try.ntmps64
    go_wp2_with fail
    refine kO.out.mono ?_
    rintro e w1 ⟨rfl, hw1⟩
    replace hw1 := Lib.hid hw1
    go_wp2
    go_ret2
    exact ⟨_, ret_sb r.out.symm, hw1.out⟩
  | true =>
    rw [hg] at kO
    replace kO := Lib.hid kO
    by_cases hl : 1 ≤ rs.length ∧ rs.length ≤ 600
    · have hv := valid_route (rs := rs) hg hl.2
      rw [hv]
      rw [show decide ((1 : Int) ≤ (rs.length : Nat) ∧ ((rs.length : Nat) : Int) ≤ 600) = true from decide_eq_true (by omega)] at kN
      replace kN := Lib.hid kN
      obtain ⟨ha, hb, hne⟩ := gridB_iff.1 hg
      obtain ⟨r0, rs', e⟩ : ∃ r0 rs', rs = r0 :: rs' := by
        cases rs with
        | nil => simp at hl
        | cons r0 rs' => exact ⟨_, _, rfl⟩
      have hr0 : rs[0]? = some r0 := by rw [e]; rfl
      have hh : headB a b xs rs = freeB a b xs (sx r0) (sy r0) := by rw [e]; rfl
      clear e
      obtain ⟨hx0, hy0⟩ := hS 0 r0 hr0
      obtain ⟨dd, rfl, hbl, hrow⟩ := h2 0 r0 hr0
      replace hrow : RowAt KSpot w (dd.add (0 * 2)) r0 := hrow
      obtain ⟨c0', c1', hK, g0, g1⟩ := row2 rfl hrow
      obtain ⟨rfl, rfl⟩ := sp_cells hK
      have ha0 : dd.add (0 * 2) = dd := rfl
      rw [ha0] at g0 g1
      have hC0 := Lib.hid fun W (h : Stays w W) => (show W.cell? dd = some (.int .i16 (sx r0)) ∧ W.cell? ⟨dd.block, dd.off + 1, none⟩ = some (.int .i16 (sy r0)) from ⟨(h.cell (p := dd) hbl).trans g0, (h.cell (p := ⟨dd.block, dd.off + 1, none⟩) hbl).trans g1⟩)
      have kSp := Lib.hid fun W (h : Stays w W) => c_l07Spot p a b (sx r0) (sy r0) A c xs.length W (HG.on h) ha hb hx0 hy0
      have kWa := Lib.hid fun (hh : hasB a b (sx r0) (sy r0) = true) W (h : Stays w W) => c_l07Wall p a b (sx r0) (sy r0) A c xs W (HG.on h) ((h1.below h).more h.size) hg hh
      have kMv := Lib.hid fun x y dx dy (hh : hasB a b x y = true) (h3 : -1 ≤ dx ∧ dx ≤ 1) (h4 : -1 ≤ dy ∧ dy ≤ 1) W (h : Stays w W) => c_l07Move p a b x y dx dy A c xs W (HG.on h) ((h1.below h).more h.size) hg hh h3 h4
      have H2 := Lib.hid fun W (h : Stays w W) => h2.below h
      replace hS := Lib.hid hS
      have hl1 : 0 < rs.length := by omega
      have hl2 : (0 : Int) < (rs.length : Nat) := by omega
      replace hr0 := Lib.hid hr0
      clear h1 h2 hg hv hr HG hrow hK g0 g1 hne ha hb hx0 hy0 ha0 hx
      cases hhas : hasB a b (sx r0) (sy r0) with
      | false =>
        have r := Lib.hid (show routeB a b xs rs = false from routeB_head (by rw [hh]; unfold freeB; rw [hhas]; rfl))
        have kSp' := fun W h => kSp.out W h
        simp only [hhas] at kSp'
        replace kSp' := Lib.hid kSp'
        clear kSp kWa kMv H2 hhas hh
        go_enter Try.func64, Try.ntmps64
        go_wp2_with fail
        refine kO.out.mono ?_
        rintro e w1 ⟨rfl, hw1⟩
        replace hw1 := Lib.hid (show Stays w w1 from hw1)
        go_wp2_with fail
        refine (kN.out _).mono ?_
        rintro e w1b ⟨rfl, rfl⟩
        obtain ⟨q0, q1⟩ := hC0.out w1 hw1.out
        go_wp2_with fail
        refine (kSp'.out _ hw1.out).mono ?_
        rintro e w2 ⟨rfl, hw2⟩
        replace hw2 := Lib.hid (hw1.out.trans hw2)
        clear q0 q1
        go_wp2
        go_ret2
        exact ⟨_, ret_sb r.out.symm, hw2.out⟩
      | true =>
        have kSp' := fun W h => kSp.out W h
        simp only [hhas] at kSp'
        replace kSp' := Lib.hid kSp'
        have kWa' := fun W h => kWa.out hhas W h
        cases hwl : wallB a xs (sx r0) (sy r0) with
        | true =>
          have r := Lib.hid (show routeB a b xs rs = false from routeB_head (by rw [hh]; unfold freeB; rw [hhas, hwl]; rfl))
          simp only [hwl] at kWa'
          replace kWa' := Lib.hid kWa'
          clear kSp kWa kMv H2 hhas hwl hh
          go_enter Try.func64, Try.ntmps64
          go_wp2_with fail
          refine kO.out.mono ?_
          rintro e w1 ⟨rfl, hw1⟩
          replace hw1 := Lib.hid (show Stays w w1 from hw1)
          go_wp2_with fail
          refine (kN.out _).mono ?_
          rintro e w1b ⟨rfl, rfl⟩
          obtain ⟨q0, q1⟩ := hC0.out w1 hw1.out
          go_wp2_with fail
          refine (kSp'.out _ hw1.out).mono ?_
          rintro e w2 ⟨rfl, hw2⟩
          replace hw2 := Lib.hid (hw1.out.trans hw2)
          clear q0 q1
          obtain ⟨q0, q1⟩ := hC0.out w2 hw2.out
          go_wp2_with fail
          refine (kWa'.out _ hw2.out).mono ?_
          rintro e w3 ⟨rfl, hw3⟩
          replace hw3 := Lib.hid (hw2.out.trans hw3)
          go_wp2
          go_ret2
          exact ⟨_, ret_sb r.out.symm, hw3.out⟩
        | false =>
          have hfr : Hid (freeB a b xs (sx r0) (sy r0) = true) := Lib.hid (free_iff.2 ⟨hhas, hwl⟩)
          simp only [hwl] at kWa'
          replace kWa' := Lib.hid kWa'
          rw [hfr.out] at hh
          replace hh := Lib.hid hh
          clear kSp kWa hhas hwl
          go_enter Try.func64, Try.ntmps64
          go_wp2_with fail
          refine kO.out.mono ?_
          rintro e w1 ⟨rfl, hw1⟩
          replace hw1 := Lib.hid (show Stays w w1 from hw1)
          go_wp2_with fail
          refine (kN.out _).mono ?_
          rintro e w1b ⟨rfl, rfl⟩
          obtain ⟨q0, q1⟩ := hC0.out w1 hw1.out
          go_wp2_with fail
          refine (kSp'.out _ hw1.out).mono ?_
          rintro e w2 ⟨rfl, hw2⟩
          replace hw2 := Lib.hid (hw1.out.trans hw2)
          clear q0 q1
          obtain ⟨q0, q1⟩ := hC0.out w2 hw2.out
          go_wp2_with fail
          refine (kWa'.out _ hw2.out).mono ?_
          rintro e w3 ⟨rfl, hw3⟩
          replace hw3 := Lib.hid (hw2.out.trans hw3)
          clear q0 q1 kO kN kSp' kWa' hC0
          go_wp2
          go_loopw [7, 8] (fun sv iv wr => ∃ (i : Nat) (s : Int), 1 ≤ i ∧ i ≤ rs.length ∧ iv = .int .i64 (i : Nat) ∧ sv = .int .i64 s ∧ Hid (∀ j, j + 1 < i → stepB a b xs rs j) ∧ Hid (∀ r, rs[i - 1]? = some r → freeB a b xs (sx r) (sy r) = true) ∧ Hid (Stays w wr)) (fun _ iv _ => rs.length - (intOf iv).toNat)
          case atStart =>
            refine ⟨1, 0, Nat.le_refl _, hl.1, rfl, rfl, Lib.hid fun j hj => by omega, Lib.hid fun r hr => ?_, hw3⟩
            have e := hr0.out.symm.trans hr
            cases e
            exact hfr.out
          case round =>
            obtain ⟨i, s, hi1, hin, rfl, rfl, hst0, hfr0, hb0⟩ := hrel
            by_cases hlt : i < rs.length
            · have hlt' : (i : Int) < (rs.length : Nat) := by omega
              obtain ⟨k, hk⟩ : ∃ k, i = k + 1 := ⟨i - 1, by omega⟩
              have hkl : k < rs.length := by omega
              have hkl' : (k : Int) < (rs.length : Nat) := by omega
              have e0 : IntKind.i64.wrap ((i : Int) - 1) = (k : Int) := by rw [IntWalk.i64_in _ (by omega)]; omega
              have e9 : IntKind.i64.wrap ((i : Int) + 1) = (i : Int) + 1 := IntWalk.i64_in _ (by omega)
              obtain ⟨ad, e1, hbl1, hrow1⟩ := (H2.out wr hb0.out) i rs[i] (List.getElem?_eq_getElem hlt)
              cases e1
              obtain ⟨ad, e1, hbl2, hrow2⟩ := (H2.out wr hb0.out) k rs[k] (List.getElem?_eq_getElem hkl)
              cases e1
              obtain ⟨hIu, hIv⟩ := hS.out i rs[i] (List.getElem?_eq_getElem hlt)
              obtain ⟨hIx, hIy⟩ := hS.out k rs[k] (List.getElem?_eq_getElem hkl)
              have hfp : freeB a b xs (sx rs[k]) (sy rs[k]) = true := hfr0.out _ (by rw [show i - 1 = k by omega]; exact List.getElem?_eq_getElem hkl)
              have hstep := stepB_at (a := a) (b := b) (xs := xs) (List.getElem?_eq_getElem hkl) (show rs[k + 1]? = some rs[i] from by rw [← hk]; exact List.getElem?_eq_getElem hlt)
              have hqq := Lib.hid (show rs[i]? = some rs[i] from List.getElem?_eq_getElem hlt)
              rw [lead_move hfp, Bool.and_eq_true, nb_iff] at hstep
              generalize hqe : rs[i] = q at hrow1 hIu hIv hstep hqq
              generalize hpe : rs[k] = p0 at hrow2 hIx hIy hfp hstep
              clear hqe hpe
              replace hrow1 : RowAt KSpot wr (dd.add (i * 2)) q := hrow1
              replace hrow2 : RowAt KSpot wr (dd.add (k * 2)) p0 := hrow2
              obtain ⟨c0', c1', hK1, g0, g1⟩ := row2 rfl hrow1
              obtain ⟨rfl, rfl⟩ := sp_cells hK1
              obtain ⟨c2', c3', hK2, g2, g3⟩ := row2 rfl hrow2
              obtain ⟨rfl, rfl⟩ := sp_cells hK2
              have hfq : Hid (freeB a b xs (sx q) (sy q) = true → ∀ r, rs[i + 1 - 1]? = some r → freeB a b xs (sx r) (sy r) = true) := Lib.hid fun h r hr => by
                rw [Nat.add_sub_cancel, hqq.out] at hr
                cases hr
                exact h
              generalize sx q = u at *
              generalize sy q = v at *
              generalize sx p0 = x at *
              generalize sy p0 = y at *
              have eu := in16 hIu
              have ev := in16 hIv
              have ex := in16 hIx
              have ey := in16 hIy
              obtain ⟨dx, hdx⟩ : ∃ dx, u - x = dx := ⟨_, rfl⟩
              obtain ⟨dy, hdy⟩ : ∃ dy, v - y = dy := ⟨_, rfl⟩
              unfold In16 at hIu hIv hIx hIy
              have edx : IntKind.i64.wrap (u - x) = dx := by rw [← hdx]; exact IntWalk.i64_in _ (by omega)
              have edy : IntKind.i64.wrap (v - y) = dy := by rw [← hdy]; exact IntWalk.i64_in _ (by omega)
              rw [hdx, hdy] at hstep
              have hmf : Hid (moveB a b xs x y dx dy = true → freeB a b xs u v = true) := Lib.hid fun h => by
                unfold moveB at h
                rw [Bool.and_eq_true, show x + dx = u by omega, show y + dy = v by omega] at h
                exact h.1
              have hbk1 : (dd.add (i * 2)).block < wr.heap.size := by rw [block_add]; have := hb0.out.size; omega
              have hbk2 : (dd.add (k * 2)).block < wr.heap.size := by rw [block_add]; have := hb0.out.size; omega
              have hrows := Lib.hid fun W (hW : Stays wr W) => (show ((W.cell? (dd.add (i * 2)) = some (.int .i16 u) ∧ W.cell? ⟨(dd.add (i * 2)).block, (dd.add (i * 2)).off + 1, none⟩ = some (.int .i16 v)) ∧ W.cell? (dd.add (k * 2)) = some (.int .i16 x) ∧ W.cell? ⟨(dd.add (k * 2)).block, (dd.add (k * 2)).off + 1, none⟩ = some (.int .i16 y)) from ⟨⟨(hW.cell (p := dd.add (i * 2)) hbk1).trans g0, (hW.cell (p := ⟨(dd.add (i * 2)).block, (dd.add (i * 2)).off + 1, none⟩) hbk1).trans g1⟩, (hW.cell (p := dd.add (k * 2)) hbk2).trans g2, (hW.cell (p := ⟨(dd.add (k * 2)).block, (dd.add (k * 2)).off + 1, none⟩) hbk2).trans g3⟩)
              have hxy := (free_iff.1 hfp).1
              replace hk := Lib.hid hk
              replace hstep := Lib.hid hstep
              have hIK := Lib.hid (And.intro hIu (And.intro hIv (And.intro hIx hIy)))
              replace hxy := Lib.hid hxy
              have kX := fun W => c_l00In dx (-1) 1 W
              have kY := fun W => c_l00In dy (-1) 1 W
              clear hdx hdy g0 g1 g2 g3 hrow1 hrow2 hK1 hK2 hbk1 hbk2 hbl1 hbl2 hIu hIv hIx hIy hfp hfr0 hqq
              have hcells : ∀ W, Stays wr W → ((W.cell? (dd.add (i * 2)) = some (.int .i16 u) ∧ W.cell? ⟨(dd.add (i * 2)).block, (dd.add (i * 2)).off + 1, none⟩ = some (.int .i16 v)) ∧ W.cell? (dd.add (k * 2)) = some (.int .i16 x) ∧ W.cell? ⟨(dd.add (k * 2)).block, (dd.add (k * 2)).off + 1, none⟩ = some (.int .i16 y)) := fun W hW => hrows.out W hW
              go_wp2_with fail
              refine wp_region_soft_tail 14 (Stays.refl _) (fun _ _ _ => False) [] (by kernel_rfl) (by kernel_rfl) (fun _ h => by cases h) ?_
              simp only [List.take_succ_cons, List.take_zero, List.drop_succ_cons, List.drop_zero]
              repeat ((with_reducible apply soft_detG); (case hwa => rfl); (case hA => rfl); (case h => (intro w1 hw1; have hc := hcells w1 hw1; go_simp; exact rfl)); go_simp)
              refine soft_nil ?_
              rintro w4 ⟨hw4, _⟩
              replace hw4 := Lib.hid hw4
              clear hcells
              have hcells : ∀ W, Stays w4 W → ((W.cell? (dd.add (i * 2)) = some (.int .i16 u) ∧ W.cell? ⟨(dd.add (i * 2)).block, (dd.add (i * 2)).off + 1, none⟩ = some (.int .i16 v)) ∧ W.cell? (dd.add (k * 2)) = some (.int .i16 x) ∧ W.cell? ⟨(dd.add (k * 2)).block, (dd.add (k * 2)).off + 1, none⟩ = some (.int .i16 y)) := fun W hW => hrows.out W (hw4.out.trans hW)
              go_wp2_with fail
              refine wp_region_soft_tail 14 (Stays.refl _) (fun _ _ _ => False) [] (by kernel_rfl) (by kernel_rfl) (fun _ h => by cases h) ?_
              simp only [List.take_succ_cons, List.take_zero, List.drop_succ_cons, List.drop_zero]
              repeat ((with_reducible apply soft_detG); (case hwa => rfl); (case hA => rfl); (case h => (intro w1 hw1; have hc := hcells w1 hw1; go_simp; exact rfl)); go_simp)
              refine soft_nil ?_
              rintro w5 ⟨hw5, _⟩
              have hb5 := Lib.hid (hb0.out.trans (hw4.out.trans hw5))
              have hrow5 := Lib.hid fun W (hW : Stays w5 W) => hrows.out W (hw4.out.trans (hw5.trans hW))
              clear hcells hw4 hw5 eu ev ex ey edx edy hb0 hrows
              by_cases hz : dx = 0 ∧ dy = 0
              · have r : ¬ stepB a b xs rs k := fun h => (hstep.out.1 h).1.1 hz
                obtain ⟨rfl, rfl⟩ := hz
                replace r := Lib.hid (routeB_bad r)
                go_wp2
                go_ret2
                exact ⟨_, ret_sb r.out.symm, hb5.out⟩
              · have hcase : (dx = 0 ∧ ¬ dy = 0) ∨ ¬ dx = 0 := by omega
                have hz' := Lib.hid hz
                clear hz
                by_cases hX : -1 ≤ dx ∧ dx ≤ 1
                · rw [show decide (-1 ≤ dx ∧ dx ≤ 1) = true from decide_eq_true hX] at kX
                  by_cases hY : -1 ≤ dy ∧ dy ≤ 1
                  · rw [show decide (-1 ≤ dy ∧ dy ≤ 1) = true from decide_eq_true hY] at kY
                    have kM := kMv.out x y dx dy hxy.out hX hY
                    replace kX := Lib.hid kX
                    replace kY := Lib.hid kY
                    cases hm : moveB a b xs x y dx dy with
                    | false =>
                      rw [hm] at kM
                      have r : ¬ stepB a b xs rs k := fun h => by
                        have h2 := (hstep.out.1 h).2
                        rw [hm] at h2
                        cases h2
                      replace kM := Lib.hid kM
                      replace r := Lib.hid (routeB_bad r)
                      clear hm hX hY
                      rcases hcase with ⟨hc1, hc2⟩ | hc1
                      all_goals
                        first
                          | (have b1 : (dx == 0) = true := by simp [hc1])
                          | (have b1 : (dx == 0) = false := by simp [hc1])
                        try (have b2 : (dy == 0) = false := by simp [hc2])
                        try (replace hc2 := Lib.hid hc2)
                        replace hc1 := Lib.hid hc1
                        go_wp2_with fail
                        refine (kX.out _).mono ?_
                        rintro e wx ⟨rfl, rfl⟩
                        go_wp2_with fail
                        refine (kY.out _).mono ?_
                        rintro e wy ⟨rfl, rfl⟩
                        obtain ⟨_, t2, t3⟩ := hrow5.out w5 (Stays.refl _)
                        go_wp2_with fail
                        refine (kM.out _ hb5.out).mono ?_
                        rintro e w6 ⟨s1, t1, cost, rfl, hw6⟩
                        replace hw6 := Lib.hid ((hb5.out.trans hw6).trans (show Stays w6 (w6.alloc (.cells #[.int .i16 s1, .int .i16 t1] 32)) from by (repeat (first | exact Stays.refl _ | (with_reducible refine Stays.drewN ?_ _) | (with_reducible refine Stays.alloc ?_ _) | (with_reducible refine Stays.drew ?_) | (refine Stays.trans ?_ ‹Stays _ _›)))))
                        clear t2 t3
                        go_wp2
                        go_ret2
                        exact ⟨_, ret_sb r.out.symm, hw6.out⟩
                    | true =>
                      rw [hm] at kM
                      have hst1 : Hid (∀ j, j + 1 < i + 1 → stepB a b xs rs j) := Lib.hid fun j hj => by
                        by_cases e : j = k
                        · rw [e]; exact hstep.out.2 ⟨⟨hz'.out, hX, hY⟩, hm⟩
                        · exact hst0.out j (by have := hk.out; omega)
                      have hfr1 := Lib.hid (hfq.out (hmf.out hm))
                      replace kM := Lib.hid kM
                      clear hm hX hY
                      rcases hcase with ⟨hc1, hc2⟩ | hc1
                      all_goals
                        first
                          | (have b1 : (dx == 0) = true := by simp [hc1])
                          | (have b1 : (dx == 0) = false := by simp [hc1])
                        try (have b2 : (dy == 0) = false := by simp [hc2])
                        try (replace hc2 := Lib.hid hc2)
                        replace hc1 := Lib.hid hc1
                        go_wp2_with fail
                        refine (kX.out _).mono ?_
                        rintro e wx ⟨rfl, rfl⟩
                        go_wp2_with fail
                        refine (kY.out _).mono ?_
                        rintro e wy ⟨rfl, rfl⟩
                        obtain ⟨_, t2, t3⟩ := hrow5.out w5 (Stays.refl _)
                        go_wp2_with fail
                        refine (kM.out _ hb5.out).mono ?_
                        rintro e w6 ⟨s1, t1, cost, rfl, hw6⟩
                        replace hw6 := Lib.hid ((hb5.out.trans hw6).trans (show Stays w6 (w6.alloc (.cells #[.int .i16 s1, .int .i16 t1] 32)) from by (repeat (first | exact Stays.refl _ | (with_reducible refine Stays.drewN ?_ _) | (with_reducible refine Stays.alloc ?_ _) | (with_reducible refine Stays.drew ?_) | (refine Stays.trans ?_ ‹Stays _ _›)))))
                        clear t2 t3
                        go_wp2
                        go_round
                        case rel => exact ⟨i + 1, _, by omega, by omega, by go_num, rfl, hst1, hfr1, hw6⟩
                        case measure => simp [intOf]; omega
                  · rw [show decide (-1 ≤ dy ∧ dy ≤ 1) = false from decide_eq_false hY] at kY
                    have r : ¬ stepB a b xs rs k := fun h => hY (hstep.out.1 h).1.2.2
                    replace r := Lib.hid (routeB_bad r)
                    replace kX := Lib.hid kX
                    replace kY := Lib.hid kY
                    clear hX hY
                    rcases hcase with ⟨hc1, hc2⟩ | hc1
                    all_goals
                      first
                        | (have b1 : (dx == 0) = true := by simp [hc1])
                        | (have b1 : (dx == 0) = false := by simp [hc1])
                      try (have b2 : (dy == 0) = false := by simp [hc2])
                      try (replace hc2 := Lib.hid hc2)
                      replace hc1 := Lib.hid hc1
                      go_wp2_with fail
                      refine (kX.out _).mono ?_
                      rintro e wx ⟨rfl, rfl⟩
                      go_wp2_with fail
                      refine (kY.out _).mono ?_
                      rintro e wy ⟨rfl, rfl⟩
                      go_wp2
                      go_ret2
                      exact ⟨_, ret_sb r.out.symm, hb5.out⟩
                · rw [show decide (-1 ≤ dx ∧ dx ≤ 1) = false from decide_eq_false hX] at kX
                  have r : ¬ stepB a b xs rs k := fun h => hX (hstep.out.1 h).1.2.1
                  replace r := Lib.hid (routeB_bad r)
                  replace kX := Lib.hid kX
                  clear hX kY
                  rcases hcase with ⟨hc1, hc2⟩ | hc1
                  all_goals
                    first
                      | (have b1 : (dx == 0) = true := by simp [hc1])
                      | (have b1 : (dx == 0) = false := by simp [hc1])
                    try (have b2 : (dy == 0) = false := by simp [hc2])
                    try (replace hc2 := Lib.hid hc2)
                    replace hc1 := Lib.hid hc1
                    go_wp2_with fail
                    refine (kX.out _).mono ?_
                    rintro e wx ⟨rfl, rfl⟩
                    go_wp2
                    go_ret2
                    exact ⟨_, ret_sb r.out.symm, hb5.out⟩
            · obtain rfl : i = rs.length := by omega
              have r := Lib.hid (routeB_end (k := rs.length - 1) hh.out (by omega) fun j hj => hst0.out j (by omega))
              go_wp2
              go_ret2
              exact ⟨s, ret_sb r.out.symm, hb0.out⟩
    · have r := Lib.hid (show validR a b xs rs = false from by
        unfold validR
        by_cases h6 : rs.length ≤ 600
        · have e0 : rs = [] := List.eq_nil_of_length_eq_zero (by omega)
          subst e0
          rw [routeB_head rfl, Bool.and_false]
        · rw [decide_eq_false h6, Bool.and_false, Bool.false_and])
      rw [show decide ((1 : Int) ≤ (rs.length : Nat) ∧ ((rs.length : Nat) : Int) ≤ 600) = false from decide_eq_false (by omega)] at kN
      replace kN := Lib.hid kN
      clear h1 h2 hS hg HG hr hl
      go_enter Try.func64, Try.ntmps64
      go_wp2_with fail
      refine kO.out.mono ?_
      rintro e w1 ⟨rfl, hw1⟩
      replace hw1 := Lib.hid hw1
      go_wp2_with fail
      refine (kN.out _).mono ?_
      rintro e w1b ⟨rfl, rfl⟩
      go_wp2
      go_ret2
      exact ⟨_, ret_sb r.out.symm, hw1.out⟩
end Go.Proofs.Yteidjmliepmlmaa

namespace Go.Proofs.Yteidjmliepmlmaa
open Go Go.RowKit
set_option linter.unusedVariables false
set_option linter.unusedSimpArgs false

def lastK (S : Nat → Bool) (lo : Nat) : Nat → Nat
  | 0 => lo
  | k + 1 => if lo < k + 1 ∧ S (k + 1) = true then k + 1 else lastK S lo k

theorem lastK_low {S : Nat → Bool} {lo k : Nat} (h : k ≤ lo) : lastK S lo k = lo := by
  induction k with
  | zero => rfl
  | succ k ih => rw [lastK, if_neg (fun g => by omega), ih (by omega)]
theorem lastK_yes {S : Nat → Bool} {lo k : Nat} (h : lo < k) (hs : S k = true) : lastK S lo k = k := by
  cases k with
  | zero => omega
  | succ k => rw [lastK, if_pos ⟨h, hs⟩]
theorem lastK_no {S : Nat → Bool} {lo k : Nat} (h : 0 < k) (hs : S k = false) : lastK S lo k = lastK S lo (k - 1) := by
  cases k with
  | zero => omega
  | succ k => rw [lastK, if_neg (fun g => by rw [hs] at g; cases g.2)]; rfl
theorem lastK_bd {S : Nat → Bool} {lo k : Nat} : lo ≤ lastK S lo k ∧ (lo ≤ k → lastK S lo k ≤ k) := by
  induction k with
  | zero => exact ⟨Nat.le_refl _, fun h => by rw [lastK]; omega⟩
  | succ k ih =>
    rw [lastK]
    split
    · rename_i h
      exact ⟨by omega, fun _ => Nat.le_refl _⟩
    · rename_i h
      refine ⟨ih.1, fun h2 => ?_⟩
      by_cases e : lo = k + 1
      · rw [lastK_low (by omega)]; omega
      · have := ih.2 (by omega); omega

def rX (rs : List (List NV)) (i : Nat) : Int := sx (rs.getD i [])
def rY (rs : List (List NV)) (i : Nat) : Int := sy (rs.getD i [])
noncomputable def seeR (a b : Int) (xs : List Int) (rs : List (List NV)) (i k : Nat) : Bool := routeB a b xs (line (rX rs i) (rY rs i) (rX rs k) (rY rs k))
noncomputable def nxt (a b : Int) (xs : List Int) (rs : List (List NV)) (i : Nat) : Nat := lastK (seeR a b xs rs i) (i + 1) (rs.length - 1)
noncomputable def shR (a b : Int) (xs : List Int) (rs : List (List NV)) : Nat → Nat → List (List NV) → List (List NV)
  | 0, _, out => out
  | f + 1, i, out => if i < rs.length - 1 then shR a b xs rs f (nxt a b xs rs i) (out ++ [rs.getD (nxt a b xs rs i) []]) else out
noncomputable def shX (a b : Int) (xs : List Int) (rs : List (List NV)) : List (List NV) := if validR a b xs rs then shR a b xs rs rs.length 0 [rs.getD 0 []] else []
noncomputable def shC (a b : Int) (xs : List Int) (rs : List (List NV)) : Int := if validR a b xs rs then 0 else 1

theorem getD_at {rs : List (List NV)} {i : Nat} (h : i < rs.length) : rs.getD i [] = rs[i] := by simp [List.getD, h]
theorem nxt_bd {a b : Int} {xs : List Int} {rs : List (List NV)} {i : Nat} (h : i < rs.length - 1) : i < nxt a b xs rs i ∧ nxt a b xs rs i < rs.length := by
  have := lastK_bd (S := seeR a b xs rs i) (lo := i + 1) (k := rs.length - 1)
  unfold nxt
  have h2 := this.2 (by omega)
  omega
theorem shR_go {a b : Int} {xs : List Int} {rs : List (List NV)} {f i : Nat} {out : List (List NV)} (h : i < rs.length - 1) (hf : rs.length ≤ f + i) : ∃ f', f = f' + 1 ∧ shR a b xs rs f i out = shR a b xs rs f' (nxt a b xs rs i) (out ++ [rs.getD (nxt a b xs rs i) []]) ∧ rs.length ≤ f' + nxt a b xs rs i := by
  obtain ⟨f', rfl⟩ : ∃ f', f = f' + 1 := ⟨f - 1, by omega⟩
  have := nxt_bd (a := a) (b := b) (xs := xs) h
  exact ⟨f', rfl, by rw [shR, if_pos h], by omega⟩
theorem shR_end {a b : Int} {xs : List Int} {rs : List (List NV)} {f i : Nat} {out : List (List NV)} (h : ¬ i < rs.length - 1) : shR a b xs rs f i out = out := by
  cases f with
  | zero => rfl
  | succ f => rw [shR, if_neg h]
theorem shR_len {a b : Int} {xs : List Int} {rs : List (List NV)} : ∀ {f i : Nat} {out : List (List NV)}, (shR a b xs rs f i out).length ≤ f + out.length
  | 0, i, out => by rw [shR]; omega
  | f + 1, i, out => by
    rw [shR]
    split
    · have := shR_len (a := a) (b := b) (xs := xs) (rs := rs) (f := f) (i := nxt a b xs rs i) (out := out ++ [rs.getD (nxt a b xs rs i) []])
      rw [List.length_append, List.length_cons, List.length_nil] at this
      omega
    · omega

theorem route_has {a b : Int} {xs : List Int} {rs : List (List NV)} (h : routeB a b xs rs = true) : ∀ i, i < rs.length → hasB a b (rX rs i) (rY rs i) = true := by
  unfold routeB at h
  rw [Bool.and_eq_true] at h
  have hs : ∀ k, stepB a b xs rs k := @of_decide_eq_true _ (Classical.propDecidable _) h.2
  intro i hi
  unfold rX rY
  cases i with
  | zero =>
    cases rs with
    | nil => simp at hi
    | cons r rs' =>
      have hh : freeB a b xs (sx r) (sy r) = true := h.1
      exact (free_iff.1 hh).1
  | succ i =>
    have e := hs i rs[i] rs[i + 1] (List.getElem?_eq_getElem (by omega)) (List.getElem?_eq_getElem hi)
    rw [getD_at hi]
    unfold leadB at e
    rw [Bool.and_eq_true, Bool.and_eq_true] at e
    exact (free_iff.1 e.1.2).1
theorem valid_iff {a b : Int} {xs : List Int} {rs : List (List NV)} (h : validR a b xs rs = true) : gridB a b xs.length = true ∧ rs.length ≤ 600 ∧ routeB a b xs rs = true ∧ 0 < rs.length := by
  unfold validR at h
  rw [Bool.and_eq_true, Bool.and_eq_true, decide_eq_true_iff] at h
  refine ⟨h.1.1, h.1.2, h.2, ?_⟩
  cases rs with
  | nil => exact absurd h.2 (by rw [routeB_head rfl]; decide)
  | cons r rs => simp

/-- The two cells of a spot of a list. -/
theorem rcells {w : World} {B : Nat} {ad : Addr} {rs : List (List NV)} (h : Ls KSpot 2 w B (some ad) rs) {i : Nat} (hi : i < rs.length) : (ad.add (i * 2)).block < B ∧ w.cell? (ad.add (i * 2)) = some (.int .i16 (rX rs i)) ∧ w.cell? ⟨(ad.add (i * 2)).block, (ad.add (i * 2)).off + 1, none⟩ = some (.int .i16 (rY rs i)) := by
  obtain ⟨ad', e, hb, hrow⟩ := h i rs[i] (List.getElem?_eq_getElem hi)
  cases e
  replace hrow : RowAt KSpot w (ad.add (i * 2)) rs[i] := hrow
  obtain ⟨c0, c1, hK, g0, g1⟩ := row2 rfl hrow
  obtain ⟨rfl, rfl⟩ := sp_cells hK
  unfold rX rY
  rw [getD_at hi]
  exact ⟨by rw [block_add]; exact hb, g0, g1⟩

set_option maxRecDepth 100000 in
set_option maxHeartbeats 4000000 in
theorem c_lastSeen (a b : Int) (ad : Addr) (A : Option Addr) (c d i : Nat) (xs : List Int) (rs : List (List NV)) (w : World) (h1 : Bs w w.heap.size A xs) (hc : xs.length ≤ c) (hg : gridB a b xs.length = true) (h2 : Ls KSpot 2 w w.heap.size (some ad) rs) (hn : rs.length ≤ 600) (hh : ∀ i, i < rs.length → hasB a b (rX rs i) (rY rs i) = true) (hi : i < rs.length - 1) :
    Calls Try.prog 72 #[.agg #[.int .i64 a, .int .i64 b, .slice A xs.length c], .slice (some ad) rs.length d, .int .i64 (i : Nat)] w fun e w' => e = .returned (.int .i64 (nxt a b xs rs i : Nat)) ∧ Stays w w' := by
  have u0 := heap_alloc_new w (.cells #[.int .i64 a, .int .i64 b, .slice A xs.length c] 28)
  have hst : Stays w (w.alloc (.cells #[.int .i64 a, .int .i64 b, .slice A xs.length c] 28)) := by (repeat (first | exact Stays.refl _ | (with_reducible refine Stays.drewN ?_ _) | (with_reducible refine Stays.alloc ?_ _) | (with_reducible refine Stays.drew ?_) | (refine Stays.trans ?_ ‹Stays _ _›)))
  have HC := Lib.hid fun W (h : Stays (w.alloc (.cells #[.int .i64 a, .int .i64 b, .slice A xs.length c] 28)) W) => (show W.cell? ⟨w.heap.size, 0, none⟩ = some (.int .i64 a) ∧ W.cell? ⟨w.heap.size, 1, none⟩ = some (.int .i64 b) ∧ W.cell? ⟨w.heap.size, 2, none⟩ = some (.slice A xs.length c) from ⟨row_of h u0 0, row_of h u0 1, row_of h u0 2⟩)
  have HR := Lib.hid fun W (h : Stays w W) j (hj : j < rs.length) => (show W.cell? (ad.add (j * 2)) = some (.int .i16 (rX rs j)) ∧ W.cell? ⟨(ad.add (j * 2)).block, (ad.add (j * 2)).off + 1, none⟩ = some (.int .i16 (rY rs j)) from by
    obtain ⟨hb, g0, g1⟩ := rcells h2 hj
    exact ⟨(h.cell (p := ad.add (j * 2)) hb).trans g0, (h.cell (p := ⟨(ad.add (j * 2)).block, (ad.add (j * 2)).off + 1, none⟩) hb).trans g1⟩)
  have kS := Lib.hid fun k (hk : k < rs.length) W (h : Stays w W) => c_sees a b (rX rs i) (rY rs i) (rX rs k) (rY rs k) A c xs W ((h1.below h).more h.size) hc hg (hh i (by omega)) (hh k hk)
  have hS := Lib.hid fun k => show seeR a b xs rs i k = routeB a b xs (line (rX rs i) (rY rs i) (rX rs k) (rY rs k)) from rfl
  have hnx : nxt a b xs rs i = lastK (seeR a b xs rs i) (i + 1) (rs.length - 1) := rfl
  rw [hnx]
  have hil : i < rs.length := by omega
  have hil' : (i : Int) < (rs.length : Nat) := by omega
  have e1 : IntKind.i64.wrap ((rs.length : Nat) - 1 : Int) = ((rs.length - 1 : Nat) : Int) := by rw [IntWalk.i64_in _ (by omega)]; omega
  have e2 : IntKind.i64.wrap ((i : Int) + 1) = (i : Int) + 1 := IntWalk.i64_in _ (by omega)
  replace hst := Lib.hid hst
  clear u0 h1 h2 hc hg hh hnx
  generalize seeR a b xs rs i = S at hS ⊢
  generalize hN : rs.length - 1 = N at hi e1 ⊢
  replace hN := Lib.hid hN
  go_enter Try.func72, Try.ntmps72
  go_wp2
  go_loopw [7] (fun kv wr => ∃ k : Nat, i + 1 ≤ k ∧ k ≤ N ∧ kv = .int .i64 (k : Nat) ∧ Hid (lastK S (i + 1) N = lastK S (i + 1) k) ∧ Hid (Stays (w.alloc (.cells #[.int .i64 a, .int .i64 b, .slice A xs.length c] 28)) wr)) (fun kv _ => (intOf kv).toNat)
  case atStart => exact ⟨N, by omega, Nat.le_refl _, rfl, Lib.hid rfl, Lib.hid (Stays.refl _)⟩
  case round =>
    obtain ⟨k, hik, hkN, rfl, hlk, hb⟩ := hrel
    by_cases hlt : i + 1 < k
    · have hlt1 : (i : Int) + 1 < (k : Int) := by omega
      have hkl : k < rs.length := by have := hN.out; omega
      have hkl' : (k : Int) < (rs.length : Nat) := by omega
      have e3 : IntKind.i64.wrap ((k : Int) - 1) = ((k - 1 : Nat) : Int) := by rw [IntWalk.i64_in _ (by omega)]; omega
      have kSk := fun W h => kS.out k hkl W h
      have hSk := hS.out k
      have hcells : ∀ W, Stays wr W → (W.cell? ⟨w.heap.size, 0, none⟩ = some (.int .i64 a) ∧ W.cell? ⟨w.heap.size, 1, none⟩ = some (.int .i64 b) ∧ W.cell? ⟨w.heap.size, 2, none⟩ = some (.slice A xs.length c)) ∧ (W.cell? (ad.add (i * 2)) = some (.int .i16 (rX rs i)) ∧ W.cell? ⟨(ad.add (i * 2)).block, (ad.add (i * 2)).off + 1, none⟩ = some (.int .i16 (rY rs i))) ∧ W.cell? (ad.add (k * 2)) = some (.int .i16 (rX rs k)) ∧ W.cell? ⟨(ad.add (k * 2)).block, (ad.add (k * 2)).off + 1, none⟩ = some (.int .i16 (rY rs k)) := fun W h => ⟨HC.out W (hb.out.trans h), HR.out W (hst.out.trans (hb.out.trans h)) i hil, HR.out W (hst.out.trans (hb.out.trans h)) k hkl⟩
      generalize rX rs i = x0 at *
      generalize rY rs i = y0 at *
      generalize rX rs k = x1 at *
      generalize rY rs k = y1 at *
      generalize routeB a b xs (line x0 y0 x1 y1) = q at kSk hSk
      replace kSk := Lib.hid kSk
      replace hSk := Lib.hid hSk
      go_wp2_with fail
      refine wp_region_soft_tail 16 (Stays.refl _) (oneS 71 #[.agg #[.int .i64 a, .int .i64 b, .slice A xs.length c], .agg #[.int .i16 x0, .int .i16 y0], .agg #[.int .i16 x1, .int .i16 y1]] (fun v => v = .bool q)) [] (by kernel_rfl) (by kernel_rfl) (fun _ h => by cases h) ?_
      simp only [List.take_succ_cons, List.take_zero, List.drop_succ_cons, List.drop_zero]
      repeat ((with_reducible apply soft_detG); (case hwa => rfl); (case hA => rfl); (case h => (intro w1 hw1; have hc := hcells w1 hw1; go_simp; exact rfl)); go_simp)
      refine soft_callO (by rfl) rfl ?h (fun w2 h2 => (kSk.out w2 (hst.out.trans (hb.out.trans h2))).mono fun e w' ⟨h1, h2⟩ => ⟨_, h1, rfl, h2⟩) ?_
      case h => (intro w2 hw2; have hc := hcells w2 hw2; go_simp; try exact ⟨rfl, rfl⟩)
      rintro v rfl
      go_simp
      repeat ((with_reducible apply soft_detG); (case hwa => rfl); (case hA => rfl); (case h => (intro w1 hw1; have hc := hcells w1 hw1; go_simp; exact rfl)); go_simp)
      refine soft_nil ?_
      rintro w3 ⟨hw3, _⟩
      have hb3 := Lib.hid (hb.out.trans hw3)
      clear hcells hw3 hb
      cases q with
      | true =>
        have hr := Lib.hid (show lastK S (i + 1) N = k from by rw [hlk.out]; exact lastK_yes hlt hSk.out)
        go_wp2
        go_ret
        exact ⟨by rw [hr.out]; rfl, hst.out.trans hb3.out⟩
      | false =>
        have hr := Lib.hid (show lastK S (i + 1) N = lastK S (i + 1) (k - 1) from by rw [hlk.out]; exact lastK_no (by omega) hSk.out)
        go_wp2
        go_round
        case rel => exact ⟨k - 1, by omega, by omega, rfl, hr, hb3⟩
        case measure => simp [intOf]; omega
    · obtain rfl : k = i + 1 := by omega
      have hr := Lib.hid (show lastK S (i + 1) N = i + 1 from by rw [hlk.out]; exact lastK_low (Nat.le_refl _))
      have hlt1 : ¬ ((i : Int) + 1 < (i : Int) + 1) := by omega
      have hcells : ∀ W, Stays wr W → (W.cell? ⟨w.heap.size, 0, none⟩ = some (.int .i64 a) ∧ W.cell? ⟨w.heap.size, 1, none⟩ = some (.int .i64 b) ∧ W.cell? ⟨w.heap.size, 2, none⟩ = some (.slice A xs.length c)) := fun W h => HC.out W (hb.out.trans h)
      go_wp2_with fail
      refine wp_region_soft_tail 16 (Stays.refl _) (fun _ _ _ => False) [] (by kernel_rfl) (by kernel_rfl) (fun _ h => by cases h) ?_
      simp only [List.take_succ_cons, List.take_zero, List.drop_succ_cons, List.drop_zero]
      repeat (first | ((with_reducible apply soft_detG); (case hwa => rfl); (case hA => rfl); (case h => (intro w1 hw1; have hc := hcells w1 hw1; go_simp; exact rfl)); go_simp) | ((with_reducible apply soft_skipG); (case hwa => rfl); (case hA => rfl); go_simp))
      refine soft_nil ?_
      rintro w3 ⟨hw3, _⟩
      have hb3 := Lib.hid (hb.out.trans hw3)
      clear hcells hw3 hb
      go_wp2
      go_ret
      exact ⟨by rw [hr.out]; rfl, hst.out.trans hb3.out⟩
end Go.Proofs.Yteidjmliepmlmaa

namespace Go.Proofs.Yteidjmliepmlmaa
open Go Go.RowKit
set_option linter.unusedVariables false
set_option linter.unusedSimpArgs false

theorem rrow {w : World} {B : Nat} {ad : Addr} {rs : List (List NV)} (h : Ls KSpot 2 w B (some ad) rs) {i : Nat} (hi : i < rs.length) : KMs KSpot [.int .i16 (rX rs i), .int .i16 (rY rs i)] (rs.getD i []) := by
  obtain ⟨ad', e, hb, hrow⟩ := h i rs[i] (List.getElem?_eq_getElem hi)
  replace hrow : RowAt KSpot w (ad'.add (i * 2)) rs[i] := hrow
  obtain ⟨c0, c1, hK, g0, g1⟩ := row2 rfl hrow
  obtain ⟨e0, e1⟩ := sp_cells hK
  unfold rX rY
  rw [getD_at hi, ← e0, ← e1]
  exact hK

theorem sh_start {a b : Int} {xs : List Int} {rs : List (List NV)} : shR a b xs rs rs.length 0 [rs.getD 0 []] = shR a b xs rs rs.length 0 [rs.getD 0 []] := rfl

set_option maxRecDepth 100000 in
set_option maxHeartbeats 4000000 in
theorem c_implSH (a b : Int) (A D : Option Addr) (c d : Nat) (xs : List Int) (rs : List (List NV)) (w : World) (h1 : Bs w w.heap.size A xs) (hc : xs.length ≤ c) (h2 : Ls KSpot 2 w w.heap.size D rs) (hd : rs.length ≤ d) (hI : InS rs) (hx : xs.length ≤ 1048576) (hn : rs.length ≤ 1048576) :
    Calls Try.prog 33 #[.agg #[.int .i64 a, .int .i64 b, .slice A xs.length c], .slice D rs.length d] w (SDone w (shC a b xs rs) (shX a b xs rs)) := by
  obtain ⟨i0, hi0, hz0, hz1, hz2⟩ := info_parts infoSpot
  have u0 := heap_alloc_new w (.cells #[.int .i64 a, .int .i64 b, .slice A xs.length c] 28)
  have hst : Stays w (w.alloc (.cells #[.int .i64 a, .int .i64 b, .slice A xs.length c] 28)) := by (repeat (first | exact Stays.refl _ | (with_reducible refine Stays.drewN ?_ _) | (with_reducible refine Stays.alloc ?_ _) | (with_reducible refine Stays.drew ?_) | (refine Stays.trans ?_ ‹Stays _ _›)))
  have HC := Lib.hid fun W (h : Stays (w.alloc (.cells #[.int .i64 a, .int .i64 b, .slice A xs.length c] 28)) W) => (show W.cell? ⟨w.heap.size, 0, none⟩ = some (.int .i64 a) ∧ W.cell? ⟨w.heap.size, 1, none⟩ = some (.int .i64 b) ∧ W.cell? ⟨w.heap.size, 2, none⟩ = some (.slice A xs.length c) from ⟨row_of h u0 0, row_of h u0 1, row_of h u0 2⟩)
  have kV := fun W (h : Stays w W) => c_implValidRoute a b A D c d xs rs W ((h1.below h).more h.size) hc ((h2.below h).more h.size) hd hI hx hn
  have hE : Hid ((w.alloc (.cells #[.int .i64 a, .int .i64 b, .slice A xs.length c] 28)).heap.size = w.heap.size + 1) := Lib.hid (by simp)
  unfold shX shC
  cases hv : validR a b xs rs with
  | false =>
    rw [hv] at kV
    replace kV := Lib.hid kV
    replace hst := Lib.hid hst
    simp only [Bool.false_eq_true, if_false]
    clear u0 h1 h2 hI hv hc hd
    go_enter Try.func33, Try.ntmps33
    obtain ⟨q0, q1, q2⟩ := HC.out _ (Stays.refl _)
    go_wp2_with fail
    refine (kV.out _ hst.out).mono ?_
    rintro e w1 ⟨rfl, hb⟩
    replace hb := Lib.hid (hst.out.trans hb)
    go_wp2
    go_ret2
    exact ⟨_, rfl, GrowL.nil KSpot 2 32 _ _, hb.out⟩
  | true =>
    rw [hv] at kV
    replace kV := Lib.hid kV
    simp only [if_true]
    obtain ⟨hg, hl6, hrt, hl0⟩ := valid_iff hv
    have hh := route_has hrt
    obtain ⟨ad, rfl, z1, z2⟩ := h2 0 rs[0] (List.getElem?_eq_getElem hl0)
    have HR := Lib.hid fun W (h : Stays w W) j (hj : j < rs.length) => (show W.cell? (ad.add (j * 2)) = some (.int .i16 (rX rs j)) ∧ W.cell? ⟨(ad.add (j * 2)).block, (ad.add (j * 2)).off + 1, none⟩ = some (.int .i16 (rY rs j)) from by
      obtain ⟨hb, g0, g1⟩ := rcells h2 hj
      exact ⟨(h.cell (p := ad.add (j * 2)) hb).trans g0, (h.cell (p := ⟨(ad.add (j * 2)).block, (ad.add (j * 2)).off + 1, none⟩) hb).trans g1⟩)
    have HK := Lib.hid fun j (hj : j < rs.length) => rrow h2 hj
    have kL := Lib.hid fun i (hi : i < rs.length - 1) W (h : Stays w W) => c_lastSeen a b ad A c d i xs rs W ((h1.below h).more h.size) hc hg ((h2.below h).more h.size) hl6 hh hi
    have e1 : IntKind.i64.wrap ((rs.length : Nat) - 1 : Int) = ((rs.length - 1 : Nat) : Int) := by rw [IntWalk.i64_in _ (by omega)]; omega
    have hE0 : (w.alloc (.cells #[.int .i64 a, .int .i64 b, .slice A xs.length c] 28)).heap.size = w.heap.size + 1 := hE.out
    replace hst := Lib.hid hst
    have hl0' : (0 : Int) < (rs.length : Nat) := by omega
    clear u0 h1 h2 hI hv hc hd z1 z2 hg hrt hh
    obtain ⟨N, hN⟩ : ∃ N, rs.length - 1 = N := ⟨_, rfl⟩
    rw [hN] at e1
    replace hN := Lib.hid hN
    obtain ⟨XS, hXS⟩ : ∃ XS, shR a b xs rs rs.length 0 [rs.getD 0 []] = XS := ⟨_, rfl⟩
    rw [hXS]
    replace hXS := Lib.hid hXS
    have hK0 := Lib.hid (HK.out 0 hl0)
    go_enter Try.func33, Try.ntmps33
    obtain ⟨q0, q1, q2⟩ := HC.out _ (Stays.refl _)
    go_wp2_with fail
    refine (kV.out _ hst.out).mono ?_
    rintro e w1 ⟨rfl, hb⟩
    replace hb := Lib.hid (show Stays (w.alloc (.cells #[.int .i64 a, .int .i64 b, .slice A xs.length c] 28)) w1 from hb)
    clear q0 q1 q2
    obtain ⟨g0, g1⟩ := HR.out w1 (hst.out.trans hb.out) 0 hl0
    have ha0 : ad.add (0 * 2) = ad := rfl
    rw [ha0] at g0 g1
    have hsz1 : w.heap.size + 1 ≤ w1.heap.size := by have := hb.out.size; omega
    have hgA := Lib.hid (GrowL.one (w := w1) (t := 32) (B := w.heap.size + 1) (H := w1.heap.size) (K := KSpot) (n := 2) (cs := [.int .i16 (rX rs 0), .int .i16 (rY rs 0)]) (m := rs.getD 0 []) rfl hsz1 rfl hK0.out)
    have hsA := Lib.hid (hb.out.trans (show Stays w1 (w1.alloc (.cells ⟨[.int .i16 (rX rs 0), .int .i16 (rY rs 0)]⟩ 32)) from by (repeat (first | exact Stays.refl _ | (with_reducible refine Stays.drewN ?_ _) | (with_reducible refine Stays.alloc ?_ _) | (with_reducible refine Stays.drew ?_) | (refine Stays.trans ?_ ‹Stays _ _›)))))
    generalize rX rs 0 = x0 at g0 hgA hsA
    generalize rY rs 0 = y0 at g1 hgA hsA
    clear ha0
    go_wp2
    go_loopw [6, 7] (fun v iv wr => ∃ (i f : Nat) (out : List (List NV)) (ao : Option Addr) (cv : Nat), i < rs.length ∧ iv = .int .i64 (i : Nat) ∧ v = .slice ao out.length cv ∧ out.length ≤ i + 1 ∧ Hid (shR a b xs rs f i out = XS ∧ rs.length ≤ f + i) ∧ Hid (GrowL KSpot 2 32 (w.heap.size + 1) wr v out) ∧ Hid (Stays (w.alloc (.cells #[.int .i64 a, .int .i64 b, .slice A xs.length c] 28)) wr)) (fun _ iv _ => rs.length - (intOf iv).toNat)
    case atStart => exact ⟨0, rs.length, [rs.getD 0 []], _, _, hl0, rfl, rfl, Nat.le_refl _, Lib.hid ⟨hXS.out, by omega⟩, hgA, hsA⟩
    case round =>
      obtain ⟨i, f, out, ao, cv, hil, rfl, rfl, hol, hsh, hgr, hb0⟩ := hrel
      clear g0 g1
      by_cases hlt : i < N
      · have hlt' : (i : Int) < (N : Int) := by omega
        have hiN : i < rs.length - 1 := by have := hN.out; omega
        have kLi := fun W h => kL.out i hiN W h
        obtain ⟨f', rfl, hs1, hs2⟩ := shR_go (a := a) (b := b) (xs := xs) (out := out) hiN hsh.out.2
        have hnb := nxt_bd (a := a) (b := b) (xs := xs) hiN
        generalize nxt a b xs rs i = nx at kLi hs1 hs2 hnb
        have hsh2 := Lib.hid (And.intro (hs1.symm.trans hsh.out.1) hs2)
        replace kLi := Lib.hid kLi
        obtain ⟨q0, q1, q2⟩ := HC.out _ hb0.out
        have hxl' : (nx : Int) < (rs.length : Nat) := by omega
        have hxl : nx < rs.length := hnb.2
        clear hs1 hs2 hsh hiN
        go_wp2_with fail
        refine (kLi.out _ (hst.out.trans hb0.out)).mono ?_
        rintro e w3 ⟨rfl, hw3⟩
        have hb3 := hb0.out.trans hw3
        obtain ⟨css, hown, hin⟩ := (hgr.out.stays hw3).own
        replace hown := Lib.hid hown
        replace hin := Lib.hid hin
        obtain ⟨g0, g1⟩ := HR.out w3 (hst.out.trans hb3) nx hxl
        have hKn := Lib.hid (HK.out nx hxl)
        have hsz3 : w.heap.size + 1 ≤ w3.heap.size := by have := hb3.size; omega
        have hb4 := Lib.hid (show Below (w.heap.size + 1) (w.alloc (.cells #[.int .i64 a, .int .i64 b, .slice A xs.length c] 28)) w3 from by have h := hb3; unfold Stays at h; rw [hE.out] at h; exact h)
        generalize rX rs nx = x1 at g0 hKn
        generalize rY rs nx = y1 at g1 hKn
        clear hw3 hb3 hgr hb0 q0 q1 q2
        have hol2 : out.length ≤ 600 := by omega
        go_wp2_with (at_builtin; go_loud (refine wpList_append_own _ rfl _ _ 42 rfl (w.heap.size + 1) 32 i0 (.agg #[.int .i16 0, .int .i16 0]) 2 4 Try.underlying42 hi0 hz0 hz1 hz2 rfl (by decide) _ _ _ rfl (hown.out.alloc _) ⟨w3.heap.size, 0, none⟩ 1 1 [.int .i16 x1, .int .i16 y1] rfl rfl (World.news_of_block (heap_alloc_new w3 _)) (by simp [Value.oneCell']) (by unfold maxLen; omega) (by omega) (by simp; omega) ?_); intro v' w4 hown1 hgrow _)
        have hg4 := GrowL.more (xs := out) (c := [.int .i16 x1, .int .i16 y1]) (m := rs.getD nx []) hown1 hin.out hKn.out
        have hb5 := Lib.hid ((hb4.out.alloc hsz3 _).grown hgrow (Nat.le_trans hsz3 (by simp)) (fun q hq => (hown.out.lt q hq).1))
        obtain ⟨ao', cv', hv⟩ := hg4.form
        have hol3 : (out ++ [rs.getD nx []]).length = out.length + 1 := by rw [List.length_append, List.length_cons, List.length_nil]
        subst hv
        replace hg4 := Lib.hid hg4
        clear hown1 hgrow g0 g1
        generalize out ++ [rs.getD nx []] = out' at hsh2 hg4 hol3 ⊢
        have hol4 : out'.length ≤ nx + 1 := by omega
        replace hol3 := Lib.hid hol3
        go_round
        case rel => exact ⟨nx, f', out', _, _, hxl, rfl, rfl, hol4, hsh2, hg4, Lib.hid (by unfold Stays; rw [hE.out]; exact hb5.out)⟩
        case measure => simp [intOf]; omega
      · have hxe : out = XS := by rw [← hsh.out.1]; exact (shR_end (by have := hN.out; omega)).symm
        subst hxe
        have hlt' : ¬ (i : Int) < (N : Int) := by omega
        have hs := Lib.hid (hst.out.trans hb0.out)
        go_wp2
        go_ret2
        exact ⟨_, rfl, hgr.out.lower (by omega), hs.out⟩
end Go.Proofs.Yteidjmliepmlmaa

namespace Go.Proofs.Yteidjmliepmlmaa
open Go Go.RowKit
set_option linter.unusedVariables false
set_option linter.unusedSimpArgs false

def seekP (S : Nat → Bool) (lo N nx k : Nat) : Prop := (nx = lo ∧ lo ≤ k ∧ lastK S lo N = lastK S lo k) ∨ (nx = lastK S lo N ∧ k ≤ nx)
theorem seek_end {S : Nat → Bool} {lo N nx k : Nat} (h : seekP S lo N nx k) (hk : ¬ nx < k) : nx = lastK S lo N := by
  rcases h with ⟨rfl, h1, h2⟩ | ⟨h1, _⟩
  · rw [h2, lastK_low (by omega)]
  · exact h1
theorem seek_lo {S : Nat → Bool} {lo N nx k : Nat} (h : seekP S lo N nx k) (hk : nx < k) : nx = lo ∧ lastK S lo N = lastK S lo k := by
  rcases h with ⟨h0, h1, h2⟩ | ⟨h1, h2⟩
  · exact ⟨h0, h2⟩
  · omega

set_option maxRecDepth 100000 in
set_option maxHeartbeats 4000000 in
theorem c_specSH (v : Value) (a b : Int) (D : Option Addr) (d : Nat) (xs : List Int) (rs : List (List NV)) (w : World) (h : GdV w w.heap.size v a b xs) (h2 : Ls KSpot 2 w w.heap.size D rs) (hI : InS rs) (hx : xs.length ≤ 1048576) (hn : rs.length ≤ 1048576) :
    Calls Try.prog 32 #[v, .slice D rs.length d] w (SDone w (shC a b xs rs) (shX a b xs rs)) := by
  obtain ⟨A, c, rfl, h1⟩ := h.val
  obtain ⟨i0, hi0, hz0, hz1, hz2⟩ := info_parts infoSpot
  have u0 := heap_alloc_new w (.cells #[.int .i64 a, .int .i64 b, .slice A xs.length c] 28)
  have hst : Stays w (w.alloc (.cells #[.int .i64 a, .int .i64 b, .slice A xs.length c] 28)) := by (repeat (first | exact Stays.refl _ | (with_reducible refine Stays.drewN ?_ _) | (with_reducible refine Stays.alloc ?_ _) | (with_reducible refine Stays.drew ?_) | (refine Stays.trans ?_ ‹Stays _ _›)))
  have kV := c_l07Route w.heap.size a b A D c d xs rs _ u0 ((h1.below hst).more hst.size) ((h2.below hst).more hst.size) hI hx hn
  have HG := grid_at u0
  have hE : Hid ((w.alloc (.cells #[.int .i64 a, .int .i64 b, .slice A xs.length c] 28)).heap.size = w.heap.size + 1) := Lib.hid (by simp)
  unfold shX shC
  cases hv : validR a b xs rs with
  | false =>
    rw [hv] at kV
    replace kV := Lib.hid kV
    replace hst := Lib.hid hst
    simp only [Bool.false_eq_true, if_false]
    clear u0 h h1 h2 hI hv HG
    go_enter Try.func32, Try.ntmps32
    go_wp2_with fail
    refine kV.out.mono ?_
    rintro e w1 ⟨s, rfl, hb⟩
    replace hb := Lib.hid (hst.out.trans hb)
    have hsz1 : Hid (w.heap.size ≤ w1.heap.size) := Lib.hid hb.out.size
    go_wp2
    go_ret2
    exact ⟨_, rfl, GrowL.made KSpot 2 32 (B := w.heap.size) (H := w1.heap.size) w1 rfl hsz1.out #[] 0 (Nat.zero_le _) rfl, hb.out.trans (by (repeat (first | exact Stays.refl _ | (with_reducible refine Stays.drewN ?_ _) | (with_reducible refine Stays.alloc ?_ _) | (with_reducible refine Stays.drew ?_) | (refine Stays.trans ?_ ‹Stays _ _›))))⟩
  | true =>
    rw [hv] at kV
    replace kV := Lib.hid kV
    simp only [if_true]
    obtain ⟨hg, hl6, hrt, hl0⟩ := valid_iff hv
    have hh := route_has hrt
    obtain ⟨ad, rfl, z1, z2⟩ := h2 0 rs[0] (List.getElem?_eq_getElem hl0)
    have HR := Lib.hid fun W (h : Stays w W) j (hj : j < rs.length) => (show W.cell? (ad.add (j * 2)) = some (.int .i16 (rX rs j)) ∧ W.cell? ⟨(ad.add (j * 2)).block, (ad.add (j * 2)).off + 1, none⟩ = some (.int .i16 (rY rs j)) from by
      obtain ⟨hb, g0, g1⟩ := rcells h2 hj
      exact ⟨(h.cell (p := ad.add (j * 2)) hb).trans g0, (h.cell (p := ⟨(ad.add (j * 2)).block, (ad.add (j * 2)).off + 1, none⟩) hb).trans g1⟩)
    have HK := Lib.hid fun j (hj : j < rs.length) => rrow h2 hj
    have kL := Lib.hid fun i (hi : i < rs.length) k (hk : k < rs.length) W (h : Stays (w.alloc (.cells #[.int .i64 a, .int .i64 b, .slice A xs.length c] 28)) W) => c_l07Sees w.heap.size a b (rX rs i) (rY rs i) (rX rs k) (rY rs k) A c xs W (HG.on h) ((h1.below (hst.trans h)).more (hst.trans h).size) hg (hh i hi) (hh k hk)
    have e1 : IntKind.i64.wrap ((rs.length : Nat) - 1 : Int) = ((rs.length - 1 : Nat) : Int) := by rw [IntWalk.i64_in _ (by omega)]; omega
    have hE0 : (w.alloc (.cells #[.int .i64 a, .int .i64 b, .slice A xs.length c] 28)).heap.size = w.heap.size + 1 := hE.out
    replace hst := Lib.hid hst
    have hl0' : (0 : Int) < (rs.length : Nat) := by omega
    clear u0 h h1 h2 hI hv z1 z2 hg hrt hh HG
    obtain ⟨N, hN⟩ : ∃ N, rs.length - 1 = N := ⟨_, rfl⟩
    rw [hN] at e1
    replace hN := Lib.hid hN
    obtain ⟨XS, hXS⟩ : ∃ XS, shR a b xs rs rs.length 0 [rs.getD 0 []] = XS := ⟨_, rfl⟩
    rw [hXS]
    replace hXS := Lib.hid hXS
    have hK0 := Lib.hid (HK.out 0 hl0)
    go_enter Try.func32, Try.ntmps32
    go_wp2_with fail
    refine kV.out.mono ?_
    rintro e w1 ⟨sum, rfl, hb⟩
    replace hb := Lib.hid (show Stays (w.alloc (.cells #[.int .i64 a, .int .i64 b, .slice A xs.length c] 28)) w1 from hb)
    obtain ⟨g0, g1⟩ := HR.out w1 (hst.out.trans hb.out) 0 hl0
    have ha0 : ad.add (0 * 2) = ad := rfl
    rw [ha0] at g0 g1
    have hsz1 : w.heap.size + 1 ≤ w1.heap.size := by have := hb.out.size; omega
    have hgA := Lib.hid (GrowL.one (w := w1) (t := 32) (B := w.heap.size + 1) (H := w1.heap.size) (K := KSpot) (n := 2) (cs := [.int .i16 (rX rs 0), .int .i16 (rY rs 0)]) (m := rs.getD 0 []) rfl hsz1 rfl hK0.out)
    have hsA := Lib.hid (hb.out.trans (show Stays w1 (w1.alloc (.cells ⟨[.int .i16 (rX rs 0), .int .i16 (rY rs 0)]⟩ 32)) from by (repeat (first | exact Stays.refl _ | (with_reducible refine Stays.drewN ?_ _) | (with_reducible refine Stays.alloc ?_ _) | (with_reducible refine Stays.drew ?_) | (refine Stays.trans ?_ ‹Stays _ _›)))))
    generalize rX rs 0 = x0 at g0 hgA hsA
    generalize rY rs 0 = y0 at g1 hgA hsA
    clear ha0
    go_wp2
    go_loopw [8, 9] (fun v iv wr => ∃ (i f : Nat) (out : List (List NV)) (ao : Option Addr) (cv : Nat), i < rs.length ∧ iv = .int .i64 (i : Nat) ∧ v = .slice ao out.length cv ∧ out.length ≤ i + 1 ∧ Hid (shR a b xs rs f i out = XS ∧ rs.length ≤ f + i) ∧ Hid (GrowL KSpot 2 32 (w.heap.size + 1) wr v out) ∧ Hid (Stays (w.alloc (.cells #[.int .i64 a, .int .i64 b, .slice A xs.length c] 28)) wr)) (fun _ iv _ => rs.length - (intOf iv).toNat)
    case atStart => exact ⟨0, rs.length, [rs.getD 0 []], _, _, hl0, rfl, rfl, Nat.le_refl _, Lib.hid ⟨hXS.out, by omega⟩, hgA, hsA⟩
    case round =>
      obtain ⟨i, f, out, ao, cv, hil, rfl, rfl, hol, hsh, hgr, hb0⟩ := hrel
      clear g0 g1
      by_cases hlt : i < N
      · have hlt' : (i : Int) < (N : Int) := by omega
        have hiN : i < rs.length - 1 := by have := hN.out; omega
        obtain ⟨f', rfl, hs1, hs2⟩ := shR_go (a := a) (b := b) (xs := xs) (out := out) hiN hsh.out.2
        have hnb := nxt_bd (a := a) (b := b) (xs := xs) hiN
        have hnx := Lib.hid (show nxt a b xs rs i = lastK (seeR a b xs rs i) (i + 1) N from by unfold nxt; rw [hN.out])
        generalize nxt a b xs rs i = nx at hs1 hs2 hnb hnx
        have hS := Lib.hid fun k => show seeR a b xs rs i k = routeB a b xs (line (rX rs i) (rY rs i) (rX rs k) (rY rs k)) from rfl
        generalize seeR a b xs rs i = S at hnx hS
        have hsh2 := Lib.hid (And.intro (hs1.symm.trans hsh.out.1) hs2)
        have hxl : nx < rs.length := hnb.2
        have hxl' : (nx : Int) < (rs.length : Nat) := by omega
        have hil' : (i : Int) < (rs.length : Nat) := by omega
        have hNl : N < rs.length := by have := hN.out; omega
        have e2 : IntKind.i64.wrap ((i : Int) + 1) = ((i + 1 : Nat) : Int) := by rw [IntWalk.i64_in _ (by omega)]; omega
        clear hs1 hs2 hsh hiN
        obtain ⟨lo, hlo⟩ : ∃ lo, i + 1 = lo := ⟨_, rfl⟩
        rw [hlo] at e2
        have hloN : lo ≤ N := by omega
        replace hlo := Lib.hid hlo
        go_wp2
        go_loopw [10, 11] (fun nv kv wq => ∃ (n k : Nat), n ≤ N ∧ k ≤ N ∧ nv = .int .i64 (n : Nat) ∧ kv = .int .i64 (k : Nat) ∧ Hid (seekP S (i + 1) N n k) ∧ Hid (Stays wr wq)) (fun _ kv _ => (intOf kv).toNat)
        case atStart => exact ⟨lo, N, hloN, Nat.le_refl _, rfl, rfl, Lib.hid (Or.inl ⟨hlo.out.symm, by have := hlo.out; omega, rfl⟩), Lib.hid (Stays.refl _)⟩
        case round =>
          obtain ⟨n, k, hnN, hkN, rfl, rfl, hP, hq⟩ := hrel
          by_cases hnk : n < k
          · have hnk' : (n : Int) < (k : Int) := by omega
            have hkl : k < rs.length := by omega
            have hkl' : (k : Int) < (rs.length : Nat) := by omega
            have e3 : IntKind.i64.wrap ((k : Int) - 1) = ((k - 1 : Nat) : Int) := by rw [IntWalk.i64_in _ (by omega)]; omega
            have kLk := fun W h => kL.out i hil k hkl W h
            have hSk := hS.out k
            have hcells : ∀ W, Stays wr W → (W.cell? (ad.add (i * 2)) = some (.int .i16 (rX rs i)) ∧ W.cell? ⟨(ad.add (i * 2)).block, (ad.add (i * 2)).off + 1, none⟩ = some (.int .i16 (rY rs i))) ∧ W.cell? (ad.add (k * 2)) = some (.int .i16 (rX rs k)) ∧ W.cell? ⟨(ad.add (k * 2)).block, (ad.add (k * 2)).off + 1, none⟩ = some (.int .i16 (rY rs k)) := fun W h => ⟨HR.out W (hst.out.trans (hb0.out.trans (hq.out.trans h))) i hil, HR.out W (hst.out.trans (hb0.out.trans (hq.out.trans h))) k hkl⟩
            generalize rX rs i = x1 at *
            generalize rY rs i = y1 at *
            generalize rX rs k = x2 at *
            generalize rY rs k = y2 at *
            generalize routeB a b xs (line x1 y1 x2 y2) = q at kLk hSk
            replace kLk := Lib.hid kLk
            replace hSk := Lib.hid hSk
            go_wp2_with fail
            refine wp_region_soft_tail 8 (Stays.refl _) (fun _ _ _ => False) [] (by kernel_rfl) (by kernel_rfl) (fun _ h => by cases h) ?_
            simp only [List.take_succ_cons, List.take_zero, List.drop_succ_cons, List.drop_zero]
            repeat ((with_reducible apply soft_detG); (case hwa => rfl); (case hA => rfl); (case h => (intro w1 hw1; have hc := hcells w1 hw1; go_simp; exact rfl)); go_simp)
            refine soft_nil ?_
            rintro w4 ⟨hw4, _⟩
            have hq4 := Lib.hid (hq.out.trans hw4)
            clear hcells hw4 hq
            go_wp2_with fail
            refine (kLk.out _ (hb0.out.trans hq4.out)).mono ?_
            rintro e w5 ⟨rfl, hw5⟩
            have hq5 := Lib.hid (hq4.out.trans hw5)
            clear hw5 hq4
            obtain ⟨hn1, hn2⟩ := seek_lo hP.out hnk
            replace hn1 := Lib.hid hn1
            replace hn2 := Lib.hid hn2
            cases q with
            | true =>
              have hP2 := Lib.hid (show seekP S (i + 1) N k (k - 1) from Or.inr ⟨by rw [hn2.out]; exact (lastK_yes (by have := hn1.out; omega) hSk.out).symm, by omega⟩)
              go_wp2
              go_round
              case rel => exact ⟨k, k - 1, hkN, by omega, rfl, rfl, hP2, hq5⟩
              case measure => simp [intOf]; omega
            | false =>
              have hP2 := Lib.hid (show seekP S (i + 1) N n (k - 1) from Or.inl ⟨hn1.out, by have := hn1.out; omega, by rw [hn2.out]; exact lastK_no (by omega) hSk.out⟩)
              go_wp2
              go_round
              case rel => exact ⟨n, k - 1, hnN, by omega, rfl, rfl, hP2, hq5⟩
              case measure => simp [intOf]; omega
          · have hne : n = nx := by rw [seek_end hP.out hnk]; exact hnx.out.symm
            subst hne
            have hnk' : ¬ (n : Int) < (k : Int) := by omega
            have hb3 := hb0.out.trans hq.out
            obtain ⟨css, hown, hin⟩ := (hgr.out.stays hq.out).own
            replace hown := Lib.hid hown
            replace hin := Lib.hid hin
            obtain ⟨g0, g1⟩ := HR.out wr (hst.out.trans hb3) n hxl
            have hKn := Lib.hid (HK.out n hxl)
            have hsz3 : w.heap.size + 1 ≤ wr.heap.size := by have := hb3.size; omega
            have hb4 := Lib.hid (show Below (w.heap.size + 1) (w.alloc (.cells #[.int .i64 a, .int .i64 b, .slice A xs.length c] 28)) wr from by have h := hb3; unfold Stays at h; rw [hE.out] at h; exact h)
            generalize rX rs n = x1 at g0 hKn
            generalize rY rs n = y1 at g1 hKn
            clear hb3 hgr hb0 hq hP
            have hol2 : out.length ≤ 600 := by omega
            go_wp2_with (at_builtin; go_loud (refine wpList_append_own _ rfl _ _ 42 rfl (w.heap.size + 1) 32 i0 (.agg #[.int .i16 0, .int .i16 0]) 2 4 Try.underlying42 hi0 hz0 hz1 hz2 rfl (by decide) _ _ _ rfl (hown.out.alloc _) ⟨wr.heap.size, 0, none⟩ 1 1 [.int .i16 x1, .int .i16 y1] rfl rfl (World.news_of_block (heap_alloc_new wr _)) (by simp [Value.oneCell']) (by unfold maxLen; omega) (by omega) (by simp; omega) ?_); intro v' w4 hown1 hgrow _)
            have hg4 := GrowL.more (xs := out) (c := [.int .i16 x1, .int .i16 y1]) (m := rs.getD n []) hown1 hin.out hKn.out
            have hb5 := Lib.hid ((hb4.out.alloc hsz3 _).grown hgrow (Nat.le_trans hsz3 (by simp)) (fun q hq => (hown.out.lt q hq).1))
            obtain ⟨ao', cv', hv⟩ := hg4.form
            have hol3 : (out ++ [rs.getD n []]).length = out.length + 1 := by rw [List.length_append, List.length_cons, List.length_nil]
            subst hv
            replace hg4 := Lib.hid hg4
            clear hown1 hgrow g0 g1
            generalize out ++ [rs.getD n []] = out' at hsh2 hg4 hol3 ⊢
            have hol4 : out'.length ≤ n + 1 := by omega
            replace hol3 := Lib.hid hol3
            go_round
            case rel => exact ⟨n, f', out', _, _, hxl, rfl, rfl, hol4, hsh2, hg4, Lib.hid (by unfold Stays; rw [hE.out]; exact hb5.out)⟩
            case measure => simp [intOf]; omega
      · have hxe : out = XS := by rw [← hsh.out.1]; exact (shR_end (by have := hN.out; omega)).symm
        subst hxe
        have hlt' : ¬ (i : Int) < (N : Int) := by omega
        have hs := Lib.hid (hst.out.trans hb0.out)
        go_wp2
        go_ret2
        exact ⟨_, rfl, hgr.out.lower (by omega), hs.out⟩
end Go.Proofs.Yteidjmliepmlmaa

namespace Go.Proofs.Yteidjmliepmlmaa
open Go Go.ChangeShapes Go.WideShapes Go.RowKit
set_option linter.unusedVariables false
set_option linter.unusedSimpArgs false

/-- The costs that lie in a block are told by their places, where there are any. -/
structure MarkH (w w' : World) (g n : Nat) (k0 : Int) : Prop where
  same : ∀ g', (0 < n → g' ≠ g) → g' < w.heap.size → Same w w' g'
  below : ∀ B, (0 < n → B ≤ g) → B ≤ w.heap.size → Below B w w'
  cells : ∀ j, j < n → w'.cell? ⟨g, j, none⟩ = some (.int .u8 (IntKind.u8.wrap (k0 + (j : Nat))))

theorem c_markH (A : Option Addr) (g c n : Nat) (a b : Int) (w : World) (hA : 0 < n → A = some ⟨g, 0, none⟩) (hg : 0 < n → g < w.heap.size) (ht : w.there g 0 n) (hn : n ≤ 1048576) :
    Calls Try.prog 17 #[.agg #[.int .i64 a, .int .i64 b, .slice A n c], .int .i64 1] w fun e w' => e = .returned (.int .i64 (1 + (n : Nat))) ∧ MarkH w w' g n 1 := by
  by_cases h0 : 0 < n
  · refine (c_markG A g c n a b w hA hg ht hn).mono ?_
    rintro e w' ⟨rfl, hm⟩
    exact ⟨rfl, fun g' h1 h2 => hm.same g' (h1 h0) h2, fun B h1 h2 => hm.below B (h1 h0) h2, hm.cells⟩
  · refine (c_markG A w.heap.size c n a b w (fun h => absurd h h0) (fun h => absurd h h0) (fun j hj => by omega) hn).mono ?_
    rintro e w' ⟨rfl, hm⟩
    exact ⟨rfl, fun g' _ h2 => hm.same g' (by omega) h2, fun B _ h2 => hm.below B h2 h2, fun j hj => by omega⟩

theorem LiesB.markedH {w w' : World} {g g' n : Nat} {k0 : Int} {v : Value} {xs : List Int} (h : LiesB w g v xs) (hm : MarkH w w' g' n k0) (hne : 0 < xs.length → 0 < n → g ≠ g') : LiesB w' g v xs := by
  by_cases hx : xs = []
  · subst hx
    obtain ⟨A, c, e, _⟩ := h
    exact ⟨A, c, e, fun h => absurd rfl h⟩
  · have h0 : 0 < xs.length := List.length_pos_iff.2 hx
    exact LiesR.on h fun hlt => hm.same g (hne h0) hlt
set_option maxRecDepth 100000 in
/-- An argument that is a list of spots, opened. -/
theorem open_spots {H : Type} {enc : TypeId × Value → H} {w : World} {held : Bool} {r : Reach} {b0 : Nat} {v : Value} {d : DataW H} {p : List MemPlace} (hval : Value.okWide Try.prog w r b0 39 v)
    (h : DataW.Trod enc Try.prog w 0 (fun _ => true) held 39 v d p) : ∃ A xs c, v = .slice A xs.length c ∧ Ls KSpot 2 w w.heap.size A xs ∧ xs.length ≤ 9223372036854775807 ∧ InS xs := by
  obtain ⟨fuel, hf⟩ := h
  obtain ⟨A, xs, c, hcs, h1, h2, rg⟩ := trod_rowsG (K := KSpot) Try.underlying39 rfl (by decide) (by kernel_rfl) (by kernel_rfl) hf
  refine ⟨A, xs, c, slice_val (P := Try.prog) Try.underlying39 hval hcs, h1, h2, fun i r hr => ?_⟩
  have hg := rg i r hr
  match r, hg with
  | [n0, n1], ⟨r0, r1, _⟩ =>
    have r0 : (decide (IntKind.i16.min ≤ n0.gi) && decide (n0.gi ≤ IntKind.i16.max)) = true := r0
    have r1 : (decide (IntKind.i16.min ≤ n1.gi) && decide (n1.gi ≤ IntKind.i16.max)) = true := r1
    simp only [Bool.and_eq_true, decide_eq_true_eq] at r0 r1
    exact ⟨r0, r1⟩

theorem c_toSpotsV (A : Option Addr) (c : Nat) (xs : List (List NV)) (w : World) (h : Ls KSpot 2 w w.heap.size A xs) (hn : xs.length ≤ 1048576) :
    Calls Try.prog 23 #[.slice A xs.length c] w fun e w' => e = .returned (.slice (some ⟨w.heap.size, 0, none⟩) xs.length xs.length) ∧ Stays w w' ∧ LiesL KSpot 2 w' w.heap.size (.slice (some ⟨w.heap.size, 0, none⟩) xs.length xs.length) xs := by
  refine (c_toSpotS A c xs w h hn).mono ?_
  rintro e w' ⟨rfl, hp⟩
  exact ⟨rfl, hp.below, hp.lies⟩


theorem shX_len {a b : Int} {xs : List Int} {rs : List (List NV)} : (shX a b xs rs).length ≤ 1048576 ∧ (0 < (shX a b xs rs).length → 0 < rs.length) := by
  unfold shX
  cases hv : validR a b xs rs with
  | false => exact ⟨by simp, fun h => by simp at h⟩
  | true =>
    obtain ⟨_, h6, _, h0⟩ := valid_iff hv
    rw [if_pos rfl]
    have := shR_len (a := a) (b := b) (xs := xs) (rs := rs) (f := rs.length) (i := 0) (out := [rs.getD 0 []])
    rw [List.length_cons, List.length_nil] at this
    exact ⟨by omega, fun _ => h0⟩

set_option maxRecDepth 100000 in
set_option maxHeartbeats 4000000 in
theorem c_lawSH (v : Value) (a b : Int) (xs : List Int) (D : Option Addr) (d : Nat) (rs : List (List NV)) (w : World) (h : GdV w w.heap.size v a b xs) (hn : xs.length ≤ 9223372036854775807) (h2 : Ls KSpot 2 w w.heap.size D rs) (hm : rs.length ≤ 9223372036854775807) (hS : InS rs) :
    Calls Try.prog 8 #[v, .slice D rs.length d] w fun e w' => e = .returned (.bool true) ∧ Below w.heap.size w w' := by
  obtain ⟨A, c, rfl, HB⟩ := boxGd 24 h
  have hst : Stays w (w.alloc (.cells #[.int .i64 a, .int .i64 b, .slice A xs.length c] 24)) := by (repeat (first | exact Stays.refl _ | (with_reducible refine Stays.drewN ?_ _) | (with_reducible refine Stays.alloc ?_ _) | (with_reducible refine Stays.drew ?_) | (refine Stays.trans ?_ ‹Stays _ _›)))
  have HX := Lib.hid fun W (hW : Stays (w.alloc (.cells #[.int .i64 a, .int .i64 b, .slice A xs.length c] 24)) W) => (h2.below (hst.trans hW)).more (hst.trans hW).size
  replace HB := Lib.hid HB
  have hsz := fun W => c_szGrid A c xs.length a b 1048576 W hn (by omega) (by omega)
  clear h h2 hst
  by_cases hl : (1048576 : Int) - xs.length < 0
  · simp only [if_pos hl] at hsz
    replace hsz := Lib.hid hsz
    clear HX
    go_enter Try.func8, Try.ntmps8
    go_wp2_with fail
    refine (hsz.out _).mono ?_
    rintro e w1 ⟨rfl, hb⟩
    go_wp2
    go_ret
    exact ⟨rfl, (HB.out _ hb).1.2⟩
  · simp only [if_neg hl] at hsz
    have hn' : xs.length ≤ 1048576 := by omega
    have hL : ¬ ((1048576 : Int) - xs.length < 0) := hl
    have hL1 : (0 : Int) ≤ (1048576 : Int) - xs.length ∧ (1048576 : Int) - xs.length ≤ 1048576 := by omega
    generalize (1048576 : Int) - xs.length = L at hL hsz hL1
    replace hsz := Lib.hid hsz
    have hsy := fun W => c_szSpotS D d rs.length L W hm hL1.1 hL1.2
    clear hl hn
    by_cases hl2 : L - rs.length < 0
    · simp only [if_pos hl2] at hsy
      replace hsy := Lib.hid hsy
      clear HX hL1
      go_enter Try.func8, Try.ntmps8
      go_wp2_with fail
      refine (hsz.out _).mono ?_
      rintro e w1 ⟨rfl, hb⟩
      replace hb := Lib.hid (show Stays _ w1 from hb)
      go_wp2_with fail
      refine (hsy.out _).mono ?_
      rintro e w2 ⟨rfl, rfl⟩
      go_wp2
      go_ret
      exact ⟨rfl, (HB.out _ hb.out).1.2⟩
    · simp only [if_neg hl2] at hsy
      have hm' : rs.length ≤ 1048576 := by omega
      have hL2 : ¬ (L - rs.length < 0) := hl2
      generalize L - (rs.length : Int) = L2 at hL2 hsy
      replace hsy := Lib.hid hsy
      have kS := fun v D d W h h2 => c_specSH v a b D d xs rs W h h2 hS hn' hm'
      have kI := fun A D W h1 h2 => c_implSH a b A D xs.length rs.length xs rs W h1 (Nat.le_refl _) h2 (Nat.le_refl _) hS hn' hm'
      have kT := Lib.hid fun W (hW : Stays (w.alloc (.cells #[.int .i64 a, .int .i64 b, .slice A xs.length c] 24)) W) => c_toSpotsV D d rs W (HX.out W hW) hm'
      have kG := Lib.hid fun W (hW : Stays (w.alloc (.cells #[.int .i64 a, .int .i64 b, .slice A xs.length c] 24)) W) => c_toGrid _ a b xs W (HB.out _ hW).2 hn'
      obtain ⟨hXl, hXm⟩ := shX_len (a := a) (b := b) (xs := xs) (rs := rs)
      generalize shX a b xs rs = XS at kS kI hXl hXm
      generalize shC a b xs rs = code at kS kI
      replace kS := Lib.hid kS
      replace kI := Lib.hid kI
      replace hXm := Lib.hid hXm
      clear hl2 hm hL1 hS HX
      go_enter Try.func8, Try.ntmps8
      go_wp2_with fail
      refine (hsz.out _).mono ?_
      rintro e w1 ⟨rfl, hb⟩
      have ha := Lib.hid (show Stays _ w1 from hb)
      clear hb
      go_wp2_with fail
      refine (hsy.out _).mono ?_
      rintro e w2 ⟨rfl, rfl⟩
      clear hsz hsy
      generalize (w.alloc (.cells #[.int .i64 a, .int .i64 b, .slice A xs.length c] 24)) = W0 at HB ha kG kT
      obtain ⟨⟨⟨a0, a1, a2⟩, _⟩, _⟩ := HB.out _ ha.out
      go_wp2_with fail
      refine (kG.out _ ha.out).mono ?_
      rintro e w3 ⟨gv, rfl, _, hb, hv1⟩
      replace hb : Stays w1 w3 := hb
      replace ha := Lib.hid (ha.out.trans hb)
      replace hv1 := Lib.hid hv1
      clear hb a0 a1 a2
      go_wp2_with fail
      refine (kT.out _ ha.out).mono ?_
      rintro e w4 ⟨rfl, hb, hLa⟩
      replace hb : Stays w3 w4 := hb
      replace ha := Lib.hid (ha.out.trans hb)
      replace hv1 := Lib.hid (LiesR.below hv1.out hb)
      replace hLa := Lib.hid hLa
      clear hb
      go_wp2_with fail
      refine (kS.out _ _ _ w4 (LiesB.val hv1.out) hLa.out.rows).mono ?_
      rintro e w5 ⟨v0, rfl, hgl, hb⟩
      obtain ⟨g0, hge0, hL0⟩ := GrowL.lies (K := KSpot) rfl hgl
      replace hL0 := Lib.hid hL0
      obtain ⟨A0, c0, rfl⟩ := hgl.form
      replace ha := Lib.hid (ha.out.trans hb)
      have o2 : Hid (0 < XS.length → g0 < w5.heap.size) := Lib.hid (LiesL_lt hL0.out)
      have o1 : Hid (W0.heap.size ≤ w5.heap.size) := Lib.hid ha.out.size
      clear hb hv1 hLa hgl hge0
      obtain ⟨⟨⟨a0, a1, a2⟩, _⟩, _⟩ := HB.out _ ha.out
      go_wp2_with fail
      refine (kG.out w5 ha.out).mono ?_
      rintro e w6 ⟨gx, rfl, hge, hb, hLx⟩
      have hs6 : Stays w6 (w6.alloc (.cells #[.int .i64 a, .int .i64 b, .slice (some ⟨gx, 0, none⟩) xs.length xs.length] 28)) := by (repeat (first | exact Stays.refl _ | (with_reducible refine Stays.drewN ?_ _) | (with_reducible refine Stays.alloc ?_ _) | (with_reducible refine Stays.drew ?_) | (refine Stays.trans ?_ ‹Stays _ _›)))
      have hs56 := (show Stays w5 w6 from hb).trans hs6
      have o3 : Hid (w5.heap.size ≤ gx) := Lib.hid hge
      have o4 : Hid (0 < xs.length → gx < w6.heap.size) := Lib.hid (LiesB.lt_ hLx)
      have o5 : Hid (w6.heap.size < (w6.alloc (.cells #[.int .i64 a, .int .i64 b, .slice (some ⟨gx, 0, none⟩) xs.length xs.length] 28)).heap.size) := Lib.hid (by simp)
      have o6 : Hid (w5.heap.size ≤ w6.heap.size) := Lib.hid hb.size
      replace ha := Lib.hid (ha.out.trans hs56)
      replace hL0 := Lib.hid (LiesR.below hL0.out hs56)
      have hXx := Lib.hid (BoxG.new w6 a b (some ⟨gx, 0, none⟩) xs.length xs.length 28)
      replace hLx := Lib.hid (LiesR.below hLx hs6)
      clear hb hge hs6 hs56 a0 a1 a2
      go_wp2_with fail
      generalize (w6.alloc (.cells #[.int .i64 a, .int .i64 b, .slice (some ⟨gx, 0, none⟩) xs.length xs.length] 28)) = W6 at ha hXx hLx hL0 o5 ⊢
      generalize w6.heap.size = px at hXx o4 o5 o6 ⊢
      refine (kT.out _ ha.out).mono ?_
      rintro e w7 ⟨rfl, hb, hLy⟩
      replace hb : Stays W6 w7 := hb
      have o7 : Hid (0 < rs.length → W6.heap.size < w7.heap.size) := Lib.hid (LiesL_lt hLy)
      have o8 : Hid (W6.heap.size ≤ w7.heap.size) := Lib.hid hb.size
      replace ha := Lib.hid (ha.out.trans hb)
      replace hL0 := Lib.hid (LiesR.below hL0.out hb)
      replace hXx := Lib.hid (hXx.out.below hb)
      replace hLx := Lib.hid (LiesR.below hLx.out hb)
      replace hLy := Lib.hid hLy
      clear hb
      obtain ⟨x0, x1, x2⟩ := hXx.out.cells
      go_wp2_with fail
      refine (kI.out _ _ w7 hLx.out.rows hLy.out.rows).mono ?_
      rintro e w8 ⟨v1, rfl, hgl, hb⟩
      obtain ⟨g1, hge1, hL1⟩ := GrowL.lies (K := KSpot) rfl hgl
      replace hL1 := Lib.hid hL1
      obtain ⟨A1, c1, rfl⟩ := hgl.form
      have o9 : Hid (w7.heap.size ≤ g1) := Lib.hid hge1
      replace hb : Stays w7 w8 := hb
      replace ha := Lib.hid (ha.out.trans hb)
      replace hL0 := Lib.hid (LiesR.below hL0.out hb)
      replace hXx := Lib.hid (hXx.out.below hb)
      replace hLx := Lib.hid (LiesR.below hLx.out hb)
      replace hLy := Lib.hid (LiesR.below hLy.out hb)
      clear hb x0 x1 x2 hgl hge1
      go_wp2_with fail
      refine (c_eqSpotS _ _ _ _ XS w8 hL1.out.rows hL0.out.rows hXl).mono ?_
      rintro e w9 ⟨rfl, hb⟩
      replace hb : Stays w8 w9 := hb
      replace ha := Lib.hid (ha.out.trans hb)
      replace hL0 := Lib.hid (LiesR.below hL0.out hb)
      replace hL1 := Lib.hid (LiesR.below hL1.out hb)
      replace hXx := Lib.hid (hXx.out.below hb)
      replace hLx := Lib.hid (LiesR.below hLx.out hb)
      replace hLy := Lib.hid (LiesR.below hLy.out hb)
      clear hb
      obtain ⟨⟨⟨a0, a1, a2⟩, _⟩, _⟩ := HB.out _ ha.out
      obtain ⟨x0, x1, x2⟩ := hXx.out.cells
      have G1 : Hid (∀ w', Stays w9 w' → (((w'.cell? ⟨w.heap.size, 0, none⟩ = some (.int .i64 a) ∧ w'.cell? ⟨w.heap.size, 1, none⟩ = some (.int .i64 b) ∧ w'.cell? ⟨w.heap.size, 2, none⟩ = some (.slice A xs.length c)) ∧ (w'.cell? ⟨px, 0, none⟩ = some (.int .i64 a) ∧ w'.cell? ⟨px, 1, none⟩ = some (.int .i64 b) ∧ w'.cell? ⟨px, 2, none⟩ = some (.slice (some ⟨gx, 0, none⟩) xs.length xs.length))) ∧ Hid (Stays w9 w'))) := Lib.hid fun w' h => ⟨⟨(HB.out _ (ha.out.trans h)).1.1, (hXx.out.below h).cells⟩, Lib.hid h⟩
      have h5 := Lib.hid (show Stays w9 w9.drew from (Stays.refl w9).drew)
      go_wp2_with fail
      go_region_held (fun w' => (((w'.cell? ⟨w.heap.size, 0, none⟩ = some (.int .i64 a) ∧ w'.cell? ⟨w.heap.size, 1, none⟩ = some (.int .i64 b) ∧ w'.cell? ⟨w.heap.size, 2, none⟩ = some (.slice A xs.length c)) ∧ (w'.cell? ⟨px, 0, none⟩ = some (.int .i64 a) ∧ w'.cell? ⟨px, 1, none⟩ = some (.int .i64 b) ∧ w'.cell? ⟨px, 2, none⟩ = some (.slice (some ⟨gx, 0, none⟩) xs.length xs.length))) ∧ Hid (Stays w9 w'))) (first | exact G1.out _ h5.out | exact G1.out _ h6.out | exact G1.out _ h7.out)
        (first
          | (go_at_call 13; refine (kG.out _ (ha.out.trans h5.out)).mono ?_; rintro e wa ⟨gq, rfl, hgq, hb, hv3⟩; have h6 := Lib.hid (h5.out.trans hb); clear hb hgq; replace hv3 := Lib.hid hv3)
          | (go_at_call 16; refine (c_eqGrid _ _ a b xs wa (LiesB.val (LiesR.below hLx.out h6.out)) (LiesB.val hv3.out) hn').mono ?_; rintro e wb ⟨rfl, hb⟩; have h7 := Lib.hid (h6.out.trans hb); clear hb))
      have hb := h7.out
      replace ha := Lib.hid (ha.out.trans hb)
      replace hL0 := Lib.hid (LiesR.below hL0.out hb)
      replace hL1 := Lib.hid (LiesR.below hL1.out hb)
      replace hXx := Lib.hid (hXx.out.below hb)
      replace hLx := Lib.hid (LiesR.below hLx.out hb)
      replace hLy := Lib.hid (LiesR.below hLy.out hb)
      clear hb a0 a1 a2 x0 x1 x2 G1 h5 h6 h7 hv3
      go_wp2_with fail
      refine (kT.out _ ha.out).mono ?_
      rintro e w11 ⟨rfl, hb, hLz⟩
      replace hb : Stays wb w11 := hb
      replace ha := Lib.hid (ha.out.trans hb)
      replace hL0 := Lib.hid (LiesR.below hL0.out hb)
      replace hL1 := Lib.hid (LiesR.below hL1.out hb)
      replace hXx := Lib.hid (hXx.out.below hb)
      replace hLx := Lib.hid (LiesR.below hLx.out hb)
      replace hLy := Lib.hid (LiesR.below hLy.out hb)
      replace hLz := Lib.hid hLz
      clear hb
      go_wp2_with fail
      refine (c_eqSpotS _ _ _ _ rs w11 hLy.out.rows hLz.out.rows hm').mono ?_
      rintro e w12 ⟨rfl, hb⟩
      replace hb : Stays w11 w12 := hb
      replace ha := Lib.hid (ha.out.trans hb)
      replace hL0 := Lib.hid (LiesR.below hL0.out hb)
      replace hL1 := Lib.hid (LiesR.below hL1.out hb)
      replace hXx := Lib.hid (hXx.out.below hb)
      replace hLx := Lib.hid (LiesR.below hLx.out hb)
      replace hLy := Lib.hid (LiesR.below hLy.out hb)
      clear hb hLz
      obtain ⟨x0, x1, x2⟩ := hXx.out.cells
      go_wp2_with fail
      refine (c_markH (some ⟨gx, 0, none⟩) gx xs.length xs.length a b w12 (LiesB.at_ hLx.out) (LiesB.lt_ hLx.out) (LiesB.there hLx.out) hn').mono ?_
      rintro e w13 ⟨rfl, hm⟩
      have hlt1 := LiesL_lt hL1.out
      have hlty := LiesL_lt hLy.out
      replace ha := Lib.hid (show Stays W0 _ from Below.trans (show Below W0.heap.size W0 _ from ha.out) (hm.below W0.heap.size (fun _ => by have := o1.out; have := o3.out; omega) ha.out.size))
      replace hL0 := Lib.hid (LiesL_same hL0.out fun hx => hm.same g0 (fun _ => by have := o2.out (List.length_pos_iff.2 hx); have := o3.out; omega) (LiesL_lt hL0.out (List.length_pos_iff.2 hx)))
      replace hL1 := Lib.hid (LiesL_same hL1.out fun hx => hm.same g1 (fun h => by have := o4.out h; have := o5.out; have := o8.out; have := o9.out; omega) (hlt1 (List.length_pos_iff.2 hx)))
      replace hLy := Lib.hid (LiesL_same hLy.out fun hx => hm.same _ (fun h => by have := o4.out h; have := o5.out; omega) (hlty (List.length_pos_iff.2 hx)))
      clear hm hXx hLx x0 x1 x2 hlt1 hlty
      have hk0 : 0 ≤ (1 : Int) + (xs.length : Nat) ∧ (1 : Int) + (xs.length : Nat) ≤ 2000000 := by omega
      generalize (1 : Int) + (xs.length : Nat) = kx at hk0 ⊢
      go_wp2_with fail
      refine (c_markSpotS _ W6.heap.size rs.length rs.length kx w13 (LiesL_at hLy.out) (LiesL_there hLy.out) hm' hk0).mono ?_
      rintro e w14 ⟨rfl, hm⟩
      replace ha := Lib.hid (show Stays W0 _ from Below.trans (show Below W0.heap.size W0 _ from ha.out) (hm.below W0.heap.size (by have := o1.out; have := o6.out; have := o5.out; omega)))
      replace hL0 := Lib.hid (LiesL_same hL0.out fun hx => hm.same g0 (by have := o2.out (List.length_pos_iff.2 hx); have := o6.out; have := o5.out; omega))
      replace hL1 := Lib.hid (LiesL_same hL1.out fun hx => hm.same g1 (by have := o7.out (hXm.out (List.length_pos_iff.2 hx)); have := o9.out; omega))
      clear hm hLy
      have hk1 : ¬ (kx + 2 * (rs.length : Nat) < 0) := by omega
      generalize kx + 2 * (rs.length : Nat) = ky at hk1 ⊢
      go_wp2_with fail
      refine (c_eqSpotS _ _ _ _ XS w14 hL1.out.rows hL0.out.rows hXl).mono ?_
      rintro e w15 ⟨rfl, hb⟩
      replace hb : Stays w14 w15 := hb
      replace ha := Lib.hid (ha.out.trans hb)
      replace hL0 := Lib.hid (LiesR.below hL0.out hb)
      replace hL1 := Lib.hid (LiesR.below hL1.out hb)
      clear hb
      go_wp2_with fail
      refine (c_markSpotS A1 g1 c1 XS.length 1 w15 (LiesL_at hL1.out) (LiesL_there hL1.out) hXl (by omega)).mono ?_
      rintro e w16 ⟨rfl, hm⟩
      have hA1 := Lib.hid (LiesL_at hL1.out)
      replace ha := Lib.hid (show Stays W0 _ from Below.trans (show Below W0.heap.size W0 _ from ha.out) (hm.below W0.heap.size (by have := o1.out; have := o6.out; have := o5.out; have := o8.out; have := o9.out; omega)))
      replace hL0 := Lib.hid (LiesL_same hL0.out fun hx => hm.same g0 (by have := o2.out (List.length_pos_iff.2 hx); have := o6.out; have := o5.out; have := o8.out; have := o9.out; omega))
      have hM := Lib.hid hm.rows
      clear hm hL1
      have hk : ¬ ((1 : Int) + 2 * (XS.length : Nat) < 0) := by omega
      go_wp2_with fail
      refine (c_heldSpotS A1 g1 c1 XS.length 1 w16 hA1.out hM.out hXl (by omega)).mono ?_
      rintro e w17 ⟨rfl, rfl⟩
      generalize hkk : (1 : Int) + 2 * (XS.length : Nat) = kk at hk ⊢
      replace hkk := Lib.hid hkk
      obtain ⟨⟨⟨a0, a1, a2⟩, _⟩, _⟩ := HB.out _ ha.out
      go_wp2_with fail
      refine (kG.out _ ha.out).mono ?_
      rintro e w18 ⟨gu, rfl, _, hb, hLu⟩
      replace hb : Stays w16 w18 := hb
      replace ha := Lib.hid (ha.out.trans hb)
      replace hL0 := Lib.hid (LiesR.below hL0.out hb)
      replace hM := Lib.hid (rows_belowS hM.out hb)
      replace hLu := Lib.hid hLu
      clear hb a0 a1 a2
      go_wp2_with fail
      refine (kT.out _ ha.out).mono ?_
      rintro e w19 ⟨rfl, hb, hLw⟩
      replace hb : Stays w18 w19 := hb
      replace ha := Lib.hid (ha.out.trans hb)
      replace hL0 := Lib.hid (LiesR.below hL0.out hb)
      replace hM := Lib.hid (rows_belowS hM.out hb)
      replace hLu := Lib.hid (LiesR.below hLu.out hb)
      replace hLw := Lib.hid hLw
      clear hb
      go_wp2_with fail
      refine (kI.out _ _ w19 hLu.out.rows hLw.out.rows).mono ?_
      rintro e w20 ⟨v2, rfl, hgl, hb⟩
      obtain ⟨g2, hge2, hL2⟩ := GrowL.lies (K := KSpot) rfl hgl
      replace hL2 := Lib.hid hL2
      obtain ⟨A2, c2, rfl⟩ := hgl.form
      replace hb : Stays w19 w20 := hb
      replace ha := Lib.hid (ha.out.trans hb)
      replace hL0 := Lib.hid (LiesR.below hL0.out hb)
      replace hM := Lib.hid (rows_belowS hM.out hb)
      clear hb hgl hge2 hLu hLw
      go_wp2_with fail
      refine (c_eqSpotS _ _ _ _ XS w20 hL2.out.rows hL0.out.rows hXl).mono ?_
      rintro e w21 ⟨rfl, hb⟩
      replace hb : Stays w20 w21 := hb
      replace ha := Lib.hid (ha.out.trans hb)
      replace hM := Lib.hid (rows_belowS hM.out hb)
      clear hb hL0 hL2
      go_wp2_with fail
      refine (c_heldSpotS A1 g1 c1 XS.length 1 w21 hA1.out hM.out hXl (by omega)).mono ?_
      rintro e w22 ⟨rfl, rfl⟩
      rw [hkk.out]
      go_wp2
      go_ret
      exact ⟨rfl, (HB.out _ ha.out).1.2⟩

theorem c_lawShortenRoute {p : Prop} (v : Value) (a b : Int) (xs : List Int) (D : Option Addr) (d : Nat) (rs : List (List NV)) (w : World) (h : GdV w w.heap.size v a b xs) (hn : xs.length ≤ 9223372036854775807) (_ : p) (h2 : Ls KSpot 2 w w.heap.size D rs) (hm : rs.length ≤ 9223372036854775807) (hS : InS rs) :
    Calls Try.prog 8 #[v, .slice D rs.length d] w fun e w' => e = .returned (.bool true) ∧ Below w.heap.size w w' := c_lawSH v a b xs D d rs w h hn h2 hm hS
end Go.Proofs.Yteidjmliepmlmaa
