/- Mission: a number, a vector and two lists in a struct: counted, copied, compared, opened. No condition. -/
import Derived.Test.YtmcbeaihjdnelaaMsH
import Derived.Test.YtmcbeaihjdnelaaGLeg
import Derived.Lib.SmallJoins
namespace Go.Proofs.Ytmcbeaihjdnelaa
open Go Go.ChangeShapes Go.WideShapes Go.RowKit
set_option linter.unusedVariables false
set_option linter.unusedSimpArgs false

theorem c_szMission (a0 a1 a2 a3 : Value) (A A' : Option Addr) (c c' n m : Nat) (left : Int) (w : World) (hn : n ≤ 9223372036854775807) (hm : m ≤ 9223372036854775807) (h0 : 0 ≤ left) (h1 : left ≤ 1048576) :
    Calls Try.prog 43 #[.agg #[a0, a1, a2, a3, .slice A n c, .slice A' m c'], .int .i64 left] w fun e w' => e = .returned (.int .i64 (if left - n - m < 0 then -1 else left - n - m)) ∧ Below w.heap.size w w' := by
  have k1 := fun W => c_szVecS A c n left W hn h0 h1
  by_cases hl : left - (n : Int) < 0
  · have e1 : (if left - (n : Int) - (m : Int) < 0 then (-1 : Int) else left - n - m) = -1 := if_pos (by omega)
    rw [e1]
    simp only [if_pos hl] at k1
    have k1 := Lib.hid k1
    go_enter Try.func43, Try.ntmps43
    go_wp2_with (go_at_call 93; refine (k1.out _).mono ?_; rintro e w' ⟨rfl, rfl⟩)
    go_ret
    exact ⟨rfl, by first | exact Below.refl _ _ | exact (Below.refl _ _).alloc (Nat.le_refl _) _⟩
  · simp only [if_neg hl] at k1
    have k2 := fun W => c_szLegS A' c' m (left - n) W hm (by omega) (by omega)
    have hX : (if left - (n : Int) - (m : Int) < 0 then (-1 : Int) else left - n - m) = -1 ∨ 0 ≤ (if left - (n : Int) - (m : Int) < 0 then (-1 : Int) else left - n - m) := by split <;> omega
    generalize (if left - (n : Int) - (m : Int) < 0 then (-1 : Int) else left - n - m) = X at k2 hX ⊢
    generalize left - (n : Int) = Y at hl k1 k2
    have k1 := Lib.hid k1
    have k2 := Lib.hid k2
    rcases hX with rfl | hX
    all_goals
      go_enter Try.func43, Try.ntmps43
      go_wp2_with (first | (go_at_call 93; refine (k1.out _).mono ?_; rintro e w' ⟨rfl, rfl⟩) | (go_at_call 94; refine (k2.out _).mono ?_; rintro e w' ⟨rfl, rfl⟩))
      go_ret
      exact ⟨rfl, by first | exact Below.refl _ _ | exact (Below.refl _ _).alloc (Nat.le_refl _) _⟩

/-- Mission as a value: its head, and two lists that lie in memory. -/
structure MissionV (w : World) (B : Nat) (v : Value) (hd : List NV) (bs ls : List (List NV)) : Prop where
  val : ∃ r x y z A c A' c', v = .agg #[.int .i64 r, .float .f32 x, .float .f32 y, .float .f32 z, .slice A bs.length c, .slice A' ls.length c'] ∧ HdK r x y z hd ∧ Ls KVec 3 w B A bs ∧ Ls KLeg 6 w B A' ls

theorem MissionV.below {w w' : World} {B : Nat} {v : Value} {hd : List NV} {bs ls : List (List NV)} (h : MissionV w B v hd bs ls) (hb : Below B w w') : MissionV w' B v hd bs ls := by
  obtain ⟨r, x, y, z, A, c, A', c', e, hh, h1, h2⟩ := h.val
  exact ⟨r, x, y, z, A, c, A', c', e, hh, h1.below hb, h2.below hb⟩
theorem MissionV.more {w : World} {B B' : Nat} {v : Value} {hd : List NV} {bs ls : List (List NV)} (h : MissionV w B v hd bs ls) (hB : B ≤ B') : MissionV w B' v hd bs ls := by
  obtain ⟨r, x, y, z, A, c, A', c', e, hh, h1, h2⟩ := h.val
  exact ⟨r, x, y, z, A, c, A', c', e, hh, h1.more hB, h2.more hB⟩
theorem MissionV.on {w w' : World} {v : Value} {hd : List NV} {bs ls : List (List NV)} (h : MissionV w w.heap.size v hd bs ls) (hb : Below w.heap.size w w') : MissionV w' w'.heap.size v hd bs ls := (h.below hb).more hb.size

set_option maxRecDepth 100000 in
set_option maxHeartbeats 1600000 in
theorem c_eqMission (v v' : Value) (hd : List NV) (bs ls : List (List NV)) (w : World) (h : MissionV w w.heap.size v hd bs ls) (h' : MissionV w w.heap.size v' hd bs ls) (hn : bs.length ≤ 1048576) (hm : ls.length ≤ 1048576) :
    Calls Try.prog 48 #[v, v'] w fun e w' => e = .returned (.bool true) ∧ Below w.heap.size w w' := by
  obtain ⟨r, x, y, z, A, c, A', c', rfl, hh, h1, h2⟩ := h.val
  obtain ⟨r2, x2, y2, z2, D, d, D', d', rfl, hh', h3, h4⟩ := h'.val
  have er : r2 = r := hh'.r.trans hh.r.symm
  subst er
  generalize hc1 : (#[.int .i64 r2, .float .f32 x, .float .f32 y, .float .f32 z, .slice A bs.length c, .slice A' ls.length c'] : Array Value) = C1
  generalize hc2 : (#[.int .i64 r2, .float .f32 x2, .float .f32 y2, .float .f32 z2, .slice D bs.length d, .slice D' ls.length d'] : Array Value) = C2
  have u0 : ((w.alloc (.cells C1 99)).alloc (.cells C2 99)).heap[w.heap.size]? = some (.cells C1 99 (0, 0)) := by (repeat (first | (refine heap_top _ _ _ ?_; simp; done) | (with_reducible refine heap_drawn _ _ _ ?_) | (with_reducible refine heap_under _ _ _ ?_ ?_; (simp <;> omega))))
  have u1 : ((w.alloc (.cells C1 99)).alloc (.cells C2 99)).heap[w.heap.size + 1]? = some (.cells C2 99 (0, 0)) := by (repeat (first | (refine heap_top _ _ _ ?_; simp; done) | (with_reducible refine heap_drawn _ _ _ ?_) | (with_reducible refine heap_under _ _ _ ?_ ?_; (simp <;> omega))))
  have hA := Lib.hid fun w1 (h : Stays ((w.alloc (.cells C1 99)).alloc (.cells C2 99)) w1) => And.intro (row_of h u0) (row_of h u1)
  have hS : Stays ((w.alloc (.cells C1 99)).alloc (.cells C2 99)) ((w.alloc (.cells C1 99)).alloc (.cells C2 99)) := Stays.refl _
  have hW : Hid (∀ w1, Stays ((w.alloc (.cells C1 99)).alloc (.cells C2 99)) w1 → Below w.heap.size w w1) := Lib.hid fun w1 h => Stays.trans (show Stays w _ from (Stays.alloc (Stays.alloc (Stays.refl w) _) _)) h
  clear u0 u1
  subst hc1 hc2
  have k0 := Lib.hid fun W => c_eqVecG (.agg #[.float .f32 x, .float .f32 y, .float .f32 z]) (.agg #[.float .f32 x2, .float .f32 y2, .float .f32 z2]) (hd.drop 1) W hh.shm hh'.shm
  have k1 := Lib.hid fun W (hb : Below w.heap.size w W) => c_eqVecS A D c d bs W ((h1.below hb).more hb.size) ((h3.below hb).more hb.size) hn
  have k2 := Lib.hid fun W (hb : Below w.heap.size w W) => c_eqLegS A' D' c' d' ls W ((h2.below hb).more hb.size) ((h4.below hb).more hb.size) hm
  clear h1 h2 h3 h4 h h' hh hh'
  go_enter Try.func48, Try.ntmps48
  go_wp2_with (first
    | (go_at_call 16; refine (k0.out _).mono ?_; rintro e w1 ⟨rfl, hw1⟩; replace hS := Stays.trans (show Stays _ _ from by first | exact hS | exact hS.drewN _ | exact (hS.drewN _).drewN _) hw1; clear hw1; obtain ⟨hc, hc'⟩ := hA.out _ hS)
    | (go_at_call 47; refine (k1.out _ (hW.out _ hS)).mono ?_; rintro e w1 ⟨rfl, hw1⟩; replace hS := Stays.trans hS hw1; clear hw1 hc hc'; obtain ⟨hc, hc'⟩ := hA.out _ hS)
    | (go_at_call 104; refine (k2.out _ (hW.out _ hS)).mono ?_; rintro e w1 ⟨rfl, hw1⟩; replace hS := Stays.trans hS hw1; clear hw1))
  go_ret
  exact ⟨rfl, hW.out _ hS⟩

set_option maxRecDepth 100000 in
set_option maxHeartbeats 1600000 in
theorem c_toMission (v : Value) (hd : List NV) (bs ls : List (List NV)) (w : World) (h : MissionV w w.heap.size v hd bs ls) (hn : bs.length ≤ 1048576) (hm : ls.length ≤ 1048576) :
    Calls Try.prog 45 #[v] w fun e w' => ∃ v', e = .returned v' ∧ Below w.heap.size w w' ∧ MissionV w' w'.heap.size v' hd bs ls := by
  obtain ⟨r, x, y, z, A, c, A', c', rfl, hh, h1, h2⟩ := h.val
  have k0 := Lib.hid fun W => c_toVecG (.agg #[.float .f32 x, .float .f32 y, .float .f32 z]) (hd.drop 1) W hh.shm
  have k1 := Lib.hid fun W (hb : Below w.heap.size w W) => c_toVecS A c bs W ((h1.below hb).more hb.size) hn
  have k2 := Lib.hid fun W (hb : Below w.heap.size w W) => c_toLegS A' c' ls W ((h2.below hb).more hb.size) hm
  have hr := Lib.hid hh.r
  clear h1 h2 h hh
  have E := Lib.hid (show Bx w (((w.alloc (.cells #[.int .i64 r, .float .f32 x, .float .f32 y, .float .f32 z, .slice A bs.length c, .slice A' ls.length c'] 92)).alloc (.cells #[.int .i64 0, .float .f32 0, .float .f32 0, .float .f32 0, .slice none 0 0, .slice none 0 0] 99)).alloc (.cells #[.int .i64 r, .float .f32 0, .float .f32 0, .float .f32 0, .slice none 0 0, .slice none 0 0] 99)) #[.int .i64 r, .float .f32 x, .float .f32 y, .float .f32 z, .slice A bs.length c, .slice A' ls.length c'] #[.int .i64 0, .float .f32 0, .float .f32 0, .float .f32 0, .slice none 0 0, .slice none 0 0] #[.int .i64 r, .float .f32 0, .float .f32 0, .float .f32 0, .slice none 0 0, .slice none 0 0] 92 99 99 from ⟨by (repeat (first | (refine heap_top _ _ _ ?_; simp; done) | (with_reducible refine heap_drawn _ _ _ ?_) | (with_reducible refine heap_under _ _ _ ?_ ?_; (simp <;> omega)))), by (repeat (first | (refine heap_top _ _ _ ?_; simp; done) | (with_reducible refine heap_drawn _ _ _ ?_) | (with_reducible refine heap_under _ _ _ ?_ ?_; (simp <;> omega)))), by (repeat (first | (refine heap_top _ _ _ ?_; simp; done) | (with_reducible refine heap_drawn _ _ _ ?_) | (with_reducible refine heap_under _ _ _ ?_ ?_; (simp <;> omega)))), by simp, show Stays w _ from by (repeat (first | exact Stays.refl _ | (with_reducible refine Stays.drewN ?_ _) | (with_reducible refine Stays.alloc ?_ _) | (with_reducible refine Stays.drew ?_) | (refine Stays.trans ?_ ‹Stays _ _›)))⟩)
  go_enter Try.func45, Try.ntmps45
  go_wp2_with fail
  generalize (((w.alloc (.cells #[.int .i64 r, .float .f32 x, .float .f32 y, .float .f32 z, .slice A bs.length c, .slice A' ls.length c'] 92)).alloc (.cells #[.int .i64 0, .float .f32 0, .float .f32 0, .float .f32 0, .slice none 0 0, .slice none 0 0] 99)).alloc (.cells #[.int .i64 r, .float .f32 0, .float .f32 0, .float .f32 0, .slice none 0 0, .slice none 0 0] 99)) = W0 at E ⊢
  refine (k0.out _).mono ?_
  rintro e w1 ⟨cs, rfl, hcs, hp⟩
  replace E := Lib.hid (E.out.grow hp)
  clear hp
  obtain ⟨x1, y1, z1, ecs⟩ := vec_cells hcs
  have hh1 : Hid (HdK r x1 y1 z1 hd) := by rw [ecs] at hcs; exact Lib.hid ⟨hr.out, ⟨_, rfl, hcs⟩⟩
  obtain ⟨W2, hrun, E2⟩ := E.out.store hcs 1 (by rw [ecs]; simp)
  rw [ecs] at E2
  replace E2 := Lib.hid E2
  have hsz : cs.size = 3 := KMs_len hcs
  clear ecs
  have hc4 : W2.cell? ⟨w.heap.size, 4, none⟩ = some (.slice A bs.length c) := E2.out.cell0 4
  clear hcs E k0
  go_wp2_with fail
  clear hrun hc4
  refine (k1.out _ E2.out.below).mono ?_
  rintro e w3 ⟨rfl, hp⟩
  replace hp := Lib.hid hp
  have E3 := Lib.hid (E2.out.grow hp.out.below)
  generalize hg1 : W2.heap.size = g1 at hp ⊢
  have hL := hp.out.lies
  have hlt := hp.out.lt
  rw [hg1] at hL hlt
  have hge : Hid (w.heap.size + 3 ≤ g1) := Lib.hid (by have := E2.out.size; omega)
  clear hp hg1 E2
  have c0 : w3.cell? ⟨w.heap.size + 1 + 1, 4, none⟩ = some (.slice none 0 0) := E3.out.cell2 4
  have d0 : w3.frozen? ⟨w.heap.size + 1 + 1, 4, none⟩ = false := E3.out.froz2 4
  have E4 := Lib.hid (E3.out.set 4 (.slice (some ⟨g1, 0, none⟩) bs.length bs.length))
  have hc5 : (w3.setCell ⟨w.heap.size + 1 + 1, 4, none⟩ (.slice (some ⟨g1, 0, none⟩) bs.length bs.length)).cell? ⟨w.heap.size, 5, none⟩ = some (.slice A' ls.length c') := E4.out.cell0 5
  replace hL := Lib.hid (hL.on fun _ => same_sets (w.heap.size + 1 + 1) g1 4 [.slice (some ⟨g1, 0, none⟩) bs.length bs.length] w3 (by have := hge.out; omega))
  change Hid (LiesL KVec 3 (w3.setCell ⟨w.heap.size + 1 + 1, 4, none⟩ (.slice (some ⟨g1, 0, none⟩) bs.length bs.length)) g1 _ bs) at hL
  replace hlt := Lib.hid (show g1 < (w3.setCell ⟨w.heap.size + 1 + 1, 4, none⟩ (.slice (some ⟨g1, 0, none⟩) bs.length bs.length)).heap.size from by simp [World.setCell]; exact hlt)
  clear E3
  go_wp2_with fail
  clear c0 d0 hc5
  generalize (w3.setCell ⟨w.heap.size + 1 + 1, 4, none⟩ (.slice (some ⟨g1, 0, none⟩) bs.length bs.length)) = W4 at E4 hL hlt ⊢
  refine (k2.out _ E4.out.below).mono ?_
  rintro e w5 ⟨rfl, hp⟩
  replace hp := Lib.hid hp
  have E5 := Lib.hid (E4.out.grow hp.out.below)
  replace hL := Lib.hid (hL.out.below hp.out.below)
  generalize hg2 : W4.heap.size = g2 at hp ⊢
  have hL2 := hp.out.lies
  have hlt2 := hp.out.lt
  rw [hg2] at hL2 hlt2
  have hge2 : Hid (w.heap.size + 3 ≤ g2) := Lib.hid (by have := E4.out.size; omega)
  clear hp hg2 E4 hlt
  have c0 : w5.cell? ⟨w.heap.size + 1 + 1, 5, none⟩ = some (.slice none 0 0) := E5.out.cell2 5
  have d0 : w5.frozen? ⟨w.heap.size + 1 + 1, 5, none⟩ = false := E5.out.froz2 5
  have E6 := E5.out.set 5 (.slice (some ⟨g2, 0, none⟩) ls.length ls.length)
  replace hL2 := Lib.hid (hL2.on fun _ => same_sets (w.heap.size + 1 + 1) g2 5 [.slice (some ⟨g2, 0, none⟩) ls.length ls.length] w5 (by have := hge2.out; omega))
  replace hL := Lib.hid (hL.out.on fun _ => same_sets (w.heap.size + 1 + 1) g1 5 [.slice (some ⟨g2, 0, none⟩) ls.length ls.length] w5 (by have := hge.out; omega))
  change Hid (LiesL KLeg 6 (w5.setCell ⟨w.heap.size + 1 + 1, 5, none⟩ (.slice (some ⟨g2, 0, none⟩) ls.length ls.length)) g2 _ ls) at hL2
  change Hid (LiesL KVec 3 (w5.setCell ⟨w.heap.size + 1 + 1, 5, none⟩ (.slice (some ⟨g2, 0, none⟩) ls.length ls.length)) g1 _ bs) at hL
  have hres := E6.h1
  have hst : Stays w (w5.setCell ⟨w.heap.size + 1 + 1, 5, none⟩ (.slice (some ⟨g2, 0, none⟩) ls.length ls.length)) := E6.below
  have f0 : (w5.setCell ⟨w.heap.size + 1 + 1, 5, none⟩ (.slice (some ⟨g2, 0, none⟩) ls.length ls.length)).cell? ⟨w.heap.size + 1 + 1, 0, none⟩ = some (.int .i64 r) := E6.cell2 0
  have f1 : (w5.setCell ⟨w.heap.size + 1 + 1, 5, none⟩ (.slice (some ⟨g2, 0, none⟩) ls.length ls.length)).cell? ⟨w.heap.size + 1 + 1, 1, none⟩ = some (.float .f32 x1) := E6.cell2 1
  have f2 : (w5.setCell ⟨w.heap.size + 1 + 1, 5, none⟩ (.slice (some ⟨g2, 0, none⟩) ls.length ls.length)).cell? ⟨w.heap.size + 1 + 1, 2, none⟩ = some (.float .f32 y1) := E6.cell2 2
  have f3 : (w5.setCell ⟨w.heap.size + 1 + 1, 5, none⟩ (.slice (some ⟨g2, 0, none⟩) ls.length ls.length)).cell? ⟨w.heap.size + 1 + 1, 3, none⟩ = some (.float .f32 z1) := E6.cell2 3
  have f4 : (w5.setCell ⟨w.heap.size + 1 + 1, 5, none⟩ (.slice (some ⟨g2, 0, none⟩) ls.length ls.length)).cell? ⟨w.heap.size + 1 + 1, 4, none⟩ = some (.slice (some ⟨g1, 0, none⟩) bs.length bs.length) := E6.cell2 4
  have f5 : (w5.setCell ⟨w.heap.size + 1 + 1, 5, none⟩ (.slice (some ⟨g2, 0, none⟩) ls.length ls.length)).cell? ⟨w.heap.size + 1 + 1, 5, none⟩ = some (.slice (some ⟨g2, 0, none⟩) ls.length ls.length) := E6.cell2 5
  clear E5 E6
  go_wp2_with (refine wpList_store_row rfl _ _ _ rfl _ _ _ rfl rfl hres ?hi ?ho ?h1 ?hB hst ?_; (case hi => kernel_rfl); (case ho => rfl); (case h1 => first | rfl | simp [Value.oneCell']); (case hB => first | omega | (simp <;> omega)); intro w2 hw2 hq2 hother hsame)
  go_wp2
  apply end_agg rfl rfl rfl Try.underlying99 rfl (t := 99)
  case hg => exact hq2
  case hi => kernel_rfl
  case hR =>
    have hp1 : g1 ≠ w.heap.size + 1 := by have := hge.out; omega
    have hp2 : g2 ≠ w.heap.size + 1 := by have := hge2.out; omega
    refine ⟨_, rfl, hw2, ?_⟩
    exact ⟨r, x1, y1, z1, _, _, _, _, rfl, hh1.out, (hL.out.on fun h => same_block (hother g1 h hp1) (by omega)).rows, (hL2.out.on fun h => same_block (hother g2 h hp2) (by omega)).rows⟩

/-- In a box. -/
theorem boxMission (t : TypeId) {w : World} {v : Value} {hd : List NV} {bs ls : List (List NV)} (h : MissionV w w.heap.size v hd bs ls) : ∃ r x y z A c A' c', v = .agg #[.int .i64 r, .float .f32 x, .float .f32 y, .float .f32 z, .slice A bs.length c, .slice A' ls.length c'] ∧
    ∀ w1, Stays (w.alloc (.cells #[.int .i64 r, .float .f32 x, .float .f32 y, .float .f32 z, .slice A bs.length c, .slice A' ls.length c'] t)) w1 → (∀ i, w1.cell? ⟨w.heap.size, i, none⟩ = (#[.int .i64 r, .float .f32 x, .float .f32 y, .float .f32 z, .slice A bs.length c, .slice A' ls.length c'] : Array Value)[i]?) ∧ Stays w w1 ∧ MissionV w1 w1.heap.size (.agg #[.int .i64 r, .float .f32 x, .float .f32 y, .float .f32 z, .slice A bs.length c, .slice A' ls.length c']) hd bs ls := by
  obtain ⟨r, x, y, z, A, c, A', c', rfl, hh, h1, h2⟩ := h.val
  refine ⟨r, x, y, z, A, c, A', c', rfl, fun w1 hb => ?_⟩
  have hb' : Stays w w1 := Stays.trans (show Stays w _ from by (repeat (first | exact Stays.refl _ | (with_reducible refine Stays.drewN ?_ _) | (with_reducible refine Stays.alloc ?_ _) | (with_reducible refine Stays.drew ?_) | (refine Stays.trans ?_ ‹Stays _ _›)))) hb
  exact ⟨row_of hb (heap_alloc_new w _), hb', h.on hb'⟩

theorem infoF_Mission : (Try.prog.cellsOf 2, Try.prog.cellsOf 23, Try.prog.cellsOf 89, Try.prog.cellsOf 90, Try.prog.cellsOf 92) = (1, 3, 1, 1, 6) := by kernel_rfl

theorem array6 {α : Type} {cs : Array α} (h : cs.size = 6) : ∃ c0 c1 c2 c3 c4 c5, cs = #[c0, c1, c2, c3, c4, c5] := by
  obtain ⟨l⟩ := cs
  match l, h with
  | [c0, c1, c2, c3, c4, c5], _ => exact ⟨c0, c1, c2, c3, c4, c5, rfl⟩

set_option maxRecDepth 100000 in
theorem openMission {H : Type} {enc : TypeId × Value → H} {w : World} {held : Bool} {r : Reach} {b0 : Nat} {v : Value} {d : DataW H} {p : List MemPlace} (hval : Value.okWide Try.prog w r b0 92 v)
    (h : DataW.Trod enc Try.prog w 0 (fun _ => true) held 92 v d p) : ∃ hd bs ls, MissionV w w.heap.size v hd bs ls ∧ bs.length ≤ 9223372036854775807 ∧ ls.length ≤ 9223372036854775807 := by
  have hI := infoF_Mission
  simp only [Prod.mk.injEq] at hI
  obtain ⟨i0, i1, i2, i3, i4⟩ := hI
  obtain ⟨cs, rfl, hsz⟩ := okWide_struct Try.underlying92 hval
  obtain ⟨c0, c1, c2, c3, c4, c5, rfl⟩ := array6 (hsz.trans i4)
  obtain ⟨fuel, hf⟩ := h
  obtain ⟨y0, y1, y2, y3, n, hx, _, h0, h1, h2, h3⟩ := Joins.trod_struct4 Try.underlying92 hf
  simp only [i0, i1, i2, i3] at h0 h1 h2 h3
  obtain ⟨n0, k0, _⟩ := trod_scal 12 2 [.i .i64] n [c0] y0 (by kernel_rfl) h0
  obtain ⟨n1, k1, _⟩ := trod_scal 12 23 KVec n [c1, c2, c3] y1 (by kernel_rfl) h1
  obtain ⟨A, bs, c, e0, l0, b0⟩ := trod_rows (K := KVec) Try.underlying89 rfl (by decide) (by kernel_rfl) (by kernel_rfl) h2
  obtain ⟨A', ls, c', e1, l1, b1⟩ := trod_rows (K := KLeg) Try.underlying90 rfl (by decide) (by kernel_rfl) (by kernel_rfl) h3
  have e0 : [c4] = [Value.slice A bs.length c] := e0
  have e1 : [c5] = [Value.slice A' ls.length c'] := e1
  cases e0
  cases e1
  have kk : KMs (.i .i64 :: KVec) [c0, c1, c2, c3] (n0 ++ n1) := by
    match n0, k0 with
    | [a], ⟨ha, _⟩ => exact ⟨ha, k1⟩
  obtain ⟨r, x, y, z, e, hh⟩ := HdK.of kk
  cases e
  exact ⟨_, bs, ls, ⟨r, x, y, z, A, c, A', c', rfl, hh, l0, l1⟩, b0, b1⟩
end Go.Proofs.Ytmcbeaihjdnelaa
