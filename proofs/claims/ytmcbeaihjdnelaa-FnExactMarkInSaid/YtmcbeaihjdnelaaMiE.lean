/- The law on the mark of a cell. No condition. -/
import Derived.Test.YtmcbeaihjdnelaaMiD
import Derived.Test.YtmcbeaihjdnelaaGz
import Derived.Deep.RegionHeld
import Derived.Deep.CutRange
namespace Go.Proofs.Ytmcbeaihjdnelaa
open Go Go.ChangeShapes Go.WideShapes Go.RowKit
set_option linter.unusedVariables false
set_option linter.unusedSimpArgs false

/-- A box for a mark that is still empty. -/
structure ZM (w : World) (B p : Nat) : Prop where
  ge : B ≤ p
  row : w.heap[p]? = some (.cells #[.int .i32 0, .int .i32 0, .int .i32 0, .float .f32 0, .float .f32 0, .float .f32 0, .float .f32 0, .int .i64 0, .int .i64 0] 45 (0, 0))
theorem ZM.new {B : Nat} (w : World) (h : B ≤ w.heap.size) : ZM (w.alloc (.cells #[.int .i32 0, .int .i32 0, .int .i32 0, .float .f32 0, .float .f32 0, .float .f32 0, .float .f32 0, .int .i64 0, .int .i64 0] 45)) B w.heap.size := ⟨h, heap_alloc_new w _⟩
theorem ZM.newD (w : World) : ZM (w.drew.alloc (.cells #[.int .i32 0, .int .i32 0, .int .i32 0, .float .f32 0, .float .f32 0, .float .f32 0, .float .f32 0, .int .i64 0, .int .i64 0] 45)) w.heap.size w.heap.size := ZM.new w.drew (Nat.le_refl _)
theorem ZM.below {w w' : World} {B p : Nat} (h : ZM w B p) (hb : Stays w w') : ZM w' B p := ⟨h.ge, (Below.block hb _ (in_heap h.row)).trans h.row⟩
theorem ZM.cells {w : World} {B p : Nat} (h : ZM w B p) : (w.cell? ⟨p, 0, none⟩ = some (.int .i32 0) ∧ w.cell? ⟨p, 1, none⟩ = some (.int .i32 0) ∧ w.cell? ⟨p, 2, none⟩ = some (.int .i32 0) ∧ w.cell? ⟨p, 3, none⟩ = some (.float .f32 0) ∧ w.cell? ⟨p, 4, none⟩ = some (.float .f32 0) ∧ w.cell? ⟨p, 5, none⟩ = some (.float .f32 0) ∧ w.cell? ⟨p, 6, none⟩ = some (.float .f32 0) ∧ w.cell? ⟨p, 7, none⟩ = some (.int .i64 0) ∧ w.cell? ⟨p, 8, none⟩ = some (.int .i64 0)) ∧ (w.frozen? ⟨p, 0, none⟩ = false ∧ w.frozen? ⟨p, 1, none⟩ = false ∧ w.frozen? ⟨p, 2, none⟩ = false ∧ w.frozen? ⟨p, 3, none⟩ = false ∧ w.frozen? ⟨p, 4, none⟩ = false ∧ w.frozen? ⟨p, 5, none⟩ = false ∧ w.frozen? ⟨p, 6, none⟩ = false ∧ w.frozen? ⟨p, 7, none⟩ = false ∧ w.frozen? ⟨p, 8, none⟩ = false) :=
  ⟨⟨cell_of_row _ _ _ _ _ _ h.row, cell_of_row _ _ _ _ _ _ h.row, cell_of_row _ _ _ _ _ _ h.row, cell_of_row _ _ _ _ _ _ h.row, cell_of_row _ _ _ _ _ _ h.row, cell_of_row _ _ _ _ _ _ h.row, cell_of_row _ _ _ _ _ _ h.row, cell_of_row _ _ _ _ _ _ h.row, cell_of_row _ _ _ _ _ _ h.row⟩, frozen_of_row _ _ _ _ _ h.row, frozen_of_row _ _ _ _ _ h.row, frozen_of_row _ _ _ _ _ h.row, frozen_of_row _ _ _ _ _ h.row, frozen_of_row _ _ _ _ _ h.row, frozen_of_row _ _ _ _ _ h.row, frozen_of_row _ _ _ _ _ h.row, frozen_of_row _ _ _ _ _ h.row, frozen_of_row _ _ _ _ _ h.row⟩
def MadeM (W : World) (code : Int) (m : Mk) (s t : Value) (w : World) : Prop := ∃ p ra rb rc rd, s = .pointer (some ⟨p, 0, none⟩) ∧ t = .int .i64 code ∧ W.heap.size ≤ p ∧ w.heap[p]? = some (.cells #[.int .i32 m.x, .int .i32 m.y, .int .i32 m.z, .float .f32 ra, .float .f32 rb, .float .f32 rc, .float .f32 rd, .int .i64 m.s, .int .i64 m.l] 45 (0, 0)) ∧ (FIs .f32 ra m.a ∧ FIs .f32 rb m.b ∧ FIs .f32 rc m.c ∧ FIs .f32 rd m.d) ∧ Stays W w
theorem MadeM.alloc {W w : World} {m : Mk} {ra rb rc rd : Nat} (code : Int) (h : Stays W w) (hf : (FIs .f32 ra m.a ∧ FIs .f32 rb m.b ∧ FIs .f32 rc m.c ∧ FIs .f32 rd m.d)) : MadeM W code m (.pointer (some ⟨w.heap.size, 0, none⟩)) (.int .i64 code) (w.alloc (.cells #[.int .i32 m.x, .int .i32 m.y, .int .i32 m.z, .float .f32 ra, .float .f32 rb, .float .f32 rc, .float .f32 rd, .int .i64 m.s, .int .i64 m.l] 45)) :=
  ⟨_, ra, rb, rc, rd, rfl, rfl, h.size, heap_alloc_new w _, hf, h.trans (by (repeat (first | exact Stays.refl _ | (with_reducible refine Stays.drewN ?_ _) | (with_reducible refine Stays.alloc ?_ _) | (with_reducible refine Stays.drew ?_) | (refine Stays.trans ?_ ‹Stays _ _›))))⟩
set_option maxHeartbeats 2000000 in
theorem ZM.stays {W w : World} {p : Nat} (h : Stays W w) (hz : ZM w W.heap.size p) (m : Mk) (ra rb rc rd : Nat) : Stays W (((((((((w.setCell ⟨p, 0, none⟩ (.int .i32 m.x)).setCell ⟨p, 1, none⟩ (.int .i32 m.y)).setCell ⟨p, 2, none⟩ (.int .i32 m.z)).setCell ⟨p, 3, none⟩ (.float .f32 ra)).setCell ⟨p, 4, none⟩ (.float .f32 rb)).setCell ⟨p, 5, none⟩ (.float .f32 rc)).setCell ⟨p, 6, none⟩ (.float .f32 rd)).setCell ⟨p, 7, none⟩ (.int .i64 m.s)).setCell ⟨p, 8, none⟩ (.int .i64 m.l)) :=
  (Below.setCell (Below.setCell (Below.setCell (Below.setCell (Below.setCell (Below.setCell (Below.setCell (Below.setCell (Below.setCell (show Below W.heap.size W w from h) hz.ge _) hz.ge _) hz.ge _) hz.ge _) hz.ge _) hz.ge _) hz.ge _) hz.ge _) hz.ge _)
set_option maxHeartbeats 2000000 in
theorem MadeM.sets {W w : World} {m : Mk} {p ra rb rc rd : Nat} (code : Int) (h : Stays W w) (hz : ZM w W.heap.size p) (hf : (FIs .f32 ra m.a ∧ FIs .f32 rb m.b ∧ FIs .f32 rc m.c ∧ FIs .f32 rd m.d)) : MadeM W code m (.pointer (some ⟨p, 0, none⟩)) (.int .i64 code) (((((((((w.setCell ⟨p, 0, none⟩ (.int .i32 m.x)).setCell ⟨p, 1, none⟩ (.int .i32 m.y)).setCell ⟨p, 2, none⟩ (.int .i32 m.z)).setCell ⟨p, 3, none⟩ (.float .f32 ra)).setCell ⟨p, 4, none⟩ (.float .f32 rb)).setCell ⟨p, 5, none⟩ (.float .f32 rc)).setCell ⟨p, 6, none⟩ (.float .f32 rd)).setCell ⟨p, 7, none⟩ (.int .i64 m.s)).setCell ⟨p, 8, none⟩ (.int .i64 m.l)) := by
  have m1 : (w.setCell ⟨p, 0, none⟩ (.int .i32 m.x)).heap[p]? = some (.cells #[.int .i32 m.x, .int .i32 0, .int .i32 0, .float .f32 0, .float .f32 0, .float .f32 0, .float .f32 0, .int .i64 0, .int .i64 0] 45 (0, 0)) := heap_setCell_same _ p 0 _ _ (.int .i32 m.x) hz.row
  have m2 : ((w.setCell ⟨p, 0, none⟩ (.int .i32 m.x)).setCell ⟨p, 1, none⟩ (.int .i32 m.y)).heap[p]? = some (.cells #[.int .i32 m.x, .int .i32 m.y, .int .i32 0, .float .f32 0, .float .f32 0, .float .f32 0, .float .f32 0, .int .i64 0, .int .i64 0] 45 (0, 0)) := heap_setCell_same _ p 1 _ _ (.int .i32 m.y) m1
  have m3 : (((w.setCell ⟨p, 0, none⟩ (.int .i32 m.x)).setCell ⟨p, 1, none⟩ (.int .i32 m.y)).setCell ⟨p, 2, none⟩ (.int .i32 m.z)).heap[p]? = some (.cells #[.int .i32 m.x, .int .i32 m.y, .int .i32 m.z, .float .f32 0, .float .f32 0, .float .f32 0, .float .f32 0, .int .i64 0, .int .i64 0] 45 (0, 0)) := heap_setCell_same _ p 2 _ _ (.int .i32 m.z) m2
  have m4 : ((((w.setCell ⟨p, 0, none⟩ (.int .i32 m.x)).setCell ⟨p, 1, none⟩ (.int .i32 m.y)).setCell ⟨p, 2, none⟩ (.int .i32 m.z)).setCell ⟨p, 3, none⟩ (.float .f32 ra)).heap[p]? = some (.cells #[.int .i32 m.x, .int .i32 m.y, .int .i32 m.z, .float .f32 ra, .float .f32 0, .float .f32 0, .float .f32 0, .int .i64 0, .int .i64 0] 45 (0, 0)) := heap_setCell_same _ p 3 _ _ (.float .f32 ra) m3
  have m5 : (((((w.setCell ⟨p, 0, none⟩ (.int .i32 m.x)).setCell ⟨p, 1, none⟩ (.int .i32 m.y)).setCell ⟨p, 2, none⟩ (.int .i32 m.z)).setCell ⟨p, 3, none⟩ (.float .f32 ra)).setCell ⟨p, 4, none⟩ (.float .f32 rb)).heap[p]? = some (.cells #[.int .i32 m.x, .int .i32 m.y, .int .i32 m.z, .float .f32 ra, .float .f32 rb, .float .f32 0, .float .f32 0, .int .i64 0, .int .i64 0] 45 (0, 0)) := heap_setCell_same _ p 4 _ _ (.float .f32 rb) m4
  have m6 : ((((((w.setCell ⟨p, 0, none⟩ (.int .i32 m.x)).setCell ⟨p, 1, none⟩ (.int .i32 m.y)).setCell ⟨p, 2, none⟩ (.int .i32 m.z)).setCell ⟨p, 3, none⟩ (.float .f32 ra)).setCell ⟨p, 4, none⟩ (.float .f32 rb)).setCell ⟨p, 5, none⟩ (.float .f32 rc)).heap[p]? = some (.cells #[.int .i32 m.x, .int .i32 m.y, .int .i32 m.z, .float .f32 ra, .float .f32 rb, .float .f32 rc, .float .f32 0, .int .i64 0, .int .i64 0] 45 (0, 0)) := heap_setCell_same _ p 5 _ _ (.float .f32 rc) m5
  have m7 : (((((((w.setCell ⟨p, 0, none⟩ (.int .i32 m.x)).setCell ⟨p, 1, none⟩ (.int .i32 m.y)).setCell ⟨p, 2, none⟩ (.int .i32 m.z)).setCell ⟨p, 3, none⟩ (.float .f32 ra)).setCell ⟨p, 4, none⟩ (.float .f32 rb)).setCell ⟨p, 5, none⟩ (.float .f32 rc)).setCell ⟨p, 6, none⟩ (.float .f32 rd)).heap[p]? = some (.cells #[.int .i32 m.x, .int .i32 m.y, .int .i32 m.z, .float .f32 ra, .float .f32 rb, .float .f32 rc, .float .f32 rd, .int .i64 0, .int .i64 0] 45 (0, 0)) := heap_setCell_same _ p 6 _ _ (.float .f32 rd) m6
  have m8 : ((((((((w.setCell ⟨p, 0, none⟩ (.int .i32 m.x)).setCell ⟨p, 1, none⟩ (.int .i32 m.y)).setCell ⟨p, 2, none⟩ (.int .i32 m.z)).setCell ⟨p, 3, none⟩ (.float .f32 ra)).setCell ⟨p, 4, none⟩ (.float .f32 rb)).setCell ⟨p, 5, none⟩ (.float .f32 rc)).setCell ⟨p, 6, none⟩ (.float .f32 rd)).setCell ⟨p, 7, none⟩ (.int .i64 m.s)).heap[p]? = some (.cells #[.int .i32 m.x, .int .i32 m.y, .int .i32 m.z, .float .f32 ra, .float .f32 rb, .float .f32 rc, .float .f32 rd, .int .i64 m.s, .int .i64 0] 45 (0, 0)) := heap_setCell_same _ p 7 _ _ (.int .i64 m.s) m7
  have m9 : (((((((((w.setCell ⟨p, 0, none⟩ (.int .i32 m.x)).setCell ⟨p, 1, none⟩ (.int .i32 m.y)).setCell ⟨p, 2, none⟩ (.int .i32 m.z)).setCell ⟨p, 3, none⟩ (.float .f32 ra)).setCell ⟨p, 4, none⟩ (.float .f32 rb)).setCell ⟨p, 5, none⟩ (.float .f32 rc)).setCell ⟨p, 6, none⟩ (.float .f32 rd)).setCell ⟨p, 7, none⟩ (.int .i64 m.s)).setCell ⟨p, 8, none⟩ (.int .i64 m.l)).heap[p]? = some (.cells #[.int .i32 m.x, .int .i32 m.y, .int .i32 m.z, .float .f32 ra, .float .f32 rb, .float .f32 rc, .float .f32 rd, .int .i64 m.s, .int .i64 m.l] 45 (0, 0)) := heap_setCell_same _ p 8 _ _ (.int .i64 m.l) m8
  exact ⟨p, ra, rb, rc, rd, rfl, rfl, hz.ge, m9, hf, hz.stays h m ra rb rc rd⟩

noncomputable def wkPl : DT (SV × St) := callDT tb ftab otb 60 40 0 24 [inSh 0 (.agg plK)] ⟨.nil, [], []⟩
noncomputable def nsPl : List Df := wkPl.gather []
theorem wfPl : wfT (withIds nsPl) [] = true := by kernel_rfl
theorem chPl : wkPl.chk nsPl [] (endIs (.agg (inKs 0 plK))) = true := by kernel_rfl
theorem c_toPlaceV (px py pz : Int) (w : World) : Calls Try.prog 24 #[.agg #[.int .i32 px, .int .i32 py, .int .i32 pz]] w fun e w' => e = .returned (.agg #[.int .i32 px, .int .i32 py, .int .i32 pz]) ∧ Stays w w' := by
  have h : ShM (.agg plK) (.agg #[.int .i32 px, .int .i32 py, .int .i32 pz]) [.i px, .i py, .i pz] := ⟨_, rfl, rfl, rfl, rfl, trivial⟩
  refine (walk_args (args := [inSh 0 (.agg plK)]) (vs := #[.agg #[.int .i32 px, .int .i32 py, .int .i32 pz]]) (ins := [.i px, .i py, .i pz]) (r := .agg (inKs 0 plK)) tb_ok mixed ftab_ok (otb_ok baseΦ_ok) wfPl chPl (by kernel_rfl) ⟨inSh_ok h fun j hj => ins_at (by simp) j hj, trivial⟩).mono ?_
  rintro e w' ⟨v', γ, rfl, ⟨cs, rfl, hm⟩, hs⟩
  have hk := KMs_back hm rfl fun j hj => ins_at (by simp) j hj
  refine ⟨?_, hs⟩
  obtain ⟨l⟩ := cs
  match l, hk with
  | [a, b, c], ⟨h1, h2, h3, _⟩ => cases h1; cases h2; cases h3; rfl

set_option maxRecDepth 100000 in
set_option maxHeartbeats 4000000 in
theorem c_lawMarkIn (v : Value) (o : Option Nat) (xs : List Mk) (px py pz : Int) (w : World) (h : MpV w w.heap.size v o xs) (hn : xs.length ≤ 9223372036854775807) :
    Calls Try.prog 5 #[v, .agg #[.int .i32 px, .int .i32 py, .int .i32 pz]] w fun e w' => e = .returned (.bool true) ∧ Below w.heap.size w w' := by
  obtain ⟨s, A, c, rfl, _, HB0⟩ := boxMp 50 h
  clear h
  have hsP : Stays (w.alloc (.cells #[.float .f32 s, .slice A xs.length c] 50)) ((w.alloc (.cells #[.float .f32 s, .slice A xs.length c] 50)).alloc (.cells #[.int .i32 px, .int .i32 py, .int .i32 pz] 39)) := by (repeat (first | exact Stays.refl _ | (with_reducible refine Stays.drewN ?_ _) | (with_reducible refine Stays.alloc ?_ _) | (with_reducible refine Stays.drew ?_) | (refine Stays.trans ?_ ‹Stays _ _›)))
  have uP : ((w.alloc (.cells #[.float .f32 s, .slice A xs.length c] 50)).alloc (.cells #[.int .i32 px, .int .i32 py, .int .i32 pz] 39)).heap[w.heap.size + 1]? = some (.cells #[.int .i32 px, .int .i32 py, .int .i32 pz] 39 (0, 0)) := by (repeat (first | (refine heap_top _ _ _ ?_; simp; done) | (with_reducible refine heap_drawn _ _ _ ?_) | (with_reducible refine heap_under _ _ _ ?_ ?_; (simp <;> omega))))
  have HB := Lib.hid fun W (hW : Stays ((w.alloc (.cells #[.float .f32 s, .slice A xs.length c] 50)).alloc (.cells #[.int .i32 px, .int .i32 py, .int .i32 pz] 39)) W) => show ((W.cell? ⟨w.heap.size, 0, none⟩ = some (.float .f32 s) ∧ W.cell? ⟨w.heap.size, 1, none⟩ = some (.slice A xs.length c)) ∧ (W.cell? ⟨w.heap.size + 1, 0, none⟩ = some (.int .i32 px) ∧ W.cell? ⟨w.heap.size + 1, 1, none⟩ = some (.int .i32 py) ∧ W.cell? ⟨w.heap.size + 1, 2, none⟩ = some (.int .i32 pz))) ∧ Below w.heap.size w W ∧ MpV W W.heap.size (.agg #[.float .f32 s, .slice A xs.length c]) o xs from
    ⟨⟨(HB0 W (hsP.trans hW)).1.1, row_of hW uP 0, row_of hW uP 1, row_of hW uP 2⟩, (HB0 W (hsP.trans hW)).1.2, (HB0 W (hsP.trans hW)).2⟩
  clear HB0 hsP uP
  have hsz := fun W => c_szLandMap (.float .f32 s) A c xs.length 1048576 W hn (by omega) (by omega)
  by_cases hl : (1048576 : Int) - xs.length < 0
  · simp only [if_pos hl] at hsz
    replace hsz := Lib.hid hsz
    obtain ⟨⟨⟨q0, q1⟩, q2, q3, q4⟩, _⟩ := HB.out _ (Stays.refl _)
    go_enter Try.func5, Try.ntmps5
    go_wp2_with fail
    refine (hsz.out _).mono ?_
    rintro e w1 ⟨rfl, hb⟩
    go_wp2
    go_ret
    exact ⟨rfl, (HB.out _ hb).2.1⟩
  · simp only [if_neg hl] at hsz
    have hn' : xs.length ≤ 1048576 := by omega
    have hX : ¬ ((1048576 : Int) - xs.length < 0) := hl
    generalize (1048576 : Int) - xs.length = X at hX hsz
    replace hsz := Lib.hid hsz
    have kS := Lib.hid fun v W h => c_specMarkIn v o xs px py pz W h hn'
    have kI := Lib.hid fun v W h => c_implMarkIn v o xs px py pz W h hn'
    have kA := Lib.hid fun W => c_toPlaceV px py pz W
    generalize miC o xs px py pz = code at kS kI
    generalize miM o xs px py pz = m at kS kI
    have hvv : (code != code) = false := by simp
    clear hl hn
    obtain ⟨⟨⟨q0, q1⟩, q2, q3, q4⟩, _⟩ := HB.out _ (Stays.refl _)
    go_enter Try.func5, Try.ntmps5
    go_wp2_with fail
    refine (hsz.out _).mono ?_
    rintro e w1 ⟨rfl, hb⟩
    have ha := Lib.hid (show Stays _ w1 from hb)
    clear hb q0 q1 q2 q3 q4
    generalize ((w.alloc (.cells #[.float .f32 s, .slice A xs.length c] 50)).alloc (.cells #[.int .i32 px, .int .i32 py, .int .i32 pz] 39)) = W0 at HB ha
    have kG := Lib.hid fun W (hW : Stays W0 W) => c_toMp _ o xs W (HB.out W hW).2.2 hn'
    go_upto_region 5 with fail
    go_cut [6, 7] from 16 to 23 (fun s6 s7 wx => MadeM w1 code m s6 s7 wx)
    case first =>
      have G1 : Hid (∀ w', Stays w1 w' → ((w'.cell? ⟨w.heap.size, 0, none⟩ = some (.float .f32 s) ∧ w'.cell? ⟨w.heap.size, 1, none⟩ = some (.slice A xs.length c)) ∧ (w'.cell? ⟨w.heap.size + 1, 0, none⟩ = some (.int .i32 px) ∧ w'.cell? ⟨w.heap.size + 1, 1, none⟩ = some (.int .i32 py) ∧ w'.cell? ⟨w.heap.size + 1, 2, none⟩ = some (.int .i32 pz)))) := Lib.hid fun w' h => (HB.out _ (ha.out.trans h)).1
      have h1 := Lib.hid (show Stays w1 w1.drew from (Stays.refl w1).drew)
      go_region_held (fun w' => ((w'.cell? ⟨w.heap.size, 0, none⟩ = some (.float .f32 s) ∧ w'.cell? ⟨w.heap.size, 1, none⟩ = some (.slice A xs.length c)) ∧ (w'.cell? ⟨w.heap.size + 1, 0, none⟩ = some (.int .i32 px) ∧ w'.cell? ⟨w.heap.size + 1, 1, none⟩ = some (.int .i32 py) ∧ w'.cell? ⟨w.heap.size + 1, 2, none⟩ = some (.int .i32 pz)))) (first | (with_reducible exact G1.out _ (ZM.stays h4.out hz.out _ _ _ _ _)) | (with_reducible exact G1.out _ ((Stays.refl w1).alloc _).drew) | (with_reducible exact G1.out _ h1.out) | (with_reducible exact G1.out _ h2.out) | (with_reducible exact G1.out _ h3.out) | (with_reducible exact G1.out _ h4.out) | (with_reducible exact G1.out _ (h1.out.alloc _)) | (with_reducible exact G1.out _ (h2.out.alloc _)) | (with_reducible exact G1.out _ (h3.out.alloc _)) | (with_reducible exact G1.out _ (h4.out.alloc _)))
        (first
          | (go_at_call 22; first | ((with_reducible refine (kS.out v1 _ hv1.out).mono ?_); rintro e w4 ⟨ja, jb, jc, jd, rfl, hf, hb⟩; have hF := Lib.hid hf; have h4 := Lib.hid (h3.out.trans hb); (try (replace hz := Lib.hid (hz.out.below hb); obtain ⟨⟨z0, z1, z2, z3, z4, z5, z6, z7, z8⟩, f0, f1, f2, f3, f4, f5, f6, f7, f8⟩ := hz.out.cells)); clear hb hf) | (have hq := Lib.hid (MpV.on hv1.out (show Below w3.heap.size w3 (w3.alloc (.cells #[.int .i32 0, .int .i32 0, .int .i32 0, .float .f32 0, .float .f32 0, .float .f32 0, .float .f32 0, .int .i64 0, .int .i64 0] 45)) from (Stays.refl w3).alloc _)); (with_reducible refine (kS.out v1 _ hq.out).mono ?_); rintro e w4 ⟨ja, jb, jc, jd, rfl, hf, hb⟩; have hF := Lib.hid hf; have hz := Lib.hid ((ZM.new (B := w1.heap.size) _ h3.out.size).below hb); obtain ⟨⟨z0, z1, z2, z3, z4, z5, z6, z7, z8⟩, f0, f1, f2, f3, f4, f5, f6, f7, f8⟩ := hz.out.cells; have h4 := Lib.hid ((h3.out.alloc _).trans hb); clear hb hf))
          | (go_at_call 24; first | ((with_reducible refine (kA.out _).mono ?_); rintro e w3 ⟨rfl, hb⟩; have h3 := Lib.hid (h2.out.trans hb); replace hv1 := Lib.hid (hv1.out.on hb); (try (replace hz := Lib.hid (hz.out.below hb))); clear hb) | ((with_reducible refine (kA.out _).mono ?_); rintro e w3 ⟨rfl, hb⟩; have hz := Lib.hid ((ZM.new (B := w1.heap.size) _ h2.out.size).below hb); have h3 := Lib.hid ((h2.out.alloc _).trans hb); replace hv1 := Lib.hid ((hv1.out.on ((Stays.refl _).alloc _)).on hb); clear hb))
          | (go_at_call 23; first | ((with_reducible refine (kG.out _ (ha.out.trans h1.out)).mono ?_); rintro e w2 ⟨v1, rfl, hb, hv1⟩; have h2 := Lib.hid (h1.out.trans hb); replace hv1 := Lib.hid hv1; (try (replace hz := Lib.hid (hz.out.below hb))); clear hb) | ((with_reducible refine (kG.out _ (ha.out.trans (h1.out.alloc _))).mono ?_); rintro e w2 ⟨v1, rfl, hb, hv1⟩; have hz := Lib.hid ((ZM.newD w1).below hb); have h2 := Lib.hid ((h1.out.alloc _).trans hb); replace hv1 := Lib.hid hv1; clear hb) | ((with_reducible refine (kG.out _ (ha.out.trans ((Stays.refl w1).alloc _).drew)).mono ?_); rintro e w2 ⟨v1, rfl, hb, hv1⟩; have hz := Lib.hid (((ZM.new (B := w1.heap.size) _ (Nat.le_refl _)).below (Stays.refl _).drew).below hb); have h2 := Lib.hid ((((Stays.refl w1).alloc _).drew).trans hb); replace hv1 := Lib.hid hv1; clear hb)))
      all_goals (go_wp2_with fail; go_meet; (first | (with_reducible exact MadeM.alloc code h4.out hF.out) | (with_reducible exact MadeM.sets code h4.out hz.out hF.out)))
    case rest =>
    obtain ⟨p0, xa, xb, xc, xd, rfl, rfl, hge0, hrow0, hfa, hs0⟩ := hcut
    rename World => w4
    have hb1 := Lib.hid (ha.out.trans hs0)
    replace hrow0 := Lib.hid hrow0
    replace hfa := Lib.hid hfa
    clear hs0 hge0 ha
    obtain ⟨⟨⟨q0, q1⟩, _⟩, _, hg⟩ := HB.out _ hb1.out
    replace hg := Lib.hid hg
    go_wp2_with fail
    refine (c_toLandMap _ o xs w4 hg.out hn').mono ?_
    rintro e w5 ⟨s2, g, rfl, hf2, _, hb, hl2⟩
    obtain ⟨s3, D, d, e, _, HX⟩ := boxMp 56 (show MpV w5 w5.heap.size (.agg #[.float .f32 s2, .slice (some ⟨g, 0, none⟩) xs.length xs.length]) o xs from ⟨s2, _, _, rfl, hf2, hl2.rows⟩)
    cases e
    replace HX := Lib.hid HX
    have hs5 : Stays w5 (w5.alloc (.cells #[.float .f32 s2, .slice (some ⟨g, 0, none⟩) xs.length xs.length] 56)) := by (repeat (first | exact Stays.refl _ | (with_reducible refine Stays.drewN ?_ _) | (with_reducible refine Stays.alloc ?_ _) | (with_reducible refine Stays.drew ?_) | (refine Stays.trans ?_ ‹Stays _ _›)))
    have hs45 := (show Stays w4 w5 from hb).trans hs5
    replace hb1 := Lib.hid (hb1.out.trans hs45)
    replace hrow0 := Lib.hid ((Below.block hs45 _ (in_heap hrow0.out)).trans hrow0.out)
    have hxx := Lib.hid (Stays.refl (w5.alloc (.cells #[.float .f32 s2, .slice (some ⟨g, 0, none⟩) xs.length xs.length] 56)))
    clear hb hl2 hf2 hs5 hs45 hg q0 q1
    go_upto_region 7 with fail
    generalize (w5.alloc (.cells #[.float .f32 s2, .slice (some ⟨g, 0, none⟩) xs.length xs.length] 56)) = WX at hb1 hrow0 HX hxx ⊢
    generalize w5.heap.size = px0 at HX ⊢
    go_cut [9, 10] from 26 to 32 (fun s6 s7 wx => MadeM WX code m s6 s7 wx)
    case first =>
      have G1 : Hid (∀ w', Stays WX w' → ((w'.cell? ⟨px0, 0, none⟩ = some (.float .f32 s2) ∧ w'.cell? ⟨px0, 1, none⟩ = some (.slice (some ⟨g, 0, none⟩) xs.length xs.length)) ∧ (w'.cell? ⟨w.heap.size + 1, 0, none⟩ = some (.int .i32 px) ∧ w'.cell? ⟨w.heap.size + 1, 1, none⟩ = some (.int .i32 py) ∧ w'.cell? ⟨w.heap.size + 1, 2, none⟩ = some (.int .i32 pz)))) := Lib.hid fun w' h => ⟨(HX.out _ (hxx.out.trans h)).1.1, (HB.out _ (hb1.out.trans h)).1.2⟩
      have h1 := Lib.hid (show Stays WX WX.drew from (Stays.refl WX).drew)
      go_region_held (fun w' => ((w'.cell? ⟨px0, 0, none⟩ = some (.float .f32 s2) ∧ w'.cell? ⟨px0, 1, none⟩ = some (.slice (some ⟨g, 0, none⟩) xs.length xs.length)) ∧ (w'.cell? ⟨w.heap.size + 1, 0, none⟩ = some (.int .i32 px) ∧ w'.cell? ⟨w.heap.size + 1, 1, none⟩ = some (.int .i32 py) ∧ w'.cell? ⟨w.heap.size + 1, 2, none⟩ = some (.int .i32 pz)))) (first | (with_reducible exact G1.out _ (ZM.stays h4.out hz.out _ _ _ _ _)) | (with_reducible exact G1.out _ ((Stays.refl WX).alloc _).drew) | (with_reducible exact G1.out _ h1.out) | (with_reducible exact G1.out _ h3.out) | (with_reducible exact G1.out _ h4.out) | (with_reducible exact G1.out _ (h1.out.alloc _)) | (with_reducible exact G1.out _ (h3.out.alloc _)) | (with_reducible exact G1.out _ (h4.out.alloc _)))
        (first
          | (go_at_call 25; first | ((with_reducible refine (kI.out _ _ (HX.out _ (hxx.out.trans h3.out)).2).mono ?_); rintro e w4 ⟨ja, jb, jc, jd, rfl, hf, hb⟩; have hF := Lib.hid hf; have h4 := Lib.hid (h3.out.trans hb); (try (replace hz := Lib.hid (hz.out.below hb); obtain ⟨⟨z0, z1, z2, z3, z4, z5, z6, z7, z8⟩, f0, f1, f2, f3, f4, f5, f6, f7, f8⟩ := hz.out.cells)); clear hb hf) | ((with_reducible refine (kI.out _ _ (HX.out _ (hxx.out.trans (h3.out.alloc _))).2).mono ?_); rintro e w4 ⟨ja, jb, jc, jd, rfl, hf, hb⟩; have hF := Lib.hid hf; have hz := Lib.hid ((ZM.new (B := WX.heap.size) _ h3.out.size).below hb); obtain ⟨⟨z0, z1, z2, z3, z4, z5, z6, z7, z8⟩, f0, f1, f2, f3, f4, f5, f6, f7, f8⟩ := hz.out.cells; have h4 := Lib.hid ((h3.out.alloc _).trans hb); clear hb hf))
          | (go_at_call 24; first | ((with_reducible refine (kA.out _).mono ?_); rintro e w3 ⟨rfl, hb⟩; have h3 := Lib.hid (h1.out.trans hb); (try (replace hz := Lib.hid (hz.out.below hb))); clear hb) | ((with_reducible refine (kA.out _).mono ?_); rintro e w3 ⟨rfl, hb⟩; have hz := Lib.hid ((ZM.newD WX).below hb); have h3 := Lib.hid ((h1.out.alloc _).trans hb); clear hb) | ((with_reducible refine (kA.out _).mono ?_); rintro e w3 ⟨rfl, hb⟩; have hz := Lib.hid (((ZM.new (B := WX.heap.size) _ (Nat.le_refl _)).below (Stays.refl _).drew).below hb); have h3 := Lib.hid ((((Stays.refl WX).alloc _).drew).trans hb); clear hb)))
      all_goals (go_wp2_with fail; go_meet; (first | (with_reducible exact MadeM.alloc code h4.out hF.out) | (with_reducible exact MadeM.sets code h4.out hz.out hF.out)))
    case rest =>
    obtain ⟨p1, ya, yb, yc, yd, rfl, rfl, hge1, hrow1, hfb, hs1⟩ := hcut
    rename World => w6
    replace hb1 := Lib.hid (hb1.out.trans hs1)
    replace hxx := Lib.hid (hxx.out.trans hs1)
    replace hrow0 := Lib.hid ((Below.block hs1 _ (in_heap hrow0.out)).trans hrow0.out)
    clear hs1 hge1
    have c0 := cell_of_row _ _ 0 _ _ _ hrow0.out
    have d0 := cell_of_row _ _ 0 _ _ _ hrow1
    have c1 := cell_of_row _ _ 1 _ _ _ hrow0.out
    have d1 := cell_of_row _ _ 1 _ _ _ hrow1
    have c2 := cell_of_row _ _ 2 _ _ _ hrow0.out
    have d2 := cell_of_row _ _ 2 _ _ _ hrow1
    have c3 := cell_of_row _ _ 3 _ _ _ hrow0.out
    have d3 := cell_of_row _ _ 3 _ _ _ hrow1
    have c4 := cell_of_row _ _ 4 _ _ _ hrow0.out
    have d4 := cell_of_row _ _ 4 _ _ _ hrow1
    have c5 := cell_of_row _ _ 5 _ _ _ hrow0.out
    have d5 := cell_of_row _ _ 5 _ _ _ hrow1
    have c6 := cell_of_row _ _ 6 _ _ _ hrow0.out
    have d6 := cell_of_row _ _ 6 _ _ _ hrow1
    have c7 := cell_of_row _ _ 7 _ _ _ hrow0.out
    have d7 := cell_of_row _ _ 7 _ _ _ hrow1
    have c8 := cell_of_row _ _ 8 _ _ _ hrow0.out
    have d8 := cell_of_row _ _ 8 _ _ _ hrow1
    replace hrow1 := Lib.hid hrow1
    replace hfb := Lib.hid hfb
    go_wp2_with fail
    refine (c_eqMark (.agg #[.int .i32 m.x, .int .i32 m.y, .int .i32 m.z, .float .f32 ya, .float .f32 yb, .float .f32 yc, .float .f32 yd, .int .i64 m.s, .int .i64 m.l]) (.agg #[.int .i32 m.x, .int .i32 m.y, .int .i32 m.z, .float .f32 xa, .float .f32 xb, .float .f32 xc, .float .f32 xd, .int .i64 m.s, .int .i64 m.l]) m _ ⟨_, rfl, rfl, rfl, rfl, ⟨_, rfl, hfb.out.1⟩, ⟨_, rfl, hfb.out.2.1⟩, ⟨_, rfl, hfb.out.2.2.1⟩, ⟨_, rfl, hfb.out.2.2.2⟩, rfl, rfl, trivial⟩ ⟨_, rfl, rfl, rfl, rfl, ⟨_, rfl, hfa.out.1⟩, ⟨_, rfl, hfa.out.2.1⟩, ⟨_, rfl, hfa.out.2.2.1⟩, ⟨_, rfl, hfa.out.2.2.2⟩, rfl, rfl, trivial⟩).mono ?_
    rintro e w7 ⟨rfl, hb⟩
    replace hb1 := Lib.hid (hb1.out.trans hb)
    replace hxx := Lib.hid (hxx.out.trans hb)
    clear hb hrow0 hrow1 c0 d0 c1 d1 c2 d2 c3 d3 c4 d4 c5 d5 c6 d6 c7 d7 c8 d8
    go_upto_region 10 with fail
    have G : Hid (∀ w', Stays w7 w' → (w'.cell? ⟨w.heap.size, 0, none⟩ = some (.float .f32 s) ∧ w'.cell? ⟨w.heap.size, 1, none⟩ = some (.slice A xs.length c) ∧ w'.cell? ⟨px0, 0, none⟩ = some (.float .f32 s2) ∧ w'.cell? ⟨px0, 1, none⟩ = some (.slice (some ⟨g, 0, none⟩) xs.length xs.length))) := Lib.hid fun w' h => ⟨(HB.out _ (hb1.out.trans h)).1.1.1, (HB.out _ (hb1.out.trans h)).1.1.2, (HX.out _ (hxx.out.trans h)).1.1.1, (HX.out _ (hxx.out.trans h)).1.1.2⟩
    have h5 := Lib.hid (show Stays w7 w7.drew from (Stays.refl w7).drew)
    go_region_held (fun w' => (w'.cell? ⟨w.heap.size, 0, none⟩ = some (.float .f32 s) ∧ w'.cell? ⟨w.heap.size, 1, none⟩ = some (.slice A xs.length c) ∧ w'.cell? ⟨px0, 0, none⟩ = some (.float .f32 s2) ∧ w'.cell? ⟨px0, 1, none⟩ = some (.slice (some ⟨g, 0, none⟩) xs.length xs.length))) (first | exact G.out _ h5.out | exact G.out _ h6.out | exact G.out _ h7.out)
      (first
        | (go_at_call 23; refine (c_toMp _ o xs _ (HB.out _ (hb1.out.trans h5.out)).2.2 hn').mono ?_; rintro e w8 ⟨v3, rfl, hb, hv3⟩; have h6 := Lib.hid (h5.out.trans hb); clear hb; replace hv3 := Lib.hid hv3)
        | (go_at_call 27; refine (c_eqLandMap _ v3 o xs w8 (HX.out _ (hxx.out.trans h6.out)).2 hv3.out hn').mono ?_; rintro e w9 ⟨rfl, hb⟩; have h7 := Lib.hid (h6.out.trans hb); clear hb))
    go_wp2
    go_ret
    exact ⟨rfl, (HB.out _ (hb1.out.trans h7.out)).2.1⟩
end Go.Proofs.Ytmcbeaihjdnelaa
