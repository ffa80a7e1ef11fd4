/- The centre of a map, as the program has it. No condition. -/
import Derived.Test.YtejljfejajckoaaCeb
namespace Go.Proofs.Ytejljfejajckoaa
open Go Go.ChangeShapes Go.WideShapes Go.RowKit
set_option linter.unusedVariables false
set_option linter.unusedSimpArgs false


def svC (F G : FuncId) (f : FuncId) (args : Array Value) (v : Value) : Prop := (f = F → ∀ a b c s, args = #[.agg #[.float .f32 a, .float .f32 b, .float .f32 c], .float .f32 s] → V3 (fop .mul .f32 (can .f32 a) (can .f32 s)) (fop .mul .f32 (can .f32 b) (can .f32 s)) (fop .mul .f32 (can .f32 c) (can .f32 s)) v) ∧ (f = G → ∀ a b c x y z, args = #[.agg #[.float .f32 a, .float .f32 b, .float .f32 c], .agg #[.float .f32 x, .float .f32 y, .float .f32 z]] → V3 (fop .add .f32 (can .f32 a) (can .f32 x)) (fop .add .f32 (can .f32 b) (can .f32 y)) (fop .add .f32 (can .f32 c) (can .f32 z)) v)
theorem svC_1 {F G : FuncId} (hne : F ≠ G) {a b c s : Nat} {v : Value} : svC F G F #[.agg #[.float .f32 a, .float .f32 b, .float .f32 c], .float .f32 s] v ↔ V3 (fop .mul .f32 (can .f32 a) (can .f32 s)) (fop .mul .f32 (can .f32 b) (can .f32 s)) (fop .mul .f32 (can .f32 c) (can .f32 s)) v :=
  ⟨fun h => h.1 rfl _ _ _ _ rfl, fun h => ⟨fun _ a' b' c' s' e => by cases e; exact h, fun e => absurd e hne⟩⟩
theorem svC_2 {F G : FuncId} (hne : F ≠ G) {a b c x y z : Nat} {v : Value} : svC F G G #[.agg #[.float .f32 a, .float .f32 b, .float .f32 c], .agg #[.float .f32 x, .float .f32 y, .float .f32 z]] v ↔ V3 (fop .add .f32 (can .f32 a) (can .f32 x)) (fop .add .f32 (can .f32 b) (can .f32 y)) (fop .add .f32 (can .f32 c) (can .f32 z)) v :=
  ⟨fun h => h.2 rfl _ _ _ _ _ _ rfl, fun h => ⟨fun e => absurd e.symm hne, fun _ a' b' c' x' y' z' e => by cases e; exact h⟩⟩

/-- A box that is still empty. -/
structure ZPV (w : World) (B p : Nat) : Prop where
  ge : B ≤ p
  row : w.heap[p]? = some (.cells #[.float .f32 0, .float .f32 0, .float .f32 0] 66 (0, 0))
theorem ZPV.new {B : Nat} (w : World) (h : B ≤ w.heap.size) : ZPV (w.alloc (.cells #[.float .f32 0, .float .f32 0, .float .f32 0] 66)) B w.heap.size := ⟨h, heap_alloc_new w _⟩
theorem ZPV.newD (w : World) : ZPV (w.drew.alloc (.cells #[.float .f32 0, .float .f32 0, .float .f32 0] 66)) w.heap.size w.heap.size := ZPV.new w.drew (Nat.le_refl _)
theorem ZPV.below {w w' : World} {B p : Nat} (h : ZPV w B p) (hb : Stays w w') : ZPV w' B p := ⟨h.ge, (Below.block hb _ (in_heap h.row)).trans h.row⟩
theorem ZPV.cells {w : World} {B p : Nat} (h : ZPV w B p) : (w.cell? ⟨p, 0, none⟩ = some (.float .f32 0) ∧ w.cell? ⟨p, 1, none⟩ = some (.float .f32 0) ∧ w.cell? ⟨p, 2, none⟩ = some (.float .f32 0)) ∧ w.frozen? ⟨p, 0, none⟩ = false ∧ w.frozen? ⟨p, 1, none⟩ = false ∧ w.frozen? ⟨p, 2, none⟩ = false :=
  ⟨⟨cell_of_row _ _ _ _ _ _ h.row, cell_of_row _ _ _ _ _ _ h.row, cell_of_row _ _ _ _ _ _ h.row⟩, frozen_of_row _ _ _ _ _ h.row, frozen_of_row _ _ _ _ _ h.row, frozen_of_row _ _ _ _ _ h.row⟩
/-- A row that was made into a box, and a code. -/
def MadePV (W : World) (code : Nat) (o1 o2 o3 : Option Nat) (s t : Value) (w : World) : Prop := ∃ p rx ry rz, s = .pointer (some ⟨p, 0, none⟩) ∧ t = .float .f32 code ∧ W.heap.size ≤ p ∧ w.heap[p]? = some (.cells #[.float .f32 rx, .float .f32 ry, .float .f32 rz] 66 (0, 0)) ∧ (FIs .f32 rx o1 ∧ FIs .f32 ry o2 ∧ FIs .f32 rz o3) ∧ Stays W w
theorem MadePV.alloc {W w : World} {o1 o2 o3 : Option Nat} {rx ry rz : Nat} (code : Nat) (h : Stays W w) (hf : FIs .f32 rx o1 ∧ FIs .f32 ry o2 ∧ FIs .f32 rz o3) : MadePV W code o1 o2 o3 (.pointer (some ⟨w.heap.size, 0, none⟩)) (.float .f32 code) (w.alloc (.cells #[.float .f32 rx, .float .f32 ry, .float .f32 rz] 66)) :=
  ⟨_, rx, ry, rz, rfl, rfl, h.size, heap_alloc_new w _, hf, h.trans (by (repeat (first | exact Stays.refl _ | (with_reducible refine Stays.drewN ?_ _) | (with_reducible refine Stays.alloc ?_ _) | (with_reducible refine Stays.drew ?_) | (refine Stays.trans ?_ ‹Stays _ _›))))⟩
theorem ZPV.stays {W w : World} {p : Nat} (h : Stays W w) (hz : ZPV w W.heap.size p) (rx ry rz : Nat) : Stays W (((w.setCell ⟨p, 0, none⟩ (.float .f32 rx)).setCell ⟨p, 1, none⟩ (.float .f32 ry)).setCell ⟨p, 2, none⟩ (.float .f32 rz)) :=
  (Below.setCell (Below.setCell (Below.setCell (show Below W.heap.size W w from h) hz.ge _) hz.ge _) hz.ge _)
theorem MadePV.sets {W w : World} {o1 o2 o3 : Option Nat} {p rx ry rz : Nat} (code : Nat) (h : Stays W w) (hz : ZPV w W.heap.size p) (hf : FIs .f32 rx o1 ∧ FIs .f32 ry o2 ∧ FIs .f32 rz o3) : MadePV W code o1 o2 o3 (.pointer (some ⟨p, 0, none⟩)) (.float .f32 code) (((w.setCell ⟨p, 0, none⟩ (.float .f32 rx)).setCell ⟨p, 1, none⟩ (.float .f32 ry)).setCell ⟨p, 2, none⟩ (.float .f32 rz)) := by
  have m1 := heap_setCell_same _ p 0 _ _ (.float .f32 rx) hz.row
  have m2 := heap_setCell_same _ p 1 _ _ (.float .f32 ry) m1
  have m3 := heap_setCell_same _ p 2 _ _ (.float .f32 rz) m2
  exact ⟨p, rx, ry, rz, rfl, rfl, hz.ge, m3, hf, hz.stays h rx ry rz⟩

set_option maxRecDepth 100000 in
set_option maxHeartbeats 4000000 in
theorem c_implCentre (v : Value) (o : Option Nat) (xs : List Mk) (w : World) (h : MpV w w.heap.size v o xs) (hn : xs.length ≤ 1048576) (hcap : ∀ s A c, v = .agg #[s, .slice A xs.length c] → xs.length ≤ c) :
    Calls Try.prog 47 #[v] w (V3Done w (ceC o xs) (ceV pX o xs) (ceV pY o xs) (ceV pZ o xs)) := by
  obtain ⟨sd, A, c, rfl, hfs, h1⟩ := h.val
  have hc := hcap _ _ _ rfl
  have hst : Stays w ((w.alloc (.cells #[.float .f32 sd, .slice A xs.length c] 35)).alloc (.cells #[.float .f32 0, .float .f32 0, .float .f32 0] 66)) := by (repeat (first | exact Stays.refl _ | (with_reducible refine Stays.drewN ?_ _) | (with_reducible refine Stays.alloc ?_ _) | (with_reducible refine Stays.drew ?_) | (refine Stays.trans ?_ ‹Stays _ _›)))
  have u0 : ((w.alloc (.cells #[.float .f32 sd, .slice A xs.length c] 35)).alloc (.cells #[.float .f32 0, .float .f32 0, .float .f32 0] 66)).heap[w.heap.size]? = some (.cells #[.float .f32 sd, .slice A xs.length c] 35 (0, 0)) := by (repeat (first | (refine heap_top _ _ _ ?_; simp; done) | (with_reducible refine heap_drawn _ _ _ ?_) | (with_reducible refine heap_under _ _ _ ?_ ?_; (simp <;> omega))))
  have u1 : ((w.alloc (.cells #[.float .f32 sd, .slice A xs.length c] 35)).alloc (.cells #[.float .f32 0, .float .f32 0, .float .f32 0] 66)).heap[w.heap.size + 1]? = some (.cells #[.float .f32 0, .float .f32 0, .float .f32 0] 66 (0, 0)) := by (repeat (first | (refine heap_top _ _ _ ?_; simp; done) | (with_reducible refine heap_drawn _ _ _ ?_) | (with_reducible refine heap_under _ _ _ ?_ ?_; (simp <;> omega))))
  have HW : Hid (∀ W, Stays ((w.alloc (.cells #[.float .f32 sd, .slice A xs.length c] 35)).alloc (.cells #[.float .f32 0, .float .f32 0, .float .f32 0] 66)) W → (W.cell? ⟨w.heap.size, 0, none⟩ = some (.float .f32 sd) ∧ W.cell? ⟨w.heap.size, 1, none⟩ = some (.slice A xs.length c)) ∧ Stays w W ∧ W.heap[w.heap.size + 1]? = some (.cells #[.float .f32 0, .float .f32 0, .float .f32 0] 66 (0, 0))) := Lib.hid fun W hW => ⟨⟨row_of hW u0 0, row_of hW u0 1⟩, hst.trans hW, (Below.block hW _ (in_heap u1)).trans u1⟩
  have kV := Lib.hid fun W (hW : Stays ((w.alloc (.cells #[.float .f32 sd, .slice A xs.length c] 35)).alloc (.cells #[.float .f32 0, .float .f32 0, .float .f32 0] 66)) W) => c_implValidMap (.agg #[.float .f32 sd, .slice A xs.length c]) o xs W (h.on (hst.trans hW)) hn
  have H := Lib.hid fun W (hW : Stays ((w.alloc (.cells #[.float .f32 sd, .slice A xs.length c] 35)).alloc (.cells #[.float .f32 0, .float .f32 0, .float .f32 0] 66)) W) ad (e : A = some ad) k m (hk : xs[k]? = some m) => mark_at (m := m) (Nat.le_trans hst.size hW.size) (by rw [← e]; exact h1.below (hst.trans hW)) hk
  have hA : 0 < xs.length → ∃ ad, A = some ad := fun hp => by
    obtain ⟨ad, e, _, _⟩ := h1 0 xs[0] (List.getElem?_eq_getElem hp)
    exact ⟨ad, e⟩
  unfold ceC ceV
  clear u0 u1 h h1 hst hcap hfs
  cases hok : mapOK o xs with
  | false =>
    rw [hok] at kV
    simp only [Bool.false_eq_true, if_false]
    clear hok hA
    go_enter Try.func47, Try.ntmps47
    obtain ⟨⟨q0, q1⟩, _⟩ := HW.out _ (Stays.refl _)
    go_wp2_with fail
    generalize ((w.alloc (.cells #[.float .f32 sd, .slice A xs.length c] 35)).alloc (.cells #[.float .f32 0, .float .f32 0, .float .f32 0] 66)) = W0 at HW kV q0 q1 ⊢
    with_reducible refine (kV.out W0 (Stays.refl _)).mono ?_
    rintro e w1 ⟨rfl, hb⟩
    replace hb := Lib.hid (show Stays W0 w1 from hb)
    clear q0 q1 kV
    obtain ⟨⟨q0, q1⟩, hst, hres⟩ := HW.out _ hb.out
    go_wp2_with ((refine wpList_store_row rfl _ _ _ rfl _ _ _ rfl rfl hres ?hi ?ho ?h1 ?hB hst ?_); (case hi => kernel_rfl); (case ho => rfl); (case h1 => first | rfl | simp [Value.oneCell']); (case hB => first | omega | (simp <;> omega)); intro w9 hw9 hq9 ho9 hsz9)
    apply end_gd rfl rfl rfl Try.underlying66 rfl (t := 66)
    case hg => exact hq9
    case hi => kernel_rfl
    case hR => exact ⟨_, _, _, rfl, FIs.self (by decide), FIs.self (by decide), FIs.self (by decide), hw9⟩
  | true =>
    rw [hok] at kV
    simp only [if_true]
    clear hok
    by_cases h0 : xs.length = 0
    · have h0' : (((xs.length : Nat) : Int) == 0) = true := by rw [h0]; rfl
      simp only [if_pos h0]
      replace h0 := Lib.hid h0
      clear hA
      go_enter Try.func47, Try.ntmps47
      obtain ⟨⟨q0, q1⟩, _⟩ := HW.out _ (Stays.refl _)
      go_wp2_with fail
      generalize ((w.alloc (.cells #[.float .f32 sd, .slice A xs.length c] 35)).alloc (.cells #[.float .f32 0, .float .f32 0, .float .f32 0] 66)) = W0 at HW kV q0 q1 ⊢
      with_reducible refine (kV.out W0 (Stays.refl _)).mono ?_
      rintro e w1 ⟨rfl, hb⟩
      replace hb := Lib.hid (show Stays W0 w1 from hb)
      clear q0 q1 kV
      obtain ⟨⟨q0, q1⟩, hst, hres⟩ := HW.out _ hb.out
      go_wp2_with ((refine wpList_store_row rfl _ _ _ rfl _ _ _ rfl rfl hres ?hi ?ho ?h1 ?hB hst ?_); (case hi => kernel_rfl); (case ho => rfl); (case h1 => first | rfl | simp [Value.oneCell']); (case hB => first | omega | (simp <;> omega)); intro w9 hw9 hq9 ho9 hsz9)
      apply end_gd rfl rfl rfl Try.underlying66 rfl (t := 66)
      case hg => exact hq9
      case hi => kernel_rfl
      case hR => exact ⟨_, _, _, rfl, FIs.self (by decide), FIs.self (by decide), FIs.self (by decide), hw9⟩
    · have h0' : (((xs.length : Nat) : Int) == 0) = false := beq_eq_false_iff_ne.2 (by omega)
      have hpos : 0 < xs.length := by omega
      have hpos' : (0 : Int) < (xs.length : Int) := by omega
      have hpos1 : (1 : Int) ≤ (xs.length : Int) := by omega
      simp only [if_neg h0]
      obtain ⟨ad, rfl⟩ := hA hpos
      obtain ⟨A', hsl, hA'⟩ := marks_tail (ad := ad) (n := xs.length) (c := c) (by omega) hc
      replace hA' := Lib.hid hA'
      clear hA
      go_enter Try.func47, Try.ntmps47
      obtain ⟨⟨q0, q1⟩, _⟩ := HW.out _ (Stays.refl _)
      go_wp2_with fail
      generalize ((w.alloc (.cells #[.float .f32 sd, .slice (some ad) xs.length c] 35)).alloc (.cells #[.float .f32 0, .float .f32 0, .float .f32 0] 66)) = W0 at HW kV H q0 q1 ⊢
      with_reducible refine (kV.out W0 (Stays.refl _)).mono ?_
      rintro e w1 ⟨rfl, hb⟩
      replace hb := Lib.hid (show Stays W0 w1 from hb)
      clear q0 q1 kV
      obtain ⟨⟨q0, q1⟩, hst, hres⟩ := HW.out _ hb.out
      have hg0 : xs[0]? = some xs[0] := List.getElem?_eq_getElem hpos
      obtain ⟨ra, rb, rc, rd, hf, hm⟩ := H.out w1 hb.out ad rfl 0 _ hg0
      have hone := Lib.hid (And.intro (And.intro (sumK_one (f := pX) hg0) (And.intro (sumK_one (f := pY) hg0) (sumK_one (f := pZ) hg0))) (sumK_one (f := Mk.d) hg0))
      generalize xs[0] = m0 at hf hm hone
      have e0 : ad.add (0 * 9) = ad := rfl
      rw [e0] at hm
      obtain ⟨m1, m2, m3, m4, m5, m6, m7, m8, m9⟩ := hm w1 (Stays.refl _)
      have ha := heap_alloc_new w1 (.cells #[.int .i32 m0.x, .int .i32 m0.y, .int .i32 m0.z, .float .f32 ra, .float .f32 rb, .float .f32 rc, .float .f32 rd, .int .i64 m0.s, .int .i64 m0.l] 113)
      have hsA : Stays w1 (w1.alloc (.cells #[.int .i32 m0.x, .int .i32 m0.y, .int .i32 m0.z, .float .f32 ra, .float .f32 rb, .float .f32 rc, .float .f32 rd, .int .i64 m0.s, .int .i64 m0.l] 113)) := by (repeat (first | exact Stays.refl _ | (with_reducible refine Stays.drewN ?_ _) | (with_reducible refine Stays.alloc ?_ _) | (with_reducible refine Stays.drew ?_) | (refine Stays.trans ?_ ‹Stays _ _›)))
      have hC := Lib.hid fun W (hW : Stays (w1.alloc (.cells #[.int .i32 m0.x, .int .i32 m0.y, .int .i32 m0.z, .float .f32 ra, .float .f32 rb, .float .f32 rc, .float .f32 rd, .int .i64 m0.s, .int .i64 m0.l] 113)) W) => (show (W.cell? ⟨w1.heap.size, 3, none⟩ = some (.float .f32 ra) ∧ W.cell? ⟨w1.heap.size, 4, none⟩ = some (.float .f32 rb) ∧ W.cell? ⟨w1.heap.size, 5, none⟩ = some (.float .f32 rc) ∧ W.cell? ⟨w1.heap.size, 6, none⟩ = some (.float .f32 rd)) from ⟨row_of hW ha 3, row_of hW ha 4, row_of hW ha 5, row_of hW ha 6⟩)
      have hbA := Lib.hid (hb.out.trans hsA)
      replace hf := Lib.hid hf
      clear hm ha hsA hg0 e0 hst hres
      go_upto_region 6 with fail
      clear m1 m2 m3 m4 m5 m6 m7 m8 m9 q0 q1
      generalize (w1.alloc (.cells #[.int .i32 m0.x, .int .i32 m0.y, .int .i32 m0.z, .float .f32 ra, .float .f32 rb, .float .f32 rc, .float .f32 rd, .int .i64 m0.s, .int .i64 m0.l] 113)) = w2 at hC hbA ⊢
      go_cut [5, 6] from 22 to 28 (fun s5 s6 wx => MadePV w2 rd (sumK pX xs 1) (sumK pY xs 1) (sumK pZ xs 1) s5 s6 wx)
      case first =>
        have h1 := Lib.hid (show Stays w2 w2.drew from (Stays.refl w2).drew)
        go_region_held (fun w' => (w'.cell? ⟨w1.heap.size, 3, none⟩ = some (.float .f32 ra) ∧ w'.cell? ⟨w1.heap.size, 4, none⟩ = some (.float .f32 rb) ∧ w'.cell? ⟨w1.heap.size, 5, none⟩ = some (.float .f32 rc) ∧ w'.cell? ⟨w1.heap.size, 6, none⟩ = some (.float .f32 rd))) (first | exact hC.out _ h1.out | exact hC.out _ h2.out | exact hC.out _ (h1.out.alloc _) | exact hC.out _ (h2.out.alloc _) | exact hC.out _ (ZPV.stays h2.out hz.out _ _ _))
          (first
            | (go_at_call 99; first | ((with_reducible refine (c_ScaleV ra rb rc rd _).mono ?_); rintro e w4 ⟨_, rfl, ⟨sx, sy, sz, rfl, fs0, fs1, fs2⟩, hb⟩; have h2 := Lib.hid (h1.out.trans hb); have hF := Lib.hid (show FIs .f32 sx (sumK pX xs 1) ∧ FIs .f32 sy (sumK pY xs 1) ∧ FIs .f32 sz (sumK pZ xs 1) from ⟨fs0.of_eq (by rw [hone.out.1.1, hf.out.1.out, hf.out.2.2.2.out]; rfl), fs1.of_eq (by rw [hone.out.1.2.1, hf.out.2.1.out, hf.out.2.2.2.out]; rfl), fs2.of_eq (by rw [hone.out.1.2.2, hf.out.2.2.1.out, hf.out.2.2.2.out]; rfl)⟩); clear hb) | ((with_reducible refine (c_ScaleV ra rb rc rd _).mono ?_); rintro e w4 ⟨_, rfl, ⟨sx, sy, sz, rfl, fs0, fs1, fs2⟩, hb⟩; have hz := Lib.hid ((ZPV.newD w2).below hb); obtain ⟨⟨z0, z1, z2⟩, f0, f1, f2⟩ := hz.out.cells; have h2 := Lib.hid ((h1.out.alloc _).trans hb); have hF := Lib.hid (show FIs .f32 sx (sumK pX xs 1) ∧ FIs .f32 sy (sumK pY xs 1) ∧ FIs .f32 sz (sumK pZ xs 1) from ⟨fs0.of_eq (by rw [hone.out.1.1, hf.out.1.out, hf.out.2.2.2.out]; rfl), fs1.of_eq (by rw [hone.out.1.2.1, hf.out.2.1.out, hf.out.2.2.2.out]; rfl), fs2.of_eq (by rw [hone.out.1.2.2, hf.out.2.2.1.out, hf.out.2.2.2.out]; rfl)⟩); clear hb) | ((with_reducible refine (c_ScaleV ra rb rc rd _).mono ?_); rintro e w4 ⟨_, rfl, ⟨sx, sy, sz, rfl, fs0, fs1, fs2⟩, hb⟩; have hz := Lib.hid (((ZPV.new (B := w2.heap.size) _ (Nat.le_refl _)).below (Stays.refl _).drew).below hb); obtain ⟨⟨z0, z1, z2⟩, f0, f1, f2⟩ := hz.out.cells; have h2 := Lib.hid ((((Stays.refl w2).alloc _).drew).trans hb); have hF := Lib.hid (show FIs .f32 sx (sumK pX xs 1) ∧ FIs .f32 sy (sumK pY xs 1) ∧ FIs .f32 sz (sumK pZ xs 1) from ⟨fs0.of_eq (by rw [hone.out.1.1, hf.out.1.out, hf.out.2.2.2.out]; rfl), fs1.of_eq (by rw [hone.out.1.2.1, hf.out.2.1.out, hf.out.2.2.2.out]; rfl), fs2.of_eq (by rw [hone.out.1.2.2, hf.out.2.2.1.out, hf.out.2.2.2.out]; rfl)⟩); clear hb)))
        all_goals (go_wp2_with fail; go_meet; (first | exact MadePV.sets rd h2.out hz.out hF.out | exact MadePV.alloc rd h2.out hF.out))
      case rest =>
      obtain ⟨p0, x0, y0, z0, rfl, rfl, hge0, hrow0, hf0, hs0⟩ := hcut
      rename World => w3
      have hfd := Lib.hid (show FIs .f32 rd (sumK Mk.d xs 1) from hf.out.2.2.2.of_eq hone.out.2.symm)
      replace hrow0 := Lib.hid hrow0
      replace hf0 := Lib.hid hf0
      replace hge0 := Lib.hid hge0
      replace hs0 := Lib.hid hs0
      clear hC hone hf
      obtain ⟨⟨q0, q1⟩, _⟩ := HW.out w3 (hbA.out.trans hs0.out)
      go_wp2
      go_loopw [6, 33] (fun wv iv wr => ∃ (k x y z u : Nat), k ≤ xs.length - 1 ∧ iv = .int .i64 k ∧ wv = .float .f32 u ∧ Hid (wr.heap[p0]? = some (.cells #[.float .f32 x, .float .f32 y, .float .f32 z] 66 (0, 0))) ∧ Hid ((FIs .f32 x (sumK pX xs (k + 1)) ∧ FIs .f32 y (sumK pY xs (k + 1)) ∧ FIs .f32 z (sumK pZ xs (k + 1))) ∧ FIs .f32 u (sumK Mk.d xs (k + 1))) ∧ Hid (Stays w2 wr)) (fun _ iv _ => xs.length - (intOf iv).toNat)
      case atStart => exact ⟨0, x0, y0, z0, rd, Nat.zero_le _, rfl, rfl, hrow0, Lib.hid ⟨hf0.out, hfd.out⟩, hs0⟩
      case round =>
        obtain ⟨k, x, y, z, u, hk, rfl, rfl, hrow, hf, hs⟩ := hrel
        clear q0 q1
        by_cases hlt : k < xs.length - 1
        · have hlt' : (k : Int) < ((xs.length - 1 : Nat) : Int) := by omega
          have hk9 : IntKind.i64.wrap ((k : Int) + 1) = (k : Int) + 1 := IntWalk.i64_in _ (by omega)
          have hAe := hA'.out (by omega)
          subst hAe
          have hkl : k + 1 < xs.length := by omega
          have hgk : xs[k + 1]? = some xs[k + 1] := List.getElem?_eq_getElem hkl
          obtain ⟨ra, rb, rc, rd', hfm, hm⟩ := H.out wr (hbA.out.trans hs.out) ad rfl (k + 1) _ hgk
          have nx := Lib.hid (And.intro (And.intro (sumK_next (f := pX) (Nat.succ_pos k) hgk) (And.intro (sumK_next (f := pY) (Nat.succ_pos k) hgk) (sumK_next (f := pZ) (Nat.succ_pos k) hgk))) (sumK_next (f := Mk.d) (Nat.succ_pos k) hgk))
          generalize xs[k + 1] = m at hfm hm nx
          rw [← mark_next] at hm
          obtain ⟨m1, m2, m3, m4, m5, m6, m7, m8, m9⟩ := hm wr (Stays.refl _)
          have ha := heap_alloc_new wr (.cells #[.int .i32 m.x, .int .i32 m.y, .int .i32 m.z, .float .f32 ra, .float .f32 rb, .float .f32 rc, .float .f32 rd', .int .i64 m.s, .int .i64 m.l] 113)
          have hsA : Stays wr (wr.alloc (.cells #[.int .i32 m.x, .int .i32 m.y, .int .i32 m.z, .float .f32 ra, .float .f32 rb, .float .f32 rc, .float .f32 rd', .int .i64 m.s, .int .i64 m.l] 113)) := by (repeat (first | exact Stays.refl _ | (with_reducible refine Stays.drewN ?_ _) | (with_reducible refine Stays.alloc ?_ _) | (with_reducible refine Stays.drew ?_) | (refine Stays.trans ?_ ‹Stays _ _›)))
          have hcells : ∀ W, Stays (wr.alloc (.cells #[.int .i32 m.x, .int .i32 m.y, .int .i32 m.z, .float .f32 ra, .float .f32 rb, .float .f32 rc, .float .f32 rd', .int .i64 m.s, .int .i64 m.l] 113)) W → (W.cell? ⟨p0, 0, none⟩ = some (.float .f32 x) ∧ W.cell? ⟨p0, 1, none⟩ = some (.float .f32 y) ∧ W.cell? ⟨p0, 2, none⟩ = some (.float .f32 z)) ∧ (W.cell? ⟨wr.heap.size, 3, none⟩ = some (.float .f32 ra) ∧ W.cell? ⟨wr.heap.size, 4, none⟩ = some (.float .f32 rb) ∧ W.cell? ⟨wr.heap.size, 5, none⟩ = some (.float .f32 rc) ∧ W.cell? ⟨wr.heap.size, 6, none⟩ = some (.float .f32 rd')) := fun W hW => by
            have e := (Below.block (hsA.trans hW) _ (in_heap hrow.out)).trans hrow.out
            exact ⟨⟨cell_of_row _ _ _ _ _ _ e, cell_of_row _ _ _ _ _ _ e, cell_of_row _ _ _ _ _ _ e⟩, row_of hW ha 3, row_of hW ha 4, row_of hW ha 5, row_of hW ha 6⟩
          have hrows := Lib.hid fun W (hW : Stays (wr.alloc (.cells #[.int .i32 m.x, .int .i32 m.y, .int .i32 m.z, .float .f32 ra, .float .f32 rb, .float .f32 rc, .float .f32 rd', .int .i64 m.s, .int .i64 m.l] 113)) W) => And.intro ((Below.block (hsA.trans hW) _ (in_heap hrow.out)).trans hrow.out) ((Below.block hW _ (in_heap ha)).trans ha)
          have hne := Lib.hid (show p0 < wr.heap.size from in_heap hrow.out)
          replace hsA := Lib.hid (hs.out.trans hsA)
          replace hfm := Lib.hid hfm
          clear hm ha hgk hkl
          generalize ad.add 9 = ad9 at m1 m2 m3 m4 m5 m6 m7 m8 m9 ⊢
          go_upto_region 10 with fail
          clear m1 m2 m3 m4 m5 m6 m7 m8 m9
          generalize hWA : (wr.alloc (.cells #[.int .i32 m.x, .int .i32 m.y, .int .i32 m.z, .float .f32 ra, .float .f32 rb, .float .f32 rc, .float .f32 rd', .int .i64 m.s, .int .i64 m.l] 113)) = WA at hcells hrows hsA ⊢
          clear hWA
          refine wp_region_soft_tail 7 (Stays.refl _) (svC 99 100) [] (by kernel_rfl) (by kernel_rfl) (fun _ h => by cases h) ?_
          simp only [List.take_succ_cons, List.take_zero, List.drop_succ_cons, List.drop_zero]
          repeat ((with_reducible apply soft_detG); (case hwa => rfl); (case hA => rfl); (case h => (intro w1 hw1; have hc := hcells w1 hw1; go_simp; exact rfl)); go_simp)
          refine soft_callW (A0 := #[.agg #[.float .f32 ra, .float .f32 rb, .float .f32 rc], .float .f32 rd']) (by rfl) rfl ?h (fun w2 _ => c_ScaleV ra rb rc rd' w2) (fun v hv => (svC_1 (by decide)).2 hv) (fun v hv => (svC_1 (by decide)).1 hv) ?_
          case h => (intro w1 hw1; have hc := hcells w1 hw1; go_simp; try exact ⟨rfl, rfl⟩)
          rintro v ⟨sx, sy, sz, rfl, f1, f2, f3⟩
          go_simp
          repeat ((with_reducible apply soft_detG); (case hwa => rfl); (case hA => rfl); (case h => (intro w1 hw1; have hc := hcells w1 hw1; go_simp; exact rfl)); go_simp)
          refine soft_callW (A0 := #[.agg #[.float .f32 x, .float .f32 y, .float .f32 z], .agg #[.float .f32 sx, .float .f32 sy, .float .f32 sz]]) (by rfl) rfl ?h (fun w2 _ => c_AddV x y z sx sy sz w2) (fun v hv => (svC_2 (by decide)).2 hv) (fun v hv => (svC_2 (by decide)).1 hv) ?_
          case h => (intro w1 hw1; have hc := hcells w1 hw1; go_simp; try exact ⟨rfl, rfl⟩)
          rintro v ⟨tx, ty, tz, rfl, g1, g2, g3⟩
          go_simp
          repeat ((with_reducible apply soft_detG); (case hwa => rfl); (case hA => rfl); (case h => (intro w1 hw1; have hc := hcells w1 hw1; go_simp; exact rfl)); go_simp)
          refine soft_nil ?_
          rintro w5 ⟨hw5, _⟩
          obtain ⟨hres, hr8⟩ := hrows.out w5 hw5
          have hst := hsA.out.trans hw5
          have hB0 := hge0.out
          have hX := Lib.hid (show (FIs .f32 tx (sumK pX xs (k + 1 + 1)) ∧ FIs .f32 ty (sumK pY xs (k + 1 + 1)) ∧ FIs .f32 tz (sumK pZ xs (k + 1 + 1))) from ⟨g1.of_eq (by rw [nx.out.1.1, f1.out, hf.out.1.1.out, hfm.out.1.out, hfm.out.2.2.2.out]; rfl), g2.of_eq (by rw [nx.out.1.2.1, f2.out, hf.out.1.2.1.out, hfm.out.2.1.out, hfm.out.2.2.2.out]; rfl), g3.of_eq (by rw [nx.out.1.2.2, f3.out, hf.out.1.2.2.out, hfm.out.2.2.1.out, hfm.out.2.2.2.out]; rfl)⟩)
          clear f1 f2 f3 g1 g2 g3 hcells
          go_upto_region 11 with ((refine wpList_store_row rfl _ _ _ rfl _ _ _ rfl rfl hres ?hi ?ho ?h1 ?hB hst ?_); (case hi => kernel_rfl); (case ho => rfl); (case h1 => first | rfl | simp [Value.oneCell']); (case hB => first | omega | (simp <;> omega)); intro w9 hw9 hq9 ho9 hsz9)
          have hr9 := (ho9 _ (in_heap hr8) (by have := hne.out; omega)).trans hr8
          have c6 := cell_of_row _ _ 6 _ _ _ hr9
          replace hw9 := Lib.hid hw9
          replace hq9 := Lib.hid hq9
          clear hr9 hr8 hres hst ho9 hsz9 hw5 hB0
          go_wp2_with ((with_reducible refine wpList_fop rfl _ _ _ _ _ rfl rfl _ _ _ rfl rfl ?_); intro r n hr; have hs1 := Lib.hid hr; clear hr)
          have hU := Lib.hid (show FIs .f32 r (sumK Mk.d xs (k + 1 + 1)) from hs1.out.of_eq (by rw [nx.out.2, hf.out.2.out, hfm.out.2.2.2.out]))
          clear c6
          go_roundw
          case rel => exact ⟨k + 1, tx, ty, tz, r, by omega, by go_num, rfl, hq9, Lib.hid ⟨hX.out, hU.out⟩, Lib.hid (hw9.out.drewN _)⟩
          case measure => simp [intOf]; omega
        · have ek : k + 1 = xs.length := by omega
          have hlt2 : ¬ (k : Int) < ((xs.length - 1 : Nat) : Int) := by omega
          rw [ek] at hf
          have g0 := cell_of_row _ _ 0 _ _ _ hrow.out
          have g1 := cell_of_row _ _ 1 _ _ _ hrow.out
          have g2 := cell_of_row _ _ 2 _ _ _ hrow.out
          go_wp2_with fail
          refine (c_DivV x y z u _).mono ?_
          rintro e w8 ⟨_, rfl, ⟨vx, vy, vz, rfl, f1, f2, f3⟩, hw8⟩
          obtain ⟨_, hst, hres⟩ := HW.out w8 (hbA.out.trans (hs.out.trans hw8))
          have hfin := Lib.hid (show FIs .f32 vx (cenK pX xs) ∧ FIs .f32 vy (cenK pY xs) ∧ FIs .f32 vz (cenK pZ xs) from ⟨f1.of_eq (by unfold cenK; rw [hf.out.1.1.out, hf.out.2.out]), f2.of_eq (by unfold cenK; rw [hf.out.1.2.1.out, hf.out.2.out]), f3.of_eq (by unfold cenK; rw [hf.out.1.2.2.out, hf.out.2.out])⟩)
          clear f1 f2 f3 hw8 g0 g1 g2
          go_wp2_with ((refine wpList_store_row rfl _ _ _ rfl _ _ _ rfl rfl hres ?hi ?ho ?h1 ?hB hst ?_); (case hi => kernel_rfl); (case ho => rfl); (case h1 => first | rfl | simp [Value.oneCell']); (case hB => first | omega | (simp <;> omega)); intro w9 hw9 hq9 ho9 hsz9)
          apply end_gd rfl rfl rfl Try.underlying66 rfl (t := 66)
          case hg => exact hq9
          case hi => kernel_rfl
          case hR => exact ⟨_, _, _, rfl, hfin.out.1, hfin.out.2.1, hfin.out.2.2, hw9⟩
end Go.Proofs.Ytejljfejajckoaa
