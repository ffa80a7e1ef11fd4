/- Laws of the walk for float operations: the result is known by 'FIs', the world is as it was but for draws. No condition. -/
import Derived.WalkKit
import Derived.WalkLawsBesides
import Derived.WalkSpells
import Derived.Below
import Derived.LoopN
import Derived.Laws.Rows
import Derived.Deep.Draws
import Derived.Test.YtcopccniijkceaaFq
namespace Go.Proofs.Ytcopccniijkceaa
open Go Go.RowKit

theorem ret_b {x y : Bool} (h : x = y) : Ending.returned (.bool x) = .returned (.bool y) := by rw [h]
theorem ret_f {k : FloatKind} {x y : Nat} (h : x = y) : Ending.returned (.float k x) = .returned (.float k y) := by rw [h]

def arith : BinOp → Bool
  | .add | .sub | .mul | .quo => true
  | _ => false

theorem run_fop {P : Program} (w : World) (op : BinOp) (t : TypeId) (k : FloatKind) (x y : Nat) (ha : arith op = true) :
    ∃ r n, (binOp op t (.float k x) (.float k y)).run P w = .ok (.float k r) (w.drewN n) ∧ FIs k r (fop op k (can k x) (can k y)) := by
  cases h : floatBits op k x y with
  | some r =>
    refine ⟨r, 0, run_float_arith w op t k x y r h, ?_, ?_⟩
    · rw [← fop_can, h, can_num (floatBits_not_nan h)]
    · unfold floatBits at h
      split at h
      · exact k.format.add_lt h
      · exact k.format.sub_lt h
      · exact k.format.mul_lt h
      · exact k.format.div_lt h
      · cases h
  | none =>
    refine ⟨Question.cut (.nanBits k x y) (w.tape w.drawn (.nanBits k x y)), 1, ?_, ?_, cut_lt k x y _⟩
    · unfold floatBits at h
      cases op <;> simp only at h <;> first | cases ha | skip
      all_goals
        simp [binOp, Op.floatArith, h, choose, Question.forced, Sem.run, World.drewN]
    · rw [← fop_can, h, can_nan (cut_is_nan k x y _)]

theorem wpList_fop {P : Program} {w : World} {ops : Array Oper} {rest : List Oper} {o : Oper} {a : Act} {Q : Exit → Act → World → Prop}
    (hg : o.guard = none) (op : BinOp) (t t2 : TypeId) (x y : Operand) (hop : o.op = Op.binOp op t x y t2) (har : arith op = true)
    (k : FloatKind) (bx bv : Nat) (hx : a.eval x = .float k bx) (hy : a.eval y = .float k bv)
    (hK : ∀ r n, FIs k r (fop op k (can k bx) (can k bv)) → wpList P ops Q rest (a.put o.dst (.float k r)) (w.drewN n)) :
    wpList P ops Q (o :: rest) a w := by
  refine wpList_plain hg fun K hK' => ?_
  obtain ⟨r, n, hrun, hr⟩ := run_fop (P := P) w op t k bx bv har
  have hgd : eqGuard op t x y (.float k bx) (.float k bv) = pure () := by cases op <;> rfl
  unfold Oper.wp
  simp [execOp, hop, hx, hy, hgd, hrun, Result.andThen]
  exact hK' _ _ (hK r n hr)

@[go_sem] theorem drewN_setCell (w : World) (n : Nat) (a : Addr) (v : Value) : (w.drewN n).setCell a v = (w.setCell a v).drewN n := rfl
@[go_sem] theorem drewN_alloc (w : World) (n : Nat) (o : Obj) : (w.drewN n).alloc o = (w.alloc o).drewN n := rfl

theorem below_drewN' {B : Nat} {a w : World} (h : Below B a w) (n : Nat) : Below B a (w.drewN n) := h.trans ⟨rfl, rfl, rfl, Nat.le_refl _, fun _ _ => rfl⟩

@[go_sem] theorem run_store_float {P : Program} (w : World) (a : Addr) (m : Mode) (k : FloatKind) (b : Nat) : (store a (.float k b) m).run P w = stored P w a (.float k b) m := run_store P w a _ m rfl

theorem heap_top (w : World) (o : Obj) (k : Nat) (h : k = w.heap.size) : (w.alloc o).heap[k]? = some o := by rw [h]; exact heap_alloc_new w o

theorem heap_under (w : World) (o : Obj) (k : Nat) {x : Option Obj} (h : k < w.heap.size) (h2 : w.heap[k]? = x) : (w.alloc o).heap[k]? = x := by
  show (w.heap.push o)[k]? = x
  rw [Array.getElem?_push, if_neg (by omega)]
  exact h2
theorem heap_drawn (w : World) (n k : Nat) {x : Option Obj} (h2 : w.heap[k]? = x) : (w.drewN n).heap[k]? = x := h2

/-- The end of a function whose one result is an array or a struct: it lies in a block of its own. -/
theorem end_agg {P : Program} {fn : Func} {R : Ending → World → Prop} {a : Act} {w : World} {p : Tmp} {ty t : TypeId} {g : Nat} {cs : Array Value} {d : TypeDesc}
    (h : fn.results = #[.cell p ty]) (hp : a.tmps.getD p undef = .pointer (some ⟨g, 0, none⟩)) (hf : a.defers = [])
    (hu : P.underlying ty = some d) (hd : (match d with | .struct _ | .array _ _ => true | _ => false) = true)
    (hg : w.heap[g]? = some (.cells cs t (0, 0))) (hi : (P.info? ty).map (·.size) = some cs.size) (hR : R (.returned (.agg cs)) w) : bodyPost P fn R .ret a w :=
  bodyPost_ret (results_cell_row h a.tmps w g t cs (0, 0) d hp hg hu hd hi) hf hR

/-- All that there was is as it was. -/
def Stays (w w' : World) : Prop := Below w.heap.size w w'
theorem Stays.refl (w : World) : Stays w w := Below.refl _ _
theorem Stays.drewN {a w : World} (h : Stays a w) (n : Nat) : Stays a (w.drewN n) := below_drewN' h n
theorem Stays.drew {a w : World} (h : Stays a w) : Stays a w.drew := Below.drew h
theorem Stays.alloc {a w : World} (h : Stays a w) (o : Obj) : Stays a (w.alloc o) := Below.alloc h (Below.size h) o
theorem Stays.trans {a b c : World} (h : Stays a b) (k : Stays b c) : Stays a c := Below.trans h (Below.mono k (Below.size h))
theorem Stays.setCell {a w : World} (h : Stays a w) (p : Addr) (v : Value) (hp : a.heap.size ≤ p.block) : Stays a (w.setCell p v) := Below.setCell h hp v
theorem Stays.cells {W w1 : World} (hb : Stays W w1) : (∀ b o, b < W.heap.size → w1.cell? ⟨b, o, none⟩ = W.cell? ⟨b, o, none⟩) :=
  fun b o h => Below.cell (p := ⟨b, o, none⟩) hb h
theorem Stays.marks {W w1 : World} (hb : Stays W w1) : (∀ b o, b < W.heap.size → w1.frozen? ⟨b, o, none⟩ = W.frozen? ⟨b, o, none⟩) :=
  fun b o h => Below.frozen (p := ⟨b, o, none⟩) hb h
theorem Stays.size {W w1 : World} (hb : Stays W w1) : W.heap.size ≤ w1.heap.size := Below.size hb
theorem Stays.heap {W w1 : World} (hb : Stays W w1) {k : Nat} {x : Option Obj} (h : k < W.heap.size) (hx : W.heap[k]? = x) : w1.heap[k]? = x := by rw [Below.block hb k h]; exact hx

theorem conv_cut (k : FloatKind) (x t : Nat) : Question.cut (.nanConv k x) t = Question.cut (.nanBits k x x) t := by cases k <;> rfl

theorem run_widen {P : Program} (w : World) (src dst : TypeId) (b : Nat) (hs : (P.underlying src).isSome = true) (hd : P.underlying dst = some (.float .f64)) :
    ∃ r n, (convert src dst (.float .f32 b)).run P w = .ok (.float .f64 r) (w.drewN n) ∧ FIs .f64 r ((can .f32 b).map wide) := by
  obtain ⟨u, hs'⟩ := Option.isSome_iff_exists.1 hs
  cases h : (FloatKind.f32.decode b).isNaN with
  | true =>
    refine ⟨Question.cut (.nanConv .f64 b) (w.tape w.drawn (.nanConv .f64 b)), 1, ?_, ?_, ?_⟩
    · cases e : FloatKind.f32.decode b with
      | nan s t => cases u <;> simp [convert, run_underlying hs', run_underlying hd, Conv.floatToFloat, e, choose, Question.forced, Sem.run, World.drewN]
      | number => rw [e] at h; cases h
      | infinity => rw [e] at h; cases h
    · rw [can_nan h, conv_cut, can_nan (cut_is_nan .f64 b b _)]; rfl
    · rw [conv_cut]; exact cut_lt .f64 b b _
  | false =>
    refine ⟨wide b, 0, ?_, ?_, ?_⟩
    · refine run_convert_float_float w src dst .f32 .f64 b (wide b) hs hd ?_
      unfold floatToFloatBits
      rw [if_neg (by decide)]
      cases e : FloatKind.f32.decode b with
      | nan s t => rw [e] at h; cases h
      | infinity s =>
        have e' : Ieee.single.read b = .infinity s := e
        simp only [wide, e']; rfl
      | number s m p =>
        have e' : Ieee.single.read b = .number s m p := e
        have hi := wide_not_inf e'
        unfold wide at hi ⊢
        rw [e'] at hi ⊢
        show (if (Ieee.double.read (Ieee.double.write (.number s m p))).isInfinity = true then none else some (Ieee.double.write (.number s m p))) = _
        rw [hi]; rfl
    · rw [can_num h, Option.map_some]
      refine can_num ?_
      show (Ieee.double.read (Ieee.double.write (Ieee.single.read b))).isNaN = false
      exact write_not_nan _ h
    · exact Ieee.double.write_lt _

theorem wpList_widen {P : Program} {w : World} {ops : Array Oper} {rest : List Oper} {o : Oper} {a : Act} {Q : Exit → Act → World → Prop}
    (hg : o.guard = none) (src dst : TypeId) (x : Operand) (hop : o.op = Op.convert src dst x) (b : Nat) (hx : a.eval x = .float .f32 b)
    (hs : (P.underlying src).isSome = true) (hd : P.underlying dst = some (.float .f64))
    (hK : ∀ r n, FIs .f64 r ((can .f32 b).map wide) → wpList P ops Q rest (a.put o.dst (.float .f64 r)) (w.drewN n)) :
    wpList P ops Q (o :: rest) a w := by
  refine wpList_plain hg fun K hK' => ?_
  obtain ⟨r, n, hrun, hr⟩ := run_widen (P := P) w src dst b hs hd
  unfold Oper.wp
  simp [execOp, hop, hx, hrun, Result.andThen]
  exact hK' _ _ (hK r n hr)

/-- Not too great to be narrow. -/
def fits (b : Nat) : Bool := (Ieee.double.read b).isInfinity || !(Ieee.single.read (slim b)).isInfinity

theorem run_slim {P : Program} (w : World) (src dst : TypeId) (b : Nat) (hs : (P.underlying src).isSome = true) (hd : P.underlying dst = some (.float .f32)) (hf : ∀ c, can .f64 b = some c → fits c = true) :
    ∃ r n, (convert src dst (.float .f64 b)).run P w = .ok (.float .f32 r) (w.drewN n) ∧ FIs .f32 r ((can .f64 b).map slim) := by
  obtain ⟨u, hs'⟩ := Option.isSome_iff_exists.1 hs
  cases h : (FloatKind.f64.decode b).isNaN with
  | true =>
    refine ⟨Question.cut (.nanConv .f32 b) (w.tape w.drawn (.nanConv .f32 b)), 1, ?_, ?_, ?_⟩
    · cases e : FloatKind.f64.decode b with
      | nan s t => cases u <;> simp [convert, run_underlying hs', run_underlying hd, Conv.floatToFloat, e, choose, Question.forced, Sem.run, World.drewN]
      | number => rw [e] at h; cases h
      | infinity => rw [e] at h; cases h
    · rw [can_nan h, conv_cut, can_nan (cut_is_nan .f32 b b _)]; rfl
    · rw [conv_cut]; exact cut_lt .f32 b b _
  | false =>
    have hfb := hf b (can_num h)
    refine ⟨slim b, 0, ?_, ?_, ?_⟩
    · refine run_convert_float_float w src dst .f64 .f32 b (slim b) hs hd ?_
      unfold floatToFloatBits
      rw [if_neg (by decide)]
      cases e : FloatKind.f64.decode b with
      | nan s t => rw [e] at h; cases h
      | infinity s =>
        have e' : Ieee.double.read b = .infinity s := e
        simp only [slim, e']; rfl
      | number s m p =>
        have e' : Ieee.double.read b = .number s m p := e
        have hi : (Ieee.single.read (slim b)).isInfinity = false := by
          unfold fits at hfb
          rw [e'] at hfb
          simpa [Ieee.Datum.isInfinity] using hfb
        unfold slim at hi ⊢
        rw [e'] at hi ⊢
        show (if (Ieee.single.read (Ieee.single.write (.number s m p))).isInfinity = true then none else some (Ieee.single.write (.number s m p))) = _
        rw [hi]; rfl
    · rw [can_num h, Option.map_some]
      refine can_num ?_
      show (Ieee.single.read (Ieee.single.write (Ieee.double.read b))).isNaN = false
      exact write_not_nan _ h
    · exact Ieee.single.write_lt _

theorem wpList_slim {P : Program} {w : World} {ops : Array Oper} {rest : List Oper} {o : Oper} {a : Act} {Q : Exit → Act → World → Prop}
    (hg : o.guard = none) (src dst : TypeId) (x : Operand) (hop : o.op = Op.convert src dst x) (b : Nat) (hx : a.eval x = .float .f64 b)
    (hs : (P.underlying src).isSome = true) (hd : P.underlying dst = some (.float .f32)) (hf : ∀ c, can .f64 b = some c → fits c = true)
    (hK : ∀ r n, FIs .f32 r ((can .f64 b).map slim) → wpList P ops Q rest (a.put o.dst (.float .f32 r)) (w.drewN n)) :
    wpList P ops Q (o :: rest) a w := by
  refine wpList_plain hg fun K hK' => ?_
  obtain ⟨r, n, hrun, hr⟩ := run_slim (P := P) w src dst b hs hd hf
  unfold Oper.wp
  simp [execOp, hop, hx, hrun, Result.andThen]
  exact hK' _ _ (hK r n hr)

end Go.Proofs.Ytcopccniijkceaa
