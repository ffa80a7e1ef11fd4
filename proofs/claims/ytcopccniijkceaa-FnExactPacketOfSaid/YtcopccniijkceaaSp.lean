/- Soft regions: float operations and conversions. No condition. -/
import Derived.Deep.MidRow
import Derived.Test.YtcopccniijkceaaSo
namespace Go.Proofs.Ytcopccniijkceaa
open Go Go.RowKit
set_option linter.unusedVariables false
section
variable {P : Program} {ops : Array Oper} {S : FuncId → Array Value → Value → Prop} {A : List (Tmp × Array Value × TypeId)} {W : World} {Q : Act → Prop} {a : Act} {o : Oper} {rest : List Oper}

theorem soft_fop (hg : o.guard = none) (hA : (A.all fun e => o.dst != some e.1) = true) (op : BinOp) (t t2 : TypeId) (x y : Operand) (hop : o.op = Op.binOp op t x y t2) (har : arith op = true)
    (k : FloatKind) (bx bv : Nat) (hx : a.eval x = .float k bx) (hy : a.eval y = .float k bv)
    (hK : ∀ r, FIs k r (fop op k (can k bx) (can k bv)) → wpSoft P ops W S A Q rest (a.put o.dst (.float k r))) : wpSoft P ops W S A Q (o :: rest) a := by
  refine soft_any (fun v => ∃ r, v = .float k r ∧ FIs k r (fop op k (can k bx) (can k bv))) hg hA (fun w _ => ?_) (fun v ⟨r, hv, hr⟩ => by subst hv; exact hK r hr)
  obtain ⟨r, n, hrun, hr⟩ := run_fop (P := P) w op t k bx bv har
  have hgd : eqGuard op t x y (.float k bx) (.float k bv) = pure () := by cases op <;> rfl
  refine ⟨.float k r, w.drewN n, ?_, ⟨r, rfl, hr⟩, (Stays.refl w).drewN n⟩
  simp [execOp, hop, hx, hy, hgd, hrun, Result.andThen]

theorem soft_widen (hg : o.guard = none) (hA : (A.all fun e => o.dst != some e.1) = true) (src dst : TypeId) (x : Operand) (hop : o.op = Op.convert src dst x) (b : Nat) (hx : a.eval x = .float .f32 b)
    (hs : (P.underlying src).isSome = true) (hd : P.underlying dst = some (.float .f64))
    (hK : ∀ r, FIs .f64 r ((can .f32 b).map wide) → wpSoft P ops W S A Q rest (a.put o.dst (.float .f64 r))) : wpSoft P ops W S A Q (o :: rest) a := by
  refine soft_any (fun v => ∃ r, v = .float .f64 r ∧ FIs .f64 r ((can .f32 b).map wide)) hg hA (fun w _ => ?_) (fun v ⟨r, hv, hr⟩ => by subst hv; exact hK r hr)
  obtain ⟨r, n, hrun, hr⟩ := run_widen (P := P) w src dst b hs hd
  refine ⟨.float .f64 r, w.drewN n, ?_, ⟨r, rfl, hr⟩, (Stays.refl w).drewN n⟩
  simp [execOp, hop, hx, hrun, Result.andThen]

theorem Stays.setRow {W w : World} (h : Stays W w) (p : Nat) (cs : Array Value) (hp : W.heap.size ≤ p) : Stays W (w.setRow p cs) :=
  Below.trans h ⟨rfl, rfl, rfl, by simp, fun k hk => setRow_other w p k cs (by omega)⟩

/-- A whole row stored into a block of the call's own. -/
theorem wpList_store_row {w : World} {Qx : Exit → Act → World → Prop} (hg : o.guard = none) (t : TypeId) (x y : Operand) (hop : o.op = Op.store t x y) (p : Nat) (cs cs' : Array Value)
    (hx : a.eval x = .pointer (some ⟨p, 0, none⟩)) (hy : a.eval y = .agg cs') (hh : w.heap[p]? = some (.cells cs t (0, 0))) (hi : (P.info? t).map (·.size) = some cs'.size) (ho : cs.size = cs'.size)
    (h1 : cs'.all (·.oneCell') = true) (hB : W.heap.size ≤ p) (hS : Stays W w)
    (hK : ∀ w', Stays W w' → w'.heap[p]? = some (.cells cs' t (0, 0)) → (∀ k, k < w.heap.size → k ≠ p → w'.heap[k]? = w.heap[k]?) → w'.heap.size = w.heap.size → wpList P ops Qx rest (a.put o.dst undef) w') : wpList P ops Qx (o :: rest) a w := by
  refine wpList_plain hg fun K hK' => ?_
  have hrun := run_storeVar_row (P := P) w p t t cs cs' hh hi ho h1
  unfold Oper.wp
  simp [execOp, hop, hx, hy, Instr.storeAt, Instr.sureAddr, hrun, Result.andThen]
  exact hK' _ _ (hK _ (hS.setRow p cs' hB) (setRow_heap w p cs cs' t (0, 0) hh) (fun k _ hne => setRow_other w p k cs' hne) (by simp))


/-- A row with some of its cells written anew. -/
def splice (cs : Array Value) (o : Nat) : List Value → Array Value
  | [] => cs
  | v :: r => splice (cs.setIfInBounds o v) (o + 1) r

theorem setCells_heap (p : Nat) (t : TypeId) : ∀ (vs : List Value) (o : Nat) (cs : Array Value) (w : World), w.heap[p]? = some (.cells cs t (0, 0)) →
    (w.setCells p o vs).heap[p]? = some (.cells (splice cs o vs) t (0, 0)) ∧ (∀ k, k ≠ p → (w.setCells p o vs).heap[k]? = w.heap[k]?) ∧ (w.setCells p o vs).heap.size = w.heap.size ∧
    (w.setCells p o vs).os = w.os ∧ (w.setCells p o vs).tape = w.tape ∧ (w.setCells p o vs).output = w.output
  | [], o, cs, w, h => ⟨h, fun _ _ => rfl, rfl, rfl, rfl, rfl⟩
  | v :: r, o, cs, w, h => by
    obtain ⟨a1, a2, a3, a4, a5, a6⟩ := setCells_heap p t r (o + 1) (cs.setIfInBounds o v) (w.setCell ⟨p, o, none⟩ v) (heap_setCell_same w p o cs t v h)
    refine ⟨a1, fun k hk => (a2 k hk).trans (heap_setCell_other w ⟨p, o, none⟩ k v hk), ?_, a4, a5, a6⟩
    rw [show w.setCells p o (v :: r) = (w.setCell ⟨p, o, none⟩ v).setCells p (o + 1) r from rfl, a3]
    simp

theorem wpList_store_mid {w : World} {Qx : Exit → Act → World → Prop} (hg : o.guard = none) (ty : TypeId) (x y : Operand) (hop : o.op = Op.store ty x y) (p off : Nat) (t : TypeId) (cs new : Array Value)
    (hx : a.eval x = .pointer (some ⟨p, off, none⟩)) (hy : a.eval y = .agg new) (hh : w.heap[p]? = some (.cells cs t (0, 0))) (hi : (P.info? ty).map (·.size) = some new.size) (hb : off + new.size ≤ cs.size)
    (h1 : new.all (·.oneCell') = true) (hB : W.heap.size ≤ p) (hS : Stays W w)
    (hK : ∀ w', Stays W w' → w'.heap[p]? = some (.cells (splice cs off new.toList) t (0, 0)) → (∀ k, k ≠ p → w'.heap[k]? = w.heap[k]?) → wpList P ops Qx rest (a.put o.dst undef) w') : wpList P ops Qx (o :: rest) a w := by
  refine wpList_plain hg fun K hK' => ?_
  have hth : w.there p off new.size := fun j hj => by
    have e : w.cell? ⟨p, off + j, none⟩ = cs[off + j]? := cell_of_row w p (off + j) cs t (0, 0) hh
    refine ⟨?_, frozen_of_row w p (off + j) cs t hh⟩
    rw [e]
    have : off + j < cs.size := by omega
    simp [this]
  have hrun := run_storeAt_mid (P := P) w p off ty new hth hi h1
  obtain ⟨a1, a2, a3, a4, a5, a6⟩ := setCells_heap p t new.toList off cs w hh
  unfold Oper.wp
  simp [execOp, hop, hx, hy, hrun, Result.andThen]
  refine hK' _ _ (hK _ (Below.trans hS ⟨a4, a5, a6, by omega, fun k hk => a2 k (by omega)⟩) a1 a2)

theorem wpList_of_soft {Qx : Exit → Act → World → Prop} (l2 : List Oper) : ∀ (l1 : List Oper) (a : Act) (w : World), Keeps W A a w →
    wpSoft P ops W S A (fun a' => ∀ w', Keeps W A a' w' → wpList P ops Qx l2 a' w') l1 a → wpList P ops Qx (l1 ++ l2) a w
  | [], a, w, hw, h => h w hw
  | o :: l1, a, w, hw, h => by
    refine wpList_step fun K hK => ?_
    have hh : Soft P ops W S A o (wpSoft P ops W S A (fun a' => ∀ w', Keeps W A a' w' → wpList P ops Qx l2 a' w') l1) a := h
    split
    · rename_i hwa
      exact soft_to_wp hw (fun a' w' hw' h' => hK a' w' (wpList_of_soft l2 l1 a' w' hw' h')) hwa hh
    · rename_i hwa
      have hd : ∀ e ∈ A, o.dst ≠ some e.1 := fun e he hd => hwa (hh.makes e he hd).1
      exact hK _ _ (wpList_of_soft l2 l1 _ _ (hw.put hd) (hh.next undef (Or.inr ⟨by simpa using hwa, rfl⟩)))

/-- The same for a region that has one order. -/
theorem wp_region_soft_seq {id : Nat} {Qx : Exit → Act → World → Prop} {w : World} {l : List Oper} (n : Nat) (hW : Stays W w) (S : FuncId → Array Value → Value → Prop) (A : List (Tmp × Array Value × TypeId))
    (hA : ∀ e ∈ A, ∀ p, a.tmps.getD e.1 undef ≠ .pointer p)
    (h : wpSoft P l.toArray W S A (fun a' => ∀ w', Keeps W A a' w' → wpList P l.toArray Qx (l.drop n) a' w') (l.take n) a) : (Code.region id l.toArray false).wp P Qx a w := by
  refine wp_region_lit ?_
  have := wpList_of_soft (l.drop n) (l.take n) a w ⟨hW, fun e he p hp => absurd hp (hA e he _)⟩ h
  rwa [List.take_append_drop] at this

end
end Go.Proofs.Ytcopccniijkceaa
