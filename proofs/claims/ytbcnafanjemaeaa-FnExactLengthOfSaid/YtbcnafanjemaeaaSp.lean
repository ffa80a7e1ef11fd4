/- Soft regions: float operations and conversions. No condition. -/
import Derived.Test.YtbcnafanjemaeaaSo
namespace Go.Proofs.Ytbcnafanjemaeaa
open Go Go.RowKit
set_option linter.unusedVariables false
section
variable {P : Program} {ops : Array Oper} {S : FuncId → Array Value → Value → Prop} {A : List (Tmp × Array Value × TypeId)} {W : World} {Q : Act → Prop} {a : Act} {o : Oper} {rest : List Oper}

theorem soft_fop (hg : o.guard = none) (hA : (A.all fun e => o.dst != some e.1) = true) (op : BinOp) (t t2 : TypeId) (x y : Operand) (hop : o.op = Op.binOp op t x y t2) (har : arith op = true)
    (k : FloatKind) (bx bv : Nat) (hx : a.eval x = .float k bx) (hy : a.eval y = .float k bv)
    (hK : ∀ r, FIs k r (fop op k (can k bx) (can k bv)) → wpSoft P ops W S A Q rest (a.put o.dst (.float k r))) : wpSoft P ops W S A Q (o :: rest) a := by
  refine soft_any (fun v => ∃ r, v = .float k r ∧ FIs k r (fop op k (can k bx) (can k bv))) hg hA (fun w _ => ?_) (fun v ⟨r, hv, hr⟩ => by subst hv; exact hK r hr)
  obtain ⟨r, n, hrun, hr⟩ := run_fop (P := P) w op t k bx bv har
  have hgd : eqGuard op t x y (.float k bx) (.float k bv) = pure () := by cases op <;> rfl
  refine ⟨.float k r, w.drewN n, ?_, ⟨r, rfl, hr⟩, (Stays.refl w).drewN n⟩
  simp [execOp, hop, hx, hy, hgd, hrun, Result.andThen]

theorem soft_widen (hg : o.guard = none) (hA : (A.all fun e => o.dst != some e.1) = true) (src dst : TypeId) (x : Operand) (hop : o.op = Op.convert src dst x) (b : Nat) (hx : a.eval x = .float .f32 b)
    (hs : (P.underlying src).isSome = true) (hd : P.underlying dst = some (.float .f64))
    (hK : ∀ r, FIs .f64 r ((can .f32 b).map wide) → wpSoft P ops W S A Q rest (a.put o.dst (.float .f64 r))) : wpSoft P ops W S A Q (o :: rest) a := by
  refine soft_any (fun v => ∃ r, v = .float .f64 r ∧ FIs .f64 r ((can .f32 b).map wide)) hg hA (fun w _ => ?_) (fun v ⟨r, hv, hr⟩ => by subst hv; exact hK r hr)
  obtain ⟨r, n, hrun, hr⟩ := run_widen (P := P) w src dst b hs hd
  refine ⟨.float .f64 r, w.drewN n, ?_, ⟨r, rfl, hr⟩, (Stays.refl w).drewN n⟩
  simp [execOp, hop, hx, hrun, Result.andThen]

theorem Stays.setRow {W w : World} (h : Stays W w) (p : Nat) (cs : Array Value) (hp : W.heap.size ≤ p) : Stays W (w.setRow p cs) :=
  Below.trans h ⟨rfl, rfl, rfl, by simp, fun k hk => setRow_other w p k cs (by omega)⟩

/-- A whole row stored into a block of the call's own. -/
theorem wpList_store_row {w : World} {Qx : Exit → Act → World → Prop} (hg : o.guard = none) (t : TypeId) (x y : Operand) (hop : o.op = Op.store t x y) (p : Nat) (cs cs' : Array Value)
    (hx : a.eval x = .pointer (some ⟨p, 0, none⟩)) (hy : a.eval y = .agg cs') (hh : w.heap[p]? = some (.cells cs t (0, 0))) (hi : (P.info? t).map (·.size) = some cs'.size) (ho : cs.size = cs'.size)
    (h1 : cs'.all (·.oneCell') = true) (hB : W.heap.size ≤ p) (hS : Stays W w)
    (hK : ∀ w', Stays W w' → w'.heap[p]? = some (.cells cs' t (0, 0)) → (∀ k, k < w.heap.size → k ≠ p → w'.heap[k]? = w.heap[k]?) → w'.heap.size = w.heap.size → wpList P ops Qx rest (a.put o.dst undef) w') : wpList P ops Qx (o :: rest) a w := by
  refine wpList_plain hg fun K hK' => ?_
  have hrun := run_storeVar_row (P := P) w p t t cs cs' hh hi ho h1
  unfold Oper.wp
  simp [execOp, hop, hx, hy, Instr.storeAt, Instr.sureAddr, hrun, Result.andThen]
  exact hK' _ _ (hK _ (hS.setRow p cs' hB) (setRow_heap w p cs cs' t (0, 0) hh) (fun k _ hne => setRow_other w p k cs' hne) (by simp))


theorem wpList_of_soft {Qx : Exit → Act → World → Prop} (l2 : List Oper) : ∀ (l1 : List Oper) (a : Act) (w : World), Keeps W A a w →
    wpSoft P ops W S A (fun a' => ∀ w', Keeps W A a' w' → wpList P ops Qx l2 a' w') l1 a → wpList P ops Qx (l1 ++ l2) a w
  | [], a, w, hw, h => h w hw
  | o :: l1, a, w, hw, h => by
    refine wpList_step fun K hK => ?_
    have hh : Soft P ops W S A o (wpSoft P ops W S A (fun a' => ∀ w', Keeps W A a' w' → wpList P ops Qx l2 a' w') l1) a := h
    split
    · rename_i hwa
      exact soft_to_wp hw (fun a' w' hw' h' => hK a' w' (wpList_of_soft l2 l1 a' w' hw' h')) hwa hh
    · rename_i hwa
      have hd : ∀ e ∈ A, o.dst ≠ some e.1 := fun e he hd => hwa (hh.makes e he hd).1
      exact hK _ _ (wpList_of_soft l2 l1 _ _ (hw.put hd) (hh.next undef (Or.inr ⟨by simpa using hwa, rfl⟩)))

/-- The same for a region that has one order. -/
theorem wp_region_soft_seq {id : Nat} {Qx : Exit → Act → World → Prop} {w : World} {l : List Oper} (n : Nat) (hW : Stays W w) (S : FuncId → Array Value → Value → Prop) (A : List (Tmp × Array Value × TypeId))
    (hA : ∀ e ∈ A, ∀ p, a.tmps.getD e.1 undef ≠ .pointer p)
    (h : wpSoft P l.toArray W S A (fun a' => ∀ w', Keeps W A a' w' → wpList P l.toArray Qx (l.drop n) a' w') (l.take n) a) : (Code.region id l.toArray false).wp P Qx a w := by
  refine wp_region_lit ?_
  have := wpList_of_soft (l.drop n) (l.take n) a w ⟨hW, fun e he p hp => absurd hp (hA e he _)⟩ h
  rwa [List.take_append_drop] at this

end
end Go.Proofs.Ytbcnafanjemaeaa
