/- Laws of the walk for float operations: the result is known by 'FIs', the world is as it was but for draws. No condition. -/
import Derived.WalkKit
import Derived.WalkLawsBesides
import Derived.WalkSpells
import Derived.Below
import Derived.Deep.Draws
import Derived.Test.YtbcnafanjemaeaaFp
namespace Go.Proofs.Ytbcnafanjemaeaa
open Go Go.RowKit

theorem ret_b {x y : Bool} (h : x = y) : Ending.returned (.bool x) = .returned (.bool y) := by rw [h]
theorem ret_f {k : FloatKind} {x y : Nat} (h : x = y) : Ending.returned (.float k x) = .returned (.float k y) := by rw [h]

def arith : BinOp → Bool
  | .add | .sub | .mul | .quo => true
  | _ => false

theorem run_fop {P : Program} (w : World) (op : BinOp) (t : TypeId) (k : FloatKind) (x y : Nat) (ha : arith op = true) :
    ∃ r n, (binOp op t (.float k x) (.float k y)).run P w = .ok (.float k r) (w.drewN n) ∧ FIs k r (fop op k (can k x) (can k y)) := by
  cases h : floatBits op k x y with
  | some r =>
    refine ⟨r, 0, run_float_arith w op t k x y r h, ?_, ?_⟩
    · rw [← fop_can, h, can_num (floatBits_not_nan h)]
    · unfold floatBits at h
      split at h
      · exact k.format.add_lt h
      · exact k.format.sub_lt h
      · exact k.format.mul_lt h
      · exact k.format.div_lt h
      · cases h
  | none =>
    refine ⟨Question.cut (.nanBits k x y) (w.tape w.drawn (.nanBits k x y)), 1, ?_, ?_, cut_lt k x y _⟩
    · unfold floatBits at h
      cases op <;> simp only at h <;> first | cases ha | skip
      all_goals
        simp [binOp, Op.floatArith, h, choose, Question.forced, Sem.run, World.drewN]
    · rw [← fop_can, h, can_nan (cut_is_nan k x y _)]

theorem wpList_fop {P : Program} {w : World} {ops : Array Oper} {rest : List Oper} {o : Oper} {a : Act} {Q : Exit → Act → World → Prop}
    (hg : o.guard = none) (op : BinOp) (t t2 : TypeId) (x y : Operand) (hop : o.op = Op.binOp op t x y t2) (har : arith op = true)
    (k : FloatKind) (bx bv : Nat) (hx : a.eval x = .float k bx) (hy : a.eval y = .float k bv)
    (hK : ∀ r n, FIs k r (fop op k (can k bx) (can k bv)) → wpList P ops Q rest (a.put o.dst (.float k r)) (w.drewN n)) :
    wpList P ops Q (o :: rest) a w := by
  refine wpList_plain hg fun K hK' => ?_
  obtain ⟨r, n, hrun, hr⟩ := run_fop (P := P) w op t k bx bv har
  have hgd : eqGuard op t x y (.float k bx) (.float k bv) = pure () := by cases op <;> rfl
  unfold Oper.wp
  simp [execOp, hop, hx, hy, hgd, hrun, Result.andThen]
  exact hK' _ _ (hK r n hr)

end Go.Proofs.Ytbcnafanjemaeaa
