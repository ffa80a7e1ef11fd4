/- Spots of grids: whether there is one, and where its cost is kept, on both sides. No condition. -/
import Derived.Test.YtjggecboimdpdaaGdB
import Derived.Test.YtjggecboimdpdaaGSpot
import Derived.WalkLawsBesides
namespace Go.Proofs.Ytjggecboimdpdaa
open Go Go.RowKit
set_option linter.unusedVariables false
set_option linter.unusedSimpArgs false

def hasB (a b x y : Int) : Bool := decide (0 ≤ x ∧ x ≤ a - 1) && decide (0 ≤ y ∧ y ≤ b - 1)
def In16 (x : Int) : Prop := -32768 ≤ x ∧ x ≤ 32767

theorem hasB_iff {a b x y : Int} : hasB a b x y = true ↔ (0 ≤ x ∧ x ≤ a - 1) ∧ (0 ≤ y ∧ y ≤ b - 1) := by
  unfold hasB
  rw [Bool.and_eq_true, decide_eq_true_iff, decide_eq_true_iff]

theorem in16 {x : Int} (h : In16 x) : IntKind.i64.wrap x = x := IntWalk.i64_in _ (by unfold In16 at h; omega)

/-- A grid in a block. -/
def GridAt (w : World) (p : Nat) (a b : Int) (A : Option Addr) (c n : Nat) : Prop := ∀ w1, Below w.heap.size w w1 → w1.cell? ⟨p, 0, none⟩ = some (.int .i64 a) ∧ w1.cell? ⟨p, 1, none⟩ = some (.int .i64 b) ∧ w1.cell? ⟨p, 2, none⟩ = some (.slice A n c)

theorem grid_at {w : World} {p : Nat} {a b : Int} {A : Option Addr} {c n : Nat} {t : TypeId} (hg : w.heap[p]? = some (.cells #[.int .i64 a, .int .i64 b, .slice A n c] t (0, 0))) : GridAt w p a b A c n := fun w1 h => ⟨row_of h hg 0, row_of h hg 1, row_of h hg 2⟩

theorem GridAt.on {w w' : World} {p : Nat} {a b : Int} {A : Option Addr} {c n : Nat} (h : GridAt w p a b A c n) (hb : Below w.heap.size w w') : GridAt w' p a b A c n := fun w1 h1 => h w1 (hb.trans (Below.mono h1 hb.size))

theorem idx_bd {a b x y : Int} (ha : 1 ≤ a ∧ a ≤ 24) (hb : 1 ≤ b ∧ b ≤ 24) (hx : 0 ≤ x ∧ x ≤ a - 1) (hy : 0 ≤ y ∧ y ≤ b - 1) : 0 ≤ y * a ∧ y * a ≤ 552 ∧ 0 ≤ y * a + x ∧ y * a + a ≤ b * a ∧ y * a + x < b * a := by
  have h1 : 0 ≤ y * a := Int.mul_nonneg hy.1 (by omega)
  have h2 : y * a ≤ 23 * 24 := Int.mul_le_mul (by omega) (by omega) (by omega) (by omega)
  have h3 : (y + 1) * a ≤ b * a := Int.mul_le_mul_of_nonneg_right (by omega) (by omega)
  rw [Int.add_mul, Int.one_mul] at h3
  omega

end Go.Proofs.Ytjggecboimdpdaa
