/- Feeds without some of their readings. No condition. -/
import Derived.Test.YtcopccniijkceaaLe
import Derived.OwnWalk
import Derived.Deep.AppendLies
namespace Go.Proofs.Ytcopccniijkceaa
open Go Go.RowKit
set_option linter.unusedVariables false

/-- Whether a reading stays. -/
def stays (mk : Int) (k : Nat) : Bool := bits .and .u16 (mk / 2 ^ (k % 16)) 1 == 0

def keptTo (mk : Int) (rs : List Rd) : Nat → List Rd
  | 0 => []
  | k + 1 => if stays mk k then keptTo mk rs k ++ (rs[k]?).toList else keptTo mk rs k

def cellsOf (rs : List Rd) : List Value := rs.flatMap fun r => r.cells.toList

theorem keptTo_len (mk : Int) (rs : List Rd) : ∀ k, (keptTo mk rs k).length ≤ k
  | 0 => Nat.le_refl _
  | k + 1 => by
    unfold keptTo
    have := keptTo_len mk rs k
    split
    · rw [List.length_append]
      have : (rs[k]?).toList.length ≤ 1 := by cases rs[k]? <;> simp
      omega
    · omega

/-- The list that is being made, and what there was. -/
structure Grows (w wr : World) (v : Value) (xs : List Rd) : Prop where
  own : wr.ownsRow w.heap.size 119 4 v xs.length (cellsOf xs)
  below : Below w.heap.size w wr

def DoneAs (w : World) (code : Int) (xs : List Rd) (e : Ending) (w' : World) : Prop := ∃ v, e = .returned (.tuple #[v, .int .i64 code]) ∧ Grows w w' v xs

theorem cells_one (r : Rd) : ∀ u ∈ r.cells.toList, u.oneCell' = true := by
  intro v hv
  simp only [Rd.cells, List.mem_cons, List.not_mem_nil, or_false] at hv
  rcases hv with rfl | rfl | rfl | rfl <;> rfl

theorem cellsOf_snoc (ks : List Rd) (r : Rd) : cellsOf (ks ++ [r]) = cellsOf ks ++ r.cells.toList := by simp [cellsOf]

theorem kept_true {mk : Int} {rs : List Rd} {k : Nat} {r : Rd} (h : stays mk k = true) (hr : rs[k]? = some r) : keptTo mk rs (k + 1) = keptTo mk rs k ++ [r] := by
  show (if stays mk k then keptTo mk rs k ++ (rs[k]?).toList else keptTo mk rs k) = _
  rw [if_pos h, hr]; rfl
theorem kept_false {mk : Int} {rs : List Rd} {k : Nat} (h : stays mk k = false) : keptTo mk rs (k + 1) = keptTo mk rs k := by
  show (if stays mk k then keptTo mk rs k ++ (rs[k]?).toList else keptTo mk rs k) = _
  rw [if_neg (by rw [h]; exact Bool.false_ne_true)]

theorem Grows.form {w wr : World} {v : Value} {xs : List Rd} (h : Grows w wr v xs) : ∃ ao cv, v = .slice ao xs.length cv := by
  rcases h.own.2 with ⟨rfl, h0⟩ | ⟨g, cap, cur, rfl, _⟩
  · exact ⟨none, 0, by rw [h0]⟩
  · exact ⟨_, _, rfl⟩

theorem Grows.empty {w wr : World} (hb : Below w.heap.size w wr) : Grows w (wr.alloc (.cells #[] 119)) (.slice (some ⟨wr.heap.size, 0, none⟩) 0 0) [] :=
  ⟨World.ownsRow_made wr #[] 0 hb.size (Nat.zero_le _) rfl, hb.alloc hb.size _⟩

theorem Grows.drewN {w wr : World} {v : Value} {xs : List Rd} (h : Grows w wr v xs) (m : Nat) : Grows w (wr.drewN m) v xs := ⟨h.own, h.below.trans ((below_drewN wr m).mono h.below.size)⟩

theorem Grows.more {w wr w1 : World} {v v' : Value} {ks : List Rd} {r : Rd} {o : Obj} (h : Grows w wr v ks) (h1 : w1.ownsRow w.heap.size 119 4 v' (ks.length + 1) (cellsOf ks ++ r.cells.toList)) (hg : (wr.alloc o).grownBy w1 v.ownBlock) : Grows w w1 v' (ks ++ [r]) :=
  ⟨by rw [cellsOf_snoc, List.length_append]; exact h1, (h.below.alloc h.below.size o).grown hg (Nat.le_trans h.below.size (by simp)) (fun q hq => (h.own.lt q hq).1)⟩

end Go.Proofs.Ytcopccniijkceaa
