/- Grids that are made: the empty one, on both sides; grids that are told by their costs' places. No condition. -/
import Derived.Test.YteidjmliepmlmaaGdB
import Derived.Laws.MakeOwn
namespace Go.Proofs.Yteidjmliepmlmaa
open Go Go.RowKit
set_option linter.unusedVariables false
set_option linter.unusedSimpArgs false

/-- A grid and a code, its costs in a block of its own. -/
def GDone (w : World) (a b : Int) (xs : List Int) (code : Int) (e : Ending) (w' : World) : Prop :=
  ∃ g A c, e = .returned (.tuple #[.agg #[.int .i64 a, .int .i64 b, .slice A xs.length c], .int .i64 code]) ∧ Below w.heap.size w w' ∧ (w.heap.size ≤ g ∧ g < w'.heap.size) ∧ LiesB w' g (.slice A xs.length c) xs

theorem lies_nil (w : World) (g : Nat) : LiesB w g (.slice none 0 0) [] := ⟨none, 0, rfl, fun h => absurd rfl h⟩

theorem made_at (z : Value) (n j : Nat) (h : j < n) : (madeCells #[z] n)[j]? = some z := by
  unfold madeCells
  rw [Array.getElem?_map, Array.getElem?_range]
  simp [h, Nat.mod_one]

theorem lies_made (w : World) (n : Nat) : LiesB (w.alloc (.cells (madeCells #[Value.int .u8 0] n) 5)) w.heap.size (.slice (some ⟨w.heap.size, 0, none⟩) n n) (List.replicate n 0) := by
  have hg : (w.alloc (.cells (madeCells #[Value.int .u8 0] n) 5)).heap[w.heap.size]? = some (.cells (madeCells #[Value.int .u8 0] n) 5 (0, 0)) := heap_alloc_new w _
  refine ⟨_, _, by rw [List.length_replicate], fun _ => ⟨rfl, in_heap hg, by rw [List.length_replicate, Nat.mul_one]; exact made_there w _ n _, fun i r hr => ?_⟩⟩
  have hi := (List.getElem?_eq_some_iff.1 hr).1
  rw [List.length_replicate] at hi
  have h0 : r = 0 := by
    rw [List.getElem?_replicate, if_pos hi] at hr
    exact (Option.some.inj hr).symm
  subst h0
  refine ⟨[.int .u8 0], ⟨rfl, trivial⟩, fun j u hu => ?_⟩
  cases j with
  | zero =>
    cases hu
    rw [cell_of_row _ _ _ _ _ _ hg]
    show (madeCells #[Value.int .u8 0] n)[i * 1 + 0]? = _
    rw [Nat.mul_one]
    exact made_at _ n i hi
  | succ j => simp at hu

theorem end_gd {P : Program} {fn : Func} {R : Ending → World → Prop} {a : Act} {w : World} {p u : Tmp} {ty t : TypeId} {g : Nat} {cs : Array Value} {d : TypeDesc}
    (h : fn.results = #[.cell p ty, .tmp u]) (hp : a.tmps.getD p undef = .pointer (some ⟨g, 0, none⟩)) (hf : a.defers = [])
    (hu : P.underlying ty = some d) (hd : (match d with | .struct _ | .array _ _ => true | _ => false) = true)
    (hg : w.heap[g]? = some (.cells cs t (0, 0))) (hi : (P.info? ty).map (·.size) = some cs.size) (hR : R (.returned (.tuple #[.agg cs, a.tmps.getD u undef])) w) : bodyPost P fn R .ret a w := by
  refine bodyPost_ret ?_ hf hR
  rw [results_cell_tmp h, hp]
  simp [asAddr, run_loadVar_row w g t ty cs (0, 0) d hg hu hd hi, Result.andThen]

def empA (a b : Int) : Int := if okW a && okW b then a else 0
def empN (a b : Int) : List Int := if okW a && okW b then List.replicate (a * b).toNat 0 else []
def empC (a b : Int) : Int := if okW a && okW b then 0 else 2

theorem hmake (a b : Int) (n : Nat) (h : a * b = n) (hn : n ≤ 576) (u : World) : (Instr.makeSlice 22 (.int .i64 (a * b)) (.int .i64 (a * b))).run Try.prog u = .ok (.slice (some ⟨u.heap.size, 0, none⟩) n n) (u.alloc (.cells (madeCells #[Value.int .u8 0] n) 5)) := by
  obtain ⟨i0, hi0, hz0, hz1, hz2⟩ := info_parts infoByte
  have := run_make (P := Try.prog) u 22 5 i0 _ Try.underlying22 hi0 hz0 .i64 .i64 (n : Nat) (n : Nat) (by omega) (Int.le_refl _) (by rw [hz2]; omega) (by omega)
  simp [hz1] at this
  rw [h]
  exact this

end Go.Proofs.Yteidjmliepmlmaa
