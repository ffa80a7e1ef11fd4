/- Grids that are made: the empty one, on both sides; grids that are told by their costs' places. No condition. -/
import Derived.Test.YtejljfejajckoaaGdB
import Derived.Laws.MakeOwn
namespace Go.Proofs.Ytejljfejajckoaa
open Go Go.RowKit
set_option linter.unusedVariables false
set_option linter.unusedSimpArgs false

/-- A grid and a code, its costs in a block of its own. -/
def GDone (w : World) (a b : Int) (xs : List Int) (code : Int) (e : Ending) (w' : World) : Prop :=
  ∃ g A c, e = .returned (.tuple #[.agg #[.int .i64 a, .int .i64 b, .slice A xs.length c], .int .i64 code]) ∧ Below w.heap.size w w' ∧ (w.heap.size ≤ g ∧ g < w'.heap.size) ∧ LiesB w' g (.slice A xs.length c) xs

theorem lies_nil (w : World) (g : Nat) : LiesB w g (.slice none 0 0) [] := ⟨none, 0, rfl, fun h => absurd rfl h⟩

theorem made_at (z : Value) (n j : Nat) (h : j < n) : (madeCells #[z] n)[j]? = some z := by
  unfold madeCells
  rw [Array.getElem?_map, Array.getElem?_range]
  simp [h, Nat.mod_one]

theorem lies_made (w : World) (n : Nat) : LiesB (w.alloc (.cells (madeCells #[Value.int .u8 0] n) 5)) w.heap.size (.slice (some ⟨w.heap.size, 0, none⟩) n n) (List.replicate n 0) := by
  have hg : (w.alloc (.cells (madeCells #[Value.int .u8 0] n) 5)).heap[w.heap.size]? = some (.cells (madeCells #[Value.int .u8 0] n) 5 (0, 0)) := heap_alloc_new w _
  refine ⟨_, _, by rw [List.length_replicate], fun _ => ⟨rfl, in_heap hg, by rw [List.length_replicate, Nat.mul_one]; exact made_there w _ n _, fun i r hr => ?_⟩⟩
  have hi := (List.getElem?_eq_some_iff.1 hr).1
  rw [List.length_replicate] at hi
  have h0 : r = 0 := by
    rw [List.getElem?_replicate, if_pos hi] at hr
    exact (Option.some.inj hr).symm
  subst h0
  refine ⟨[.int .u8 0], ⟨rfl, trivial⟩, fun j u hu => ?_⟩
  cases j with
  | zero =>
    cases hu
    rw [cell_of_row _ _ _ _ _ _ hg]
    show (madeCells #[Value.int .u8 0] n)[i * 1 + 0]? = _
    rw [Nat.mul_one]
    exact made_at _ n i hi
  | succ j => simp at hu

theorem end_gd {P : Program} {fn : Func} {R : Ending → World → Prop} {a : Act} {w : World} {p u : Tmp} {ty t : TypeId} {g : Nat} {cs : Array Value} {d : TypeDesc}
    (h : fn.results = #[.cell p ty, .tmp u]) (hp : a.tmps.getD p undef = .pointer (some ⟨g, 0, none⟩)) (hf : a.defers = [])
    (hu : P.underlying ty = some d) (hd : (match d with | .struct _ | .array _ _ => true | _ => false) = true)
    (hg : w.heap[g]? = some (.cells cs t (0, 0))) (hi : (P.info? ty).map (·.size) = some cs.size) (hR : R (.returned (.tuple #[.agg cs, a.tmps.getD u undef])) w) : bodyPost P fn R .ret a w := by
  refine bodyPost_ret ?_ hf hR
  rw [results_cell_tmp h, hp]
  simp [asAddr, run_loadVar_row w g t ty cs (0, 0) d hg hu hd hi, Result.andThen]

def empA (a b : Int) : Int := if okW a && okW b then a else 0
def empN (a b : Int) : List Int := if okW a && okW b then List.replicate (a * b).toNat 0 else []
def empC (a b : Int) : Int := if okW a && okW b then 0 else 2

theorem hmake (a b : Int) (n : Nat) (h : a * b = n) (hn : n ≤ 576) (u : World) : (Instr.makeSlice 28 (.int .i64 (a * b)) (.int .i64 (a * b))).run Try.prog u = .ok (.slice (some ⟨u.heap.size, 0, none⟩) n n) (u.alloc (.cells (madeCells #[Value.int .u8 0] n) 5)) := by
  obtain ⟨i0, hi0, hz0, hz1, hz2⟩ := info_parts infoByte
  have := run_make (P := Try.prog) u 28 5 i0 _ Try.underlying28 hi0 hz0 .i64 .i64 (n : Nat) (n : Nat) (by omega) (Int.le_refl _) (by rw [hz2]; omega) (by omega)
  simp [hz1] at this
  rw [h]
  exact this

set_option maxRecDepth 100000 in
set_option maxHeartbeats 1000000 in
theorem c_specEmptyG (a b : Int) (w : World) : Calls Try.prog 56 #[.int .i64 a, .int .i64 b] w (GDone w (empA a b) (empA b a) (empN a b) (empC a b)) := by
  have k := fun W => And.intro (c_inW a W) (c_inW b W)
  have hst : Stays w (w.alloc (.cells #[.int .i64 0, .int .i64 0, .slice none 0 0] 30)) := by (repeat (first | exact Stays.refl _ | (with_reducible refine Stays.drewN ?_ _) | (with_reducible refine Stays.alloc ?_ _) | (with_reducible refine Stays.drew ?_) | (refine Stays.trans ?_ ‹Stays _ _›)))
  have hres : (w.alloc (.cells #[.int .i64 0, .int .i64 0, .slice none 0 0] 30)).heap[w.heap.size]? = some (.cells #[.int .i64 0, .int .i64 0, .slice none 0 0] 30 (0, 0)) := by (repeat (first | (refine heap_top _ _ _ ?_; simp; done) | (with_reducible refine heap_drawn _ _ _ ?_) | (with_reducible refine heap_under _ _ _ ?_ ?_; (simp <;> omega))))
  unfold empA empN empC
  cases ha : okW a with
  | false =>
    rw [ha] at k
    simp only [Bool.false_and, Bool.and_false, Bool.false_eq_true, if_false]
    replace k := Lib.hid k
    clear ha
    go_enter Try.func56, Try.ntmps56
    go_wp2_with (first | (go_at_call 123; refine (k.out _).1.mono ?_; rintro e w1 ⟨rfl, rfl⟩) | ((refine wpList_store_row rfl _ _ _ rfl _ _ _ rfl rfl hres ?hi ?ho ?h1 ?hB hst ?_); (case hi => kernel_rfl); (case ho => rfl); (case h1 => first | rfl | simp [Value.oneCell']); (case hB => first | omega | (simp <;> omega)); intro w2 hw2 hq2 _ _))
    apply end_gd rfl rfl rfl Try.underlying30 rfl (t := 30)
    case hg => exact hq2
    case hi => kernel_rfl
    case hR => exact ⟨w.heap.size, none, 0, rfl, hw2, ⟨Nat.le_refl _, in_heap hq2⟩, lies_nil _ _⟩
  | true =>
    rw [ha] at k
    have hta := okW_iff.1 ha
    cases hb : okW b with
    | false =>
      rw [hb] at k
      simp only [Bool.false_and, Bool.and_false, Bool.false_eq_true, if_false]
      replace k := Lib.hid k
      clear ha hb hta
      go_enter Try.func56, Try.ntmps56
      go_wp2_with fail
      refine (k.out _).1.mono ?_
      rintro e w1 ⟨rfl, rfl⟩
      go_wp2_with fail
      refine (k.out _).2.mono ?_
      rintro e w1 ⟨rfl, rfl⟩
      go_wp2_with ((refine wpList_store_row rfl _ _ _ rfl _ _ _ rfl rfl hres ?hi ?ho ?h1 ?hB hst ?_); (case hi => kernel_rfl); (case ho => rfl); (case h1 => first | rfl | simp [Value.oneCell']); (case hB => first | omega | (simp <;> omega)); intro w2 hw2 hq2 _ _)
      apply end_gd rfl rfl rfl Try.underlying30 rfl (t := 30)
      case hg => exact hq2
      case hi => kernel_rfl
      case hR => exact ⟨w.heap.size, none, 0, rfl, hw2, ⟨Nat.le_refl _, in_heap hq2⟩, lies_nil _ _⟩
    | true =>
      rw [hb] at k
      have hm := prod_in hta (okW_iff.1 hb)
      have bd := prod_bd hta (okW_iff.1 hb)
      obtain ⟨n, hn⟩ : ∃ n : Nat, a * b = n := ⟨(a * b).toNat, by omega⟩
      have hn2 : n ≤ 576 := by omega
      have hmk := fun u => hmake a b n hn hn2 u
      have hnn : (a * b).toNat = n := by omega
      simp only [Bool.and_self, if_true, hnn, Bool.true_and]
      clear hres hst
      have hst : Stays w ((w.alloc (.cells #[.int .i64 0, .int .i64 0, .slice none 0 0] 30)).alloc (.cells (madeCells #[Value.int .u8 0] n) 5)) := by (repeat (first | exact Stays.refl _ | (with_reducible refine Stays.drewN ?_ _) | (with_reducible refine Stays.alloc ?_ _) | (with_reducible refine Stays.drew ?_) | (refine Stays.trans ?_ ‹Stays _ _›)))
      have hres : ((w.alloc (.cells #[.int .i64 0, .int .i64 0, .slice none 0 0] 30)).alloc (.cells (madeCells #[Value.int .u8 0] n) 5)).heap[w.heap.size]? = some (.cells #[.int .i64 0, .int .i64 0, .slice none 0 0] 30 (0, 0)) := by (repeat (first | (refine heap_top _ _ _ ?_; simp; done) | (with_reducible refine heap_drawn _ _ _ ?_) | (with_reducible refine heap_under _ _ _ ?_ ?_; (simp <;> omega))))
      have hL : LiesB ((w.alloc (.cells #[.int .i64 0, .int .i64 0, .slice none 0 0] 30)).alloc (.cells (madeCells #[Value.int .u8 0] n) 5)) (w.heap.size + 1) (.slice (some ⟨w.heap.size + 1, 0, none⟩) n n) (List.replicate n 0) := by
        have := lies_made (w.alloc (.cells #[.int .i64 0, .int .i64 0, .slice none 0 0] 30)) n
        have e : (w.alloc (.cells #[.int .i64 0, .int .i64 0, .slice none 0 0] 30)).heap.size = w.heap.size + 1 := by simp
        rw [e] at this
        exact this
      replace hL := Lib.hid hL
      have hU : ((w.alloc (.cells #[.int .i64 0, .int .i64 0, .slice none 0 0] 30)).alloc (.cells (madeCells #[Value.int .u8 0] n) 5)).heap[w.heap.size + 1]? = some (.cells (madeCells #[Value.int .u8 0] n) 5 (0, 0)) := by (repeat (first | (refine heap_top _ _ _ ?_; simp; done) | (with_reducible refine heap_drawn _ _ _ ?_) | (with_reducible refine heap_under _ _ _ ?_ ?_; (simp <;> omega))))
      replace hU := Lib.hid hU
      have hlt : w.heap.size + 1 < ((w.alloc (.cells #[.int .i64 0, .int .i64 0, .slice none 0 0] 30)).alloc (.cells (madeCells #[Value.int .u8 0] n) 5)).heap.size := by simp
      replace hlt := Lib.hid hlt
      replace k := Lib.hid k
      clear ha hb hta bd hn hnn hn2
      go_enter Try.func56, Try.ntmps56
      go_wp2_with fail
      refine (k.out _).1.mono ?_
      rintro e w1 ⟨rfl, rfl⟩
      go_wp2_with fail
      refine (k.out _).2.mono ?_
      rintro e w1 ⟨rfl, rfl⟩
      go_wp2_with (refine wpList_store_row rfl _ _ _ rfl _ _ _ rfl rfl hres ?hi ?ho ?h1 ?hB hst ?_; (case hi => kernel_rfl); (case ho => rfl); (case h1 => first | rfl | simp [Value.oneCell']); (case hB => first | omega | (simp <;> omega)); intro w2 hw2 hq2 hother hsame)
      apply end_gd rfl rfl rfl Try.underlying30 rfl (t := 30)
      case hg => exact hq2
      case hi => kernel_rfl
      case hR => exact ⟨w.heap.size + 1, some ⟨w.heap.size + 1, 0, none⟩, n, by rw [List.length_replicate]; rfl, hw2, ⟨by omega, in_heap ((hother _ hlt.out (by omega)).trans hU.out)⟩, by rw [List.length_replicate]; exact hL.out.on fun h => block_same (hother _ h (by omega)) (by omega)⟩

set_option maxRecDepth 100000 in
set_option maxHeartbeats 1000000 in
theorem c_implEmptyG (a b : Int) (w : World) : Calls Try.prog 61 #[.int .i64 a, .int .i64 b] w (GDone w (empA a b) (empA b a) (empN a b) (empC a b)) := by
  have k := fun W => And.intro (c_isWidth a W) (c_isWidth b W)
  have hst : Stays w (w.alloc (.cells #[.int .i64 0, .int .i64 0, .slice none 0 0] 30)) := by (repeat (first | exact Stays.refl _ | (with_reducible refine Stays.drewN ?_ _) | (with_reducible refine Stays.alloc ?_ _) | (with_reducible refine Stays.drew ?_) | (refine Stays.trans ?_ ‹Stays _ _›)))
  have hres : (w.alloc (.cells #[.int .i64 0, .int .i64 0, .slice none 0 0] 30)).heap[w.heap.size]? = some (.cells #[.int .i64 0, .int .i64 0, .slice none 0 0] 30 (0, 0)) := by (repeat (first | (refine heap_top _ _ _ ?_; simp; done) | (with_reducible refine heap_drawn _ _ _ ?_) | (with_reducible refine heap_under _ _ _ ?_ ?_; (simp <;> omega))))
  unfold empA empN empC
  cases ha : okW a with
  | false =>
    rw [ha] at k
    simp only [Bool.false_and, Bool.and_false, Bool.false_eq_true, if_false]
    replace k := Lib.hid k
    clear ha
    go_enter Try.func61, Try.ntmps61
    go_wp2_with (first | (go_at_call 129; refine (k.out _).1.mono ?_; rintro e w1 ⟨rfl, rfl⟩) | ((refine wpList_store_row rfl _ _ _ rfl _ _ _ rfl rfl hres ?hi ?ho ?h1 ?hB hst ?_); (case hi => kernel_rfl); (case ho => rfl); (case h1 => first | rfl | simp [Value.oneCell']); (case hB => first | omega | (simp <;> omega)); intro w2 hw2 hq2 _ _))
    apply end_gd rfl rfl rfl Try.underlying30 rfl (t := 30)
    case hg => exact hq2
    case hi => kernel_rfl
    case hR => exact ⟨w.heap.size, none, 0, rfl, hw2, ⟨Nat.le_refl _, in_heap hq2⟩, lies_nil _ _⟩
  | true =>
    rw [ha] at k
    have hta := okW_iff.1 ha
    cases hb : okW b with
    | false =>
      rw [hb] at k
      simp only [Bool.false_and, Bool.and_false, Bool.false_eq_true, if_false]
      replace k := Lib.hid k
      clear ha hb hta
      go_enter Try.func61, Try.ntmps61
      go_wp2_with fail
      refine (k.out _).1.mono ?_
      rintro e w1 ⟨rfl, rfl⟩
      go_wp2_with fail
      refine (k.out _).2.mono ?_
      rintro e w1 ⟨rfl, rfl⟩
      go_wp2_with ((refine wpList_store_row rfl _ _ _ rfl _ _ _ rfl rfl hres ?hi ?ho ?h1 ?hB hst ?_); (case hi => kernel_rfl); (case ho => rfl); (case h1 => first | rfl | simp [Value.oneCell']); (case hB => first | omega | (simp <;> omega)); intro w2 hw2 hq2 _ _)
      apply end_gd rfl rfl rfl Try.underlying30 rfl (t := 30)
      case hg => exact hq2
      case hi => kernel_rfl
      case hR => exact ⟨w.heap.size, none, 0, rfl, hw2, ⟨Nat.le_refl _, in_heap hq2⟩, lies_nil _ _⟩
    | true =>
      rw [hb] at k
      have hm := prod_in hta (okW_iff.1 hb)
      have bd := prod_bd hta (okW_iff.1 hb)
      obtain ⟨n, hn⟩ : ∃ n : Nat, a * b = n := ⟨(a * b).toNat, by omega⟩
      have hn2 : n ≤ 576 := by omega
      have hmk := fun u => hmake a b n hn hn2 u
      have hnn : (a * b).toNat = n := by omega
      simp only [Bool.and_self, if_true, hnn, Bool.true_and]
      clear hres hst
      have hst : Stays w ((w.alloc (.cells #[.int .i64 0, .int .i64 0, .slice none 0 0] 30)).alloc (.cells (madeCells #[Value.int .u8 0] n) 5)) := by (repeat (first | exact Stays.refl _ | (with_reducible refine Stays.drewN ?_ _) | (with_reducible refine Stays.alloc ?_ _) | (with_reducible refine Stays.drew ?_) | (refine Stays.trans ?_ ‹Stays _ _›)))
      have hres : ((w.alloc (.cells #[.int .i64 0, .int .i64 0, .slice none 0 0] 30)).alloc (.cells (madeCells #[Value.int .u8 0] n) 5)).heap[w.heap.size]? = some (.cells #[.int .i64 0, .int .i64 0, .slice none 0 0] 30 (0, 0)) := by (repeat (first | (refine heap_top _ _ _ ?_; simp; done) | (with_reducible refine heap_drawn _ _ _ ?_) | (with_reducible refine heap_under _ _ _ ?_ ?_; (simp <;> omega))))
      have hL : LiesB ((w.alloc (.cells #[.int .i64 0, .int .i64 0, .slice none 0 0] 30)).alloc (.cells (madeCells #[Value.int .u8 0] n) 5)) (w.heap.size + 1) (.slice (some ⟨w.heap.size + 1, 0, none⟩) n n) (List.replicate n 0) := by
        have := lies_made (w.alloc (.cells #[.int .i64 0, .int .i64 0, .slice none 0 0] 30)) n
        have e : (w.alloc (.cells #[.int .i64 0, .int .i64 0, .slice none 0 0] 30)).heap.size = w.heap.size + 1 := by simp
        rw [e] at this
        exact this
      replace hL := Lib.hid hL
      have hU : ((w.alloc (.cells #[.int .i64 0, .int .i64 0, .slice none 0 0] 30)).alloc (.cells (madeCells #[Value.int .u8 0] n) 5)).heap[w.heap.size + 1]? = some (.cells (madeCells #[Value.int .u8 0] n) 5 (0, 0)) := by (repeat (first | (refine heap_top _ _ _ ?_; simp; done) | (with_reducible refine heap_drawn _ _ _ ?_) | (with_reducible refine heap_under _ _ _ ?_ ?_; (simp <;> omega))))
      replace hU := Lib.hid hU
      have hlt : w.heap.size + 1 < ((w.alloc (.cells #[.int .i64 0, .int .i64 0, .slice none 0 0] 30)).alloc (.cells (madeCells #[Value.int .u8 0] n) 5)).heap.size := by simp
      replace hlt := Lib.hid hlt
      replace k := Lib.hid k
      clear ha hb hta bd hn hnn hn2
      go_enter Try.func61, Try.ntmps61
      go_wp2_with fail
      refine (k.out _).1.mono ?_
      rintro e w1 ⟨rfl, rfl⟩
      go_wp2_with fail
      refine (k.out _).2.mono ?_
      rintro e w1 ⟨rfl, rfl⟩
      go_wp2_with (refine wpList_store_row rfl _ _ _ rfl _ _ _ rfl rfl hres ?hi ?ho ?h1 ?hB hst ?_; (case hi => kernel_rfl); (case ho => rfl); (case h1 => first | rfl | simp [Value.oneCell']); (case hB => first | omega | (simp <;> omega)); intro w2 hw2 hq2 hother hsame)
      apply end_gd rfl rfl rfl Try.underlying30 rfl (t := 30)
      case hg => exact hq2
      case hi => kernel_rfl
      case hR => exact ⟨w.heap.size + 1, some ⟨w.heap.size + 1, 0, none⟩, n, by rw [List.length_replicate]; rfl, hw2, ⟨by omega, in_heap ((hother _ hlt.out (by omega)).trans hU.out)⟩, by rw [List.length_replicate]; exact hL.out.on fun h => block_same (hother _ h (by omega)) (by omega)⟩

end Go.Proofs.Ytejljfejajckoaa
