/- Texts of rows of numbers by the library's Join. No condition. -/
import Derived.Test.YtpccnejchbachaaDoorHv
import Derived.Test.YtpccnejchbachaaDoorSh
namespace Go.Proofs.YtpccnejchbachaaDoor
open Go Go.ChangeShapes Go.WideShapes Go.RowKit
set_option linter.unusedVariables false
set_option linter.unusedSimpArgs false

/-- A list of texts that is being made. -/
structure StrP (w wr : World) (ss : List ByteArray) (k : Nat) : Prop where
  there : wr.there w.heap.size 0 ss.length
  lt : w.heap.size < wr.heap.size
  below : Below w.heap.size w wr
  cells : ∀ j s, j < k → ss[j]? = some s → wr.cell? ⟨w.heap.size, j, none⟩ = some (.string s)

theorem StrP.grow {w wr w1 : World} {ss : List ByteArray} {k : Nat} (h : StrP w wr ss k) (hb : Below wr.heap.size wr w1) : StrP w w1 ss k := by
  have S : Same wr w1 w.heap.size := Same.of_below hb hb.size h.lt
  refine ⟨fun j hj => ?_, Nat.lt_of_lt_of_le h.lt hb.size, h.below.trans (hb.mono h.below.size), fun j s hj hs => ?_⟩
  · rw [S.cell _ rfl, S.frozen _ rfl]; exact h.there j hj
  · rw [S.cell _ rfl]; exact h.cells j s hj hs

theorem StrP.next {w wr : World} {ss : List ByteArray} {k : Nat} {s : ByteArray} (h : StrP w wr ss k) (hs : ss[k]? = some s) : StrP w (wr.setCell ⟨w.heap.size, k, none⟩ (.string s)) ss (k + 1) := by
  have hk := (List.getElem?_eq_some_iff.1 hs).1
  refine ⟨World.there_setCells h.there _ k [_], by simpa [World.setCell] using h.lt, h.below.setCell (Nat.le_refl _) _, fun j u hj hu => ?_⟩
  by_cases e : j = k
  · subst e
    rw [hs] at hu
    cases hu
    have := World.rangeAt_setCells_same wr w.heap.size j [.string s] (there_part h.there _ _ (by show j + 1 ≤ _; omega))
    exact this 0 _ rfl
  · have hr : wr.rangeAt w.heap.size j [.string u] := fun m v hv => by
      cases m with
      | zero => cases hv; exact h.cells j u (by omega) hu
      | succ m => simp at hv
    exact World.rangeAt_setCells_apart hr w.heap.size k [_] (Or.inr (Or.inl (by show j + 1 ≤ k; omega))) 0 _ rfl

theorem c_Join (bk o c : Nat) (xs : List ByteArray) (sep : ByteArray) (w : World)
    (hcells : ∀ (j : Nat) x, xs[j]? = some x → w.cell? ⟨bk, o + j, none⟩ = some (.string x)) (hbk : bk < w.heap.size) (hN : xs.length ≤ 140737488355328) (hcap : xs.length ≤ c)
    (hlen : (Lib.join (xs.map (·.data.toList)) sep.data.toList).length ≤ 140737488355328) :
    Calls Tryd.prog 63 #[.slice (some ⟨bk, o, none⟩) xs.length c, .string sep] w fun e w' => e = .returned (.string ⟨(Lib.join (xs.map (·.data.toList)) sep.data.toList).toArray⟩) ∧ Below w.heap.size w w' :=
  Any.strings_Join lays156 Builder_Extra_156 bk o c xs sep w hcells hbk hN hcap hlen

def txt (x : Nat) : ByteArray := hexT (bitsOf x)

set_option maxRecDepth 100000 in
set_option maxHeartbeats 400000 in
theorem c_numbersText (bk o c : Nat) (xs : List Nat) (w : World) (h : Nums w bk o xs) (hx : ∀ x ∈ xs, x < 4294967296) (hn : xs.length ≤ 100) :
    Calls Tryd.prog 72 #[.slice (some ⟨bk, o, none⟩) xs.length c] w fun e w' => e = .returned (.string (rowT xs)) ∧ Below w.heap.size w w' := by
  have H := Lib.hid h
  have HX := Lib.hid hx
  have hsl : (xs.map txt).length = xs.length := List.length_map ..
  clear h hx
  obtain ⟨i0, hi0, hz0, hz1, hz2⟩ := info_parts (show (Tryd.prog.info? 9).map (fun i => (i.zero, i.size, i.bytes)) = some (some (.string ⟨#[]⟩), 1, 16) from by kernel_rfl)
  have hmk : ∀ u : World, (Instr.makeSlice 54 (.int .i64 (xs.length : Nat)) (.int .i64 (xs.length : Nat))).run Tryd.prog u = .ok (.slice (some ⟨u.heap.size, 0, none⟩) xs.length xs.length) (u.alloc (.cells (madeCells #[Value.string ⟨#[]⟩] xs.length) 9)) := fun u => by
    have := run_make (P := Tryd.prog) u 54 9 i0 _ Tryd.underlying54 hi0 hz0 .i64 .i64 (xs.length : Nat) (xs.length : Nat) (by omega) (Int.le_refl _) (by rw [hz2]; omega) (by omega)
    simp [hz1] at this
    exact this
  have hJ := Lib.hid fun W bk hc hb => c_Join bk 0 xs.length (xs.map txt) ⟨#[32]⟩ W hc hb
  go_enter Tryd.func72, Tryd.ntmps72
  go_wp2
  have hmt := Lib.hid (made_there w #[Value.string ⟨#[]⟩] xs.length 9)
  go_loopw [11] (fun i wr => ∃ k : Nat, k ≤ xs.length ∧ i = .int .i64 k ∧ Hid (StrP w wr (xs.map txt) k)) (fun i _ => xs.length - (intOf i).toNat)
  case atStart => exact ⟨0, Nat.zero_le _, rfl, Lib.hid ⟨by rw [hsl]; exact hmt.out, (Array.getElem?_eq_some_iff.1 (heap_alloc_new w _)).1, (Below.refl _ _).alloc (Nat.le_refl _) _, fun j s hj _ => by omega⟩⟩
  case round =>
    obtain ⟨k, hk, rfl, hb⟩ := hrel
    by_cases hlt : k < xs.length
    · have hlt' : (k : Int) < (xs.length : Int) := by omega
      have hxk : xs[k]? = some xs[k] := List.getElem?_eq_getElem hlt
      have hu := (H.out.below hb.out.below H.out.1).2 k _ hxk
      have kH := Lib.hid fun W => c_NumberText xs[k] W (HX.out _ (List.getElem_mem hlt))
      have hsk : Hid ((xs.map txt)[k]? = some (hexT (bitsOf xs[k]))) := Lib.hid (by rw [List.getElem?_map, hxk]; rfl)
      generalize xs[k] = x at hu kH hsk
      clear hxk
      go_wp2_with fail
      refine (kH.out _).mono ?_
      rintro e w1 ⟨rfl, hb1⟩
      have hg := Lib.hid (hb.out.grow hb1)
      have hnx := Lib.hid (hg.out.next hsk.out)
      obtain ⟨u0, hu0⟩ := Option.isSome_iff_exists.1 ((there_part hg.out.there k 1 (by omega)) 0 (by omega)).1
      have hf0 := ((there_part hg.out.there k 1 (by omega)) 0 (by omega)).2
      rw [Nat.add_zero] at hu0 hf0
      clear hb1 hu
      go_wp2
      go_round
      case rel => exact ⟨k + 1, by omega, by go_num, hnx⟩
      case measure => simp [intOf]; omega
    · have e : k = xs.length := by omega
      subst e
      go_wp2_with fail
      have hj := hJ.out wr w.heap.size (fun j s hs => by rw [Nat.zero_add]; exact hb.out.cells j s (by have := (List.getElem?_eq_some_iff.1 hs).1; omega) hs) hb.out.lt (by rw [hsl]; omega) (by rw [hsl]; omega) (by rw [List.map_map]; have := rowT_size xs xs.length (Nat.le_refl _); rw [List.take_length] at this; exact Nat.le_trans (show (rowL xs).length ≤ 9 * xs.length from this) (by omega))
      rw [hsl, show (⟨(Lib.join ((xs.map txt).map (·.data.toList)) (⟨#[32]⟩ : ByteArray).data.toList).toArray⟩ : ByteArray) = rowT xs from by rw [List.map_map]; rfl] at hj
      refine hj.mono ?_
      rintro e w1 ⟨rfl, hb1⟩
      have hb2 := Lib.hid (hb.out.below.trans (hb1.mono hb.out.below.size))
      clear hb1 hj
      go_wp2
      go_ret
      exact ⟨rfl, hb2.out⟩
end Go.Proofs.YtpccnejchbachaaDoor
