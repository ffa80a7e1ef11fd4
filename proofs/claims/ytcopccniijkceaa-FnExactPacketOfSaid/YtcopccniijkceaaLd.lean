/- Feeds that are copied, and compared. No condition. -/
import Derived.Test.YtcopccniijkceaaLc
import Derived.StillTailTactics
import Derived.Laws.MakeOwn
import Derived.Deep.MidRow
namespace Go.Proofs.Ytcopccniijkceaa
open Go Go.RowKit
set_option linter.unusedVariables false

theorem c_szReadingS (A : Option Addr) (c n : Nat) (left : Int) (w : World) (hn : n ≤ 9223372036854775807) (h0 : 0 ≤ left) (h1 : left ≤ 1048576) :
    Calls Try.prog 14 #[.slice A n c, .int .i64 left] w fun e w' => e = .returned (.int .i64 (if left - n < 0 then -1 else left - n)) ∧ w = w' := by
  go_enter Try.func14, Try.ntmps14
  have e : IntKind.i64.wrap (left - (n : Int)) = left - n := IntWalk.i64_in _ (by omega)
  by_cases h : left - (n : Int) < 0
  · go_wp2
    go_ret
    exact ⟨rfl, rfl⟩
  · go_wp2
    go_ret
    exact ⟨rfl, rfl⟩

set_option maxRecDepth 100000 in
set_option maxHeartbeats 400000 in
theorem c_eqReadingS (A A' : Option Addr) (c c' : Nat) (rs : List Rd) (w : World) (h : Feed w w.heap.size A rs) (h' : Feed w w.heap.size A' rs) (hn : rs.length ≤ 1048576) :
    Calls Try.prog 19 #[.slice A rs.length c, .slice A' rs.length c'] w fun e w' => e = .returned (.bool true) ∧ Below w.heap.size w w' := by
  have H := Lib.hid h
  have H' := Lib.hid h'
  clear h h'
  go_enter Try.func19, Try.ntmps19
  go_wp2
  go_loopw [5] (fun i wr => ∃ k : Nat, k ≤ rs.length ∧ i = .int .i64 k ∧ Hid (Below w.heap.size w wr)) (fun i _ => rs.length - (intOf i).toNat)
  case atStart => exact ⟨0, Nat.zero_le _, rfl, Lib.hid (Below.refl _ _)⟩
  case round =>
    obtain ⟨k, hk, rfl, hb⟩ := hrel
    by_cases hlt : k < rs.length
    · obtain ⟨ad, rfl, hbl, hc1, hc2, hc3, hc4⟩ := (H.out.below hb.out) k rs[k] (List.getElem?_eq_getElem hlt)
      obtain ⟨ad', rfl, hbl', hd1, hd2, hd3, hd4⟩ := (H'.out.below hb.out) k rs[k] (List.getElem?_eq_getElem hlt)
      generalize rs[k] = r at hc1 hc2 hc3 hc4 hd1 hd2 hd3 hd4
      have hlt' : (k : Int) < (rs.length : Int) := by omega
      go_wp2_with fail
      go_still_tail 8, (by kernel_rfl)
      change wpList _ _ _ _ _ wr.drew
      have hb2 := Lib.hid (hb.out.drew)
      generalize wr.drew = w2 at hb2 ⊢
      go_wp2_with (go_at_call 64; refine (c_eqReading r _).mono ?_; rintro e w3 ⟨rfl, hb3⟩; have hb4 := Lib.hid (hb2.out.trans (hb3.mono hb2.out.size)); clear hb3)
      go_round
      case rel => exact ⟨k + 1, by omega, by go_num, hb4⟩
      case measure => simp [intOf]; omega
    · go_wp2
      go_ret
      exact ⟨rfl, hb.out⟩

theorem info50 : (Try.prog.info? 119).map (fun i => (i.zero, i.size, i.bytes)) = some (some (.agg #[.int .i64 0, .int .i16 0, .int .i16 0, .int .i16 0]), 4, 16) := by kernel_rfl

/-- The first k readings lie in a block of the function's own. -/
structure Copied (w wr : World) (rs : List Rd) (k : Nat) : Prop where
  below : Below w.heap.size w wr
  there : wr.there w.heap.size 0 (rs.length * 4)
  lt : w.heap.size < wr.heap.size
  rows : ∀ i r, i < k → rs[i]? = some r → wr.rangeAt w.heap.size (i * 4) r.cells.toList

theorem Copied.next {w wr w3 : World} {rs : List Rd} {k : Nat} {r : Rd} (h : Copied w wr rs k) (hb : Below wr.heap.size wr w3) (hr : rs[k]? = some r) :
    (storeCells ⟨w.heap.size, k * 4, none⟩ r.cells.toList).run Try.prog w3 = .ok () (w3.setCells w.heap.size (k * 4) r.cells.toList) ∧ Copied w (w3.setCells w.heap.size (k * 4) r.cells.toList) rs (k + 1) := by
  have hk : k < rs.length := (List.getElem?_eq_some_iff.1 hr).1
  have ht := there_below h.there hb h.lt
  have htk : w3.there w.heap.size (k * 4) r.cells.toList.length := there_part ht _ _ (by show k * 4 + 4 ≤ _; omega)
  have hone : ∀ v ∈ r.cells.toList, v.oneCell' = true := by
    intro v hv
    simp only [Rd.cells, List.mem_cons, List.not_mem_nil, or_false] at hv
    rcases hv with rfl | rfl | rfl | rfl <;> rfl
  have hrun := run_storeCells_cells (P := Try.prog) w.heap.size (k * 4) r.cells.toList 0 w3 (fun j hj => by rw [Nat.add_zero]; exact (htk j hj).1) (fun j hj => by rw [Nat.add_zero]; exact (htk j hj).2) hone
  rw [Nat.add_zero] at hrun
  refine ⟨hrun, bel_sets (Nat.le_refl _) _ _ _ (h.below.trans (hb.mono h.below.size)), World.there_setCells ht _ _ _, ?_, ?_⟩
  · obtain ⟨u, hu⟩ := Option.isSome_iff_exists.1 (World.there_setCells ht w.heap.size (k * 4) r.cells.toList 0 (by omega)).1
    exact World.block_lt_of_cell? _ _ hu
  · intro i r' hi hr'
    by_cases e : i = k
    · subst e
      rw [hr] at hr'
      cases hr'
      exact World.rangeAt_setCells_same _ _ _ _ htk
    · refine World.rangeAt_setCells_apart (range_below (h.rows i r' (by omega) hr') hb h.lt) _ _ _ (Or.inr (Or.inl ?_))
      show i * 4 + 4 ≤ k * 4
      omega

theorem Copied.feed {w wr : World} {rs : List Rd} (h : Copied w wr rs rs.length) : Feed wr wr.heap.size (some ⟨w.heap.size, 0, none⟩) rs := fun i r hr => by
  have hi : i < rs.length := (List.getElem?_eq_some_iff.1 hr).1
  have hrow := h.rows i r hi hr
  have e : (⟨w.heap.size, 0, none⟩ : Addr).add (i * 4) = ⟨w.heap.size, i * 4, none⟩ := by
    unfold Addr.add
    split
    · rename_i h0; rw [h0]
    · rw [Nat.zero_add]
  refine ⟨⟨w.heap.size, 0, none⟩, rfl, h.lt, ?_, ?_, ?_, ?_⟩
  · rw [e]; exact hrow 0 _ rfl
  · rw [e]; exact hrow 1 _ rfl
  · rw [e]; exact hrow 2 _ rfl
  · rw [e]; exact hrow 3 _ rfl

set_option maxRecDepth 100000 in
set_option maxHeartbeats 400000 in
theorem c_toReadingS (A : Option Addr) (c : Nat) (rs : List Rd) (w : World) (h : Feed w w.heap.size A rs) (hn : rs.length ≤ 1048576) :
    Calls Try.prog 16 #[.slice A rs.length c] w fun e w' => e = .returned (.slice (some ⟨w.heap.size, 0, none⟩) rs.length rs.length) ∧ Copied w w' rs rs.length := by
  have H := Lib.hid h
  clear h
  obtain ⟨i0, hi0, hz0, hz1, hz2⟩ := info_parts info50
  have hmk : ∀ u : World, (Instr.makeSlice 39 (.int .i64 (rs.length : Nat)) (.int .i64 (rs.length : Nat))).run Try.prog u = .ok (.slice (some ⟨u.heap.size, 0, none⟩) rs.length rs.length) (u.alloc (.cells (madeCells (Value.agg #[.int .i64 0, .int .i16 0, .int .i16 0, .int .i16 0]).cells (rs.length * 4)) 119)) := fun u => by
    have := run_make (P := Try.prog) u 39 119 i0 _ Try.underlying39 hi0 hz0 .i64 .i64 (rs.length : Nat) (rs.length : Nat) (by omega) (Int.le_refl _) (by rw [hz2]; omega) (by omega)
    simpa [hz1] using this
  go_enter Try.func16, Try.ntmps16
  go_wp2
  have hmt := Lib.hid (made_there w (Value.agg #[.int .i64 0, .int .i16 0, .int .i16 0, .int .i16 0]).cells (rs.length * 4) 119)
  go_loopw [4] (fun i wr => ∃ k : Nat, k ≤ rs.length ∧ i = .int .i64 k ∧ Hid (Copied w wr rs k)) (fun i _ => rs.length - (intOf i).toNat)
  case atStart => exact ⟨0, Nat.zero_le _, rfl, Lib.hid ⟨(Below.refl _ _).alloc (Nat.le_refl _) _, hmt.out, (Array.getElem?_eq_some_iff.1 (heap_alloc_new w _)).1, fun i r hi _ => by omega⟩⟩
  case round =>
    obtain ⟨k, hk, rfl, hb⟩ := hrel
    by_cases hlt : k < rs.length
    · obtain ⟨ad, rfl, hbl, hc1, hc2, hc3, hc4⟩ := (H.out.below hb.out.below) k rs[k] (List.getElem?_eq_getElem hlt)
      have hrk : Hid (rs[k]? = some rs[k]) := Lib.hid (List.getElem?_eq_getElem hlt)
      generalize rs[k] = r at hc1 hc2 hc3 hc4 hrk
      have hlt' : (k : Int) < (rs.length : Int) := by omega
      go_wp2_with (go_at_call 60; refine (c_toReading r _).mono ?_; rintro e w3 ⟨rfl, hb3⟩; obtain ⟨hst, hcp⟩ := hb.out.next hb3 hrk.out; have hcp := Lib.hid hcp; clear hb3)
      go_round
      case rel => exact ⟨k + 1, by omega, by go_num, hcp⟩
      case measure => simp [intOf]; omega
    · have e : k = rs.length := by omega
      subst e
      go_wp2
      go_ret
      exact ⟨rfl, hb.out⟩
end Go.Proofs.Ytcopccniijkceaa
