/- A copy of a grid, as the program makes it. No condition. -/
import Derived.Test.YteidjmliepmlmaaWa
import Derived.Lib.SliceRun
namespace Go.Proofs.Yteidjmliepmlmaa
open Go Go.RowKit
set_option linter.unusedVariables false
set_option linter.unusedSimpArgs false

set_option maxRecDepth 100000 in
set_option maxHeartbeats 2000000 in
theorem c_CloneB (ad : Addr) (c : Nat) (xs : List Int) (w : World) (h1 : Bs w w.heap.size (some ad) xs) (h0 : 0 < xs.length) (hn : xs.length ≤ 1048576) :
    Calls Try.prog 88 #[.slice (some ad) xs.length c] w fun e w' => ∃ g c', e = .returned (.slice (some ⟨g, 0, none⟩) xs.length c') ∧ Below w.heap.size w w' ∧ (w.heap.size ≤ g ∧ g < w'.heap.size) ∧ LiesB w' g (.slice (some ⟨g, 0, none⟩) xs.length c') xs ∧ xs.length ≤ c' := by
  obtain ⟨i0, hi0, hz0, hz1, hz2⟩ := info_parts infoByte
  have hnews : Hid (∀ W, Stays w W → ∀ j u, (u8L xs)[j]? = some u → W.cell? (ad.add j) = some u) := Lib.hid fun W hW j u hu => by
    obtain ⟨x, hx, rfl⟩ := u8L_at hu
    obtain ⟨ad', e, _, hc⟩ := Bs.at_ ((h1.below hW).more hW.size) hx
    cases e
    exact hc
  have hl8 : (u8L xs).length = xs.length * 1 := by simp [u8L]
  replace hl8 := Lib.hid hl8
  clear h1
  have hnil : ∀ W : World, (binOp BinOp.eql 22 (.slice (some ad) xs.length c) (.slice none 0 0)).run Try.prog W = .ok (.bool false) W := fun W => by
    have := Lib.run_eql_slice_nil (P := Try.prog) W 22 _ (some ad) xs.length c 0 0 Try.underlying22
    simpa using this
  go_enter Try.func88, Try.ntmps88
  go_wp2_with (at_builtin; go_loud (refine wpList_append_grows _ rfl _ _ 22 rfl 5 i0 (.int .u8 0) 1 1 Try.underlying22 hi0 hz0 hz1 hz2 rfl (by decide) (some ⟨w.heap.size, 0, none⟩) 0 0 [] rfl (fun h => by cases h) rfl (fun _ _ j u hu => by simp at hu) ad xs.length c (u8L xs) rfl hl8.out (hnews.out _ (by (repeat (first | exact Stays.refl _ | (with_reducible refine Stays.drewN ?_ _) | (with_reducible refine Stays.alloc ?_ _) | (with_reducible refine Stays.drew ?_) | (refine Stays.trans ?_ ‹Stays _ _›))))) (u8L_one xs) (by omega) (by unfold maxLen; omega) (by omega) ?_); intro v' w3 hown hgrow; rw [Nat.zero_add, List.nil_append] at hown; obtain ⟨g, cap, rfl, hge, hlt⟩ := hown.form h0; obtain ⟨hL, hcap, _⟩ := own_liesB hown; have hs3 : Stays w w3 := Below.grown (B := w.heap.size) (show Stays w (w.alloc (.cells #[] 5)) from by (repeat (first | exact Stays.refl _ | (with_reducible refine Stays.drewN ?_ _) | (with_reducible refine Stays.alloc ?_ _) | (with_reducible refine Stays.drew ?_) | (refine Stays.trans ?_ ‹Stays _ _›)))) hgrow (by simp) (fun k hk => by cases hk); replace hL := Lib.hid hL; replace hcap := Lib.hid hcap; replace hge := Lib.hid hge; replace hlt := Lib.hid hlt; replace hs3 := Lib.hid hs3; clear hown hgrow)
  go_wp2
  go_ret
  exact ⟨g, cap, rfl, hs3.out, ⟨by have := hge.out; simp at this; omega, hlt.out⟩, hL.out, hcap.out⟩

set_option maxRecDepth 100000 in
set_option maxHeartbeats 1000000 in
theorem c_clone (a b : Int) (ad : Addr) (c : Nat) (xs : List Int) (w : World) (h1 : Bs w w.heap.size (some ad) xs) (h0 : 0 < xs.length) (hn : xs.length ≤ 1048576) :
    Calls Try.prog 53 #[.agg #[.int .i64 a, .int .i64 b, .slice (some ad) xs.length c]] w (CDone w a b xs) := by
  have n1 : ((w.alloc (.cells #[.int .i64 a, .int .i64 b, .slice (some ad) xs.length c] 28)).alloc (.cells #[.int .i64 0, .int .i64 0, .slice none 0 0] 28)).heap[w.heap.size]? = some (.cells #[.int .i64 a, .int .i64 b, .slice (some ad) xs.length c] 28 (0, 0)) := by (repeat (first | (refine heap_top _ _ _ ?_; simp; done) | (with_reducible refine heap_drawn _ _ _ ?_) | (with_reducible refine heap_under _ _ _ ?_ ?_; (simp <;> omega))))
  have n2 : ((w.alloc (.cells #[.int .i64 a, .int .i64 b, .slice (some ad) xs.length c] 28)).alloc (.cells #[.int .i64 0, .int .i64 0, .slice none 0 0] 28)).heap[w.heap.size + 1]? = some (.cells #[.int .i64 0, .int .i64 0, .slice none 0 0] 28 (0, 0)) := by (repeat (first | (refine heap_top _ _ _ ?_; simp; done) | (with_reducible refine heap_drawn _ _ _ ?_) | (with_reducible refine heap_under _ _ _ ?_ ?_; (simp <;> omega))))
  have hb2 : Stays w ((w.alloc (.cells #[.int .i64 a, .int .i64 b, .slice (some ad) xs.length c] 28)).alloc (.cells #[.int .i64 0, .int .i64 0, .slice none 0 0] 28)) := by (repeat (first | exact Stays.refl _ | (with_reducible refine Stays.drewN ?_ _) | (with_reducible refine Stays.alloc ?_ _) | (with_reducible refine Stays.drew ?_) | (refine Stays.trans ?_ ‹Stays _ _›)))
  have hs2 : ((w.alloc (.cells #[.int .i64 a, .int .i64 b, .slice (some ad) xs.length c] 28)).alloc (.cells #[.int .i64 0, .int .i64 0, .slice none 0 0] 28)).heap.size = w.heap.size + 1 + 1 := by simp
  have k1 := Lib.hid fun W (h : Stays w W) => c_CloneB ad c xs W ((h1.below h).more h.size) h0 hn
  replace n1 := Lib.hid n1
  replace n2 := Lib.hid n2
  replace hb2 := Lib.hid hb2
  replace hs2 := Lib.hid hs2
  clear h1 h0 hn
  go_enter Try.func53, Try.ntmps53
  go_wp2_with fail
  generalize ((w.alloc (.cells #[.int .i64 a, .int .i64 b, .slice (some ad) xs.length c] 28)).alloc (.cells #[.int .i64 0, .int .i64 0, .slice none 0 0] 28)) = W2 at n1 n2 hb2 hs2 ⊢
  refine (k1.out _ hb2.out).mono ?_
  rintro e w3 ⟨g, c', rfl, hb, ⟨hge, hlt⟩, hL, hcap⟩
  have hge' : w.heap.size + 1 + 1 ≤ g := by have := hs2.out; omega
  have e1 := (Below.block hb (w.heap.size) (by have := hs2.out; omega)).trans n1.out
  have e2 := (Below.block hb (w.heap.size + 1) (by have := hs2.out; omega)).trans n2.out
  have hb3 : Stays w w3 := hb2.out.trans hb
  have c0 : w3.cell? ⟨w.heap.size, 2, none⟩ = some (.slice (some ad) xs.length c) := cell_of_row _ _ _ _ _ _ e1
  have d0 : w3.frozen? ⟨w.heap.size, 2, none⟩ = false := frozen_of_row _ _ _ _ _ e1
  have m1 := heap_setCell_same w3 w.heap.size 2 _ _ (.slice (some ⟨g, 0, none⟩) xs.length c') e1
  have m2 := (heap_setCell_other w3 ⟨w.heap.size, 2, none⟩ (w.heap.size + 1) (.slice (some ⟨g, 0, none⟩) xs.length c') (by simp)).trans e2
  have x0 : (w3.setCell ⟨w.heap.size, 2, none⟩ (.slice (some ⟨g, 0, none⟩) xs.length c')).cell? ⟨w.heap.size, 0, none⟩ = some (.int .i64 a) := cell_of_row _ _ _ _ _ _ m1
  have x1 : (w3.setCell ⟨w.heap.size, 2, none⟩ (.slice (some ⟨g, 0, none⟩) xs.length c')).cell? ⟨w.heap.size, 1, none⟩ = some (.int .i64 b) := cell_of_row _ _ _ _ _ _ m1
  have x2 : (w3.setCell ⟨w.heap.size, 2, none⟩ (.slice (some ⟨g, 0, none⟩) xs.length c')).cell? ⟨w.heap.size, 2, none⟩ = some (.slice (some ⟨g, 0, none⟩) xs.length c') := cell_of_row _ _ _ _ _ _ m1
  have hst : Stays w (w3.setCell ⟨w.heap.size, 2, none⟩ (.slice (some ⟨g, 0, none⟩) xs.length c')) := Below.setCell hb3 (Nat.le_refl _) _
  have hL2 := Lib.hid (LiesR.on hL fun _ => same_sets w.heap.size g 2 [(.slice (some ⟨g, 0, none⟩) xs.length c')] w3 (by omega))
  have hgs := Lib.hid (show g < (w3.setCell ⟨w.heap.size, 2, none⟩ (.slice (some ⟨g, 0, none⟩) xs.length c')).heap.size from by simp [World.setCell]; exact hlt)
  have hres := m2
  change Hid (LiesB (w3.setCell ⟨w.heap.size, 2, none⟩ (.slice (some ⟨g, 0, none⟩) xs.length c')) g _ xs) at hL2
  replace hcap := Lib.hid hcap
  replace hge' := Lib.hid hge'
  clear m1 m2 e1 e2 hb3 hb hge hlt hL n1 n2 hb2 hs2
  go_wp2_with (refine wpList_store_row rfl _ _ _ rfl _ _ _ rfl rfl hres ?hi ?ho ?h1 ?hB hst ?_; (case hi => kernel_rfl); (case ho => rfl); (case h1 => first | rfl | simp [Value.oneCell']); (case hB => first | omega | (simp <;> omega)); intro w4 hw4 hq4 hother hsame)
  apply end_agg rfl rfl rfl Try.underlying28 rfl (t := 28)
  case hg => exact hq4
  case hi => kernel_rfl
  case hR =>
    have hlt := hgs.out
    have hge := hge'.out
    have hb := hother g hlt (by omega)
    exact ⟨g, c', rfl, hw4, ⟨by omega, by omega⟩, LiesR.on hL2.out fun _ => block_same hb (by omega), hcap.out⟩
end Go.Proofs.Yteidjmliepmlmaa
