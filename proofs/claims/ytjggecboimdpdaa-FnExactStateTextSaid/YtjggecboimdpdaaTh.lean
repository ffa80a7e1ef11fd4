/- The text of a grid, on both sides. No condition. -/
import Derived.Test.YtjggecboimdpdaaTg
namespace Go.Proofs.Ytjggecboimdpdaa
open Go Go.ChangeShapes Go.WideShapes Go.RowKit
set_option linter.unusedVariables false
set_option linter.unusedSimpArgs false

def lastB (W k : Nat) : List UInt8 := if (k + 1) % W = 0 then [10] else []
theorem gtx_next {W : Nat} {xs : List Int} {k : Nat} {x : Int} (h : xs[k]? = some x) : gtx W xs (k + 1) = (gtx W xs k ++ [sgB x]) ++ lastB W k := by
  rw [gtx, h]; rfl

theorem cells_snoc (l : List UInt8) (b : UInt8) : Lib.byteCells (l ++ [b]) = Lib.byteCells l ++ [.int .u8 (b.toNat : Int)] := by simp [Lib.byteCells]

theorem own_form {w : World} {B : Nat} {e : TypeId} {v : Value} {n : Nat} {xs : List Value} (h : w.ownsRow B e 1 v n xs) : ∃ ao cv, v = .slice ao n cv := by
  rcases h.2 with ⟨rfl, h0⟩ | ⟨g, cap, cur, rfl, _⟩
  · exact ⟨none, 0, by rw [h0]⟩
  · exact ⟨_, _, rfl⟩

set_option maxRecDepth 100000 in
set_option maxHeartbeats 1000000 in
theorem c_l07Text (p W : Nat) (b : Int) (A : Option Addr) (c : Nat) (xs : List Int) (w : World) (hg : w.heap[p]? = some (.cells #[.int .i64 (W : Nat), .int .i64 b, .slice A xs.length c] 56 (0, 0))) (h : Bs w w.heap.size A xs)
    (hx : ∀ x ∈ xs, 0 ≤ x ∧ x ≤ 255) (hW : 1 ≤ W ∧ W ≤ 24) (hn : xs.length ≤ 600) :
    Calls Try.prog 54 #[.pointer (some ⟨p, 0, none⟩)] w fun e w' => e = .returned (.string ⟨(gtx W xs xs.length).toArray⟩) ∧ Below w.heap.size w w' := by
  have H := Lib.hid h
  have HX := Lib.hid hx
  have hB := Lib.hid fun w1 (hb : Stays w w1) => (show w1.cell? ⟨p, 0, none⟩ = some (.int .i64 (W : Nat)) ∧ w1.cell? ⟨p, 2, none⟩ = some (.slice A xs.length c) from ⟨row_of hb hg 0, row_of hb hg 2⟩)
  obtain ⟨i0, hi0, hz0, hz1, hz2⟩ := info_parts infoByte
  clear h hx hg
  have hW1 : (1 : Int) ≤ (W : Int) := by omega
  have hW2 : ¬ ((W : Int) = 0) := by omega
  go_enter Try.func54, Try.ntmps54
  go_wp2
  go_loopw [3, 4] (fun v i wr => ∃ (k : Nat) (ao : Option Addr) (cv : Nat), k ≤ xs.length ∧ i = .int .i64 k ∧ v = .slice ao (gtx W xs k).length cv ∧ Hid (GrowB w.heap.size wr v (gtx W xs k)) ∧ Hid (Below w.heap.size w wr)) (fun _ i _ => xs.length - (intOf i).toNat)
  case atStart => exact ⟨0, _, _, Nat.zero_le _, rfl, rfl, Lib.hid (GrowB.made w (Nat.le_refl _)), Lib.hid ((Below.refl _ _).alloc (Nat.le_refl _) _)⟩
  case round =>
    obtain ⟨k, ao, cv, hk, rfl, rfl, hgr, hb⟩ := hrel
    obtain ⟨q0, q2⟩ := hB.out wr hb.out
    by_cases hlt : k < xs.length
    · obtain ⟨ad, rfl, hbl, hc⟩ := Bs.at_ (H.out.below hb.out) (List.getElem?_eq_getElem hlt)
      have hxk := HX.out _ (List.getElem_mem hlt)
      have hnx := gtx_next (W := W) (List.getElem?_eq_getElem hlt)
      have kS := Lib.hid fun w1 => c_l07Sign xs[k] w1 hxk
      have hlt' : (k : Int) < (xs.length : Int) := by omega
      have hlen := gtx_len W xs k
      have hsize := hb.out.size
      have hgl := Lib.hid hgr.out.own
      generalize gtx W xs k = l at hnx hlen hgl ⊢
      have hsb := sgB_nat xs[k]
      generalize sgB xs[k] = sb at hnx hsb
      rw [← hsb] at kS
      generalize xs[k] = x at hc kS
      clear hxk hsb hgr
      have hkk : ((k : Int) + 1) % (W : Int) = (((k + 1) % W : Nat) : Int) := by simp
      go_wp2_with fail
      refine (kS.out _).mono ?_
      rintro e w1 ⟨rfl, rfl⟩
      unfold lastB at hnx
      by_cases hm : (k + 1) % W = 0
      · have hm' : ((k : Int) + 1) % (W : Int) = 0 := by rw [hkk, hm]; rfl
        rw [if_pos hm] at hnx
        replace hnx := Lib.hid hnx
        clear hm hkk
        go_wp2_with (first
          | (at_builtin; refine wpList_append_own _ rfl _ _ 51 rfl w.heap.size 5 i0 (.int .u8 0) 1 1 Try.underlying51 hi0 hz0 hz1 hz2 rfl (by decide) _ _ _ rfl (hgl.out.alloc _) ⟨wr.heap.size, 0, none⟩ 1 1 [.int .u8 (sb.toNat : Int)] rfl rfl (World.news_of_block (heap_alloc_new wr _)) (one_u8 _) (by unfold maxLen; omega) (by omega) (by simp; omega) ?_; intro v1 w1 hown1 hgrow1 _; have hb1 := (hb.out.alloc hb.out.size _).grown hgrow1 (Nat.le_trans hb.out.size (by simp)) (fun q hq => (hgl.out.lt q hq).1); have hsize1 := hb1.size; obtain ⟨qa1, qb1⟩ := hB.out w1 hb1; replace hb1 := Lib.hid hb1; obtain ⟨ao1, cv1, rfl⟩ := own_form hown1; replace hown1 := Lib.hid hown1; clear hgrow1)
          | (at_builtin; refine wpList_append_own _ rfl _ _ 51 rfl w.heap.size 5 i0 (.int .u8 0) 1 1 Try.underlying51 hi0 hz0 hz1 hz2 rfl (by decide) _ _ _ rfl (hown1.out.alloc _) ⟨w1.heap.size, 0, none⟩ 1 1 [.int .u8 10] rfl rfl (World.news_of_block (heap_alloc_new w1 _)) (one_u8 _) (by unfold maxLen; omega) (by omega) (by simp; omega) ?_; intro v1 w2 hown2 hgrow2 _; have hb2 := (hb1.out.alloc hb1.out.size _).grown hgrow2 (Nat.le_trans hb1.out.size (by simp)) (fun q hq => (hown1.out.lt q hq).1); have hsize2 := hb2.size; obtain ⟨qa2, qb2⟩ := hB.out w2 hb2; replace hb2 := Lib.hid hb2; obtain ⟨ao2, cv2, rfl⟩ := own_form hown2; replace hown2 := Lib.hid hown2; clear hgrow2))
        go_round
        case rel =>
          refine ⟨k + 1, ao2, cv2, by omega, by go_num, ?_, ?_, hb2⟩
          · rw [hnx.out]; simp
          · rw [hnx.out]; exact Lib.hid ⟨by rw [cells_snoc]; simpa [Lib.byteCells] using hown2.out⟩
        case measure => simp [intOf]; omega
      · have hm' : ¬ ((k : Int) + 1) % (W : Int) = 0 := by rw [hkk]; omega
        rw [if_neg hm, List.append_nil] at hnx
        replace hnx := Lib.hid hnx
        clear hm hkk
        go_wp2_with (at_builtin; refine wpList_append_own _ rfl _ _ 51 rfl w.heap.size 5 i0 (.int .u8 0) 1 1 Try.underlying51 hi0 hz0 hz1 hz2 rfl (by decide) _ _ _ rfl (hgl.out.alloc _) ⟨wr.heap.size, 0, none⟩ 1 1 [.int .u8 (sb.toNat : Int)] rfl rfl (World.news_of_block (heap_alloc_new wr _)) (one_u8 _) (by unfold maxLen; omega) (by omega) (by simp; omega) ?_; intro v1 w1 hown1 hgrow1 _; have hb1 := (hb.out.alloc hb.out.size _).grown hgrow1 (Nat.le_trans hb.out.size (by simp)) (fun q hq => (hgl.out.lt q hq).1); have hsize1 := hb1.size; obtain ⟨qa1, qb1⟩ := hB.out w1 hb1; replace hb1 := Lib.hid hb1; obtain ⟨ao1, cv1, rfl⟩ := own_form hown1; replace hown1 := Lib.hid hown1; clear hgrow1)
        go_round
        case rel =>
          refine ⟨k + 1, ao1, cv1, by omega, by go_num, ?_, ?_, hb1⟩
          · rw [hnx.out]; simp
          · rw [hnx.out]; exact Lib.hid ⟨by simpa [Lib.byteCells] using hown1.out⟩
        case measure => simp [intOf]; omega
    · have e : k = xs.length := by omega
      subst e
      have hs := hgr.out.string
      go_wp2
      go_ret
      exact ⟨rfl, hb.out⟩
end Go.Proofs.Ytjggecboimdpdaa
