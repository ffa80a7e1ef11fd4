/- Lists of float32: copied, compared, counted. No condition. -/
import Derived.Test.YtmcbeaihjdnelaaGv
namespace Go.Proofs.Ytmcbeaihjdnelaa
open Go Go.RowKit
set_option linter.unusedVariables false
set_option linter.unusedSimpArgs false

abbrev KFl : List Kd := [.f .f32]
def flt (r : List NV) : Option Nat := (r.getD 0 (.i 0)).gf

theorem fl_at {w : World} {p : Addr} {r : List NV} (h : RowAt KFl w p r) : ∃ b, w.cell? p = some (.float .f32 b) ∧ FIs .f32 b (flt r) := by
  obtain ⟨c0, hk, hc⟩ := row1 rfl h
  match r, hk with
  | [n], ⟨⟨b, e, hf⟩, _⟩ => exact ⟨b, by rw [hc, e], hf⟩

theorem Fl.at_ {w : World} {B : Nat} {A : Option Addr} {xs : List (List NV)} (h : Ls KFl 1 w B A xs) {i : Nat} {x : List NV} (hx : xs[i]? = some x) : ∃ ad b, A = some ad ∧ ad.block < B ∧ w.cell? (ad.add i) = some (.float .f32 b) ∧ FIs .f32 b (flt x) := by
  obtain ⟨ad, e, hlt, hr⟩ := h i x hx
  rw [Nat.mul_one] at hr
  obtain ⟨b, h1, h2⟩ := fl_at hr
  exact ⟨ad, b, e, hlt, h1, h2⟩

theorem c_szFloat32S (A : Option Addr) (c n : Nat) (left : Int) (w : World) (hn : n ≤ 9223372036854775807) (h0 : 0 ≤ left) (h1 : left ≤ 1048576) :
    Calls Try.prog 76 #[.slice A n c, .int .i64 left] w fun e w' => e = .returned (.int .i64 (if left - n < 0 then -1 else left - n)) ∧ w = w' := by
  go_enter Try.func76, Try.ntmps76
  have e : IntKind.i64.wrap (left - (n : Int)) = left - n := IntWalk.i64_in _ (by omega)
  by_cases h : left - (n : Int) < 0
  · go_wp2
    go_ret
    exact ⟨rfl, rfl⟩
  · go_wp2
    go_ret
    exact ⟨rfl, rfl⟩

def sfS (f : FuncId) (args : Array Value) (v : Value) : Prop := f = 32 → v = .bool true

set_option maxRecDepth 100000 in
set_option maxHeartbeats 800000 in
theorem c_eqFloat32S (A A' : Option Addr) (c c' : Nat) (xs : List (List NV)) (w : World) (h : Ls KFl 1 w w.heap.size A xs) (h' : Ls KFl 1 w w.heap.size A' xs) (hn : xs.length ≤ 1048576) :
    Calls Try.prog 83 #[.slice A xs.length c, .slice A' xs.length c'] w fun e w' => e = .returned (.bool true) ∧ Below w.heap.size w w' := by
  have H := Lib.hid h
  have H' := Lib.hid h'
  clear h h'
  go_enter Try.func83, Try.ntmps83
  go_wp2
  go_loopw [5] (fun i wr => ∃ k : Nat, k ≤ xs.length ∧ i = .int .i64 k ∧ Hid (Below w.heap.size w wr)) (fun i _ => xs.length - (intOf i).toNat)
  case atStart => exact ⟨0, Nat.zero_le _, rfl, Lib.hid (Below.refl _ _)⟩
  case round =>
    obtain ⟨k, hk, rfl, hb⟩ := hrel
    by_cases hlt : k < xs.length
    · obtain ⟨ad, b, rfl, hbl, hc, hf⟩ := Fl.at_ (H.out.below hb.out) (List.getElem?_eq_getElem hlt)
      obtain ⟨ad', b', rfl, hbl', hc', hf'⟩ := Fl.at_ (H'.out.below hb.out) (List.getElem?_eq_getElem hlt)
      have hee : Hid (can .f32 b = can .f32 b') := Lib.hid (by rw [hf.out, hf'.out])
      have hcells : ∀ w1, Stays wr w1 → w1.cell? (ad.add k) = some (.float .f32 b) ∧ w1.cell? (ad'.add k) = some (.float .f32 b') := fun w1 h => ⟨(h.cell (by rw [block_add]; exact Nat.lt_of_lt_of_le hbl hb.out.size)).trans hc, (h.cell (by rw [block_add]; exact Nat.lt_of_lt_of_le hbl' hb.out.size)).trans hc'⟩
      clear hc hc' hf hf'
      have hlt' : (k : Int) < (xs.length : Int) := by omega
      go_wp2_with fail
      refine wp_region_soft_tail 11 (Stays.refl _) sfS [] (by kernel_rfl) (by kernel_rfl) (fun _ h => by cases h) ?_
      simp only [List.take_succ_cons, List.take_zero, List.drop_succ_cons, List.drop_zero]
      repeat (first | ((with_reducible apply soft_detG); (case hwa => rfl); (case hA => rfl); (case h => (intro w1 hw1; have hc := hcells w1 hw1; go_simp; exact rfl)); go_simp) | ((with_reducible apply soft_skipG); (case hwa => rfl); (case hA => rfl); go_simp) | ((with_reducible refine soft_widen rfl ?hA _ _ _ rfl _ rfl (some_of Try.underlying22) Try.underlying70 ?_); (case hA => rfl); intro r hr; go_simp) | ((with_reducible apply soft_callS (v := .bool true)); (case hwa => rfl); (case hA => rfl); (case h => (intro w1 hw1; have hc := hcells w1 hw1; go_simp; exact ⟨rfl, rfl⟩)); (case hc => exact fun w1 hw1 => c_sameFloat _ _ w1 (wide_same hee.out ‹FIs _ _ _› ‹FIs _ _ _›)); (case hS => exact fun _ => rfl); (case hu => exact fun u hu => hu rfl); go_simp))
      refine soft_nil ?_
      rintro w2 ⟨hw2, _⟩
      replace hw2 := Lib.hid (hb.out.trans (Below.mono hw2 hb.out.size))
      clear hcells
      go_wp2
      go_round
      case rel => exact ⟨k + 1, by omega, by go_num, hw2⟩
      case measure => simp [intOf]; omega
    · go_wp2
      go_ret
      exact ⟨rfl, hb.out⟩

theorem infoFl : (Try.prog.info? 22).map (fun i => (i.zero, i.size, i.bytes)) = some (some (.float .f32 0), 1, 4) := by kernel_rfl

set_option maxRecDepth 100000 in
set_option maxHeartbeats 400000 in
theorem c_toFloat32S (A : Option Addr) (c : Nat) (xs : List (List NV)) (w : World) (h : Ls KFl 1 w w.heap.size A xs) (hn : xs.length ≤ 1048576) :
    Calls Try.prog 78 #[.slice A xs.length c] w fun e w' => e = .returned (.slice (some ⟨w.heap.size, 0, none⟩) xs.length xs.length) ∧ PutL KFl 1 w w' xs xs.length := by
  have H := Lib.hid h
  clear h
  obtain ⟨i0, hi0, hz0, hz1, hz2⟩ := info_parts infoFl
  have hmk : ∀ u : World, (Instr.makeSlice 61 (.int .i64 (xs.length : Nat)) (.int .i64 (xs.length : Nat))).run Try.prog u = .ok (.slice (some ⟨u.heap.size, 0, none⟩) xs.length xs.length) (u.alloc (.cells (madeCells #[Value.float .f32 0] xs.length) 22)) := fun u => by
    have := run_make (P := Try.prog) u 61 22 i0 _ Try.underlying61 hi0 hz0 .i64 .i64 (xs.length : Nat) (xs.length : Nat) (by omega) (Int.le_refl _) (by rw [hz2]; omega) (by omega)
    simp [hz1] at this
    exact this
  go_enter Try.func78, Try.ntmps78
  go_wp2
  have hmt := Lib.hid (made_there w #[Value.float .f32 0] xs.length 22)
  go_loopw [4] (fun i wr => ∃ k : Nat, k ≤ xs.length ∧ i = .int .i64 k ∧ Hid (PutL KFl 1 w wr xs k)) (fun i _ => xs.length - (intOf i).toNat)
  case atStart => exact ⟨0, Nat.zero_le _, rfl, Lib.hid ⟨(Below.refl _ _).alloc (Nat.le_refl _) _, by rw [Nat.mul_one]; exact hmt.out, (Array.getElem?_eq_some_iff.1 (heap_alloc_new w _)).1, fun i r hi _ => by omega⟩⟩
  case round =>
    obtain ⟨k, hk, rfl, hb⟩ := hrel
    by_cases hlt : k < xs.length
    · obtain ⟨ad, b, rfl, hbl, hc, hf⟩ := Fl.at_ (H.out.below hb.out.below) (List.getElem?_eq_getElem hlt)
      have hrk : Hid (xs[k]? = some xs[k]) := Lib.hid (List.getElem?_eq_getElem hlt)
      have hl1 : xs[k].length = 1 := by
        obtain ⟨_, _, _, cs, hks, _⟩ := (H.out.below hb.out.below) k xs[k] (List.getElem?_eq_getElem hlt)
        exact KMs_rlen hks
      generalize xs[k] = x at hc hrk hf hl1
      have hkm : KMs KFl [.float .f32 b] x := by
        match x, hl1, hf with
        | [n], _, hf => exact ⟨⟨b, rfl, hf⟩, trivial⟩
      have hnx := (hb.out.next (cs := #[.float .f32 b]) rfl (Below.refl _ _) hrk.out hkm (by decide)).2
      rw [Nat.mul_one] at hnx
      have hnx : Hid (PutL KFl 1 w (wr.setCell ⟨w.heap.size, k, none⟩ (.float .f32 b)) xs (k + 1)) := Lib.hid hnx
      obtain ⟨u0, hu0⟩ := Option.isSome_iff_exists.1 ((there_part hb.out.there k 1 (by omega)) 0 (by omega)).1
      have hf0 := ((there_part hb.out.there k 1 (by omega)) 0 (by omega)).2
      rw [Nat.add_zero] at hu0 hf0
      have hlt' : (k : Int) < (xs.length : Int) := by omega
      clear hf hkm hl1
      go_wp2
      go_round
      case rel => exact ⟨k + 1, by omega, by go_num, hnx⟩
      case measure => simp [intOf]; omega
    · have e : k = xs.length := by omega
      subst e
      go_wp2
      go_ret
      exact ⟨rfl, hb.out⟩
end Go.Proofs.Ytmcbeaihjdnelaa
