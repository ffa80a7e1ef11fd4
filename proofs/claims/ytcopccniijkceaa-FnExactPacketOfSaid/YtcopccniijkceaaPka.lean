/- Bytes of numbers, and a number that is appended. No condition. -/
import Derived.Test.YtcopccniijkceaaLh
import Derived.Test.YtcopccniijkceaaGv
namespace Go.Proofs.Ytcopccniijkceaa
open Go Go.ChangeShapes Go.WideShapes Go.RowKit
set_option linter.unusedVariables false
set_option linter.unusedSimpArgs false


def bV (l : List Int) : List Value := l.map fun x => .int .u8 x
theorem bV_len (l : List Int) : (bV l).length = l.length := List.length_map ..
theorem bV_app (l m : List Int) : bV (l ++ m) = bV l ++ bV m := List.map_append
theorem bV_one (l : List Int) : ∀ u ∈ bV l, u.oneCell' = true := fun u hu => by
  obtain ⟨x, _, rfl⟩ := List.mem_map.1 hu
  rfl
def le2 (n : Int) : List Int := [n % 256, n / 256 % 256]
def le4 (n : Int) : List Int := [n % 256, n / 256 % 256, n / 65536 % 256, n / 16777216 % 256]
theorem le2_32 (c : Int) : le2 (c % 4294967296) = le2 (c % 65536) := by
  unfold le2
  rw [show c % 4294967296 % 256 = c % 65536 % 256 by omega, show c % 4294967296 / 256 % 256 = c % 65536 / 256 % 256 by omega]
theorem le4_32 (t : Int) : le4 (t % 4294967296) = le4 t := by
  unfold le4
  rw [show t % 4294967296 % 256 = t % 256 by omega, show t % 4294967296 / 256 % 256 = t / 256 % 256 by omega, show t % 4294967296 / 65536 % 256 = t / 65536 % 256 by omega, show t % 4294967296 / 16777216 % 256 = t / 16777216 % 256 by omega]
theorem le2_n (n : Int) : le2 (n % 4294967296) = le2 n := by
  unfold le2
  rw [show n % 4294967296 % 256 = n % 256 by omega, show n % 4294967296 / 256 % 256 = n / 256 % 256 by omega]
theorem le2_cells (n : Int) : ∀ (j : Nat) (u : Value), (bV (le2 n))[j]? = some u → (#[.int .u8 (n % 256), .int .u8 (n / 256 % 256), .int .u8 (n / 65536 % 256), .int .u8 (n / 16777216 % 256)] : Array Value)[j]? = some u
  | 0, u, h => h
  | 1, u, h => h
  | j + 2, u, h => by simp [bV, le2] at h
theorem le4_cells (n : Int) : ∀ (j : Nat) (u : Value), (bV (le4 n))[j]? = some u → (#[.int .u8 (n % 256), .int .u8 (n / 256 % 256), .int .u8 (n / 65536 % 256), .int .u8 (n / 16777216 % 256)] : Array Value)[j]? = some u
  | 0, u, h => h
  | 1, u, h => h
  | 2, u, h => h
  | 3, u, h => h
  | j + 4, u, h => by simp [bV, le4] at h
theorem infoB8 : (Try.prog.info? 5).map (fun i => (i.zero, i.size, i.bytes)) = some (some (.int .u8 0), 1, 1) := by kernel_rfl
/-- Cells of a block, one behind the other. -/
theorem news_row {w : World} {g : Nat} {cs : Array Value} {t : TypeId} {xs : List Value} (h : w.heap[g]? = some (.cells cs t (0, 0))) (hx : ∀ (j : Nat) (u : Value), xs[j]? = some u → cs[j]? = some u) : ∀ (j : Nat) (u : Value), xs[j]? = some u → w.cell? ((⟨g, 0, none⟩ : Addr).add j) = some u := fun j u hu => by
  have e : (⟨g, 0, none⟩ : Addr).add j = ⟨g, j, none⟩ := by unfold Addr.add; split <;> simp_all
  rw [e, cell_of_row _ _ _ _ _ _ h]
  exact hx j u hu
theorem own_bytes {w : World} {B n : Nat} {v : Value} {xs : List Value} (h : w.ownsRow B 5 1 v n xs) (hn : 0 < n) : ∃ g cap, v = .slice (some ⟨g, 0, none⟩) n cap ∧ B ≤ g ∧ n ≤ cap ∧ ∀ j u, xs[j]? = some u → w.cell? ⟨g, j, none⟩ = some u := by
  rcases h.2 with ⟨_, e⟩ | ⟨g, cap, cur, e, hb, hg, hc, _, _, ht⟩
  · omega
  · refine ⟨g, cap, e, hb, hc, fun j u hu => ?_⟩
    rw [cell_of_row _ _ _ _ _ _ hg]
    rw [← ht] at hu
    have hj := (List.getElem?_eq_some_iff.1 hu).1
    rw [List.length_take] at hj
    rw [List.getElem?_take_of_lt (by omega)] at hu
    simpa using hu
theorem own_bstays {w w' : World} {B n : Nat} {v : Value} {xs : List Value} (h : w.ownsRow B 5 1 v n xs) (hs : Stays w w') : w'.ownsRow B 5 1 v n xs := by
  obtain ⟨h1, h2⟩ := h
  refine ⟨h1, ?_⟩
  rcases h2 with h2 | ⟨g, cap, cur, hv, hb, hg, hr⟩
  · exact .inl h2
  · exact .inr ⟨g, cap, cur, hv, hb, hs.heap (in_heap hg) hg, hr⟩
theorem own_fresh (w : World) (cs : Array Value) (hc : cs.size ≤ 1000) : (w.alloc (.cells cs 5)).ownsRow w.heap.size 5 1 (.slice (some ⟨w.heap.size, 0, none⟩) cs.size cs.size) cs.size cs.toList :=
  ⟨by simp, .inr ⟨w.heap.size, cs.size, cs, rfl, Nat.le_refl _, heap_alloc_new w _, Nat.le_refl _, by unfold maxLen; omega, by omega, by rw [Nat.mul_one]; exact List.take_of_length_le (by simp)⟩⟩

set_option maxRecDepth 100000 in
theorem c_lowFirst (n : Int) (w : World) : Calls Try.prog 106 #[.int .u32 n] w fun e w' => e = .returned (.agg #[.int .u8 (n % 256), .int .u8 (n / 256 % 256), .int .u8 (n / 65536 % 256), .int .u8 (n / 16777216 % 256)]) ∧ Stays w w' := by
  go_enter Try.func106, Try.ntmps106
  go_wp2
  apply end_agg rfl rfl rfl Try.underlying180 rfl (t := 180)
  case hg => exact heap_alloc_new w _
  case hi => kernel_rfl
  case hR => exact ⟨rfl, by (repeat (first | exact Stays.refl _ | (with_reducible refine Stays.drewN ?_ _) | (with_reducible refine Stays.alloc ?_ _) | (with_reducible refine Stays.drew ?_) | (refine Stays.trans ?_ ‹Stays _ _›)))⟩
set_option maxRecDepth 100000 in
set_option maxHeartbeats 4000000 in
theorem c_with2 (B : Nat) (v : Value) (l : List Int) (n : Int) (w : World) (hown : w.ownsRow B 5 1 v l.length (bV l)) (hB : B ≤ w.heap.size) (hl : l.length ≤ 100000) :
    Calls Try.prog 62 #[v, .int .u32 n, .int .i64 2] w fun e w' => ∃ v', e = .returned v' ∧ Below B w w' ∧ w'.ownsRow B 5 1 v' (l ++ le2 n).length (bV (l ++ le2 n)) ∧ ∀ q, q < w.heap.size → v.ownBlock ≠ some q → w'.heap[q]? = w.heap[q]? := by
  obtain ⟨i0, hi0, hz0, hz1, hz2⟩ := info_parts infoB8
  replace hown := Lib.hid hown
  replace hB := Lib.hid hB
  go_enter Try.func62, Try.ntmps62
  go_wp2_with fail
  refine (c_lowFirst n w).mono ?_
  rintro e w1 ⟨rfl, hb⟩
  have hB1 := Lib.hid (Nat.le_trans hB.out hb.size)
  have hown1 := Lib.hid (own_bstays hown.out hb)
  have hb1 := Lib.hid (show Below B w w1 from Below.mono hb hB.out)
  have hst9 := Lib.hid (show Stays w (w1.alloc (.cells #[.int .u8 (n % 256), .int .u8 (n / 256 % 256), .int .u8 (n / 65536 % 256), .int .u8 (n / 16777216 % 256)] 180)) from hb.trans (by (repeat (first | exact Stays.refl _ | (with_reducible refine Stays.drewN ?_ _) | (with_reducible refine Stays.alloc ?_ _) | (with_reducible refine Stays.drew ?_) | (refine Stays.trans ?_ ‹Stays _ _›)))))
  clear hb
  have hu := Lib.hid (heap_alloc_new w1 (.cells #[.int .u8 (n % 256), .int .u8 (n / 256 % 256), .int .u8 (n / 65536 % 256), .int .u8 (n / 16777216 % 256)] 180))
  go_wp2_with (at_builtin; refine wpList_append_own _ rfl _ _ 36 rfl B 5 i0 (.int .u8 0) 1 1 Try.underlying36 hi0 hz0 hz1 hz2 rfl (by decide) _ _ _ rfl  (hown1.out.alloc _) ⟨w1.heap.size, 0, none⟩ 2 4 (bV (le2 n)) rfl rfl (news_row hu.out (le2_cells n)) (bV_one _) (by unfold maxLen; omega) (by omega) (by have := hB1.out; simp; omega) ?_; intro v9 w9 hown' hgrow hiff)
  have hs := Lib.hid (show Below B w w9 from Below.grown (B := B) (hb1.out.alloc hB1.out (.cells #[.int .u8 (n % 256), .int .u8 (n / 256 % 256), .int .u8 (n / 65536 % 256), .int .u8 (n / 16777216 % 256)] 180)) hgrow (by have := hB1.out; simp; omega) (fun k hk => (hown1.out.lt k hk).1))
  have hfr := Lib.hid (show ∀ q, q < w.heap.size → v.ownBlock ≠ some q → w9.heap[q]? = w.heap[q]? from fun q hq hne => (hgrow.block q (by have := hst9.out.size; simp at this ⊢; omega) (fun e => hne e.symm)).trans (Below.block hst9.out q hq))
  replace hown' := Lib.hid hown'
  clear hgrow hiff
  go_wp2
  go_ret
  exact ⟨_, rfl, hs.out, by rw [List.length_append, bV_app]; exact hown'.out, hfr.out⟩

set_option maxRecDepth 100000 in
set_option maxHeartbeats 4000000 in
theorem c_with4 (B : Nat) (v : Value) (l : List Int) (n : Int) (w : World) (hown : w.ownsRow B 5 1 v l.length (bV l)) (hB : B ≤ w.heap.size) (hl : l.length ≤ 100000) :
    Calls Try.prog 62 #[v, .int .u32 n, .int .i64 4] w fun e w' => ∃ v', e = .returned v' ∧ Below B w w' ∧ w'.ownsRow B 5 1 v' (l ++ le4 n).length (bV (l ++ le4 n)) ∧ ∀ q, q < w.heap.size → v.ownBlock ≠ some q → w'.heap[q]? = w.heap[q]? := by
  obtain ⟨i0, hi0, hz0, hz1, hz2⟩ := info_parts infoB8
  replace hown := Lib.hid hown
  replace hB := Lib.hid hB
  go_enter Try.func62, Try.ntmps62
  go_wp2_with fail
  refine (c_lowFirst n w).mono ?_
  rintro e w1 ⟨rfl, hb⟩
  have hB1 := Lib.hid (Nat.le_trans hB.out hb.size)
  have hown1 := Lib.hid (own_bstays hown.out hb)
  have hb1 := Lib.hid (show Below B w w1 from Below.mono hb hB.out)
  have hst9 := Lib.hid (show Stays w (w1.alloc (.cells #[.int .u8 (n % 256), .int .u8 (n / 256 % 256), .int .u8 (n / 65536 % 256), .int .u8 (n / 16777216 % 256)] 180)) from hb.trans (by (repeat (first | exact Stays.refl _ | (with_reducible refine Stays.drewN ?_ _) | (with_reducible refine Stays.alloc ?_ _) | (with_reducible refine Stays.drew ?_) | (refine Stays.trans ?_ ‹Stays _ _›)))))
  clear hb
  have hu := Lib.hid (heap_alloc_new w1 (.cells #[.int .u8 (n % 256), .int .u8 (n / 256 % 256), .int .u8 (n / 65536 % 256), .int .u8 (n / 16777216 % 256)] 180))
  go_wp2_with (at_builtin; refine wpList_append_own _ rfl _ _ 36 rfl B 5 i0 (.int .u8 0) 1 1 Try.underlying36 hi0 hz0 hz1 hz2 rfl (by decide) _ _ _ rfl  (hown1.out.alloc _) ⟨w1.heap.size, 0, none⟩ 4 4 (bV (le4 n)) rfl rfl (news_row hu.out (le4_cells n)) (bV_one _) (by unfold maxLen; omega) (by omega) (by have := hB1.out; simp; omega) ?_; intro v9 w9 hown' hgrow hiff)
  have hs := Lib.hid (show Below B w w9 from Below.grown (B := B) (hb1.out.alloc hB1.out (.cells #[.int .u8 (n % 256), .int .u8 (n / 256 % 256), .int .u8 (n / 65536 % 256), .int .u8 (n / 16777216 % 256)] 180)) hgrow (by have := hB1.out; simp; omega) (fun k hk => (hown1.out.lt k hk).1))
  have hfr := Lib.hid (show ∀ q, q < w.heap.size → v.ownBlock ≠ some q → w9.heap[q]? = w.heap[q]? from fun q hq hne => (hgrow.block q (by have := hst9.out.size; simp at this ⊢; omega) (fun e => hne e.symm)).trans (Below.block hst9.out q hq))
  replace hown' := Lib.hid hown'
  clear hgrow hiff
  go_wp2
  go_ret
  exact ⟨_, rfl, hs.out, by rw [List.length_append, bV_app]; exact hown'.out, hfr.out⟩

end Go.Proofs.Ytcopccniijkceaa
