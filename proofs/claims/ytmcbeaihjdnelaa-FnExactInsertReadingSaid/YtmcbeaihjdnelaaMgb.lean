/- A reading that is put into a feed, as the document does it. No condition. -/
import Derived.Test.YtmcbeaihjdnelaaMga
import Derived.Test.YtmcbeaihjdnelaaSv
import Derived.Test.YtmcbeaihjdnelaaLh
import Derived.Deep.RegionLaw
import Derived.Deep.CutRange
namespace Go.Proofs.Ytmcbeaihjdnelaa
open Go Go.RowKit
set_option linter.unusedVariables false
set_option linter.unusedSimpArgs false


/-! Cells of a feed that begins a block. -/
theorem add_at (g j : Nat) : (⟨g, 0, none⟩ : Addr).add j = ⟨g, j, none⟩ := by unfold Addr.add; split <;> simp_all
theorem feed_at {w : World} {B g : Nat} {xs : List Rd} (h : Feed w B (some ⟨g, 0, none⟩) xs) {i : Nat} {r : Rd} (hr : xs[i]? = some r) : g < B ∧ w.cell? ⟨g, i * 4, none⟩ = some (.int .i64 r.t) ∧ w.cell? ⟨g, i * 4 + 1, none⟩ = some (.int .i16 r.a) ∧ w.cell? ⟨g, i * 4 + 2, none⟩ = some (.int .i16 r.b) ∧ w.cell? ⟨g, i * 4 + 3, none⟩ = some (.int .i16 r.c) := by
  obtain ⟨ad, e, hb, h1, h2, h3, h4⟩ := h i r hr
  cases e
  rw [add_at] at h1 h2 h3 h4
  exact ⟨hb, h1, h2, h3, h4⟩
theorem cells_split : ∀ {xs : List Rd} {j : Nat} {u : Value}, (cellsOf xs)[j]? = some u → ∃ i r m, xs[i]? = some r ∧ r.cells.toList[m]? = some u ∧ j = i * 4 + m
  | [], j, u, h => by simp [cellsOf] at h
  | x :: xs, j, u, h => by
    have h' : (x.cells.toList ++ cellsOf xs)[j]? = some u := h
    have hl : x.cells.toList.length = 4 := rfl
    by_cases hj : j < 4
    · rw [List.getElem?_append_left (by omega)] at h'
      exact ⟨0, x, j, rfl, h', by omega⟩
    · rw [List.getElem?_append_right (by omega), hl] at h'
      obtain ⟨i, r, m, e1, e2, e3⟩ := cells_split h'
      exact ⟨i + 1, r, m, by simpa using e1, e2, by omega⟩
theorem cellsOf_len : ∀ xs : List Rd, (cellsOf xs).length = xs.length * 4
  | [] => rfl
  | x :: xs => by
    show (x.cells.toList ++ cellsOf xs).length = _
    rw [List.length_append, cellsOf_len xs, List.length_cons]
    show 4 + xs.length * 4 = _
    omega
theorem cellsOf_one (xs : List Rd) : ∀ u ∈ cellsOf xs, u.oneCell' = true := fun u hu => by
  obtain ⟨r, _, hr⟩ := List.mem_flatMap.1 hu
  exact cells_one r u hr
theorem cellsOf_append (xs ys : List Rd) : cellsOf (xs ++ ys) = cellsOf xs ++ cellsOf ys := List.flatMap_append
/-- The cells of a part of a feed, one behind the other. -/
theorem news_part {w : World} {B g o : Nat} {xs ys : List Rd} (h : Feed w B (some ⟨g, 0, none⟩) xs) (hy : ∀ i r, ys[i]? = some r → xs[o + i]? = some r) : ∀ j u, (cellsOf ys)[j]? = some u → w.cell? ((⟨g, o * 4, none⟩ : Addr).add j) = some u := fun j u hu => by
  obtain ⟨i, r, m, e1, e2, rfl⟩ := cells_split hu
  obtain ⟨_, h0, h1, h2, h3⟩ := feed_at h (hy i r e1)
  have e : (⟨g, o * 4, none⟩ : Addr).add (i * 4 + m) = ⟨g, (o + i) * 4 + m, none⟩ := by
    unfold Addr.add
    split
    · rename_i g0
      have : i = 0 ∧ m = 0 := by omega
      obtain ⟨rfl, rfl⟩ := this
      rfl
    · congr 1
      show o * 4 + (i * 4 + m) = _
      omega
  rw [e]
  match m, e2 with
  | 0, e2 => cases e2; exact h0
  | 1, e2 => cases e2; exact h1
  | 2, e2 => cases e2; exact h2
  | 3, e2 => cases e2; exact h3
theorem take_part (xs : List Rd) (k : Nat) : ∀ i r, (xs.take k)[i]? = some r → xs[0 + i]? = some r := fun i r h => by
  rw [Nat.zero_add]
  have hi := (List.getElem?_eq_some_iff.1 h).1
  rw [List.length_take] at hi
  rw [List.getElem?_take_of_lt (by omega)] at h
  exact h
theorem drop_part (xs : List Rd) (k : Nat) : ∀ i r, (xs.drop k)[i]? = some r → xs[k + i]? = some r := fun i r h => by
  rw [List.getElem?_drop] at h
  exact h

theorem slice_rest {g n c k : Nat} (hk : k ≤ n) (hc : n ≤ c) : ∃ ad C, (∀ w, (Instr.slice 34 (.slice (some ⟨g, 0, none⟩) n c) (some (.int .i64 (k : Int))) none none).run Try.prog w = .ok (.slice (some ad) (n - k) C) w) ∧ (k < n → ad = ⟨g, k * 4, none⟩) := by
  have hsz : ∀ w : World, (sizeOf (Try.prog.elem 34)).run Try.prog w = .ok 4 w := fun w => by kernel_rfl
  have hel : Try.prog.elem 34 = 83 := by kernel_rfl
  refine ⟨if k = c then ⟨g, 0, none⟩ else ⟨g, k * 4, none⟩, c - k, fun w => ?_, fun h => if_neg (by omega)⟩
  rw [run_slice_l w 34 (some ⟨g, 0, none⟩) n c (by rw [hel]; exact Try.underlying34) .i64 (k : Int) (by omega) (by omega), hsz]
  have e1 : ((k : Int)).toNat = k := by omega
  by_cases h : k = c
  · subst h
    simp [Result.andThen, sliced, e1]
  · have h' : ¬ c = k := fun e => h e.symm
    have h2 : c - k ≠ 0 := by omega
    simp [Result.andThen, sliced, h, h', e1, add_at]
theorem slice_head {g n c k : Nat} (hk : k ≤ n) (hc : n ≤ c) (w : World) : (Instr.slice 34 (.slice (some ⟨g, 0, none⟩) n c) none (some (.int .i64 (k : Int))) none).run Try.prog w = .ok (.slice (some ⟨g, 0, none⟩) k c) w := by
  have hsz : ∀ w : World, (sizeOf (Try.prog.elem 34)).run Try.prog w = .ok 4 w := fun w => by kernel_rfl
  have hel : Try.prog.elem 34 = 83 := by kernel_rfl
  rw [run_slice_h w 34 (some ⟨g, 0, none⟩) n c (by rw [hel]; exact Try.underlying34) .i64 (k : Int) (by omega) (by omega), hsz]
  have e1 : ((k : Int)).toNat = k := by omega
  rw [e1]
  simp [Result.andThen, sliced]
  intro _
  exact add_at g 0

/-- An append in a drawn region, also of nothing. -/
theorem step_append_ownG {P : Program} {ops : Array Oper} {o : Oper} {a : Act} {w : World} {K : Act → World → Prop} {Q : Exit → Act → World → Prop} {E : Prop}
    (hg : o.guard = none) (s x : Operand) (t : TypeId) (hop : o.op = Op.call { callee := Callee.builtin Builtin.append, args := #[s, x], argTypes := #[t, t] })
    (base : Nat) (e : TypeId) (i : TypeInfo) (z : Value) (size bytes : Nat) (h1 : P.underlying t = some (.slice e)) (h2 : P.info? e = some i) (h3 : i.zero = some z) (h4 : i.size = size) (h5 : i.bytes = bytes) (h6 : z.cells.size = size) (h7 : 0 < size)
    (v : Value) (n : Nat) (xs : List Value) (hs : a.eval s = v) (hown : w.ownsRow base e size v n xs)
    (ad : Addr) (m c : Nat) (news : List Value) (hx : a.eval x = .slice (some ad) m c) (hn : news.length = m * size) (hc : ∀ j u, news[j]? = some u → w.cell? (ad.add j) = some u) (h1c : ∀ u ∈ news, u.oneCell' = true)
    (b1 : n + m ≤ maxLen) (b2 : (n + m) * bytes ≤ 140737488355328) (hbase : base ≤ w.heap.size)
    (hK : ∀ v' w', w'.ownsRow base e size v' (n + m) (xs ++ news) → w.grownBy w' v.ownBlock → (v' = .slice none 0 0 ↔ v = .slice none 0 0 ∧ m = 0) → K (a.put o.dst v') w') :
    if Region.wanted o (yielded ops a.tmps) = true then Oper.wp P o a w K Q else E := by
  have hw : Region.wanted o (yielded ops a.tmps) = true := by simp [Region.wanted, hg]
  rw [if_pos hw]
  obtain ⟨v', w', hrun, r1, r2, r3⟩ := run_append_own (P := P) w base t o.type e i z size bytes h1 h2 h3 h4 h5 h6 h7 v n xs hown ad m c news hn hc h1c b1 b2 hbase
  unfold Oper.wp
  simp [execOp, hop, resolve, invoke, builtin, hs, hx, hrun, Result.andThen]
  exact hK v' w' r1 r2 r3

theorem own_some {w : World} {B n : Nat} {v : Value} {xs : List Value} (h : w.ownsRow B 83 4 v n xs) (hv : v ≠ .slice none 0 0) : ∃ g cap cur, v = .slice (some ⟨g, 0, none⟩) n cap ∧ B ≤ g ∧ n ≤ cap ∧ w.heap[g]? = some (.cells cur 83 (0, 0)) ∧ cur.toList.take (n * 4) = xs := by
  rcases h.2 with ⟨e, _⟩ | ⟨g, cap, cur, e, hb, hg, hn, _, _, ht⟩
  · exact absurd e hv
  · exact ⟨g, cap, cur, e, hb, hn, hg, ht⟩
theorem news_own {w : World} {g n : Nat} {cur : Array Value} {t : TypeId} {xs : List Value} (h : w.heap[g]? = some (.cells cur t (0, 0))) (ht : cur.toList.take (n * 4) = xs) : ∀ j u, xs[j]? = some u → w.cell? ((⟨g, 0, none⟩ : Addr).add j) = some u := fun j u hu => by
  rw [add_at, cell_of_row _ _ _ _ _ _ h]
  rw [← ht] at hu
  have hj := (List.getElem?_eq_some_iff.1 hu).1
  rw [List.length_take] at hj
  rw [List.getElem?_take_of_lt (by omega)] at hu
  simpa using hu

def PutD (w : World) (ys : List Rd) (e : Ending) (w' : World) : Prop := ∃ g cap, e = .returned (.slice (some ⟨g, 0, none⟩) ys.length cap) ∧ ys.length ≤ cap ∧ Stays w w' ∧ w'.ownsRow w.heap.size 83 4 (.slice (some ⟨g, 0, none⟩) ys.length cap) ys.length (cellsOf ys)

set_option maxRecDepth 100000 in
set_option maxHeartbeats 4000000 in
theorem c_l04Put (g c : Nat) (xs : List Rd) (r : Rd) (w : World) (h : Feed w w.heap.size (some ⟨g, 0, none⟩) xs) (hn : xs.length ≤ 100000) (hc : xs.length ≤ c) (ha : Asc xs) :
    Calls Try.prog 90 #[.slice (some ⟨g, 0, none⟩) xs.length c, .agg #[.int .i64 r.t, .int .i16 r.a, .int .i16 r.b, .int .i16 r.c]] w (PutD w (putR r xs)) := by
  obtain ⟨i0, hi0, hz0, hz1, hz2⟩ := info_parts info50
  have hst : Stays w (w.alloc (.cells #[.int .i64 r.t, .int .i16 r.a, .int .i16 r.b, .int .i16 r.c] 83)) := by (repeat (first | exact Stays.refl _ | (with_reducible refine Stays.drewN ?_ _) | (with_reducible refine Stays.alloc ?_ _) | (with_reducible refine Stays.drew ?_) | (refine Stays.trans ?_ ‹Stays _ _›)))
  have u0 : (w.alloc (.cells #[.int .i64 r.t, .int .i16 r.a, .int .i16 r.b, .int .i16 r.c] 83)).heap[w.heap.size]? = some (.cells #[.int .i64 r.t, .int .i16 r.a, .int .i16 r.b, .int .i16 r.c] 83 (0, 0)) := by (repeat (first | (refine heap_top _ _ _ ?_; simp; done) | (with_reducible refine heap_drawn _ _ _ ?_) | (with_reducible refine heap_under _ _ _ ?_ ?_; (simp <;> omega))))
  have HB := Lib.hid fun W (hW : Stays (w.alloc (.cells #[.int .i64 r.t, .int .i16 r.a, .int .i16 r.b, .int .i16 r.c] 83)) W) => And.intro (row_of hW u0 0) (And.intro (row_of hW u0 1) (And.intro (row_of hW u0 2) (row_of hW u0 3)))
  have HS := Lib.hid fun W (hW : Stays (w.alloc (.cells #[.int .i64 r.t, .int .i16 r.a, .int .i16 r.b, .int .i16 r.c] 83)) W) => hst.trans hW
  have HF := Lib.hid fun W (hW : Stays (w.alloc (.cells #[.int .i64 r.t, .int .i16 r.a, .int .i16 r.b, .int .i16 r.c] 83)) W) => ((h.below (show Below w.heap.size w W from hst.trans hW)).more (hst.trans hW).size)
  have hsz := Lib.hid (show (w.alloc (.cells #[.int .i64 r.t, .int .i16 r.a, .int .i16 r.b, .int .i16 r.c] 83)).heap.size = w.heap.size + 1 by simp)
  have hup0 := Lib.hid (show ∀ j x, xs.length ≤ j → xs[j]? = some x → r.t ≤ x.t from fun j x hj hx => by rw [List.getElem?_eq_none hj] at hx; cases hx)
  have hasc := Lib.hid (List.pairwise_iff_getElem.1 ha)
  have hO1 := Lib.hid fun (W : World) (hW : w.heap.size ≤ W.heap.size) => (show (W.alloc (.cells #[.int .i64 r.t, .int .i16 r.a, .int .i16 r.b, .int .i16 r.c] 83)).ownsRow w.heap.size 83 4 (.slice (some ⟨W.heap.size, 0, none⟩) 1 1) 1 (#[.int .i64 r.t, .int .i16 r.a, .int .i16 r.b, .int .i16 r.c] : Array Value).toList from ⟨rfl, Or.inr ⟨W.heap.size, 1, #[.int .i64 r.t, .int .i16 r.a, .int .i16 r.b, .int .i16 r.c], rfl, hW, heap_alloc_new W _, Nat.le_refl _, by unfold maxLen; omega, rfl, rfl⟩⟩)
  have hW0 := Lib.hid (Stays.refl (w.alloc (.cells #[.int .i64 r.t, .int .i16 r.a, .int .i16 r.b, .int .i16 r.c] 83)))
  clear h hst u0 ha
  go_enter Try.func90, Try.ntmps90
  go_wp2_with fail
  generalize (w.alloc (.cells #[.int .i64 r.t, .int .i16 r.a, .int .i16 r.b, .int .i16 r.c] 83)) = WB at HB HS HF hsz hW0 ⊢
  go_loopw [5] (fun kv wr => ∃ k : Nat, k ≤ xs.length ∧ kv = .int .i64 (k : Nat) ∧ Hid (∀ j x, k ≤ j → xs[j]? = some x → r.t ≤ x.t) ∧ Hid (Stays WB wr)) (fun kv _ => (intOf kv).toNat)
  case atStart => exact ⟨xs.length, Nat.le_refl _, rfl, hup0, hW0⟩
  case round =>
    clear hW0
    obtain ⟨k, hk, rfl, hup, hW⟩ := hrel
    by_cases hk0 : k = 0
    · subst hk0
      have hlow : Hid (∀ j x, j < 0 → xs[j]? = some x → x.t < r.t) := Lib.hid fun j x hj => by omega
      have hkk : ¬ ((0 : Nat) : Int) > 0 := by omega
      go_wp2_with fail
      have hcells := fun W (hW' : Stays _ W) => HB.out W (hW.out.trans hW')
      refine wp_region_soft_tail 12 (Stays.refl _) (fun _ _ _ => False) [] (by kernel_rfl) (by kernel_rfl) (fun _ h => by cases h) ?_
      simp only [List.take_succ_cons, List.take_zero, List.drop_succ_cons, List.drop_zero]
      repeat (first | ((with_reducible apply soft_detG); (case hwa => rfl); (case hA => rfl); (case h => (intro w1 hw1; have hc := hcells w1 hw1; go_simp; exact rfl)); go_simp) | ((with_reducible apply soft_skipG); (case hwa => rfl); (case hA => rfl); go_simp))
      refine soft_nil ?_
      rintro w2 ⟨hwn, _⟩
      replace hW := Lib.hid (hW.out.trans hwn)
      clear hcells hwn
      have hput := Lib.hid (putR_at hk hlow.out hup.out)
      by_cases hkl : 0 < xs.length
      · have hgk : xs[0]? = some xs[0] := List.getElem?_eq_getElem hkl
        have HK := fun W (hW : Stays WB W) => feed_at (HF.out W hW) hgk
        have hmt : (xs[0]?).map Rd.t = some xs[0].t := by rw [hgk]; rfl
        generalize xs[0] = mm at hgk HK hmt
        replace HK := Lib.hid HK
        have hkl' : (0 : Int) < (xs.length : Int) := by omega
        by_cases he : mm.t = r.t
        · have hpe := Lib.hid (show putR r xs = xs from hput.out.trans (if_pos (by rw [hmt, he])))
          have heq : (mm.t == r.t) = true := beq_iff_eq.2 he
          clear hput hup hlow hmt
          replace he := Lib.hid he
          replace hgk := Lib.hid hgk
          go_wp2_with fail
          have hcells := fun W (hW' : Stays _ W) => And.intro (HB.out W (hW.out.trans hW')) (HK.out W (hW.out.trans hW')).2
          refine wp_region_soft_tail 13 (Stays.refl _) (fun _ _ _ => False) [] (by kernel_rfl) (by kernel_rfl) (fun _ h => by cases h) ?_
          simp only [List.take_succ_cons, List.take_zero, List.drop_succ_cons, List.drop_zero]
          repeat (first | ((with_reducible apply soft_detG); (case hwa => rfl); (case hA => rfl); (case h => (intro w1 hw1; have hc := hcells w1 hw1; go_simp; exact rfl)); go_simp) | ((with_reducible apply soft_skipG); (case hwa => rfl); (case hA => rfl); go_simp))
          refine soft_nil ?_
          rintro wc ⟨hwn, _⟩
          replace hW := Lib.hid (hW.out.trans hwn)
          clear hcells hwn
          have hnews := Lib.hid fun W (hW : Stays WB W) => news_part (o := 0) (HF.out W hW) (fun i r hr => by rw [Nat.zero_add]; exact hr)
          have hlen4 := Lib.hid (cellsOf_len xs)
          have hO0 := Lib.hid (World.ownsRow_made (base := w.heap.size) (e := 83) (size := 4) wc #[] 0 (HS.out _ hW.out).size (Nat.zero_le _) rfl)
          have hsw := Lib.hid (show w.heap.size ≤ wc.heap.size from (HS.out _ hW.out).size)
          go_wp2_with (at_builtin; go_loud (refine wpList_append_own _ rfl _ _ 34 rfl w.heap.size 83 i0 (.agg #[.int .i64 0, .int .i16 0, .int .i16 0, .int .i16 0]) 4 16 Try.underlying34 hi0 hz0 hz1 hz2 rfl (by decide) _ _ _ rfl  hO0.out ⟨g, 0, none⟩ xs.length c (cellsOf xs) rfl hlen4.out (hnews.out _ (hW.out.alloc _)) (cellsOf_one xs) (by unfold maxLen; omega) (by omega) (by have := hsw.out; simp; omega) ?_); intro v7 w7 hown7 hgrow7 hiff7)
          obtain ⟨g7, cap7, cur7, rfl, hb7, hn7, hh7, ht7⟩ := own_some hown7 (fun e => by have := (hiff7.1 e).1; cases this)
          have hs7 := Lib.hid (Below.grown (B := w.heap.size) ((show Below w.heap.size w wc from HS.out _ hW.out).alloc (HS.out _ hW.out).size (.cells #[] 83)) hgrow7 (by have := (HS.out _ hW.out).size; simp; omega) (fun k hk => by cases hk; exact (HS.out _ hW.out).size))
          rw [Nat.zero_add] at hown7 hn7
          replace hown7 := Lib.hid hown7
          replace hn7 := Lib.hid hn7
          rw [hpe.out]
          clear hgrow7 hiff7 hb7 hh7 ht7
          rw [Nat.zero_add]
          go_wp2
          go_ret
          exact ⟨g7, cap7, rfl, hn7.out, hs7.out, hown7.out⟩
        · have hne : ¬ (xs[0]?).map Rd.t = some r.t := by rw [hmt]; exact fun g => he (Option.some.inj g)
          have heq : (mm.t == r.t) = false := beq_eq_false_iff_ne.2 he
          clear hmt
          replace he := Lib.hid he
          replace hgk := Lib.hid hgk
          go_wp2_with fail
          have hcells := fun W (hW' : Stays _ W) => And.intro (HB.out W (hW.out.trans hW')) (HK.out W (hW.out.trans hW')).2
          refine wp_region_soft_tail 13 (Stays.refl _) (fun _ _ _ => False) [] (by kernel_rfl) (by kernel_rfl) (fun _ h => by cases h) ?_
          simp only [List.take_succ_cons, List.take_zero, List.drop_succ_cons, List.drop_zero]
          repeat (first | ((with_reducible apply soft_detG); (case hwa => rfl); (case hA => rfl); (case h => (intro w1 hw1; have hc := hcells w1 hw1; go_simp; exact rfl)); go_simp) | ((with_reducible apply soft_skipG); (case hwa => rfl); (case hA => rfl); go_simp))
          refine soft_nil ?_
          rintro wc ⟨hwn, _⟩
          replace hW := Lib.hid (hW.out.trans hwn)
          clear hcells hwn
          have hpi := Lib.hid (show putR r xs = xs.take 0 ++ r :: xs.drop 0 from hput.out.trans (if_neg hne))
          have hsh := fun W => slice_head (g := g) (n := xs.length) (c := c) (k := 0) hk hc W
          have hnd := Lib.hid fun W (hW : Stays WB W) => (show ∀ j u, (cellsOf (xs.drop 0))[j]? = some u → W.cell? ((⟨g, 0, none⟩ : Addr).add j) = some u from news_part (o := 0) (HF.out W hW) (drop_part xs 0))
          have hnt := Lib.hid fun W (hW : Stays WB W) => news_part (o := 0) (HF.out W hW) (take_part xs 0)
          have hld := Lib.hid (show (cellsOf (xs.drop 0)).length = xs.length * 4 by rw [cellsOf_len, List.length_drop]; try rfl)
          have hlt4 := Lib.hid (show (cellsOf (xs.take 0)).length = 0 * 4 by rw [cellsOf_len, List.length_take, Nat.min_eq_left hk])
          have hL := Lib.hid (show (putR r xs).length = 0 + (1 + xs.length) by rw [hpi.out, List.length_append, List.length_cons, List.length_take, List.length_drop]; omega)
          have hC := Lib.hid (show cellsOf (putR r xs) = [] ++ cellsOf (xs.take 0) ++ ((#[.int .i64 r.t, .int .i16 r.a, .int .i16 r.b, .int .i16 r.c] : Array Value).toList ++ cellsOf (xs.drop 0)) by rw [hpi.out, cellsOf_append]; rfl)
          have hlr := Lib.hid (show ((#[.int .i64 r.t, .int .i16 r.a, .int .i16 r.b, .int .i16 r.c] : Array Value).toList ++ cellsOf (xs.drop 0)).length = (1 + xs.length) * 4 by rw [List.length_append, hld.out, Nat.add_mul]; rfl)
          have h1r := Lib.hid (show ∀ u ∈ (#[.int .i64 r.t, .int .i16 r.a, .int .i16 r.b, .int .i16 r.c] : Array Value).toList ++ cellsOf (xs.drop 0), u.oneCell' = true from fun u hu => by
            rcases List.mem_append.1 hu with e | e
            · exact cells_one r u e
            · exact cellsOf_one _ u e)
          clear hput hup hlow
          skip
          go_wp2_with fail
          obtain ⟨b0, b1, b2, b3⟩ := HB.out _ ((hW.out).drew)
          have hsw := Lib.hid (show w.heap.size ≤ wc.drew.heap.size from (HS.out _ hW.out).size)
          have hnk : 0 ≤ xs.length := hk
          go_region_law (refine step_append_ownG rfl _ _ 34 rfl w.heap.size 83 i0 (.agg #[.int .i64 0, .int .i16 0, .int .i16 0, .int .i16 0]) 4 16 Try.underlying34 hi0 hz0 hz1 hz2 rfl (by decide) _ _ _ rfl  (hO1.out wc.drew hsw.out) (⟨g, 0, none⟩ : Addr) xs.length c (cellsOf (xs.drop 0)) rfl hld.out (hnd.out _ ((hW.out).drew.alloc _)) (cellsOf_one _) (by unfold maxLen; omega) (by omega) (by have h9 : w.heap.size ≤ wc.heap.size := hsw.out; simp; omega) ?_; intro v6 w6 hown6 hgrow6 hiff6)
          all_goals
            obtain ⟨g6, cap6, cur6, rfl, hb6, hn6, hh6, ht6⟩ := own_some hown6 (fun e => by have := (hiff6.1 e).1; cases this)
            have hs6 := Lib.hid (show Below w.heap.size w w6 from Below.grown (B := w.heap.size) ((show Below w.heap.size w wc.drew from (HS.out _ hW.out).drew).alloc hsw.out (.cells #[.int .i64 r.t, .int .i16 r.a, .int .i16 r.b, .int .i16 r.c] 83)) hgrow6 (by have h9 : w.heap.size ≤ wc.heap.size := hsw.out; simp; omega) (fun k hk => by cases hk; exact hsw.out))
            have hW6 := Lib.hid (show Stays WB w6 from Below.grown (B := WB.heap.size) ((show Below WB.heap.size WB wc.drew from (hW.out).drew).alloc (hW.out).size (.cells #[.int .i64 r.t, .int .i16 r.a, .int .i16 r.b, .int .i16 r.c] 83)) hgrow6 (by have := (hW.out).size; simp; omega) (fun k hk => by cases hk; exact (hW.out).size))
            have hO0 := Lib.hid (World.ownsRow_made (base := w.heap.size) (e := 83) (size := 4) w6 #[] 0 hs6.out.size (Nat.zero_le _) rfl)
            have hsz6 := Lib.hid (show w.heap.size ≤ w6.heap.size from hs6.out.size)
            replace hh6 := Lib.hid hh6
            replace ht6 := Lib.hid ht6
            clear hown6 hgrow6 hiff6 hb6 hn6 b0 b1 b2 b3
            go_wp2_with (first
              | (at_builtin; refine wpList_append_own _ rfl _ _ 34 rfl w.heap.size 83 i0 (.agg #[.int .i64 0, .int .i16 0, .int .i16 0, .int .i16 0]) 4 16 Try.underlying34 hi0 hz0 hz1 hz2 rfl (by decide) _ _ _ rfl  hO0.out ⟨g, 0, none⟩ 0 c (cellsOf (xs.take 0)) rfl hlt4.out (hnt.out _ (hW6.out.alloc _)) (cellsOf_one _) (by unfold maxLen; omega) (by omega) (by have := hsz6.out; simp; omega) ?_; intro v7 w7 hown7 hgrow7 hiff7; obtain ⟨g7, cap7, cur7, rfl, hb7, hn7, hh7, ht7⟩ := own_some hown7 (fun e => by have := (hiff7.1 e).1; cases this); have hs7 := Lib.hid (show Below w.heap.size w w7 from Below.grown (B := w.heap.size) (hs6.out.alloc hsz6.out (.cells #[] 83)) hgrow7 (by have := hsz6.out; simp; omega) (fun k hk => by cases hk; exact hsz6.out)); have hh67 := Lib.hid ((hgrow7.block g6 (by have := in_heap hh6.out; simp; omega) (fun e => by cases e; exact absurd (in_heap hh6.out) (Nat.lt_irrefl _))).trans ((((Stays.refl w6).alloc (.cells #[] 83)).heap (in_heap hh6.out) hh6.out))); have hsz7 := Lib.hid (show w.heap.size ≤ w7.heap.size from hs7.out.size); rw [Nat.zero_add] at hown7; replace hown7 := Lib.hid hown7; clear hb7 hn7 hh7 ht7 hgrow7 hiff7)
              | (at_builtin; refine wpList_append_own _ rfl _ _ 34 rfl w.heap.size 83 i0 (.agg #[.int .i64 0, .int .i16 0, .int .i16 0, .int .i16 0]) 4 16 Try.underlying34 hi0 hz0 hz1 hz2 rfl (by decide) _ _ _ rfl  hown7.out ⟨g6, 0, none⟩ (1 + xs.length) cap6 ((#[.int .i64 r.t, .int .i16 r.a, .int .i16 r.b, .int .i16 r.c] : Array Value).toList ++ cellsOf (xs.drop 0)) rfl hlr.out (news_own hh67.out ht6.out) h1r.out (by unfold maxLen; omega) (by omega) hsz7.out ?_; intro v8 w8 hown8 hgrow8 hiff8; obtain ⟨g8, cap8, cur8, rfl, hb8, hn8, hh8, ht8⟩ := own_some hown8 (fun e => by have := (hiff8.1 e).1; cases this); have hs8 := Lib.hid (show Below w.heap.size w w8 from Below.grown (B := w.heap.size) hs7.out hgrow8 hsz7.out (fun k hk => by cases hk; exact (hown7.out.lt _ rfl).1)); replace hown8 := Lib.hid hown8; replace hn8 := Lib.hid hn8; clear hb8 hh8 ht8 hgrow8 hiff8))
            go_ret
            exact ⟨g8, cap8, by rw [hL.out]; first | rfl | (simp only [Nat.zero_add]; rfl), by rw [hL.out]; exact hn8.out, hs8.out, by rw [hL.out, hC.out]; exact hown8.out⟩
      · have hne : ¬ (xs[0]?).map Rd.t = some r.t := by rw [List.getElem?_eq_none (by omega)]; exact fun g => by cases g
        have hkl' : ¬ (0 : Int) < (xs.length : Int) := by omega
        have hkl2 : (xs.length : Int) ≤ (0 : Int) := by omega
        have hkl3 : decide ((0 : Int) < (xs.length : Int)) = false := decide_eq_false hkl'
        go_wp2_with fail
        have hcells := fun W (hW' : Stays _ W) => HB.out W (hW.out.trans hW')
        refine wp_region_soft_tail 13 (Stays.refl _) (fun _ _ _ => False) [] (by kernel_rfl) (by kernel_rfl) (fun _ h => by cases h) ?_
        simp only [List.take_succ_cons, List.take_zero, List.drop_succ_cons, List.drop_zero]
        repeat (first | ((with_reducible apply soft_detG); (case hwa => rfl); (case hA => rfl); (case h => (intro w1 hw1; have hc := hcells w1 hw1; go_simp; exact rfl)); go_simp) | ((with_reducible apply soft_skipG); (case hwa => rfl); (case hA => rfl); go_simp))
        refine soft_nil ?_
        rintro wc ⟨hwn, _⟩
        replace hW := Lib.hid (hW.out.trans hwn)
        clear hcells hwn
        have hpi := Lib.hid (show putR r xs = xs.take 0 ++ r :: xs.drop 0 from hput.out.trans (if_neg hne))
        have hsh := fun W => slice_head (g := g) (n := xs.length) (c := c) (k := 0) hk hc W
        have hnd := Lib.hid fun W (hW : Stays WB W) => (show ∀ j u, (cellsOf (xs.drop 0))[j]? = some u → W.cell? ((⟨g, 0, none⟩ : Addr).add j) = some u from news_part (o := 0) (HF.out W hW) (drop_part xs 0))
        have hnt := Lib.hid fun W (hW : Stays WB W) => news_part (o := 0) (HF.out W hW) (take_part xs 0)
        have hld := Lib.hid (show (cellsOf (xs.drop 0)).length = xs.length * 4 by rw [cellsOf_len, List.length_drop]; try rfl)
        have hlt4 := Lib.hid (show (cellsOf (xs.take 0)).length = 0 * 4 by rw [cellsOf_len, List.length_take, Nat.min_eq_left hk])
        have hL := Lib.hid (show (putR r xs).length = 0 + (1 + xs.length) by rw [hpi.out, List.length_append, List.length_cons, List.length_take, List.length_drop]; omega)
        have hC := Lib.hid (show cellsOf (putR r xs) = [] ++ cellsOf (xs.take 0) ++ ((#[.int .i64 r.t, .int .i16 r.a, .int .i16 r.b, .int .i16 r.c] : Array Value).toList ++ cellsOf (xs.drop 0)) by rw [hpi.out, cellsOf_append]; rfl)
        have hlr := Lib.hid (show ((#[.int .i64 r.t, .int .i16 r.a, .int .i16 r.b, .int .i16 r.c] : Array Value).toList ++ cellsOf (xs.drop 0)).length = (1 + xs.length) * 4 by rw [List.length_append, hld.out, Nat.add_mul]; rfl)
        have h1r := Lib.hid (show ∀ u ∈ (#[.int .i64 r.t, .int .i16 r.a, .int .i16 r.b, .int .i16 r.c] : Array Value).toList ++ cellsOf (xs.drop 0), u.oneCell' = true from fun u hu => by
          rcases List.mem_append.1 hu with e | e
          · exact cells_one r u e
          · exact cellsOf_one _ u e)
        clear hput hup hlow
        skip
        go_wp2_with fail
        obtain ⟨b0, b1, b2, b3⟩ := HB.out _ ((hW.out).drew)
        have hsw := Lib.hid (show w.heap.size ≤ wc.drew.heap.size from (HS.out _ hW.out).size)
        have hnk : 0 ≤ xs.length := hk
        go_region_law (refine step_append_ownG rfl _ _ 34 rfl w.heap.size 83 i0 (.agg #[.int .i64 0, .int .i16 0, .int .i16 0, .int .i16 0]) 4 16 Try.underlying34 hi0 hz0 hz1 hz2 rfl (by decide) _ _ _ rfl  (hO1.out wc.drew hsw.out) (⟨g, 0, none⟩ : Addr) xs.length c (cellsOf (xs.drop 0)) rfl hld.out (hnd.out _ ((hW.out).drew.alloc _)) (cellsOf_one _) (by unfold maxLen; omega) (by omega) (by have h9 : w.heap.size ≤ wc.heap.size := hsw.out; simp; omega) ?_; intro v6 w6 hown6 hgrow6 hiff6)
        all_goals
          obtain ⟨g6, cap6, cur6, rfl, hb6, hn6, hh6, ht6⟩ := own_some hown6 (fun e => by have := (hiff6.1 e).1; cases this)
          have hs6 := Lib.hid (show Below w.heap.size w w6 from Below.grown (B := w.heap.size) ((show Below w.heap.size w wc.drew from (HS.out _ hW.out).drew).alloc hsw.out (.cells #[.int .i64 r.t, .int .i16 r.a, .int .i16 r.b, .int .i16 r.c] 83)) hgrow6 (by have h9 : w.heap.size ≤ wc.heap.size := hsw.out; simp; omega) (fun k hk => by cases hk; exact hsw.out))
          have hW6 := Lib.hid (show Stays WB w6 from Below.grown (B := WB.heap.size) ((show Below WB.heap.size WB wc.drew from (hW.out).drew).alloc (hW.out).size (.cells #[.int .i64 r.t, .int .i16 r.a, .int .i16 r.b, .int .i16 r.c] 83)) hgrow6 (by have := (hW.out).size; simp; omega) (fun k hk => by cases hk; exact (hW.out).size))
          have hO0 := Lib.hid (World.ownsRow_made (base := w.heap.size) (e := 83) (size := 4) w6 #[] 0 hs6.out.size (Nat.zero_le _) rfl)
          have hsz6 := Lib.hid (show w.heap.size ≤ w6.heap.size from hs6.out.size)
          replace hh6 := Lib.hid hh6
          replace ht6 := Lib.hid ht6
          clear hown6 hgrow6 hiff6 hb6 hn6 b0 b1 b2 b3
          go_wp2_with (first
            | (at_builtin; refine wpList_append_own _ rfl _ _ 34 rfl w.heap.size 83 i0 (.agg #[.int .i64 0, .int .i16 0, .int .i16 0, .int .i16 0]) 4 16 Try.underlying34 hi0 hz0 hz1 hz2 rfl (by decide) _ _ _ rfl  hO0.out ⟨g, 0, none⟩ 0 c (cellsOf (xs.take 0)) rfl hlt4.out (hnt.out _ (hW6.out.alloc _)) (cellsOf_one _) (by unfold maxLen; omega) (by omega) (by have := hsz6.out; simp; omega) ?_; intro v7 w7 hown7 hgrow7 hiff7; obtain ⟨g7, cap7, cur7, rfl, hb7, hn7, hh7, ht7⟩ := own_some hown7 (fun e => by have := (hiff7.1 e).1; cases this); have hs7 := Lib.hid (show Below w.heap.size w w7 from Below.grown (B := w.heap.size) (hs6.out.alloc hsz6.out (.cells #[] 83)) hgrow7 (by have := hsz6.out; simp; omega) (fun k hk => by cases hk; exact hsz6.out)); have hh67 := Lib.hid ((hgrow7.block g6 (by have := in_heap hh6.out; simp; omega) (fun e => by cases e; exact absurd (in_heap hh6.out) (Nat.lt_irrefl _))).trans ((((Stays.refl w6).alloc (.cells #[] 83)).heap (in_heap hh6.out) hh6.out))); have hsz7 := Lib.hid (show w.heap.size ≤ w7.heap.size from hs7.out.size); rw [Nat.zero_add] at hown7; replace hown7 := Lib.hid hown7; clear hb7 hn7 hh7 ht7 hgrow7 hiff7)
            | (at_builtin; refine wpList_append_own _ rfl _ _ 34 rfl w.heap.size 83 i0 (.agg #[.int .i64 0, .int .i16 0, .int .i16 0, .int .i16 0]) 4 16 Try.underlying34 hi0 hz0 hz1 hz2 rfl (by decide) _ _ _ rfl  hown7.out ⟨g6, 0, none⟩ (1 + xs.length) cap6 ((#[.int .i64 r.t, .int .i16 r.a, .int .i16 r.b, .int .i16 r.c] : Array Value).toList ++ cellsOf (xs.drop 0)) rfl hlr.out (news_own hh67.out ht6.out) h1r.out (by unfold maxLen; omega) (by omega) hsz7.out ?_; intro v8 w8 hown8 hgrow8 hiff8; obtain ⟨g8, cap8, cur8, rfl, hb8, hn8, hh8, ht8⟩ := own_some hown8 (fun e => by have := (hiff8.1 e).1; cases this); have hs8 := Lib.hid (show Below w.heap.size w w8 from Below.grown (B := w.heap.size) hs7.out hgrow8 hsz7.out (fun k hk => by cases hk; exact (hown7.out.lt _ rfl).1)); replace hown8 := Lib.hid hown8; replace hn8 := Lib.hid hn8; clear hb8 hh8 ht8 hgrow8 hiff8))
          go_ret
          exact ⟨g8, cap8, by rw [hL.out]; first | rfl | (simp only [Nat.zero_add]; rfl), by rw [hL.out]; exact hn8.out, hs8.out, by rw [hL.out, hC.out]; exact hown8.out⟩
    · obtain ⟨q, rfl⟩ : ∃ q, k = q + 1 := ⟨k - 1, by omega⟩
      clear hk0
      have hq : q < xs.length := by omega
      have hgq : xs[q]? = some xs[q] := List.getElem?_eq_getElem hq
      have hmq := Lib.hid (show ∀ j x, j < q → xs[j]? = some x → x.t < xs[q].t from fun j x hj hx => by
        obtain ⟨hj', e⟩ := List.getElem?_eq_some_iff.1 hx
        rw [← e]
        exact hasc.out j q hj' hq hj)
      have HQ := fun W (hW : Stays WB W) => feed_at (HF.out W hW) hgq
      generalize xs[q] = m at hgq hmq HQ
      replace HQ := Lib.hid HQ
      replace hgq := Lib.hid hgq
      have hkk : ((q + 1 : Nat) : Int) > 0 := by omega
      have hk5 : IntKind.i64.wrap ((q : Int) + 1 - 1) = (q : Int) := by rw [show (q : Int) + 1 - 1 = (q : Int) by omega]; exact IntWalk.i64_in _ (by omega)
      have hk6 : (q : Int) + 1 - 1 = (q : Int) := by omega
      have hk7 : (q : Int) < (xs.length : Int) := by omega
      have hk11 : IntKind.i64.wrap (q : Int) = (q : Int) := IntWalk.i64_in _ (by omega)
      have hk12 : ¬ (q : Int) < 0 := by omega
      have hk13 : (0 : Int) ≤ (q : Int) := by omega
      have hk14 : (0 : Int) < (q : Int) + 1 := by omega
      by_cases hge : r.t ≤ m.t
      · have hge' : m.t ≥ r.t := hge
        go_wp2_with fail
        have hcells := fun W (hW' : Stays _ W) => And.intro (HB.out W (hW.out.trans hW')) (HQ.out W (hW.out.trans hW')).2
        refine wp_region_soft_tail 12 (Stays.refl _) (fun _ _ _ => False) [] (by kernel_rfl) (by kernel_rfl) (fun _ h => by cases h) ?_
        simp only [List.take_succ_cons, List.take_zero, List.drop_succ_cons, List.drop_zero]
        repeat (first | ((with_reducible apply soft_detG); (case hwa => rfl); (case hA => rfl); (case h => (intro w1 hw1; have hc := hcells w1 hw1; go_simp; exact rfl)); go_simp) | ((with_reducible apply soft_skipG); (case hwa => rfl); (case hA => rfl); go_simp))
        refine soft_nil ?_
        rintro w2 ⟨hwn, _⟩
        replace hW := Lib.hid (hW.out.trans hwn)
        clear hcells hwn
        have hup2 := Lib.hid (show ∀ j x, q ≤ j → xs[j]? = some x → r.t ≤ x.t from fun j x hj hx => by
          rcases Nat.lt_or_eq_of_le hj with g1 | g1
          · exact hup.out j x g1 hx
          · subst g1
            rw [hgq.out] at hx
            cases hx
            exact hge)
        clear hup
        go_wp2_with fail
        go_round
        case rel => exact ⟨q, by omega, by go_num, hup2, hW⟩
        case measure => simp [intOf]
      · have hge' : ¬ m.t ≥ r.t := hge
        have hlow : Hid (∀ j x, j < q + 1 → xs[j]? = some x → x.t < r.t) := Lib.hid fun j x hj hx => by
          rcases Nat.lt_or_eq_of_le (show j ≤ q by omega) with g1 | g1
          · have := hmq.out j x g1 hx; omega
          · subst g1
            rw [hgq.out] at hx
            cases hx
            omega
        go_wp2_with fail
        have hcells := fun W (hW' : Stays _ W) => And.intro (HB.out W (hW.out.trans hW')) (HQ.out W (hW.out.trans hW')).2
        refine wp_region_soft_tail 12 (Stays.refl _) (fun _ _ _ => False) [] (by kernel_rfl) (by kernel_rfl) (fun _ h => by cases h) ?_
        simp only [List.take_succ_cons, List.take_zero, List.drop_succ_cons, List.drop_zero]
        repeat (first | ((with_reducible apply soft_detG); (case hwa => rfl); (case hA => rfl); (case h => (intro w1 hw1; have hc := hcells w1 hw1; go_simp; exact rfl)); go_simp) | ((with_reducible apply soft_skipG); (case hwa => rfl); (case hA => rfl); go_simp))
        refine soft_nil ?_
        rintro w2 ⟨hwn, _⟩
        replace hW := Lib.hid (hW.out.trans hwn)
        clear hcells hwn
        clear hk5 hk6 hk7 hk11 hk12 hk13 hk14 hmq HQ hgq
        have hput := Lib.hid (putR_at hk hlow.out hup.out)
        by_cases hkl : (q + 1) < xs.length
        · have hgk : xs[(q + 1)]? = some xs[(q + 1)] := List.getElem?_eq_getElem hkl
          have HK := fun W (hW : Stays WB W) => feed_at (HF.out W hW) hgk
          have hmt : (xs[(q + 1)]?).map Rd.t = some xs[(q + 1)].t := by rw [hgk]; rfl
          generalize xs[(q + 1)] = mm at hgk HK hmt
          replace HK := Lib.hid HK
          have hkl' : ((q : Int) + 1 : Int) < (xs.length : Int) := by omega
          by_cases he : mm.t = r.t
          · have hpe := Lib.hid (show putR r xs = xs from hput.out.trans (if_pos (by rw [hmt, he])))
            have heq : (mm.t == r.t) = true := beq_iff_eq.2 he
            clear hput hup hlow hmt
            replace he := Lib.hid he
            replace hgk := Lib.hid hgk
            go_wp2_with fail
            have hcells := fun W (hW' : Stays _ W) => And.intro (HB.out W (hW.out.trans hW')) (HK.out W (hW.out.trans hW')).2
            refine wp_region_soft_tail 13 (Stays.refl _) (fun _ _ _ => False) [] (by kernel_rfl) (by kernel_rfl) (fun _ h => by cases h) ?_
            simp only [List.take_succ_cons, List.take_zero, List.drop_succ_cons, List.drop_zero]
            repeat (first | ((with_reducible apply soft_detG); (case hwa => rfl); (case hA => rfl); (case h => (intro w1 hw1; have hc := hcells w1 hw1; go_simp; exact rfl)); go_simp) | ((with_reducible apply soft_skipG); (case hwa => rfl); (case hA => rfl); go_simp))
            refine soft_nil ?_
            rintro wc ⟨hwn, _⟩
            replace hW := Lib.hid (hW.out.trans hwn)
            clear hcells hwn
            have hnews := Lib.hid fun W (hW : Stays WB W) => news_part (o := 0) (HF.out W hW) (fun i r hr => by rw [Nat.zero_add]; exact hr)
            have hlen4 := Lib.hid (cellsOf_len xs)
            have hO0 := Lib.hid (World.ownsRow_made (base := w.heap.size) (e := 83) (size := 4) wc #[] 0 (HS.out _ hW.out).size (Nat.zero_le _) rfl)
            have hsw := Lib.hid (show w.heap.size ≤ wc.heap.size from (HS.out _ hW.out).size)
            go_wp2_with (at_builtin; go_loud (refine wpList_append_own _ rfl _ _ 34 rfl w.heap.size 83 i0 (.agg #[.int .i64 0, .int .i16 0, .int .i16 0, .int .i16 0]) 4 16 Try.underlying34 hi0 hz0 hz1 hz2 rfl (by decide) _ _ _ rfl  hO0.out ⟨g, 0, none⟩ xs.length c (cellsOf xs) rfl hlen4.out (hnews.out _ (hW.out.alloc _)) (cellsOf_one xs) (by unfold maxLen; omega) (by omega) (by have := hsw.out; simp; omega) ?_); intro v7 w7 hown7 hgrow7 hiff7)
            obtain ⟨g7, cap7, cur7, rfl, hb7, hn7, hh7, ht7⟩ := own_some hown7 (fun e => by have := (hiff7.1 e).1; cases this)
            have hs7 := Lib.hid (Below.grown (B := w.heap.size) ((show Below w.heap.size w wc from HS.out _ hW.out).alloc (HS.out _ hW.out).size (.cells #[] 83)) hgrow7 (by have := (HS.out _ hW.out).size; simp; omega) (fun k hk => by cases hk; exact (HS.out _ hW.out).size))
            rw [Nat.zero_add] at hown7 hn7
            replace hown7 := Lib.hid hown7
            replace hn7 := Lib.hid hn7
            rw [hpe.out]
            clear hgrow7 hiff7 hb7 hh7 ht7
            rw [Nat.zero_add]
            go_wp2
            go_ret
            exact ⟨g7, cap7, rfl, hn7.out, hs7.out, hown7.out⟩
          · have hne : ¬ (xs[(q + 1)]?).map Rd.t = some r.t := by rw [hmt]; exact fun g => he (Option.some.inj g)
            have heq : (mm.t == r.t) = false := beq_eq_false_iff_ne.2 he
            clear hmt
            replace he := Lib.hid he
            replace hgk := Lib.hid hgk
            go_wp2_with fail
            have hcells := fun W (hW' : Stays _ W) => And.intro (HB.out W (hW.out.trans hW')) (HK.out W (hW.out.trans hW')).2
            refine wp_region_soft_tail 13 (Stays.refl _) (fun _ _ _ => False) [] (by kernel_rfl) (by kernel_rfl) (fun _ h => by cases h) ?_
            simp only [List.take_succ_cons, List.take_zero, List.drop_succ_cons, List.drop_zero]
            repeat (first | ((with_reducible apply soft_detG); (case hwa => rfl); (case hA => rfl); (case h => (intro w1 hw1; have hc := hcells w1 hw1; go_simp; exact rfl)); go_simp) | ((with_reducible apply soft_skipG); (case hwa => rfl); (case hA => rfl); go_simp))
            refine soft_nil ?_
            rintro wc ⟨hwn, _⟩
            replace hW := Lib.hid (hW.out.trans hwn)
            clear hcells hwn
            have hpi := Lib.hid (show putR r xs = xs.take (q + 1) ++ r :: xs.drop (q + 1) from hput.out.trans (if_neg hne))
            obtain ⟨ad2, C2, hsl, hsad⟩ := slice_rest (g := g) (n := xs.length) (c := c) (k := (q + 1)) hk hc
            have hsh := fun W => slice_head (g := g) (n := xs.length) (c := c) (k := (q + 1)) hk hc W
            have hnd := Lib.hid fun W (hW : Stays WB W) => (show ∀ j u, (cellsOf (xs.drop (q + 1)))[j]? = some u → W.cell? (ad2.add j) = some u from by
              by_cases hkn : (q + 1) < xs.length
              · rw [hsad hkn]; exact news_part (HF.out W hW) (drop_part xs (q + 1))
              · intro j u hu
                rw [List.drop_of_length_le (by omega)] at hu
                simp [cellsOf] at hu)
            have hnt := Lib.hid fun W (hW : Stays WB W) => news_part (o := 0) (HF.out W hW) (take_part xs (q + 1))
            have hld := Lib.hid (show (cellsOf (xs.drop (q + 1))).length = (xs.length - (q + 1)) * 4 by rw [cellsOf_len, List.length_drop]; try rfl)
            have hlt4 := Lib.hid (show (cellsOf (xs.take (q + 1))).length = (q + 1) * 4 by rw [cellsOf_len, List.length_take, Nat.min_eq_left hk])
            have hL := Lib.hid (show (putR r xs).length = (q + 1) + (1 + (xs.length - (q + 1))) by rw [hpi.out, List.length_append, List.length_cons, List.length_take, List.length_drop]; omega)
            have hC := Lib.hid (show cellsOf (putR r xs) = [] ++ cellsOf (xs.take (q + 1)) ++ ((#[.int .i64 r.t, .int .i16 r.a, .int .i16 r.b, .int .i16 r.c] : Array Value).toList ++ cellsOf (xs.drop (q + 1))) by rw [hpi.out, cellsOf_append]; rfl)
            have hlr := Lib.hid (show ((#[.int .i64 r.t, .int .i16 r.a, .int .i16 r.b, .int .i16 r.c] : Array Value).toList ++ cellsOf (xs.drop (q + 1))).length = (1 + (xs.length - (q + 1))) * 4 by rw [List.length_append, hld.out, Nat.add_mul]; rfl)
            have h1r := Lib.hid (show ∀ u ∈ (#[.int .i64 r.t, .int .i16 r.a, .int .i16 r.b, .int .i16 r.c] : Array Value).toList ++ cellsOf (xs.drop (q + 1)), u.oneCell' = true from fun u hu => by
              rcases List.mem_append.1 hu with e | e
              · exact cells_one r u e
              · exact cellsOf_one _ u e)
            clear hput hup hlow hsad
            have hkc : IntKind.i64.wrap ((q : Int) + 1) = (q : Int) + 1 := IntWalk.i64_in _ (by omega)
            have hslq : ∀ w, (Instr.slice 34 (.slice (some ⟨g, 0, none⟩) xs.length c) (some (.int .i64 ((q : Int) + 1))) none none).run Try.prog w = .ok (.slice (some ad2) (xs.length - (q + 1)) C2) w := fun w => hsl w
            have hshq : ∀ W, (Instr.slice 34 (.slice (some ⟨g, 0, none⟩) xs.length c) none (some (.int .i64 ((q : Int) + 1))) none).run Try.prog W = .ok (.slice (some ⟨g, 0, none⟩) (q + 1) c) W := fun W => hsh W
            clear hsl hsh
            go_wp2_with fail
            obtain ⟨b0, b1, b2, b3⟩ := HB.out _ ((hW.out).drew)
            have hsw := Lib.hid (show w.heap.size ≤ wc.drew.heap.size from (HS.out _ hW.out).size)
            have hnk : (q + 1) ≤ xs.length := hk
            go_region_law (refine step_append_ownG rfl _ _ 34 rfl w.heap.size 83 i0 (.agg #[.int .i64 0, .int .i16 0, .int .i16 0, .int .i16 0]) 4 16 Try.underlying34 hi0 hz0 hz1 hz2 rfl (by decide) _ _ _ rfl  (hO1.out wc.drew hsw.out) ad2 (xs.length - (q + 1)) C2 (cellsOf (xs.drop (q + 1))) rfl hld.out (hnd.out _ ((hW.out).drew.alloc _)) (cellsOf_one _) (by unfold maxLen; omega) (by omega) (by have h9 : w.heap.size ≤ wc.heap.size := hsw.out; simp; omega) ?_; intro v6 w6 hown6 hgrow6 hiff6)
            all_goals
              obtain ⟨g6, cap6, cur6, rfl, hb6, hn6, hh6, ht6⟩ := own_some hown6 (fun e => by have := (hiff6.1 e).1; cases this)
              have hs6 := Lib.hid (show Below w.heap.size w w6 from Below.grown (B := w.heap.size) ((show Below w.heap.size w wc.drew from (HS.out _ hW.out).drew).alloc hsw.out (.cells #[.int .i64 r.t, .int .i16 r.a, .int .i16 r.b, .int .i16 r.c] 83)) hgrow6 (by have h9 : w.heap.size ≤ wc.heap.size := hsw.out; simp; omega) (fun k hk => by cases hk; exact hsw.out))
              have hW6 := Lib.hid (show Stays WB w6 from Below.grown (B := WB.heap.size) ((show Below WB.heap.size WB wc.drew from (hW.out).drew).alloc (hW.out).size (.cells #[.int .i64 r.t, .int .i16 r.a, .int .i16 r.b, .int .i16 r.c] 83)) hgrow6 (by have := (hW.out).size; simp; omega) (fun k hk => by cases hk; exact (hW.out).size))
              have hO0 := Lib.hid (World.ownsRow_made (base := w.heap.size) (e := 83) (size := 4) w6 #[] 0 hs6.out.size (Nat.zero_le _) rfl)
              have hsz6 := Lib.hid (show w.heap.size ≤ w6.heap.size from hs6.out.size)
              replace hh6 := Lib.hid hh6
              replace ht6 := Lib.hid ht6
              clear hown6 hgrow6 hiff6 hb6 hn6 b0 b1 b2 b3
              go_wp2_with (first
                | (at_builtin; refine wpList_append_own _ rfl _ _ 34 rfl w.heap.size 83 i0 (.agg #[.int .i64 0, .int .i16 0, .int .i16 0, .int .i16 0]) 4 16 Try.underlying34 hi0 hz0 hz1 hz2 rfl (by decide) _ _ _ rfl  hO0.out ⟨g, 0, none⟩ (q + 1) c (cellsOf (xs.take (q + 1))) rfl hlt4.out (hnt.out _ (hW6.out.alloc _)) (cellsOf_one _) (by unfold maxLen; omega) (by omega) (by have := hsz6.out; simp; omega) ?_; intro v7 w7 hown7 hgrow7 hiff7; obtain ⟨g7, cap7, cur7, rfl, hb7, hn7, hh7, ht7⟩ := own_some hown7 (fun e => by have := (hiff7.1 e).1; cases this); have hs7 := Lib.hid (show Below w.heap.size w w7 from Below.grown (B := w.heap.size) (hs6.out.alloc hsz6.out (.cells #[] 83)) hgrow7 (by have := hsz6.out; simp; omega) (fun k hk => by cases hk; exact hsz6.out)); have hh67 := Lib.hid ((hgrow7.block g6 (by have := in_heap hh6.out; simp; omega) (fun e => by cases e; exact absurd (in_heap hh6.out) (Nat.lt_irrefl _))).trans ((((Stays.refl w6).alloc (.cells #[] 83)).heap (in_heap hh6.out) hh6.out))); have hsz7 := Lib.hid (show w.heap.size ≤ w7.heap.size from hs7.out.size); rw [Nat.zero_add] at hown7; replace hown7 := Lib.hid hown7; clear hb7 hn7 hh7 ht7 hgrow7 hiff7)
                | (at_builtin; refine wpList_append_own _ rfl _ _ 34 rfl w.heap.size 83 i0 (.agg #[.int .i64 0, .int .i16 0, .int .i16 0, .int .i16 0]) 4 16 Try.underlying34 hi0 hz0 hz1 hz2 rfl (by decide) _ _ _ rfl  hown7.out ⟨g6, 0, none⟩ (1 + (xs.length - (q + 1))) cap6 ((#[.int .i64 r.t, .int .i16 r.a, .int .i16 r.b, .int .i16 r.c] : Array Value).toList ++ cellsOf (xs.drop (q + 1))) rfl hlr.out (news_own hh67.out ht6.out) h1r.out (by unfold maxLen; omega) (by omega) hsz7.out ?_; intro v8 w8 hown8 hgrow8 hiff8; obtain ⟨g8, cap8, cur8, rfl, hb8, hn8, hh8, ht8⟩ := own_some hown8 (fun e => by have := (hiff8.1 e).1; cases this); have hs8 := Lib.hid (show Below w.heap.size w w8 from Below.grown (B := w.heap.size) hs7.out hgrow8 hsz7.out (fun k hk => by cases hk; exact (hown7.out.lt _ rfl).1)); replace hown8 := Lib.hid hown8; replace hn8 := Lib.hid hn8; clear hb8 hh8 ht8 hgrow8 hiff8))
              go_ret
              exact ⟨g8, cap8, by rw [hL.out]; first | rfl | (simp only [Nat.zero_add]; rfl), by rw [hL.out]; exact hn8.out, hs8.out, by rw [hL.out, hC.out]; exact hown8.out⟩
        · have hne : ¬ (xs[(q + 1)]?).map Rd.t = some r.t := by rw [List.getElem?_eq_none (by omega)]; exact fun g => by cases g
          have hkl' : ¬ ((q : Int) + 1 : Int) < (xs.length : Int) := by omega
          have hkl2 : (xs.length : Int) ≤ ((q : Int) + 1 : Int) := by omega
          have hkl3 : decide (((q : Int) + 1 : Int) < (xs.length : Int)) = false := decide_eq_false hkl'
          go_wp2_with fail
          have hcells := fun W (hW' : Stays _ W) => HB.out W (hW.out.trans hW')
          refine wp_region_soft_tail 13 (Stays.refl _) (fun _ _ _ => False) [] (by kernel_rfl) (by kernel_rfl) (fun _ h => by cases h) ?_
          simp only [List.take_succ_cons, List.take_zero, List.drop_succ_cons, List.drop_zero]
          repeat (first | ((with_reducible apply soft_detG); (case hwa => rfl); (case hA => rfl); (case h => (intro w1 hw1; have hc := hcells w1 hw1; go_simp; exact rfl)); go_simp) | ((with_reducible apply soft_skipG); (case hwa => rfl); (case hA => rfl); go_simp))
          refine soft_nil ?_
          rintro wc ⟨hwn, _⟩
          replace hW := Lib.hid (hW.out.trans hwn)
          clear hcells hwn
          have hpi := Lib.hid (show putR r xs = xs.take (q + 1) ++ r :: xs.drop (q + 1) from hput.out.trans (if_neg hne))
          obtain ⟨ad2, C2, hsl, hsad⟩ := slice_rest (g := g) (n := xs.length) (c := c) (k := (q + 1)) hk hc
          have hsh := fun W => slice_head (g := g) (n := xs.length) (c := c) (k := (q + 1)) hk hc W
          have hnd := Lib.hid fun W (hW : Stays WB W) => (show ∀ j u, (cellsOf (xs.drop (q + 1)))[j]? = some u → W.cell? (ad2.add j) = some u from by
            by_cases hkn : (q + 1) < xs.length
            · rw [hsad hkn]; exact news_part (HF.out W hW) (drop_part xs (q + 1))
            · intro j u hu
              rw [List.drop_of_length_le (by omega)] at hu
              simp [cellsOf] at hu)
          have hnt := Lib.hid fun W (hW : Stays WB W) => news_part (o := 0) (HF.out W hW) (take_part xs (q + 1))
          have hld := Lib.hid (show (cellsOf (xs.drop (q + 1))).length = (xs.length - (q + 1)) * 4 by rw [cellsOf_len, List.length_drop]; try rfl)
          have hlt4 := Lib.hid (show (cellsOf (xs.take (q + 1))).length = (q + 1) * 4 by rw [cellsOf_len, List.length_take, Nat.min_eq_left hk])
          have hL := Lib.hid (show (putR r xs).length = (q + 1) + (1 + (xs.length - (q + 1))) by rw [hpi.out, List.length_append, List.length_cons, List.length_take, List.length_drop]; omega)
          have hC := Lib.hid (show cellsOf (putR r xs) = [] ++ cellsOf (xs.take (q + 1)) ++ ((#[.int .i64 r.t, .int .i16 r.a, .int .i16 r.b, .int .i16 r.c] : Array Value).toList ++ cellsOf (xs.drop (q + 1))) by rw [hpi.out, cellsOf_append]; rfl)
          have hlr := Lib.hid (show ((#[.int .i64 r.t, .int .i16 r.a, .int .i16 r.b, .int .i16 r.c] : Array Value).toList ++ cellsOf (xs.drop (q + 1))).length = (1 + (xs.length - (q + 1))) * 4 by rw [List.length_append, hld.out, Nat.add_mul]; rfl)
          have h1r := Lib.hid (show ∀ u ∈ (#[.int .i64 r.t, .int .i16 r.a, .int .i16 r.b, .int .i16 r.c] : Array Value).toList ++ cellsOf (xs.drop (q + 1)), u.oneCell' = true from fun u hu => by
            rcases List.mem_append.1 hu with e | e
            · exact cells_one r u e
            · exact cellsOf_one _ u e)
          clear hput hup hlow hsad
          have hkc : IntKind.i64.wrap ((q : Int) + 1) = (q : Int) + 1 := IntWalk.i64_in _ (by omega)
          have hslq : ∀ w, (Instr.slice 34 (.slice (some ⟨g, 0, none⟩) xs.length c) (some (.int .i64 ((q : Int) + 1))) none none).run Try.prog w = .ok (.slice (some ad2) (xs.length - (q + 1)) C2) w := fun w => hsl w
          have hshq : ∀ W, (Instr.slice 34 (.slice (some ⟨g, 0, none⟩) xs.length c) none (some (.int .i64 ((q : Int) + 1))) none).run Try.prog W = .ok (.slice (some ⟨g, 0, none⟩) (q + 1) c) W := fun W => hsh W
          clear hsl hsh
          go_wp2_with fail
          obtain ⟨b0, b1, b2, b3⟩ := HB.out _ ((hW.out).drew)
          have hsw := Lib.hid (show w.heap.size ≤ wc.drew.heap.size from (HS.out _ hW.out).size)
          have hnk : (q + 1) ≤ xs.length := hk
          go_region_law (refine step_append_ownG rfl _ _ 34 rfl w.heap.size 83 i0 (.agg #[.int .i64 0, .int .i16 0, .int .i16 0, .int .i16 0]) 4 16 Try.underlying34 hi0 hz0 hz1 hz2 rfl (by decide) _ _ _ rfl  (hO1.out wc.drew hsw.out) ad2 (xs.length - (q + 1)) C2 (cellsOf (xs.drop (q + 1))) rfl hld.out (hnd.out _ ((hW.out).drew.alloc _)) (cellsOf_one _) (by unfold maxLen; omega) (by omega) (by have h9 : w.heap.size ≤ wc.heap.size := hsw.out; simp; omega) ?_; intro v6 w6 hown6 hgrow6 hiff6)
          all_goals
            obtain ⟨g6, cap6, cur6, rfl, hb6, hn6, hh6, ht6⟩ := own_some hown6 (fun e => by have := (hiff6.1 e).1; cases this)
            have hs6 := Lib.hid (show Below w.heap.size w w6 from Below.grown (B := w.heap.size) ((show Below w.heap.size w wc.drew from (HS.out _ hW.out).drew).alloc hsw.out (.cells #[.int .i64 r.t, .int .i16 r.a, .int .i16 r.b, .int .i16 r.c] 83)) hgrow6 (by have h9 : w.heap.size ≤ wc.heap.size := hsw.out; simp; omega) (fun k hk => by cases hk; exact hsw.out))
            have hW6 := Lib.hid (show Stays WB w6 from Below.grown (B := WB.heap.size) ((show Below WB.heap.size WB wc.drew from (hW.out).drew).alloc (hW.out).size (.cells #[.int .i64 r.t, .int .i16 r.a, .int .i16 r.b, .int .i16 r.c] 83)) hgrow6 (by have := (hW.out).size; simp; omega) (fun k hk => by cases hk; exact (hW.out).size))
            have hO0 := Lib.hid (World.ownsRow_made (base := w.heap.size) (e := 83) (size := 4) w6 #[] 0 hs6.out.size (Nat.zero_le _) rfl)
            have hsz6 := Lib.hid (show w.heap.size ≤ w6.heap.size from hs6.out.size)
            replace hh6 := Lib.hid hh6
            replace ht6 := Lib.hid ht6
            clear hown6 hgrow6 hiff6 hb6 hn6 b0 b1 b2 b3
            go_wp2_with (first
              | (at_builtin; refine wpList_append_own _ rfl _ _ 34 rfl w.heap.size 83 i0 (.agg #[.int .i64 0, .int .i16 0, .int .i16 0, .int .i16 0]) 4 16 Try.underlying34 hi0 hz0 hz1 hz2 rfl (by decide) _ _ _ rfl  hO0.out ⟨g, 0, none⟩ (q + 1) c (cellsOf (xs.take (q + 1))) rfl hlt4.out (hnt.out _ (hW6.out.alloc _)) (cellsOf_one _) (by unfold maxLen; omega) (by omega) (by have := hsz6.out; simp; omega) ?_; intro v7 w7 hown7 hgrow7 hiff7; obtain ⟨g7, cap7, cur7, rfl, hb7, hn7, hh7, ht7⟩ := own_some hown7 (fun e => by have := (hiff7.1 e).1; cases this); have hs7 := Lib.hid (show Below w.heap.size w w7 from Below.grown (B := w.heap.size) (hs6.out.alloc hsz6.out (.cells #[] 83)) hgrow7 (by have := hsz6.out; simp; omega) (fun k hk => by cases hk; exact hsz6.out)); have hh67 := Lib.hid ((hgrow7.block g6 (by have := in_heap hh6.out; simp; omega) (fun e => by cases e; exact absurd (in_heap hh6.out) (Nat.lt_irrefl _))).trans ((((Stays.refl w6).alloc (.cells #[] 83)).heap (in_heap hh6.out) hh6.out))); have hsz7 := Lib.hid (show w.heap.size ≤ w7.heap.size from hs7.out.size); rw [Nat.zero_add] at hown7; replace hown7 := Lib.hid hown7; clear hb7 hn7 hh7 ht7 hgrow7 hiff7)
              | (at_builtin; refine wpList_append_own _ rfl _ _ 34 rfl w.heap.size 83 i0 (.agg #[.int .i64 0, .int .i16 0, .int .i16 0, .int .i16 0]) 4 16 Try.underlying34 hi0 hz0 hz1 hz2 rfl (by decide) _ _ _ rfl  hown7.out ⟨g6, 0, none⟩ (1 + (xs.length - (q + 1))) cap6 ((#[.int .i64 r.t, .int .i16 r.a, .int .i16 r.b, .int .i16 r.c] : Array Value).toList ++ cellsOf (xs.drop (q + 1))) rfl hlr.out (news_own hh67.out ht6.out) h1r.out (by unfold maxLen; omega) (by omega) hsz7.out ?_; intro v8 w8 hown8 hgrow8 hiff8; obtain ⟨g8, cap8, cur8, rfl, hb8, hn8, hh8, ht8⟩ := own_some hown8 (fun e => by have := (hiff8.1 e).1; cases this); have hs8 := Lib.hid (show Below w.heap.size w w8 from Below.grown (B := w.heap.size) hs7.out hgrow8 hsz7.out (fun k hk => by cases hk; exact (hown7.out.lt _ rfl).1)); replace hown8 := Lib.hid hown8; replace hn8 := Lib.hid hn8; clear hb8 hh8 ht8 hgrow8 hiff8))
            go_ret
            exact ⟨g8, cap8, by rw [hL.out]; first | rfl | (simp only [Nat.zero_add]; rfl), by rw [hL.out]; exact hn8.out, hs8.out, by rw [hL.out, hC.out]; exact hown8.out⟩
end Go.Proofs.Ytmcbeaihjdnelaa
