/- Feeds that are merged side by side, as the program does it. No condition. -/
import Derived.Test.YtmcbeaihjdnelaaMgd
namespace Go.Proofs.Ytmcbeaihjdnelaa
open Go Go.RowKit
set_option linter.unusedVariables false
set_option linter.unusedSimpArgs false


def lenV : Value → Nat
  | .slice _ n _ => n
  | _ => 0
theorem slice_one {g2 o n c : Nat} (h1 : 1 ≤ n) (hc : n ≤ c) : ∃ ad', (∀ w, (Instr.slice 34 (.slice (some ⟨g2, o, none⟩) n c) (some (.int .i64 1)) none none).run Try.prog w = .ok (.slice (some ad') (n - 1) (c - 1)) w) ∧ (1 < n → ad' = ⟨g2, o + 4, none⟩) := by
  have hsz : ∀ w : World, (sizeOf (Try.prog.elem 34)).run Try.prog w = .ok 4 w := fun w => by kernel_rfl
  have hel : Try.prog.elem 34 = 83 := by kernel_rfl
  refine ⟨if c = 1 then ⟨g2, o, none⟩ else ⟨g2, o + 4, none⟩, fun w => ?_, fun h => if_neg (by omega)⟩
  rw [run_slice_l w 34 (some ⟨g2, o, none⟩) n c (by rw [hel]; exact Try.underlying34) .i64 1 (by decide) (by omega), hsz]
  by_cases h : c = 1
  · subst h; rfl
  · simp [Result.andThen, sliced, h, Addr.add]

set_option maxRecDepth 100000 in
set_option maxHeartbeats 4000000 in
theorem c_merged (g c g2 c2 : Nat) (xs ys : List Rd) (w : World) (h : Feed w w.heap.size (some ⟨g, 0, none⟩) xs) (h2 : Feed w w.heap.size (some ⟨g2, 0, none⟩) ys) (hn : xs.length ≤ 256) (hn2 : ys.length ≤ 256) (hc2 : ys.length ≤ c2) :
    Calls Try.prog 92 #[.slice (some ⟨g, 0, none⟩) xs.length c, .slice (some ⟨g2, 0, none⟩) ys.length c2] w fun e w' => ∃ v, e = .returned v ∧ Stays w w' ∧ w'.ownsRow w.heap.size 83 4 v (mrg xs ys).length (cellsOf (mrg xs ys)) := by
  obtain ⟨i0, hi0, hz0, hz1, hz2⟩ := info_parts info50
  have HF := Lib.hid fun W (hW : Stays w W) => (h.below (show Below w.heap.size w W from hW)).more hW.size
  have HF2 := Lib.hid fun W (hW : Stays w W) => (h2.below (show Below w.heap.size w W from hW)).more hW.size
  obtain ⟨N, hN⟩ : ∃ N, N = xs.length + ys.length := ⟨_, rfl⟩
  have hmk : ∀ u : World, (Instr.makeSlice 34 (.int .i64 0) (.int .i64 (N : Int))).run Try.prog u = .ok (.slice (some ⟨u.heap.size, 0, none⟩) 0 N) (u.alloc (.cells (madeCells (Value.agg #[.int .i64 0, .int .i16 0, .int .i16 0, .int .i16 0]).cells (N * 4)) 83)) := fun u => by
    have := run_make (P := Try.prog) u 34 83 i0 _ Try.underlying34 hi0 hz0 .i64 .i64 0 (N : Int) (by omega) (by omega) (by rw [hz2]; omega) (by omega)
    simpa [hz1] using this
  have hadd : IntKind.i64.wrap ((xs.length : Int) + (ys.length : Int)) = (N : Int) := by rw [IntWalk.i64_in _ (by omega)]; omega
  have hM0 := Lib.hid (show Mg w xs ys 0 0 [] (.slice (some ⟨w.heap.size, 0, none⟩) 0 N) (w.alloc (.cells (madeCells #[.int .i64 0, .int .i16 0, .int .i16 0, .int .i16 0] (N * 4)) 83)) from ⟨by (repeat (first | exact Stays.refl _ | (with_reducible refine Stays.drewN ?_ _) | (with_reducible refine Stays.alloc ?_ _) | (with_reducible refine Stays.drew ?_) | (refine Stays.trans ?_ ‹Stays _ _›))), World.ownsRow_made w _ _ (Nat.le_refl _) (by unfold maxLen; omega) (by rw [size_madeCells]), rfl, Nat.le_refl _⟩)
  replace hN := Lib.hid hN
  clear h h2
  go_enter Try.func92, Try.ntmps92
  go_wp2_with fail
  generalize (w.alloc (.cells (madeCells #[.int .i64 0, .int .i16 0, .int .i16 0, .int .i16 0] (N * 4)) 83)) = W0 at hM0 ⊢
  clear hmk hadd
  go_loopw [1, 5, 16] (fun bv mv iv wr => ∃ (i j nb cb gm cap L : Nat) (adb : Addr) (M : List Rd), i ≤ xs.length ∧ iv = .int .i64 (i : Nat) ∧ bv = .slice (some adb) nb cb ∧ mv = .slice (some ⟨gm, 0, none⟩) L cap ∧ Hid (nb + j = ys.length) ∧ Hid (nb ≤ cb) ∧ Hid (0 < nb → adb = ⟨g2, j * 4, none⟩) ∧ Hid (L = M.length) ∧ Hid (Mg w xs ys i j M mv wr)) (fun _ _ iv _ => xs.length - (intOf iv).toNat)
  case atStart => exact ⟨0, 0, ys.length, c2, w.heap.size, N, 0, ⟨g2, 0, none⟩, [], Nat.zero_le _, rfl, rfl, rfl, Lib.hid rfl, Lib.hid hc2, Lib.hid (fun _ => by simp), Lib.hid rfl, hM0⟩
  case round =>
    clear hM0
    obtain ⟨i, j, nb, cb, gm, cap, L, adb, M, hi, rfl, rfl, rfl, hnb, hcb, had, hL, hM⟩ := hrel
    have hlen := hM.out.len
    by_cases hlt : i < xs.length
    · have hlt' : (i : Int) < (xs.length : Int) := by omega
      have hgi : xs[i]? = some xs[i] := List.getElem?_eq_getElem hlt
      have hdr := Lib.hid (List.drop_eq_getElem_cons hlt)
      have hcx := feed_at (HF.out wr hM.out.st) hgi
      generalize xs[i] = x at hgi hdr hcx
      obtain ⟨_, x0, x1, x2, x3⟩ := hcx
      replace hgi := Lib.hid hgi
      have hX := Lib.hid (show XBox wr.heap.size x (.slice (some ⟨gm, 0, none⟩) L cap) (wr.alloc (.cells #[.int .i64 x.t, .int .i16 x.a, .int .i16 x.b, .int .i16 x.c] 83)) from ⟨heap_alloc_new wr _, fun e => by have := (hM.out.own.lt _ e).2; omega⟩)
      replace hM := Lib.hid (hM.out.on (w' := wr.alloc (.cells #[.int .i64 x.t, .int .i16 x.a, .int .i16 x.b, .int .i16 x.c] 83)) (by (repeat (first | exact Stays.refl _ | (with_reducible refine Stays.drewN ?_ _) | (with_reducible refine Stays.alloc ?_ _) | (with_reducible refine Stays.drew ?_) | (refine Stays.trans ?_ ‹Stays _ _›)))))
      go_wp2_with fail
      clear x0 x1 x2 x3
      generalize wr.heap.size = p at hX ⊢
      generalize (wr.alloc (.cells #[.int .i64 x.t, .int .i16 x.a, .int .i16 x.b, .int .i16 x.c] 83)) = W1 at hX hM ⊢
      go_loopw [1, 5] (fun bv mv wr => ∃ (j nb cb gm cap L : Nat) (adb : Addr) (M : List Rd), bv = .slice (some adb) nb cb ∧ mv = .slice (some ⟨gm, 0, none⟩) L cap ∧ Hid (nb + j = ys.length) ∧ Hid (nb ≤ cb) ∧ Hid (0 < nb → adb = ⟨g2, j * 4, none⟩) ∧ Hid (L = M.length) ∧ Hid (Mg w xs ys i j M mv wr) ∧ Hid (XBox p x mv wr)) (fun bv _ _ => lenV bv)
      case atStart => exact ⟨j, nb, cb, gm, cap, L, adb, M, rfl, rfl, hnb, hcb, had, hL, hM, hX⟩
      case round =>
        clear hM hX hnb hcb had hL hlen
        obtain ⟨j, nb, cb, gm, cap, L, adb, M, rfl, rfl, hnb, hcb, had, hL, hM, hX⟩ := hrel
        have hlen := hM.out.len
        have HX := Lib.hid fun W (hW : Stays wr W) => And.intro (row_of hW hX.out.row 0) (And.intro (row_of hW hX.out.row 1) (And.intro (row_of hW hX.out.row 2) (row_of hW hX.out.row 3)))
        by_cases hb0 : nb = 0
        · subst hb0
          have hb0' : ¬ ((0 : Nat) : Int) > 0 := by omega
          have hs5 := Lib.hid (Stays.refl wr)
          have hjl := Lib.hid (show j = ys.length by have := hnb.out; omega)
          go_wp2_with fail
          have hcells := fun W (hW' : Stays wr W) => HX.out W (hs5.out.trans hW')
          refine wp_region_soft_tail 13 (Stays.refl _) (whS 161) [] (by kernel_rfl) (by kernel_rfl) (fun _ h => by cases h) ?_
          simp only [List.take_succ_cons, List.take_zero, List.drop_succ_cons, List.drop_zero]
          repeat (first | ((with_reducible apply soft_detG); (case hwa => rfl); (case hA => rfl); (case h => (intro w1 hw1; have hc := hcells w1 hw1; go_simp; exact rfl)); go_simp) | ((with_reducible apply soft_skipG); (case hwa => rfl); (case hA => rfl); go_simp))
          refine soft_nil ?_
          rintro wn5 ⟨hwn, _⟩
          replace hs5 := Lib.hid (hs5.out.trans hwn)
          clear hcells hwn
          go_wp2_with fail
          have hcells := fun W (hW' : Stays wn5 W) => HX.out W (hs5.out.trans hW')
          refine wp_region_soft_tail 13 (Stays.refl _) (whS 161) [] (by kernel_rfl) (by kernel_rfl) (fun _ h => by cases h) ?_
          simp only [List.take_succ_cons, List.take_zero, List.drop_succ_cons, List.drop_zero]
          repeat (first | ((with_reducible apply soft_detG); (case hwa => rfl); (case hA => rfl); (case h => (intro w1 hw1; have hc := hcells w1 hw1; go_simp; exact rfl)); go_simp) | ((with_reducible apply soft_skipG); (case hwa => rfl); (case hA => rfl); go_simp))
          refine soft_nil ?_
          rintro wn9 ⟨hwn, _⟩
          replace hs5 := Lib.hid (hs5.out.trans hwn)
          clear hcells hwn
          replace hM := Lib.hid (hM.out.on hs5.out)
          replace hX := Lib.hid (hX.out.on hs5.out)
          have hown := Lib.hid (show wn9.ownsRow w.heap.size 83 4 (.slice (some ⟨gm, 0, none⟩) L cap) L (cellsOf M) from by have := hM.out.own; rw [← hL.out] at this; exact this)
          have hsw := Lib.hid (show w.heap.size ≤ wn9.heap.size from hM.out.st.size)
          have a0 := row_of (Stays.refl wn9) hX.out.row 0
          have a1 := row_of (Stays.refl wn9) hX.out.row 1
          have a2 := row_of (Stays.refl wn9) hX.out.row 2
          have a3 := row_of (Stays.refl wn9) hX.out.row 3
          have et : IntKind.i64.wrap ((i : Int) + 1) = (i : Int) + 1 := IntWalk.i64_in _ (by omega)
          have hLb : L ≤ 512 := by have := hnb.out; have := hL.out; omega
          go_wp2_with (at_builtin; refine wpList_append_own _ rfl _ _ 34 rfl w.heap.size 83 i0 (.agg #[.int .i64 0, .int .i16 0, .int .i16 0, .int .i16 0]) 4 16 Try.underlying34 hi0 hz0 hz1 hz2 rfl (by decide) _ _ _ rfl  (hown.out.alloc _) ⟨wn9.heap.size, 0, none⟩ 1 1 [.int .i64 x.t, .int .i16 x.a, .int .i16 x.b, .int .i16 x.c] rfl rfl (World.news_of_block (heap_alloc_new wn9 _)) (cells_one x) (by unfold maxLen; omega) (by omega) (by have := hsw.out; simp; omega) ?_; intro v9 w9 hown9 hgrow9 hiff9; obtain ⟨g9, cap9, cur9, rfl, hb9, hn9, hh9, ht9⟩ := own_some hown9 (fun e => by have := (hiff9.1 e).1; cases this))
          have hM9 := Lib.hid (show Mg w xs ys (i + 1) j (M ++ [x]) (.slice (some ⟨g9, 0, none⟩) (L + 1) cap9) w9 from ⟨Below.grown (B := w.heap.size) ((show Below w.heap.size w wn9 from hM.out.st).alloc hsw.out (.cells #[.int .i64 x.t, .int .i16 x.a, .int .i16 x.b, .int .i16 x.c] 83)) hgrow9 (by have := hsw.out; simp; omega) (fun k hk => (hown.out.lt k hk).1), by rw [List.length_append, ← hL.out, cellsOf_append]; exact hown9, by rw [List.append_assoc, ← hM.out.all]; exact congrArg _ (show x :: mrg (xs.drop (i + 1)) (ys.drop j) = mrg (xs.drop i) (ys.drop j) from by rw [hdr.out, List.drop_of_length_le (Nat.le_of_eq hjl.out.symm), mrg_here (fun y hy => by cases hy)]; rfl), by rw [List.length_append, ← hL.out]; show L + 1 ≤ _; have := hL.out; omega⟩)
          clear hown9 hgrow9 hiff9 hb9 hn9 hh9 ht9 a0 a1 a2 a3 hown
          go_round
          case rel => exact ⟨i + 1, j, 0, cb, g9, cap9, L + 1, adb, M ++ [x], by omega, by go_num, rfl, rfl, hnb, hcb, had, Lib.hid (by rw [List.length_append, ← hL.out]; rfl), hM9⟩
          case measure => simp [intOf]; omega
        · have hbp : ((nb : Nat) : Int) > 0 := by omega
          have hbp2 : 0 < nb := by omega
          obtain rfl := had.out hbp2
          have hjl : j < ys.length := by have := hnb.out; omega
          have hgj : ys[j]? = some ys[j] := List.getElem?_eq_getElem hjl
          have hdj := Lib.hid (List.drop_eq_getElem_cons hjl)
          have HY := fun W (hW : Stays wr W) => feed_at (HF2.out W (hM.out.st.trans hW)) hgj
          generalize ys[j] = y at hgj hdj HY
          replace HY := Lib.hid HY
          replace hgj := Lib.hid hgj
          have hmx : ∀ w : World, (method 317 83 (.agg #[.int .i64 x.t, .int .i16 x.a, .int .i16 x.b, .int .i16 x.c]) "loop.example/g01204/impl.when").run Try.prog w = .ok (161, .agg #[.int .i64 x.t, .int .i16 x.a, .int .i16 x.b, .int .i16 x.c]) w := fun _ => by kernel_rfl
          have hmy : ∀ w : World, (method 317 83 (.agg #[.int .i64 y.t, .int .i16 y.a, .int .i16 y.b, .int .i16 y.c]) "loop.example/g01204/impl.when").run Try.prog w = .ok (161, .agg #[.int .i64 y.t, .int .i16 y.a, .int .i16 y.b, .int .i16 y.c]) w := fun _ => by kernel_rfl
          have hs5 := Lib.hid (Stays.refl wr)
          go_wp2_with fail
          have hcells := fun W (hW' : Stays wr W) => And.intro (HX.out W (hs5.out.trans hW')) (HY.out W (hs5.out.trans hW')).2
          refine wp_region_soft_tail 13 (Stays.refl _) (whS 161) [] (by kernel_rfl) (by kernel_rfl) (fun _ h => by cases h) ?_
          simp only [List.take_succ_cons, List.take_zero, List.drop_succ_cons, List.drop_zero]
          repeat (first | ((with_reducible apply soft_detG); (case hwa => rfl); (case hA => rfl); (case h => (intro w1 hw1; have hc := hcells w1 hw1; go_simp; exact rfl)); go_simp) | ((with_reducible apply soft_skipG); (case hwa => rfl); (case hA => rfl); go_simp))
          refine soft_callX (A0 := #[.agg #[.int .i64 y.t, .int .i16 y.a, .int .i16 y.b, .int .i16 y.c]]) (V := fun v => v = .int .i64 y.t) (by rfl) rfl ?h (fun w2 _ => c_when y w2) (fun v hv => whS_1.2 hv) (fun v hv => whS_1.1 hv) ?_
          case h => (intro w1 hw1; have hc := hcells w1 hw1; go_simp; try exact ⟨rfl, rfl⟩)
          rintro v rfl
          go_simp
          repeat (first | ((with_reducible apply soft_detG); (case hwa => rfl); (case hA => rfl); (case h => (intro w1 hw1; have hc := hcells w1 hw1; go_simp; exact rfl)); go_simp) | ((with_reducible apply soft_skipG); (case hwa => rfl); (case hA => rfl); go_simp))
          refine soft_callX (A0 := #[.agg #[.int .i64 x.t, .int .i16 x.a, .int .i16 x.b, .int .i16 x.c]]) (V := fun v => v = .int .i64 x.t) (by rfl) rfl ?h (fun w2 _ => c_when x w2) (fun v hv => whS_1.2 hv) (fun v hv => whS_1.1 hv) ?_
          case h => (intro w1 hw1; have hc := hcells w1 hw1; go_simp; try exact ⟨rfl, rfl⟩)
          rintro v rfl
          go_simp
          repeat (first | ((with_reducible apply soft_detG); (case hwa => rfl); (case hA => rfl); (case h => (intro w1 hw1; have hc := hcells w1 hw1; go_simp; exact rfl)); go_simp) | ((with_reducible apply soft_skipG); (case hwa => rfl); (case hA => rfl); go_simp))
          refine soft_nil ?_
          rintro wn5 ⟨hwn, _⟩
          replace hs5 := Lib.hid (hs5.out.trans hwn)
          clear hcells hwn
          by_cases hless : y.t < x.t
          · replace hM := Lib.hid (hM.out.on hs5.out)
            replace hX := Lib.hid (hX.out.on hs5.out)
            have hown := Lib.hid (show wn5.drew.ownsRow w.heap.size 83 4 (.slice (some ⟨gm, 0, none⟩) L cap) L (cellsOf M) from by have := hM.out.own; rw [← hL.out] at this; exact this)
            have hXd := Lib.hid (show XBox p x (.slice (some ⟨gm, 0, none⟩) L cap) wn5.drew from hX.out.on ((Stays.refl wn5).drew))
            have hsw := Lib.hid (show w.heap.size ≤ wn5.heap.size from hM.out.st.size)
            obtain ⟨ad', hs1, had'⟩ := slice_one (g2 := g2) (o := j * 4) (n := nb) (c := cb) hbp2 hcb.out
            replace had' := Lib.hid had'
            have hcd := (HY.out wn5.drew hs5.out.drew).2
            obtain ⟨y0, y1, y2, y3⟩ := hcd
            have hLb : L ≤ 512 := by have := hnb.out; have := hL.out; omega
            go_wp2_with fail
            go_region_law (refine step_append_ownAt rfl _ _ 34 rfl w.heap.size 83 i0 (.agg #[.int .i64 0, .int .i16 0, .int .i16 0, .int .i16 0]) 4 16 Try.underlying34 hi0 hz0 hz1 hz2 rfl (by decide) _ _ _ rfl  (hown.out.alloc _) ⟨wn5.heap.size, 0, none⟩ 1 1 [.int .i64 y.t, .int .i16 y.a, .int .i16 y.b, .int .i16 y.c] rfl rfl (World.news_of_block (heap_alloc_new wn5.drew _)) (cells_one y) (by unfold maxLen; omega) (by omega) (by have h9 : w.heap.size ≤ wn5.heap.size := hsw.out; simp; omega) ?_; intro v6 w6 hown6 hgrow6 hiff6 hob6)
            all_goals
              obtain ⟨g6, cap6, cur6, rfl, hb6, hn6, hh6, ht6⟩ := own_some hown6 (fun e => by have := (hiff6.1 e).1; cases this)
              have hX6 := Lib.hid (hXd.out.more hgrow6 hob6)
              have hM6 := Lib.hid (show Mg w xs ys i (j + 1) (M ++ [y]) (.slice (some ⟨g6, 0, none⟩) (L + 1) cap6) w6 from ⟨Below.grown (B := w.heap.size) ((show Below w.heap.size w wn5.drew from hM.out.st.drew).alloc hsw.out (.cells #[.int .i64 y.t, .int .i16 y.a, .int .i16 y.b, .int .i16 y.c] 83)) hgrow6 (by have h9 : w.heap.size ≤ wn5.heap.size := hsw.out; simp; omega) (fun k hk => (hown.out.lt k hk).1), by rw [List.length_append, ← hL.out, cellsOf_append]; exact hown6, by rw [List.append_assoc, ← hM.out.all]; exact congrArg _ (show y :: mrg (xs.drop i) (ys.drop (j + 1)) = mrg (xs.drop i) (ys.drop j) from by rw [hdr.out, hdj.out, mrg_less hless]), by rw [List.length_append, ← hL.out]; show L + 1 ≤ _; have := hL.out; omega⟩)
              clear hown6 hgrow6 hiff6 hob6 hb6 hn6 hh6 ht6 y0 y1 y2 y3
              go_simp
              go_wp2_with fail
              go_round
              case rel => exact ⟨j + 1, nb - 1, cb - 1, g6, cap6, L + 1, ad', M ++ [y], rfl, rfl, Lib.hid (by have := hnb.out; omega), Lib.hid (by have := hcb.out; omega), Lib.hid (fun h => by rw [had'.out (by omega)]; congr 1; omega), Lib.hid (by rw [List.length_append, ← hL.out]; rfl), hM6, hX6⟩
              case measure => show nb - 1 < nb; omega
          · go_wp2_with fail
            have hcells := fun W (hW' : Stays wn5 W) => And.intro (HX.out W (hs5.out.trans hW')) (HY.out W (hs5.out.trans hW')).2
            refine wp_region_soft_tail 13 (Stays.refl _) (whS 161) [] (by kernel_rfl) (by kernel_rfl) (fun _ h => by cases h) ?_
            simp only [List.take_succ_cons, List.take_zero, List.drop_succ_cons, List.drop_zero]
            repeat (first | ((with_reducible apply soft_detG); (case hwa => rfl); (case hA => rfl); (case h => (intro w1 hw1; have hc := hcells w1 hw1; go_simp; exact rfl)); go_simp) | ((with_reducible apply soft_skipG); (case hwa => rfl); (case hA => rfl); go_simp))
            refine soft_callX (A0 := #[.agg #[.int .i64 y.t, .int .i16 y.a, .int .i16 y.b, .int .i16 y.c]]) (V := fun v => v = .int .i64 y.t) (by rfl) rfl ?h (fun w2 _ => c_when y w2) (fun v hv => whS_1.2 hv) (fun v hv => whS_1.1 hv) ?_
            case h => (intro w1 hw1; have hc := hcells w1 hw1; go_simp; try exact ⟨rfl, rfl⟩)
            rintro v rfl
            go_simp
            repeat (first | ((with_reducible apply soft_detG); (case hwa => rfl); (case hA => rfl); (case h => (intro w1 hw1; have hc := hcells w1 hw1; go_simp; exact rfl)); go_simp) | ((with_reducible apply soft_skipG); (case hwa => rfl); (case hA => rfl); go_simp))
            refine soft_callX (A0 := #[.agg #[.int .i64 x.t, .int .i16 x.a, .int .i16 x.b, .int .i16 x.c]]) (V := fun v => v = .int .i64 x.t) (by rfl) rfl ?h (fun w2 _ => c_when x w2) (fun v hv => whS_1.2 hv) (fun v hv => whS_1.1 hv) ?_
            case h => (intro w1 hw1; have hc := hcells w1 hw1; go_simp; try exact ⟨rfl, rfl⟩)
            rintro v rfl
            go_simp
            repeat (first | ((with_reducible apply soft_detG); (case hwa => rfl); (case hA => rfl); (case h => (intro w1 hw1; have hc := hcells w1 hw1; go_simp; exact rfl)); go_simp) | ((with_reducible apply soft_skipG); (case hwa => rfl); (case hA => rfl); go_simp))
            refine soft_nil ?_
            rintro wn9 ⟨hwn, _⟩
            replace hs5 := Lib.hid (hs5.out.trans hwn)
            clear hcells hwn
            replace hM := Lib.hid (hM.out.on hs5.out)
            replace hX := Lib.hid (hX.out.on hs5.out)
            by_cases hsame : y.t = x.t
            · have hsame' : (y.t == x.t) = true := beq_iff_eq.2 hsame
              replace hsame := Lib.hid hsame
              obtain ⟨ad', hs1, had'⟩ := slice_one (g2 := g2) (o := j * 4) (n := nb) (c := cb) hbp2 hcb.out
              replace had' := Lib.hid had'
              have hown := Lib.hid (show wn9.ownsRow w.heap.size 83 4 (.slice (some ⟨gm, 0, none⟩) L cap) L (cellsOf M) from by have := hM.out.own; rw [← hL.out] at this; exact this)
              have hsw := Lib.hid (show w.heap.size ≤ wn9.heap.size from hM.out.st.size)
              have a0 := row_of (Stays.refl wn9) hX.out.row 0
              have a1 := row_of (Stays.refl wn9) hX.out.row 1
              have a2 := row_of (Stays.refl wn9) hX.out.row 2
              have a3 := row_of (Stays.refl wn9) hX.out.row 3
              have et : IntKind.i64.wrap ((i : Int) + 1) = (i : Int) + 1 := IntWalk.i64_in _ (by omega)
              have hLb : L ≤ 512 := by have := hnb.out; have := hL.out; omega
              go_wp2_with (at_builtin; refine wpList_append_own _ rfl _ _ 34 rfl w.heap.size 83 i0 (.agg #[.int .i64 0, .int .i16 0, .int .i16 0, .int .i16 0]) 4 16 Try.underlying34 hi0 hz0 hz1 hz2 rfl (by decide) _ _ _ rfl  (hown.out.alloc _) ⟨wn9.heap.size, 0, none⟩ 1 1 [.int .i64 x.t, .int .i16 x.a, .int .i16 x.b, .int .i16 x.c] rfl rfl (World.news_of_block (heap_alloc_new wn9 _)) (cells_one x) (by unfold maxLen; omega) (by omega) (by have := hsw.out; simp; omega) ?_; intro v9 w9 hown9 hgrow9 hiff9; obtain ⟨g9, cap9, cur9, rfl, hb9, hn9, hh9, ht9⟩ := own_some hown9 (fun e => by have := (hiff9.1 e).1; cases this))
              have hM9 := Lib.hid (show Mg w xs ys (i + 1) (j + 1) (M ++ [x]) (.slice (some ⟨g9, 0, none⟩) (L + 1) cap9) w9 from ⟨Below.grown (B := w.heap.size) ((show Below w.heap.size w wn9 from hM.out.st).alloc hsw.out (.cells #[.int .i64 x.t, .int .i16 x.a, .int .i16 x.b, .int .i16 x.c] 83)) hgrow9 (by have := hsw.out; simp; omega) (fun k hk => (hown.out.lt k hk).1), by rw [List.length_append, ← hL.out, cellsOf_append]; exact hown9, by rw [List.append_assoc, ← hM.out.all]; exact congrArg _ (show x :: mrg (xs.drop (i + 1)) (ys.drop (j + 1)) = mrg (xs.drop i) (ys.drop j) from by rw [hdr.out, mrg_here (fun z hz => by rw [hdj.out] at hz; cases hz; omega), hdj.out, dropEq_same hsame.out]), by rw [List.length_append, ← hL.out]; show L + 1 ≤ _; have := hL.out; omega⟩)
              clear hown9 hgrow9 hiff9 hb9 hn9 hh9 ht9 a0 a1 a2 a3 hown
              go_round
              case rel => exact ⟨i + 1, (j + 1), (nb - 1), (cb - 1), g9, cap9, L + 1, ad', M ++ [x], by omega, by go_num, rfl, rfl, Lib.hid (by have := hnb.out; omega), Lib.hid (by have := hcb.out; omega), Lib.hid (fun h => by rw [had'.out (by omega)]; congr 1; omega), Lib.hid (by rw [List.length_append, ← hL.out]; rfl), hM9⟩
              case measure => simp [intOf]; omega
            · have hsame' : (y.t == x.t) = false := beq_eq_false_iff_ne.2 hsame
              have hown := Lib.hid (show wn9.ownsRow w.heap.size 83 4 (.slice (some ⟨gm, 0, none⟩) L cap) L (cellsOf M) from by have := hM.out.own; rw [← hL.out] at this; exact this)
              have hsw := Lib.hid (show w.heap.size ≤ wn9.heap.size from hM.out.st.size)
              have a0 := row_of (Stays.refl wn9) hX.out.row 0
              have a1 := row_of (Stays.refl wn9) hX.out.row 1
              have a2 := row_of (Stays.refl wn9) hX.out.row 2
              have a3 := row_of (Stays.refl wn9) hX.out.row 3
              have et : IntKind.i64.wrap ((i : Int) + 1) = (i : Int) + 1 := IntWalk.i64_in _ (by omega)
              have hLb : L ≤ 512 := by have := hnb.out; have := hL.out; omega
              go_wp2_with (at_builtin; refine wpList_append_own _ rfl _ _ 34 rfl w.heap.size 83 i0 (.agg #[.int .i64 0, .int .i16 0, .int .i16 0, .int .i16 0]) 4 16 Try.underlying34 hi0 hz0 hz1 hz2 rfl (by decide) _ _ _ rfl  (hown.out.alloc _) ⟨wn9.heap.size, 0, none⟩ 1 1 [.int .i64 x.t, .int .i16 x.a, .int .i16 x.b, .int .i16 x.c] rfl rfl (World.news_of_block (heap_alloc_new wn9 _)) (cells_one x) (by unfold maxLen; omega) (by omega) (by have := hsw.out; simp; omega) ?_; intro v9 w9 hown9 hgrow9 hiff9; obtain ⟨g9, cap9, cur9, rfl, hb9, hn9, hh9, ht9⟩ := own_some hown9 (fun e => by have := (hiff9.1 e).1; cases this))
              have hM9 := Lib.hid (show Mg w xs ys (i + 1) j (M ++ [x]) (.slice (some ⟨g9, 0, none⟩) (L + 1) cap9) w9 from ⟨Below.grown (B := w.heap.size) ((show Below w.heap.size w wn9 from hM.out.st).alloc hsw.out (.cells #[.int .i64 x.t, .int .i16 x.a, .int .i16 x.b, .int .i16 x.c] 83)) hgrow9 (by have := hsw.out; simp; omega) (fun k hk => (hown.out.lt k hk).1), by rw [List.length_append, ← hL.out, cellsOf_append]; exact hown9, by rw [List.append_assoc, ← hM.out.all]; exact congrArg _ (show x :: mrg (xs.drop (i + 1)) (ys.drop j) = mrg (xs.drop i) (ys.drop j) from by rw [hdr.out, mrg_here (fun z hz => by rw [hdj.out] at hz; cases hz; omega), hdj.out, dropEq_other hsame]), by rw [List.length_append, ← hL.out]; show L + 1 ≤ _; have := hL.out; omega⟩)
              clear hown9 hgrow9 hiff9 hb9 hn9 hh9 ht9 a0 a1 a2 a3 hown
              go_round
              case rel => exact ⟨i + 1, j, nb, cb, g9, cap9, L + 1, ⟨g2, j * 4, none⟩, M ++ [x], by omega, by go_num, rfl, rfl, hnb, hcb, Lib.hid (fun _ => rfl), Lib.hid (by rw [List.length_append, ← hL.out]; rfl), hM9⟩
              case measure => simp [intOf]; omega
    · have e : i = xs.length := by omega
      subst e
      have hall := Lib.hid hM.out.all
      have hown := Lib.hid (show wr.ownsRow w.heap.size 83 4 (.slice (some ⟨gm, 0, none⟩) L cap) L (cellsOf M) from by have := hM.out.own; rw [← hL.out] at this; exact this)
      have hsw := Lib.hid (show w.heap.size ≤ wr.heap.size from hM.out.st.size)
      have hnews := Lib.hid (show ∀ j' u, (cellsOf (ys.drop j))[j']? = some u → wr.cell? (adb.add j') = some u from by
        by_cases hb0 : 0 < nb
        · rw [had.out hb0]; exact news_part (HF2.out wr hM.out.st) (drop_part ys j)
        · intro j' u hu
          rw [List.drop_of_length_le (by have := hnb.out; omega)] at hu
          simp [cellsOf] at hu)
      have hld := Lib.hid (show (cellsOf (ys.drop j)).length = nb * 4 by rw [cellsOf_len, List.length_drop]; have := hnb.out; omega)
      have hLb : L ≤ 512 ∧ nb ≤ 256 := by have := hnb.out; have := hL.out; omega
      have hres := Lib.hid (show mrg xs ys = M ++ ys.drop j from by rw [← hall.out, List.drop_length]; rfl)
      have hlr := Lib.hid (show (mrg xs ys).length = L + nb by rw [hres.out, List.length_append, ← hL.out, List.length_drop]; have := hnb.out; omega)
      go_wp2_with (at_builtin; refine wpList_append_own _ rfl _ _ 34 rfl w.heap.size 83 i0 (.agg #[.int .i64 0, .int .i16 0, .int .i16 0, .int .i16 0]) 4 16 Try.underlying34 hi0 hz0 hz1 hz2 rfl (by decide) _ _ _ rfl  hown.out adb nb cb (cellsOf (ys.drop j)) rfl hld.out hnews.out (cellsOf_one _) (by unfold maxLen; omega) (by omega) hsw.out ?_; intro v9 w9 hown9 hgrow9 hiff9)
      have hs9 := Lib.hid (show Stays w w9 from Below.grown (B := w.heap.size) (show Below w.heap.size w wr from hM.out.st) hgrow9 hsw.out (fun k hk => (hown.out.lt k hk).1))
      replace hown9 := Lib.hid hown9
      clear hgrow9 hiff9
      go_ret
      exact ⟨v9, rfl, hs9.out, by rw [hlr.out, hres.out, cellsOf_append]; exact hown9.out⟩
end Go.Proofs.Ytmcbeaihjdnelaa
