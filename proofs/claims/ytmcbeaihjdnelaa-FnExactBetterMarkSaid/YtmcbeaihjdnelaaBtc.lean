/- Marks that are held against each other, as the document says it; both sides. No condition. -/
import Derived.Test.YtmcbeaihjdnelaaBtb
import Derived.Test.YtmcbeaihjdnelaaSv
import Derived.Test.YtmcbeaihjdnelaaLa
namespace Go.Proofs.Ytmcbeaihjdnelaa
open Go Go.RowKit
set_option linter.unusedVariables false
set_option linter.unusedSimpArgs false


theorem fp_0 (b c d : Int) : firstPos (-1) b c d = false ∧ firstPos 1 b c d = true := ⟨rfl, rfl⟩
theorem fp_1 (c d : Int) : firstPos 0 (-1) c d = false ∧ firstPos 0 1 c d = true := ⟨rfl, rfl⟩
theorem fp_2 (d : Int) : firstPos 0 0 (-1) d = false ∧ firstPos 0 0 1 d = true := ⟨rfl, rfl⟩
theorem fp_3 : firstPos 0 0 0 (-1) = false ∧ firstPos 0 0 0 1 = true ∧ firstPos 0 0 0 0 = false := ⟨rfl, rfl, rfl⟩
theorem f3_0 (b c : Int) : first3 (-1) b c = -1 ∧ first3 1 b c = 1 := ⟨rfl, rfl⟩
theorem f3_1 (c : Int) : first3 0 (-1) c = -1 ∧ first3 0 1 c = 1 := ⟨rfl, rfl⟩
theorem f3_2 (c : Int) : first3 0 0 c = c := rfl
theorem icmp_lt {a b : Int} (h : a < b) : icmp a b = -1 := if_pos h
theorem icmp_eq (a : Int) : icmp a a = 0 := by unfold icmp; rw [if_neg (by omega), if_neg (by omega)]
theorem icmp_gt {a b : Int} (h : b < a) : icmp a b = 1 := by unfold icmp; rw [if_neg (by omega), if_pos h]
theorem same_noughts : same 0 2147483648 = false ∧ same 2147483648 0 = false ∧ same 0 0 = true := by decide

set_option maxRecDepth 100000 in
set_option maxHeartbeats 4000000 in
theorem c_l05Better (p q : Nat) (x y z : Int) (a b c d : Nat) (s l : Int) (x' y' z' : Int) (a' b' c' d' : Nat) (s' l' : Int) (od oa ob oc : Ordering) (w : World) (hp : w.heap[p]? = some (.cells #[.int .i32 x, .int .i32 y, .int .i32 z, .float .f32 a, .float .f32 b, .float .f32 c, .float .f32 d, .int .i64 s, .int .i64 l] 45 (0, 0))) (hq : w.heap[q]? = some (.cells #[.int .i32 x', .int .i32 y', .int .i32 z', .float .f32 a', .float .f32 b', .float .f32 c', .float .f32 d', .int .i64 s', .int .i64 l'] 45 (0, 0)))
    (hd : OrdW d d' od) (ha : OrdW a a' oa) (hb : OrdW b b' ob) (hc : OrdW c c' oc) :
    Calls Try.prog 63 #[.pointer (some ⟨p, 0, none⟩), .pointer (some ⟨q, 0, none⟩)] w fun e w' => e = .returned (.bool (firstPos (icmp l l') (wcmp od) (icmp s s') (first3 (fcmp oa a a') (fcmp ob b b') (fcmp oc c c')))) ∧ Stays w w' := by
  have HB := Lib.hid fun W (hW : Stays w W) => And.intro (row_of hW hp) (row_of hW hq)
  obtain ⟨fp, hfp0⟩ : ∃ fp, fp = firstPos (icmp l l') (wcmp od) (icmp s s') (first3 (fcmp oa a a') (fcmp ob b b') (fcmp oc c c')) := ⟨_, rfl⟩
  rw [← hfp0]
  have hfp := Lib.hid hfp0
  have hW := Lib.hid (Stays.refl w)
  have nd : Hid ((FloatKind.f32.format.order d d' != some Ordering.eq) = (od != .eq)) := Lib.hid (by rw [hd.ord]; cases od <;> rfl)
  have gd : Hid ((FloatKind.f32.format.order d d' == some Ordering.gt) = (od == .gt)) := Lib.hid (by rw [hd.ord]; cases od <;> rfl)
  have qd := Lib.hid hd.eq
  have na : Hid ((FloatKind.f32.format.order a a' != some Ordering.eq) = (oa != .eq)) := Lib.hid (by rw [ha.ord]; cases oa <;> rfl)
  have ga : Hid ((FloatKind.f32.format.order a a' == some Ordering.gt) = (oa == .gt)) := Lib.hid (by rw [ha.ord]; cases oa <;> rfl)
  have qa := Lib.hid ha.eq
  have nb : Hid ((FloatKind.f32.format.order b b' != some Ordering.eq) = (ob != .eq)) := Lib.hid (by rw [hb.ord]; cases ob <;> rfl)
  have gb : Hid ((FloatKind.f32.format.order b b' == some Ordering.gt) = (ob == .gt)) := Lib.hid (by rw [hb.ord]; cases ob <;> rfl)
  have qb := Lib.hid hb.eq
  have nc : Hid ((FloatKind.f32.format.order c c' != some Ordering.eq) = (oc != .eq)) := Lib.hid (by rw [hc.ord]; cases oc <;> rfl)
  have gc : Hid ((FloatKind.f32.format.order c c' == some Ordering.gt) = (oc == .gt)) := Lib.hid (by rw [hc.ord]; cases oc <;> rfl)
  have qc := Lib.hid hc.eq
  clear hfp0 hp hq hd ha hb hc
  go_enter Try.func63, Try.ntmps63
  go_wp2_with fail
  have hcells := fun W (hW' : Stays _ W) => HB.out W (hW.out.trans hW')
  refine wp_region_soft_tail 8 (Stays.refl _) (fun _ _ _ => False) [] (by kernel_rfl) (by kernel_rfl) (fun _ h => by cases h) ?_
  simp only [List.take_succ_cons, List.take_zero, List.drop_succ_cons, List.drop_zero]
  repeat ((with_reducible apply soft_detG); (case hwa => rfl); (case hA => rfl); (case h => (intro w1 hw1; have hc := hcells w1 hw1; go_simp; exact rfl)); go_simp)
  refine soft_nil ?_
  rintro wn1 ⟨hwn, _⟩
  replace hW := Lib.hid (hW.out.trans hwn)
  clear hcells hwn
  rcases Int.lt_trichotomy l l' with hlt | heq | hgt
  · have hn : (l != l') = true := bne_iff_ne.2 (by omega)
    have hn2 : ¬ l = l' := by omega
    have hg : ¬ l > l' := by omega
    rw [icmp_lt hlt] at hfp
    have hf : Hid (fp = false) := Lib.hid (by rw [hfp.out]; exact (fp_0 _ _ _).1)
    go_wp2_with fail
    have hcells := fun W (hW' : Stays _ W) => HB.out W (hW.out.trans hW')
    refine wp_region_soft_tail 9 (Stays.refl _) (fun _ _ _ => False) [] (by kernel_rfl) (by kernel_rfl) (fun _ h => by cases h) ?_
    simp only [List.take_succ_cons, List.take_zero, List.drop_succ_cons, List.drop_zero]
    repeat ((with_reducible apply soft_detG); (case hwa => rfl); (case hA => rfl); (case h => (intro w1 hw1; have hc := hcells w1 hw1; go_simp; exact rfl)); go_simp)
    refine soft_nil ?_
    rintro wn2 ⟨hwn, _⟩
    replace hW := Lib.hid (hW.out.trans hwn)
    clear hcells hwn
    go_wp2
    go_ret
    exact ⟨ret_b (by first | exact hf.out.symm | (rw [hf.out]; exact decide_eq_false (by omega)) | (rw [hf.out]; exact decide_eq_true (by omega))), hW.out⟩
  · subst heq
    have hn : (l != l) = false := by simp
    rw [icmp_eq] at hfp
    go_wp2_with fail
    have hcells := fun W (hW' : Stays _ W) => HB.out W (hW.out.trans hW')
    refine wp_region_soft_tail 8 (Stays.refl _) (fun _ _ _ => False) [] (by kernel_rfl) (by kernel_rfl) (fun _ h => by cases h) ?_
    simp only [List.take_succ_cons, List.take_zero, List.drop_succ_cons, List.drop_zero]
    repeat ((with_reducible apply soft_detG); (case hwa => rfl); (case hA => rfl); (case h => (intro w1 hw1; have hc := hcells w1 hw1; go_simp; exact rfl)); go_simp)
    refine soft_nil ?_
    rintro wn4 ⟨hwn, _⟩
    replace hW := Lib.hid (hW.out.trans hwn)
    clear hcells hwn
    cases od with
    | lt =>
      have hn : (FloatKind.f32.format.order d d' != some Ordering.eq) = true := nd.out
      have hg : (FloatKind.f32.format.order d d' == some Ordering.gt) = false := gd.out
      rw [show wcmp .lt = (-1 : Int) from rfl] at hfp
      have hf : Hid (fp = false) := Lib.hid (by rw [hfp.out]; exact (fp_1 _ _).1)
      go_wp2_with fail
      have hcells := fun W (hW' : Stays _ W) => HB.out W (hW.out.trans hW')
      refine wp_region_soft_tail 9 (Stays.refl _) (fun _ _ _ => False) [] (by kernel_rfl) (by kernel_rfl) (fun _ h => by cases h) ?_
      simp only [List.take_succ_cons, List.take_zero, List.drop_succ_cons, List.drop_zero]
      repeat ((with_reducible apply soft_detG); (case hwa => rfl); (case hA => rfl); (case h => (intro w1 hw1; have hc := hcells w1 hw1; go_simp; exact rfl)); go_simp)
      refine soft_nil ?_
      rintro wn5 ⟨hwn, _⟩
      replace hW := Lib.hid (hW.out.trans hwn)
      clear hcells hwn
      go_wp2
      go_ret
      exact ⟨ret_b (by first | exact hf.out.symm | (rw [hf.out]; exact decide_eq_false (by omega)) | (rw [hf.out]; exact decide_eq_true (by omega))), hW.out⟩
    | gt =>
      have hn : (FloatKind.f32.format.order d d' != some Ordering.eq) = true := nd.out
      have hg : (FloatKind.f32.format.order d d' == some Ordering.gt) = true := gd.out
      rw [show wcmp .gt = (1 : Int) from rfl] at hfp
      have hf : Hid (fp = true) := Lib.hid (by rw [hfp.out]; exact (fp_1 _ _).2)
      go_wp2_with fail
      have hcells := fun W (hW' : Stays _ W) => HB.out W (hW.out.trans hW')
      refine wp_region_soft_tail 9 (Stays.refl _) (fun _ _ _ => False) [] (by kernel_rfl) (by kernel_rfl) (fun _ h => by cases h) ?_
      simp only [List.take_succ_cons, List.take_zero, List.drop_succ_cons, List.drop_zero]
      repeat ((with_reducible apply soft_detG); (case hwa => rfl); (case hA => rfl); (case h => (intro w1 hw1; have hc := hcells w1 hw1; go_simp; exact rfl)); go_simp)
      refine soft_nil ?_
      rintro wn6 ⟨hwn, _⟩
      replace hW := Lib.hid (hW.out.trans hwn)
      clear hcells hwn
      go_wp2
      go_ret
      exact ⟨ret_b (by first | exact hf.out.symm | (rw [hf.out]; exact decide_eq_false (by omega)) | (rw [hf.out]; exact decide_eq_true (by omega))), hW.out⟩
    | eq =>
      have hn : (FloatKind.f32.format.order d d' != some Ordering.eq) = false := nd.out
      rw [show wcmp .eq = (0 : Int) from rfl] at hfp
      go_wp2_with fail
      have hcells := fun W (hW' : Stays _ W) => HB.out W (hW.out.trans hW')
      refine wp_region_soft_tail 8 (Stays.refl _) (fun _ _ _ => False) [] (by kernel_rfl) (by kernel_rfl) (fun _ h => by cases h) ?_
      simp only [List.take_succ_cons, List.take_zero, List.drop_succ_cons, List.drop_zero]
      repeat ((with_reducible apply soft_detG); (case hwa => rfl); (case hA => rfl); (case h => (intro w1 hw1; have hc := hcells w1 hw1; go_simp; exact rfl)); go_simp)
      refine soft_nil ?_
      rintro wn7 ⟨hwn, _⟩
      replace hW := Lib.hid (hW.out.trans hwn)
      clear hcells hwn
      rcases Int.lt_trichotomy s s' with hlt | heq | hgt
      · have hn : (s != s') = true := bne_iff_ne.2 (by omega)
        have hn2 : ¬ s = s' := by omega
        have hg : ¬ s > s' := by omega
        rw [icmp_lt hlt] at hfp
        have hf : Hid (fp = false) := Lib.hid (by rw [hfp.out]; exact (fp_2 _).1)
        go_wp2_with fail
        have hcells := fun W (hW' : Stays _ W) => HB.out W (hW.out.trans hW')
        refine wp_region_soft_tail 9 (Stays.refl _) (fun _ _ _ => False) [] (by kernel_rfl) (by kernel_rfl) (fun _ h => by cases h) ?_
        simp only [List.take_succ_cons, List.take_zero, List.drop_succ_cons, List.drop_zero]
        repeat ((with_reducible apply soft_detG); (case hwa => rfl); (case hA => rfl); (case h => (intro w1 hw1; have hc := hcells w1 hw1; go_simp; exact rfl)); go_simp)
        refine soft_nil ?_
        rintro wn8 ⟨hwn, _⟩
        replace hW := Lib.hid (hW.out.trans hwn)
        clear hcells hwn
        go_wp2
        go_ret
        exact ⟨ret_b (by first | exact hf.out.symm | (rw [hf.out]; exact decide_eq_false (by omega)) | (rw [hf.out]; exact decide_eq_true (by omega))), hW.out⟩
      · subst heq
        have hn : (s != s) = false := by simp
        rw [icmp_eq] at hfp
        go_wp2_with fail
        refine wp_loop_rounds 5 ?_
        rw [rounds_succ]
        go_wp2_with fail
        have hcells := fun W (hW' : Stays _ W) => HB.out W (hW.out.trans hW')
        refine wp_region_soft_tail 12 (Stays.refl _) (fun _ _ _ => False) [] (by kernel_rfl) (by kernel_rfl) (fun _ h => by cases h) ?_
        simp only [List.take_succ_cons, List.take_zero, List.drop_succ_cons, List.drop_zero]
        repeat ((with_reducible apply soft_detG); (case hwa => rfl); (case hA => rfl); (case h => (intro w1 hw1; have hc := hcells w1 hw1; go_simp; exact rfl)); go_simp)
        refine soft_nil ?_
        rintro wn10 ⟨hwn, _⟩
        replace hW := Lib.hid (hW.out.trans hwn)
        clear hcells hwn
        cases oa with
        | lt =>
          have hn : (FloatKind.f32.format.order a a' != some Ordering.eq) = true := na.out
          have hg : (FloatKind.f32.format.order a a' == some Ordering.gt) = false := ga.out
          rw [show fcmp .lt _ _ = (-1 : Int) from rfl, (f3_0 _ _).1] at hfp
          have hf : Hid (fp = false) := Lib.hid (by rw [hfp.out]; exact (fp_3).1)
          go_wp2_with fail
          have hcells := fun W (hW' : Stays _ W) => HB.out W (hW.out.trans hW')
          refine wp_region_soft_tail 13 (Stays.refl _) (fun _ _ _ => False) [] (by kernel_rfl) (by kernel_rfl) (fun _ h => by cases h) ?_
          simp only [List.take_succ_cons, List.take_zero, List.drop_succ_cons, List.drop_zero]
          repeat ((with_reducible apply soft_detG); (case hwa => rfl); (case hA => rfl); (case h => (intro w1 hw1; have hc := hcells w1 hw1; go_simp; exact rfl)); go_simp)
          refine soft_nil ?_
          rintro wn11 ⟨hwn, _⟩
          replace hW := Lib.hid (hW.out.trans hwn)
          clear hcells hwn
          go_wp2
          go_ret
          exact ⟨ret_b (by first | exact hf.out.symm | (rw [hf.out]; exact decide_eq_false (by omega)) | (rw [hf.out]; exact decide_eq_true (by omega))), hW.out⟩
        | gt =>
          have hn : (FloatKind.f32.format.order a a' != some Ordering.eq) = true := na.out
          have hg : (FloatKind.f32.format.order a a' == some Ordering.gt) = true := ga.out
          rw [show fcmp .gt _ _ = (1 : Int) from rfl, (f3_0 _ _).2] at hfp
          have hf : Hid (fp = true) := Lib.hid (by rw [hfp.out]; exact (fp_3).2.1)
          go_wp2_with fail
          have hcells := fun W (hW' : Stays _ W) => HB.out W (hW.out.trans hW')
          refine wp_region_soft_tail 13 (Stays.refl _) (fun _ _ _ => False) [] (by kernel_rfl) (by kernel_rfl) (fun _ h => by cases h) ?_
          simp only [List.take_succ_cons, List.take_zero, List.drop_succ_cons, List.drop_zero]
          repeat ((with_reducible apply soft_detG); (case hwa => rfl); (case hA => rfl); (case h => (intro w1 hw1; have hc := hcells w1 hw1; go_simp; exact rfl)); go_simp)
          refine soft_nil ?_
          rintro wn12 ⟨hwn, _⟩
          replace hW := Lib.hid (hW.out.trans hwn)
          clear hcells hwn
          go_wp2
          go_ret
          exact ⟨ret_b (by first | exact hf.out.symm | (rw [hf.out]; exact decide_eq_false (by omega)) | (rw [hf.out]; exact decide_eq_true (by omega))), hW.out⟩
        | eq =>
          have hn : (FloatKind.f32.format.order a a' != some Ordering.eq) = false := na.out
          rw [show fcmp .eq _ _ = icmp (a' : Int) (a : Int) from rfl] at hfp
          go_wp2_with fail
          rcases qa.out (by first | exact rfl | trivial) with e0 | e0 | e0
          · subst e0
            rw [icmp_eq] at hfp
            have kSm : Hid (∀ W, Calls Try.prog 110 #[.float .f32 a, .float .f32 a] W fun e w' => e = .returned (.bool true) ∧ Stays W w') := Lib.hid fun W => (c_l01Same a a W).mono fun e w' he => ⟨by rw [he.1, show same a a = true from beq_self_eq_true _], he.2 ▸ Stays.refl _⟩
            have hcells := fun W (hW' : Stays _ W) => HB.out W (hW.out.trans hW')
            refine wp_region_soft_tail 13 (Stays.refl _) ((fun f args v => f = 110 → v = .bool true)) [] (by kernel_rfl) (by kernel_rfl) (fun _ h => by cases h) ?_
            simp only [List.take_succ_cons, List.take_zero, List.drop_succ_cons, List.drop_zero]
            repeat ((with_reducible apply soft_detG); (case hwa => rfl); (case hA => rfl); (case h => (intro w1 hw1; have hc := hcells w1 hw1; go_simp; exact rfl)); go_simp)
            ((with_reducible apply soft_callS (v := .bool true)); (case hwa => rfl); (case hA => rfl); (case h => (intro w1 hw1; have hc := hcells w1 hw1; go_simp; exact ⟨rfl, rfl⟩)); (case hc => (intro w1 hw1; exact (kSm.out w1))); (case hS => exact (fun _ => rfl)); (case hu => exact fun u hu => hu rfl); go_simp)
            repeat ((with_reducible apply soft_detG); (case hwa => rfl); (case hA => rfl); (case h => (intro w1 hw1; have hc := hcells w1 hw1; go_simp; exact rfl)); go_simp)
            refine soft_nil ?_
            rintro wn15 ⟨hwn, _⟩
            replace hW := Lib.hid (hW.out.trans hwn)
            clear hcells hwn
            clear kSm
            go_wp2_with fail
            rw [rounds_succ]
            go_wp2_with fail
            have hcells := fun W (hW' : Stays _ W) => HB.out W (hW.out.trans hW')
            refine wp_region_soft_tail 12 (Stays.refl _) (fun _ _ _ => False) [] (by kernel_rfl) (by kernel_rfl) (fun _ h => by cases h) ?_
            simp only [List.take_succ_cons, List.take_zero, List.drop_succ_cons, List.drop_zero]
            repeat ((with_reducible apply soft_detG); (case hwa => rfl); (case hA => rfl); (case h => (intro w1 hw1; have hc := hcells w1 hw1; go_simp; exact rfl)); go_simp)
            refine soft_nil ?_
            rintro wn16 ⟨hwn, _⟩
            replace hW := Lib.hid (hW.out.trans hwn)
            clear hcells hwn
            cases ob with
            | lt =>
              have hn : (FloatKind.f32.format.order b b' != some Ordering.eq) = true := nb.out
              have hg : (FloatKind.f32.format.order b b' == some Ordering.gt) = false := gb.out
              rw [show fcmp .lt _ _ = (-1 : Int) from rfl, (f3_1 _).1] at hfp
              have hf : Hid (fp = false) := Lib.hid (by rw [hfp.out]; exact (fp_3).1)
              go_wp2_with fail
              have hcells := fun W (hW' : Stays _ W) => HB.out W (hW.out.trans hW')
              refine wp_region_soft_tail 13 (Stays.refl _) (fun _ _ _ => False) [] (by kernel_rfl) (by kernel_rfl) (fun _ h => by cases h) ?_
              simp only [List.take_succ_cons, List.take_zero, List.drop_succ_cons, List.drop_zero]
              repeat ((with_reducible apply soft_detG); (case hwa => rfl); (case hA => rfl); (case h => (intro w1 hw1; have hc := hcells w1 hw1; go_simp; exact rfl)); go_simp)
              refine soft_nil ?_
              rintro wn17 ⟨hwn, _⟩
              replace hW := Lib.hid (hW.out.trans hwn)
              clear hcells hwn
              go_wp2
              go_ret
              exact ⟨ret_b (by first | exact hf.out.symm | (rw [hf.out]; exact decide_eq_false (by omega)) | (rw [hf.out]; exact decide_eq_true (by omega))), hW.out⟩
            | gt =>
              have hn : (FloatKind.f32.format.order b b' != some Ordering.eq) = true := nb.out
              have hg : (FloatKind.f32.format.order b b' == some Ordering.gt) = true := gb.out
              rw [show fcmp .gt _ _ = (1 : Int) from rfl, (f3_1 _).2] at hfp
              have hf : Hid (fp = true) := Lib.hid (by rw [hfp.out]; exact (fp_3).2.1)
              go_wp2_with fail
              have hcells := fun W (hW' : Stays _ W) => HB.out W (hW.out.trans hW')
              refine wp_region_soft_tail 13 (Stays.refl _) (fun _ _ _ => False) [] (by kernel_rfl) (by kernel_rfl) (fun _ h => by cases h) ?_
              simp only [List.take_succ_cons, List.take_zero, List.drop_succ_cons, List.drop_zero]
              repeat ((with_reducible apply soft_detG); (case hwa => rfl); (case hA => rfl); (case h => (intro w1 hw1; have hc := hcells w1 hw1; go_simp; exact rfl)); go_simp)
              refine soft_nil ?_
              rintro wn18 ⟨hwn, _⟩
              replace hW := Lib.hid (hW.out.trans hwn)
              clear hcells hwn
              go_wp2
              go_ret
              exact ⟨ret_b (by first | exact hf.out.symm | (rw [hf.out]; exact decide_eq_false (by omega)) | (rw [hf.out]; exact decide_eq_true (by omega))), hW.out⟩
            | eq =>
              have hn : (FloatKind.f32.format.order b b' != some Ordering.eq) = false := nb.out
              rw [show fcmp .eq _ _ = icmp (b' : Int) (b : Int) from rfl] at hfp
              go_wp2_with fail
              rcases qb.out (by first | exact rfl | trivial) with e0 | e0 | e0
              · subst e0
                rw [icmp_eq] at hfp
                have kSm : Hid (∀ W, Calls Try.prog 110 #[.float .f32 b, .float .f32 b] W fun e w' => e = .returned (.bool true) ∧ Stays W w') := Lib.hid fun W => (c_l01Same b b W).mono fun e w' he => ⟨by rw [he.1, show same b b = true from beq_self_eq_true _], he.2 ▸ Stays.refl _⟩
                have hcells := fun W (hW' : Stays _ W) => HB.out W (hW.out.trans hW')
                refine wp_region_soft_tail 13 (Stays.refl _) ((fun f args v => f = 110 → v = .bool true)) [] (by kernel_rfl) (by kernel_rfl) (fun _ h => by cases h) ?_
                simp only [List.take_succ_cons, List.take_zero, List.drop_succ_cons, List.drop_zero]
                repeat ((with_reducible apply soft_detG); (case hwa => rfl); (case hA => rfl); (case h => (intro w1 hw1; have hc := hcells w1 hw1; go_simp; exact rfl)); go_simp)
                ((with_reducible apply soft_callS (v := .bool true)); (case hwa => rfl); (case hA => rfl); (case h => (intro w1 hw1; have hc := hcells w1 hw1; go_simp; exact ⟨rfl, rfl⟩)); (case hc => (intro w1 hw1; exact (kSm.out w1))); (case hS => exact (fun _ => rfl)); (case hu => exact fun u hu => hu rfl); go_simp)
                repeat ((with_reducible apply soft_detG); (case hwa => rfl); (case hA => rfl); (case h => (intro w1 hw1; have hc := hcells w1 hw1; go_simp; exact rfl)); go_simp)
                refine soft_nil ?_
                rintro wn21 ⟨hwn, _⟩
                replace hW := Lib.hid (hW.out.trans hwn)
                clear hcells hwn
                clear kSm
                go_wp2_with fail
                rw [rounds_succ]
                go_wp2_with fail
                have hcells := fun W (hW' : Stays _ W) => HB.out W (hW.out.trans hW')
                refine wp_region_soft_tail 12 (Stays.refl _) (fun _ _ _ => False) [] (by kernel_rfl) (by kernel_rfl) (fun _ h => by cases h) ?_
                simp only [List.take_succ_cons, List.take_zero, List.drop_succ_cons, List.drop_zero]
                repeat ((with_reducible apply soft_detG); (case hwa => rfl); (case hA => rfl); (case h => (intro w1 hw1; have hc := hcells w1 hw1; go_simp; exact rfl)); go_simp)
                refine soft_nil ?_
                rintro wn22 ⟨hwn, _⟩
                replace hW := Lib.hid (hW.out.trans hwn)
                clear hcells hwn
                cases oc with
                | lt =>
                  have hn : (FloatKind.f32.format.order c c' != some Ordering.eq) = true := nc.out
                  have hg : (FloatKind.f32.format.order c c' == some Ordering.gt) = false := gc.out
                  rw [show fcmp .lt _ _ = (-1 : Int) from rfl, f3_2] at hfp
                  have hf : Hid (fp = false) := Lib.hid (by rw [hfp.out]; exact (fp_3).1)
                  go_wp2_with fail
                  have hcells := fun W (hW' : Stays _ W) => HB.out W (hW.out.trans hW')
                  refine wp_region_soft_tail 13 (Stays.refl _) (fun _ _ _ => False) [] (by kernel_rfl) (by kernel_rfl) (fun _ h => by cases h) ?_
                  simp only [List.take_succ_cons, List.take_zero, List.drop_succ_cons, List.drop_zero]
                  repeat ((with_reducible apply soft_detG); (case hwa => rfl); (case hA => rfl); (case h => (intro w1 hw1; have hc := hcells w1 hw1; go_simp; exact rfl)); go_simp)
                  refine soft_nil ?_
                  rintro wn23 ⟨hwn, _⟩
                  replace hW := Lib.hid (hW.out.trans hwn)
                  clear hcells hwn
                  go_wp2
                  go_ret
                  exact ⟨ret_b (by first | exact hf.out.symm | (rw [hf.out]; exact decide_eq_false (by omega)) | (rw [hf.out]; exact decide_eq_true (by omega))), hW.out⟩
                | gt =>
                  have hn : (FloatKind.f32.format.order c c' != some Ordering.eq) = true := nc.out
                  have hg : (FloatKind.f32.format.order c c' == some Ordering.gt) = true := gc.out
                  rw [show fcmp .gt _ _ = (1 : Int) from rfl, f3_2] at hfp
                  have hf : Hid (fp = true) := Lib.hid (by rw [hfp.out]; exact (fp_3).2.1)
                  go_wp2_with fail
                  have hcells := fun W (hW' : Stays _ W) => HB.out W (hW.out.trans hW')
                  refine wp_region_soft_tail 13 (Stays.refl _) (fun _ _ _ => False) [] (by kernel_rfl) (by kernel_rfl) (fun _ h => by cases h) ?_
                  simp only [List.take_succ_cons, List.take_zero, List.drop_succ_cons, List.drop_zero]
                  repeat ((with_reducible apply soft_detG); (case hwa => rfl); (case hA => rfl); (case h => (intro w1 hw1; have hc := hcells w1 hw1; go_simp; exact rfl)); go_simp)
                  refine soft_nil ?_
                  rintro wn24 ⟨hwn, _⟩
                  replace hW := Lib.hid (hW.out.trans hwn)
                  clear hcells hwn
                  go_wp2
                  go_ret
                  exact ⟨ret_b (by first | exact hf.out.symm | (rw [hf.out]; exact decide_eq_false (by omega)) | (rw [hf.out]; exact decide_eq_true (by omega))), hW.out⟩
                | eq =>
                  have hn : (FloatKind.f32.format.order c c' != some Ordering.eq) = false := nc.out
                  rw [show fcmp .eq _ _ = icmp (c' : Int) (c : Int) from rfl] at hfp
                  go_wp2_with fail
                  rcases qc.out (by first | exact rfl | trivial) with e0 | e0 | e0
                  · subst e0
                    rw [icmp_eq, f3_2] at hfp
                    have kSm : Hid (∀ W, Calls Try.prog 110 #[.float .f32 c, .float .f32 c] W fun e w' => e = .returned (.bool true) ∧ Stays W w') := Lib.hid fun W => (c_l01Same c c W).mono fun e w' he => ⟨by rw [he.1, show same c c = true from beq_self_eq_true _], he.2 ▸ Stays.refl _⟩
                    have hcells := fun W (hW' : Stays _ W) => HB.out W (hW.out.trans hW')
                    refine wp_region_soft_tail 13 (Stays.refl _) ((fun f args v => f = 110 → v = .bool true)) [] (by kernel_rfl) (by kernel_rfl) (fun _ h => by cases h) ?_
                    simp only [List.take_succ_cons, List.take_zero, List.drop_succ_cons, List.drop_zero]
                    repeat ((with_reducible apply soft_detG); (case hwa => rfl); (case hA => rfl); (case h => (intro w1 hw1; have hc := hcells w1 hw1; go_simp; exact rfl)); go_simp)
                    ((with_reducible apply soft_callS (v := .bool true)); (case hwa => rfl); (case hA => rfl); (case h => (intro w1 hw1; have hc := hcells w1 hw1; go_simp; exact ⟨rfl, rfl⟩)); (case hc => (intro w1 hw1; exact (kSm.out w1))); (case hS => exact (fun _ => rfl)); (case hu => exact fun u hu => hu rfl); go_simp)
                    repeat ((with_reducible apply soft_detG); (case hwa => rfl); (case hA => rfl); (case h => (intro w1 hw1; have hc := hcells w1 hw1; go_simp; exact rfl)); go_simp)
                    refine soft_nil ?_
                    rintro wn27 ⟨hwn, _⟩
                    replace hW := Lib.hid (hW.out.trans hwn)
                    clear hcells hwn
                    clear kSm
                    go_wp2_with fail
                    rw [rounds_succ]
                    have hf : Hid (fp = false) := Lib.hid (by rw [hfp.out]; exact fp_3.2.2)
                    go_wp2
                    go_ret
                    exact ⟨ret_b (by first | exact hf.out.symm | (rw [hf.out]; exact decide_eq_false (by omega)) | (rw [hf.out]; exact decide_eq_true (by omega))), hW.out⟩
                  · obtain ⟨e1, e2⟩ := e0
                    subst e1 e2
                    rw [show icmp ((2147483648 : Nat) : Int) ((0 : Nat) : Int) = (1 : Int) from rfl, f3_2] at hfp
                    have kSm : Hid (∀ W, Calls Try.prog 110 #[.float .f32 0, .float .f32 2147483648] W fun e w' => e = .returned (.bool false) ∧ Stays W w') := Lib.hid fun W => (c_l01Same 0 2147483648 W).mono fun e w' he => ⟨by rw [he.1, same_noughts.1], he.2 ▸ Stays.refl _⟩
                    have hcells := fun W (hW' : Stays _ W) => HB.out W (hW.out.trans hW')
                    refine wp_region_soft_tail 13 (Stays.refl _) ((fun f args v => f = 110 → v = .bool false)) [] (by kernel_rfl) (by kernel_rfl) (fun _ h => by cases h) ?_
                    simp only [List.take_succ_cons, List.take_zero, List.drop_succ_cons, List.drop_zero]
                    repeat ((with_reducible apply soft_detG); (case hwa => rfl); (case hA => rfl); (case h => (intro w1 hw1; have hc := hcells w1 hw1; go_simp; exact rfl)); go_simp)
                    ((with_reducible apply soft_callS (v := .bool false)); (case hwa => rfl); (case hA => rfl); (case h => (intro w1 hw1; have hc := hcells w1 hw1; go_simp; exact ⟨rfl, rfl⟩)); (case hc => (intro w1 hw1; exact (kSm.out w1))); (case hS => exact (fun _ => rfl)); (case hu => exact fun u hu => hu rfl); go_simp)
                    repeat ((with_reducible apply soft_detG); (case hwa => rfl); (case hA => rfl); (case h => (intro w1 hw1; have hc := hcells w1 hw1; go_simp; exact rfl)); go_simp)
                    refine soft_nil ?_
                    rintro wn25 ⟨hwn, _⟩
                    replace hW := Lib.hid (hW.out.trans hwn)
                    clear hcells hwn
                    have hf : Hid (fp = true) := Lib.hid (by rw [hfp.out]; exact fp_3.2.1)
                    clear kSm
                    have kSm := Lib.hid fun W => c_l01Same 0 0 W
                    obtain ⟨hc1, hc2⟩ := HB.out _ hW.out
                    go_wp2_with fail
                    refine (kSm.out _).mono ?_
                    rintro e w9 ⟨rfl, rfl⟩
                    rw [same_noughts.2.2]
                    clear hc1 hc2
                    go_wp2
                    go_ret
                    exact ⟨ret_b (by first | exact hf.out.symm | (rw [hf.out]; exact decide_eq_false (by omega)) | (rw [hf.out]; exact decide_eq_true (by omega))), hW.out⟩
                  · obtain ⟨e1, e2⟩ := e0
                    subst e1 e2
                    rw [show icmp ((0 : Nat) : Int) ((2147483648 : Nat) : Int) = (-1 : Int) from rfl, f3_2] at hfp
                    have kSm : Hid (∀ W, Calls Try.prog 110 #[.float .f32 2147483648, .float .f32 0] W fun e w' => e = .returned (.bool false) ∧ Stays W w') := Lib.hid fun W => (c_l01Same 2147483648 0 W).mono fun e w' he => ⟨by rw [he.1, same_noughts.2.1], he.2 ▸ Stays.refl _⟩
                    have hcells := fun W (hW' : Stays _ W) => HB.out W (hW.out.trans hW')
                    refine wp_region_soft_tail 13 (Stays.refl _) ((fun f args v => f = 110 → v = .bool false)) [] (by kernel_rfl) (by kernel_rfl) (fun _ h => by cases h) ?_
                    simp only [List.take_succ_cons, List.take_zero, List.drop_succ_cons, List.drop_zero]
                    repeat ((with_reducible apply soft_detG); (case hwa => rfl); (case hA => rfl); (case h => (intro w1 hw1; have hc := hcells w1 hw1; go_simp; exact rfl)); go_simp)
                    ((with_reducible apply soft_callS (v := .bool false)); (case hwa => rfl); (case hA => rfl); (case h => (intro w1 hw1; have hc := hcells w1 hw1; go_simp; exact ⟨rfl, rfl⟩)); (case hc => (intro w1 hw1; exact (kSm.out w1))); (case hS => exact (fun _ => rfl)); (case hu => exact fun u hu => hu rfl); go_simp)
                    repeat ((with_reducible apply soft_detG); (case hwa => rfl); (case hA => rfl); (case h => (intro w1 hw1; have hc := hcells w1 hw1; go_simp; exact rfl)); go_simp)
                    refine soft_nil ?_
                    rintro wn26 ⟨hwn, _⟩
                    replace hW := Lib.hid (hW.out.trans hwn)
                    clear hcells hwn
                    have hf : Hid (fp = false) := Lib.hid (by rw [hfp.out]; exact fp_3.1)
                    clear kSm
                    have kSm := Lib.hid fun W => c_l01Same 2147483648 0 W
                    obtain ⟨hc1, hc2⟩ := HB.out _ hW.out
                    go_wp2_with fail
                    refine (kSm.out _).mono ?_
                    rintro e w9 ⟨rfl, rfl⟩
                    rw [same_noughts.2.1]
                    clear hc1 hc2
                    go_wp2
                    go_ret
                    exact ⟨ret_b (by first | exact hf.out.symm | (rw [hf.out]; exact decide_eq_false (by omega)) | (rw [hf.out]; exact decide_eq_true (by omega))), hW.out⟩
              · obtain ⟨e1, e2⟩ := e0
                subst e1 e2
                rw [show icmp ((2147483648 : Nat) : Int) ((0 : Nat) : Int) = (1 : Int) from rfl, (f3_1 _).2] at hfp
                have kSm : Hid (∀ W, Calls Try.prog 110 #[.float .f32 0, .float .f32 2147483648] W fun e w' => e = .returned (.bool false) ∧ Stays W w') := Lib.hid fun W => (c_l01Same 0 2147483648 W).mono fun e w' he => ⟨by rw [he.1, same_noughts.1], he.2 ▸ Stays.refl _⟩
                have hcells := fun W (hW' : Stays _ W) => HB.out W (hW.out.trans hW')
                refine wp_region_soft_tail 13 (Stays.refl _) ((fun f args v => f = 110 → v = .bool false)) [] (by kernel_rfl) (by kernel_rfl) (fun _ h => by cases h) ?_
                simp only [List.take_succ_cons, List.take_zero, List.drop_succ_cons, List.drop_zero]
                repeat ((with_reducible apply soft_detG); (case hwa => rfl); (case hA => rfl); (case h => (intro w1 hw1; have hc := hcells w1 hw1; go_simp; exact rfl)); go_simp)
                ((with_reducible apply soft_callS (v := .bool false)); (case hwa => rfl); (case hA => rfl); (case h => (intro w1 hw1; have hc := hcells w1 hw1; go_simp; exact ⟨rfl, rfl⟩)); (case hc => (intro w1 hw1; exact (kSm.out w1))); (case hS => exact (fun _ => rfl)); (case hu => exact fun u hu => hu rfl); go_simp)
                repeat ((with_reducible apply soft_detG); (case hwa => rfl); (case hA => rfl); (case h => (intro w1 hw1; have hc := hcells w1 hw1; go_simp; exact rfl)); go_simp)
                refine soft_nil ?_
                rintro wn19 ⟨hwn, _⟩
                replace hW := Lib.hid (hW.out.trans hwn)
                clear hcells hwn
                have hf : Hid (fp = true) := Lib.hid (by rw [hfp.out]; exact fp_3.2.1)
                clear kSm
                have kSm := Lib.hid fun W => c_l01Same 0 0 W
                obtain ⟨hc1, hc2⟩ := HB.out _ hW.out
                go_wp2_with fail
                refine (kSm.out _).mono ?_
                rintro e w9 ⟨rfl, rfl⟩
                rw [same_noughts.2.2]
                clear hc1 hc2
                go_wp2
                go_ret
                exact ⟨ret_b (by first | exact hf.out.symm | (rw [hf.out]; exact decide_eq_false (by omega)) | (rw [hf.out]; exact decide_eq_true (by omega))), hW.out⟩
              · obtain ⟨e1, e2⟩ := e0
                subst e1 e2
                rw [show icmp ((0 : Nat) : Int) ((2147483648 : Nat) : Int) = (-1 : Int) from rfl, (f3_1 _).1] at hfp
                have kSm : Hid (∀ W, Calls Try.prog 110 #[.float .f32 2147483648, .float .f32 0] W fun e w' => e = .returned (.bool false) ∧ Stays W w') := Lib.hid fun W => (c_l01Same 2147483648 0 W).mono fun e w' he => ⟨by rw [he.1, same_noughts.2.1], he.2 ▸ Stays.refl _⟩
                have hcells := fun W (hW' : Stays _ W) => HB.out W (hW.out.trans hW')
                refine wp_region_soft_tail 13 (Stays.refl _) ((fun f args v => f = 110 → v = .bool false)) [] (by kernel_rfl) (by kernel_rfl) (fun _ h => by cases h) ?_
                simp only [List.take_succ_cons, List.take_zero, List.drop_succ_cons, List.drop_zero]
                repeat ((with_reducible apply soft_detG); (case hwa => rfl); (case hA => rfl); (case h => (intro w1 hw1; have hc := hcells w1 hw1; go_simp; exact rfl)); go_simp)
                ((with_reducible apply soft_callS (v := .bool false)); (case hwa => rfl); (case hA => rfl); (case h => (intro w1 hw1; have hc := hcells w1 hw1; go_simp; exact ⟨rfl, rfl⟩)); (case hc => (intro w1 hw1; exact (kSm.out w1))); (case hS => exact (fun _ => rfl)); (case hu => exact fun u hu => hu rfl); go_simp)
                repeat ((with_reducible apply soft_detG); (case hwa => rfl); (case hA => rfl); (case h => (intro w1 hw1; have hc := hcells w1 hw1; go_simp; exact rfl)); go_simp)
                refine soft_nil ?_
                rintro wn20 ⟨hwn, _⟩
                replace hW := Lib.hid (hW.out.trans hwn)
                clear hcells hwn
                have hf : Hid (fp = false) := Lib.hid (by rw [hfp.out]; exact fp_3.1)
                clear kSm
                have kSm := Lib.hid fun W => c_l01Same 2147483648 0 W
                obtain ⟨hc1, hc2⟩ := HB.out _ hW.out
                go_wp2_with fail
                refine (kSm.out _).mono ?_
                rintro e w9 ⟨rfl, rfl⟩
                rw [same_noughts.2.1]
                clear hc1 hc2
                go_wp2
                go_ret
                exact ⟨ret_b (by first | exact hf.out.symm | (rw [hf.out]; exact decide_eq_false (by omega)) | (rw [hf.out]; exact decide_eq_true (by omega))), hW.out⟩
          · obtain ⟨e1, e2⟩ := e0
            subst e1 e2
            rw [show icmp ((2147483648 : Nat) : Int) ((0 : Nat) : Int) = (1 : Int) from rfl, (f3_0 _ _).2] at hfp
            have kSm : Hid (∀ W, Calls Try.prog 110 #[.float .f32 0, .float .f32 2147483648] W fun e w' => e = .returned (.bool false) ∧ Stays W w') := Lib.hid fun W => (c_l01Same 0 2147483648 W).mono fun e w' he => ⟨by rw [he.1, same_noughts.1], he.2 ▸ Stays.refl _⟩
            have hcells := fun W (hW' : Stays _ W) => HB.out W (hW.out.trans hW')
            refine wp_region_soft_tail 13 (Stays.refl _) ((fun f args v => f = 110 → v = .bool false)) [] (by kernel_rfl) (by kernel_rfl) (fun _ h => by cases h) ?_
            simp only [List.take_succ_cons, List.take_zero, List.drop_succ_cons, List.drop_zero]
            repeat ((with_reducible apply soft_detG); (case hwa => rfl); (case hA => rfl); (case h => (intro w1 hw1; have hc := hcells w1 hw1; go_simp; exact rfl)); go_simp)
            ((with_reducible apply soft_callS (v := .bool false)); (case hwa => rfl); (case hA => rfl); (case h => (intro w1 hw1; have hc := hcells w1 hw1; go_simp; exact ⟨rfl, rfl⟩)); (case hc => (intro w1 hw1; exact (kSm.out w1))); (case hS => exact (fun _ => rfl)); (case hu => exact fun u hu => hu rfl); go_simp)
            repeat ((with_reducible apply soft_detG); (case hwa => rfl); (case hA => rfl); (case h => (intro w1 hw1; have hc := hcells w1 hw1; go_simp; exact rfl)); go_simp)
            refine soft_nil ?_
            rintro wn13 ⟨hwn, _⟩
            replace hW := Lib.hid (hW.out.trans hwn)
            clear hcells hwn
            have hf : Hid (fp = true) := Lib.hid (by rw [hfp.out]; exact fp_3.2.1)
            clear kSm
            have kSm := Lib.hid fun W => c_l01Same 0 0 W
            obtain ⟨hc1, hc2⟩ := HB.out _ hW.out
            go_wp2_with fail
            refine (kSm.out _).mono ?_
            rintro e w9 ⟨rfl, rfl⟩
            rw [same_noughts.2.2]
            clear hc1 hc2
            go_wp2
            go_ret
            exact ⟨ret_b (by first | exact hf.out.symm | (rw [hf.out]; exact decide_eq_false (by omega)) | (rw [hf.out]; exact decide_eq_true (by omega))), hW.out⟩
          · obtain ⟨e1, e2⟩ := e0
            subst e1 e2
            rw [show icmp ((0 : Nat) : Int) ((2147483648 : Nat) : Int) = (-1 : Int) from rfl, (f3_0 _ _).1] at hfp
            have kSm : Hid (∀ W, Calls Try.prog 110 #[.float .f32 2147483648, .float .f32 0] W fun e w' => e = .returned (.bool false) ∧ Stays W w') := Lib.hid fun W => (c_l01Same 2147483648 0 W).mono fun e w' he => ⟨by rw [he.1, same_noughts.2.1], he.2 ▸ Stays.refl _⟩
            have hcells := fun W (hW' : Stays _ W) => HB.out W (hW.out.trans hW')
            refine wp_region_soft_tail 13 (Stays.refl _) ((fun f args v => f = 110 → v = .bool false)) [] (by kernel_rfl) (by kernel_rfl) (fun _ h => by cases h) ?_
            simp only [List.take_succ_cons, List.take_zero, List.drop_succ_cons, List.drop_zero]
            repeat ((with_reducible apply soft_detG); (case hwa => rfl); (case hA => rfl); (case h => (intro w1 hw1; have hc := hcells w1 hw1; go_simp; exact rfl)); go_simp)
            ((with_reducible apply soft_callS (v := .bool false)); (case hwa => rfl); (case hA => rfl); (case h => (intro w1 hw1; have hc := hcells w1 hw1; go_simp; exact ⟨rfl, rfl⟩)); (case hc => (intro w1 hw1; exact (kSm.out w1))); (case hS => exact (fun _ => rfl)); (case hu => exact fun u hu => hu rfl); go_simp)
            repeat ((with_reducible apply soft_detG); (case hwa => rfl); (case hA => rfl); (case h => (intro w1 hw1; have hc := hcells w1 hw1; go_simp; exact rfl)); go_simp)
            refine soft_nil ?_
            rintro wn14 ⟨hwn, _⟩
            replace hW := Lib.hid (hW.out.trans hwn)
            clear hcells hwn
            have hf : Hid (fp = false) := Lib.hid (by rw [hfp.out]; exact fp_3.1)
            clear kSm
            have kSm := Lib.hid fun W => c_l01Same 2147483648 0 W
            obtain ⟨hc1, hc2⟩ := HB.out _ hW.out
            go_wp2_with fail
            refine (kSm.out _).mono ?_
            rintro e w9 ⟨rfl, rfl⟩
            rw [same_noughts.2.1]
            clear hc1 hc2
            go_wp2
            go_ret
            exact ⟨ret_b (by first | exact hf.out.symm | (rw [hf.out]; exact decide_eq_false (by omega)) | (rw [hf.out]; exact decide_eq_true (by omega))), hW.out⟩
      · have hn : (s != s') = true := bne_iff_ne.2 (by omega)
        have hn2 : ¬ s = s' := by omega
        have hg : s > s' := by omega
        rw [icmp_gt hgt] at hfp
        have hf : Hid (fp = true) := Lib.hid (by rw [hfp.out]; exact (fp_2 _).2)
        go_wp2_with fail
        have hcells := fun W (hW' : Stays _ W) => HB.out W (hW.out.trans hW')
        refine wp_region_soft_tail 9 (Stays.refl _) (fun _ _ _ => False) [] (by kernel_rfl) (by kernel_rfl) (fun _ h => by cases h) ?_
        simp only [List.take_succ_cons, List.take_zero, List.drop_succ_cons, List.drop_zero]
        repeat ((with_reducible apply soft_detG); (case hwa => rfl); (case hA => rfl); (case h => (intro w1 hw1; have hc := hcells w1 hw1; go_simp; exact rfl)); go_simp)
        refine soft_nil ?_
        rintro wn9 ⟨hwn, _⟩
        replace hW := Lib.hid (hW.out.trans hwn)
        clear hcells hwn
        go_wp2
        go_ret
        exact ⟨ret_b (by first | exact hf.out.symm | (rw [hf.out]; exact decide_eq_false (by omega)) | (rw [hf.out]; exact decide_eq_true (by omega))), hW.out⟩
  · have hn : (l != l') = true := bne_iff_ne.2 (by omega)
    have hn2 : ¬ l = l' := by omega
    have hg : l > l' := by omega
    rw [icmp_gt hgt] at hfp
    have hf : Hid (fp = true) := Lib.hid (by rw [hfp.out]; exact (fp_0 _ _ _).2)
    go_wp2_with fail
    have hcells := fun W (hW' : Stays _ W) => HB.out W (hW.out.trans hW')
    refine wp_region_soft_tail 9 (Stays.refl _) (fun _ _ _ => False) [] (by kernel_rfl) (by kernel_rfl) (fun _ h => by cases h) ?_
    simp only [List.take_succ_cons, List.take_zero, List.drop_succ_cons, List.drop_zero]
    repeat ((with_reducible apply soft_detG); (case hwa => rfl); (case hA => rfl); (case h => (intro w1 hw1; have hc := hcells w1 hw1; go_simp; exact rfl)); go_simp)
    refine soft_nil ?_
    rintro wn3 ⟨hwn, _⟩
    replace hW := Lib.hid (hW.out.trans hwn)
    clear hcells hwn
    go_wp2
    go_ret
    exact ⟨ret_b (by first | exact hf.out.symm | (rw [hf.out]; exact decide_eq_false (by omega)) | (rw [hf.out]; exact decide_eq_true (by omega))), hW.out⟩
end Go.Proofs.Ytmcbeaihjdnelaa
