/- The index of a cell among marks, as the document has it. No condition. -/
import Derived.Test.YtmcbeaihjdnelaaMiB
namespace Go.Proofs.Ytmcbeaihjdnelaa
open Go Go.RowKit
set_option linter.unusedVariables false
set_option linter.unusedSimpArgs false

set_option maxRecDepth 100000 in
theorem pl_eql (m n o m' n' o' : Int) (w : World) : (binOp BinOp.eql 43 (.agg #[.int .i32 m, .int .i32 n, .int .i32 o]) (.agg #[.int .i32 m', .int .i32 n', .int .i32 o'])).run Try.prog w = .ok (.bool (decide (m = m') && (decide (n = n') && decide (o = o')))) w := by
  obtain ⟨i0, hi0⟩ : ∃ i, Try.prog.info? 21 = some i := Option.isSome_iff_exists.1 (by kernel_rfl)
  have hC : Try.prog.cellsOf 21 = 1 := by kernel_rfl
  rw [run_eql_struct, run_equalIn_array w 9999 _ _ Try.underlying43 hi0, hC]
  have p0 : ∀ (a b c : Int) (w : World), (part 21 #[.int .i32 a, .int .i32 b, .int .i32 c] 0).run Try.prog w = .ok (.int .i32 a) w := fun a b c w => by kernel_rfl
  have p1 : ∀ (a b c : Int) (w : World), (part 21 #[.int .i32 a, .int .i32 b, .int .i32 c] 1).run Try.prog w = .ok (.int .i32 b) w := fun a b c w => by kernel_rfl
  have p2 : ∀ (a b c : Int) (w : World), (part 21 #[.int .i32 a, .int .i32 b, .int .i32 c] 2).run Try.prog w = .ok (.int .i32 c) w := fun a b c w => by kernel_rfl
  have q0' : ∀ (d : Nat) (m n : Int) (w : World), (Op.equalIn (d + 1) 21 (.int .i32 m) (.int .i32 n)).run Try.prog w = .ok (decide (m = n)) w := fun d m n w => by
    unfold Op.equalIn
    simp only [Sem.run_bind, run_underlying Try.underlying21, Result.andThen_ok]
    by_cases h : m = n <;> simp [h, Result.andThen]
  have q0 : ∀ (m n : Int) (w : World), (Op.equalIn 9999 21 (.int .i32 m) (.int .i32 n)).run Try.prog w = .ok (decide (m = n)) w := fun m n w => q0' 9998 m n w
  simp [Op.eqItems, List.range, List.range.loop, p0, p1, p2, q0, Result.andThen]
  by_cases h1 : m = m' <;> by_cases h2 : n = n' <;> by_cases h3 : o = o' <;> simp [h1, h2, h3]

def fiS (F : FuncId) (A0 : Array Value) (i : Int) (f : FuncId) (args : Array Value) (v : Value) : Prop := f = F → args = A0 → v = .int .i64 i

set_option maxRecDepth 100000 in
set_option maxHeartbeats 4000000 in
theorem c_l05Find (px py pz : Int) (A : Option Addr) (n c : Nat) (vv : Nat → MkW) (w : World)
    (hcell : ∀ W, Stays w W → ∀ k, k < n → ∃ ad, A = some ad ∧ (vv k).at_ W (ad.add (k * 9))) (hn : n ≤ 1048576) :
    Calls Try.prog 68 #[.slice A n c, .agg #[.int .i32 px, .int .i32 py, .int .i32 pz]] w fun e w' => ∃ i, (i ≤ n ∧ (∀ t, t < i → cmp3 (vv t).m.x (vv t).m.y (vv t).m.z px py pz < 0) ∧ (i < n → ¬ cmp3 (vv i).m.x (vv i).m.y (vv i).m.z px py pz < 0)) ∧ e = .returned (.tuple #[.int .i64 (i : Nat), .bool (decide (i < n) && decide (cmp3 (vv i).m.x (vv i).m.y (vv i).m.z px py pz = 0))]) ∧ Stays w w' := by
  have u0 := heap_alloc_new w (.cells #[.int .i32 px, .int .i32 py, .int .i32 pz] 43)
  have hst : Stays w (w.alloc (.cells #[.int .i32 px, .int .i32 py, .int .i32 pz] 43)) := by (repeat (first | exact Stays.refl _ | (with_reducible refine Stays.drewN ?_ _) | (with_reducible refine Stays.alloc ?_ _) | (with_reducible refine Stays.drew ?_) | (refine Stays.trans ?_ ‹Stays _ _›)))
  have HB := Lib.hid fun W (hW : Stays (w.alloc (.cells #[.int .i32 px, .int .i32 py, .int .i32 pz] 43)) W) => And.intro (And.intro (row_of hW u0 0) (And.intro (row_of hW u0 1) (row_of hW u0 2))) (hst.trans hW)
  have HC := Lib.hid hcell
  clear hcell u0 hst
  go_enter Try.func68, Try.ntmps68
  go_wp2
  generalize (w.alloc (.cells #[.int .i32 px, .int .i32 py, .int .i32 pz] 43)) = W0 at HB ⊢
  go_loopw [6] (fun iv wr => ∃ k : Nat, k ≤ n ∧ iv = .int .i64 k ∧ Hid (Stays W0 wr) ∧ Hid (∀ t, t < k → cmp3 (vv t).m.x (vv t).m.y (vv t).m.z px py pz < 0)) (fun iv _ => n - (intOf iv).toNat)
  case atStart => exact ⟨0, Nat.zero_le _, rfl, Lib.hid (Stays.refl _), Lib.hid fun t ht => absurd ht (Nat.not_lt_zero _)⟩
  case round =>
    obtain ⟨k, hk, rfl, hs, I⟩ := hrel
    by_cases hlt : k < n
    · obtain ⟨ad, rfl, _⟩ := HC.out w (Stays.refl _) k hlt
      have hc0 := fun W (hW : Stays wr W) => And.intro (HB.out W (hs.out.trans hW)).1 (show (vv k).at_ W (ad.add (k * 9)) from by
        obtain ⟨ad', e, h⟩ := HC.out W (HB.out W (hs.out.trans hW)).2 k hlt
        cases e
        exact h)
      have hcall := Lib.hid fun W => c_l05Compare (vv k).m.x (vv k).m.y (vv k).m.z px py pz W
      have hE := fun W => pl_eql (vv k).m.x (vv k).m.y (vv k).m.z px py pz W
      have hEb : (decide ((vv k).m.x = px) && (decide ((vv k).m.y = py) && decide ((vv k).m.z = pz))) = decide (cmp3 (vv k).m.x (vv k).m.y (vv k).m.z px py pz = 0) := by
        by_cases g : cmp3 (vv k).m.x (vv k).m.y (vv k).m.z px py pz = 0
        · obtain ⟨g1, g2, g3⟩ := cmp3_zero.1 g
          rw [decide_eq_true g, decide_eq_true g1, decide_eq_true g2, decide_eq_true g3]; rfl
        · rw [decide_eq_false g]
          refine Bool.eq_false_iff.2 fun h => g (cmp3_zero.2 ?_)
          simpa using h
      rw [hEb] at hE
      generalize hcm : cmp3 (vv k).m.x (vv k).m.y (vv k).m.z px py pz = cm at hcall hE
      have CM := Lib.hid hcm
      have hfin : decide (cm = 0) = (decide (k < n) && decide (cmp3 (vv k).m.x (vv k).m.y (vv k).m.z px py pz = 0)) := by rw [hcm, decide_eq_true hlt]; rfl
      replace hfin := Lib.hid hfin
      clear hcm hEb
      generalize decide (cm = 0) = bz at hE hfin
      generalize vv k = y at hcall hc0 hE
      have hlt' : (k : Int) < (n : Int) := by omega
      have hk5 : IntKind.i64.wrap ((k : Int) + 1) = (k : Int) + 1 := IntWalk.i64_in _ (by omega)
      go_upto_region 2 with fail
      have hcells := fun W (hW : Stays wr W) => hc0 W hW
      unfold MkW.at_ at hcells
      refine wp_region_soft_tail 13 (Stays.refl _) (fiS 117 #[.agg #[.int .i32 y.m.x, .int .i32 y.m.y, .int .i32 y.m.z], .agg #[.int .i32 px, .int .i32 py, .int .i32 pz]] cm) [] (by kernel_rfl) (by kernel_rfl) (fun _ h => by cases h) ?_
      simp only [List.take_succ_cons, List.take_zero, List.drop_succ_cons, List.drop_zero]
      repeat ((with_reducible apply soft_detG); (case hwa => rfl); (case hA => rfl); (case h => (intro w1 hw1; have hc := hcells w1 hw1; go_simp; exact rfl)); go_simp)
      refine soft_callW (A0 := #[.agg #[.int .i32 y.m.x, .int .i32 y.m.y, .int .i32 y.m.z], .agg #[.int .i32 px, .int .i32 py, .int .i32 pz]]) (V := fun v => v = .int .i64 cm) (by rfl) rfl ?h (fun W hW => (hcall.out W).mono fun e w' ⟨he, hw⟩ => ⟨_, he, rfl, hw⟩) (fun v hv => fun _ _ => hv) (fun v hv => hv rfl rfl) ?_
      case h => (intro w1 hw1; have hc := hcells w1 hw1; go_simp; try exact ⟨rfl, rfl⟩)
      rintro v rfl
      go_simp
      repeat ((with_reducible apply soft_detG); (case hwa => rfl); (case hA => rfl); (case h => (intro w1 hw1; have hc := hcells w1 hw1; go_simp; exact rfl)); go_simp)
      refine soft_nil ?_
      rintro w5 ⟨hw5, _⟩
      have hc1 := fun W (hW : Stays w5 W) => hc0 W (hw5.trans hW)
      replace hs := Lib.hid (hs.out.trans hw5)
      clear hw5 hcells hc0 hcall
      by_cases hneg : cm < 0
      · clear hE hfin hc1
        go_wp2
        go_roundw
        case rel =>
          exact ⟨k + 1, by omega, by go_num, hs, Lib.hid fun t ht => by
            by_cases e : t = k
            · rw [e, CM.out]; exact hneg
            · exact I.out t (by omega)⟩
        case measure => simp [intOf]; omega
      · go_upto_region 4 with fail
        have hcells := fun W (hW : Stays w5 W) => hc1 W hW
        unfold MkW.at_ at hcells
        refine wp_region_soft_tail 15 (Stays.refl _) (fun _ _ _ => False) [] (by kernel_rfl) (by kernel_rfl) (fun _ h => by cases h) ?_
        simp only [List.take_succ_cons, List.take_zero, List.drop_succ_cons, List.drop_zero]
        repeat ((with_reducible apply soft_detG); (case hwa => rfl); (case hA => rfl); (case h => (intro w1 hw1; have hc := hcells w1 hw1; go_simp; exact rfl)); go_simp)
        refine soft_nil ?_
        rintro w6 ⟨hw6, _⟩
        replace hs := Lib.hid ((HB.out _ (hs.out.trans hw6)).2)
        clear hw6 hcells hc1 hE
        go_wp2
        go_ret2
        exact ⟨k, ⟨hk, I.out, fun _ => by rw [CM.out]; exact hneg⟩, by rw [← hfin.out]; rfl, hs.out⟩
    · have hlt' : ¬ (k : Int) < (n : Int) := by omega
      have hcells := fun W (hW : Stays wr W) => (HB.out W (hs.out.trans hW)).1
      go_upto_region 2 with fail
      refine wp_region_soft_tail 13 (Stays.refl _) (fun _ _ _ => False) [] (by kernel_rfl) (by kernel_rfl) (fun _ h => by cases h) ?_
      simp only [List.take_succ_cons, List.take_zero, List.drop_succ_cons, List.drop_zero]
      repeat (first | ((with_reducible apply soft_detG); (case hwa => rfl); (case hA => rfl); (case h => (intro w1 hw1; have hc := hcells w1 hw1; go_simp; exact rfl)); go_simp) | ((with_reducible apply soft_skipG); (case hwa => rfl); (case hA => rfl); go_simp))
      refine soft_nil ?_
      rintro w5 ⟨hw5, _⟩
      replace hs := Lib.hid (hs.out.trans hw5)
      clear hw5 hcells
      have hcells := fun W (hW : Stays w5 W) => (HB.out W (hs.out.trans hW)).1
      go_upto_region 4 with fail
      refine wp_region_soft_tail 15 (Stays.refl _) (fun _ _ _ => False) [] (by kernel_rfl) (by kernel_rfl) (fun _ h => by cases h) ?_
      simp only [List.take_succ_cons, List.take_zero, List.drop_succ_cons, List.drop_zero]
      repeat (first | ((with_reducible apply soft_detG); (case hwa => rfl); (case hA => rfl); (case h => (intro w1 hw1; have hc := hcells w1 hw1; go_simp; exact rfl)); go_simp) | ((with_reducible apply soft_skipG); (case hwa => rfl); (case hA => rfl); go_simp))
      refine soft_nil ?_
      rintro w6 ⟨hw6, _⟩
      replace hs := Lib.hid ((HB.out _ (hs.out.trans hw6)).2)
      clear hw6 hcells
      go_wp2
      go_ret2
      exact ⟨k, ⟨hk, I.out, fun h => absurd h hlt⟩, by rw [decide_eq_false hlt]; rfl, hs.out⟩
end Go.Proofs.Ytmcbeaihjdnelaa
