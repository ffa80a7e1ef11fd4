/- A search among marks. No condition. -/
import Derived.Test.YtmcbeaihjdnelaaScw
import Derived.Test.YtmcbeaihjdnelaaMkA
namespace Go.Proofs.Ytmcbeaihjdnelaa
open Go Go.RowKit
set_option linter.unusedVariables false
set_option linter.unusedSimpArgs false

/-- What a search finds. -/
def Parts (cf : Nat → Int) (n i : Nat) : Prop := i ≤ n ∧ (∀ t, t < i → cf t < 0) ∧ (∀ t, i ≤ t → t < n → 0 ≤ cf t)
/-- A mark with the words of its numbers. -/
structure MkW where
  m : Mk
  a : Nat
  b : Nat
  c : Nat
  d : Nat
def MkW.val (x : MkW) : Value := .agg #[.int .i32 x.m.x, .int .i32 x.m.y, .int .i32 x.m.z, .float .f32 x.a, .float .f32 x.b, .float .f32 x.c, .float .f32 x.d, .int .i64 x.m.s, .int .i64 x.m.l]
def MkW.at_ (x : MkW) (W : World) (p : Addr) : Prop := W.cell? p = some (.int .i32 x.m.x) ∧ W.cell? ⟨p.block, p.off + 1, none⟩ = some (.int .i32 x.m.y) ∧ W.cell? ⟨p.block, p.off + 2, none⟩ = some (.int .i32 x.m.z) ∧ W.cell? ⟨p.block, p.off + 3, none⟩ = some (.float .f32 x.a) ∧ W.cell? ⟨p.block, p.off + 4, none⟩ = some (.float .f32 x.b) ∧ W.cell? ⟨p.block, p.off + 5, none⟩ = some (.float .f32 x.c) ∧ W.cell? ⟨p.block, p.off + 6, none⟩ = some (.float .f32 x.d) ∧ W.cell? ⟨p.block, p.off + 7, none⟩ = some (.int .i64 x.m.s) ∧ W.cell? ⟨p.block, p.off + 8, none⟩ = some (.int .i64 x.m.l)

def bsS (fid : FuncId) (A0 : Array Value) (i : Int) (f : FuncId) (args : Array Value) (v : Value) : Prop := f = fid → args = A0 → v = .int .i64 i

set_option maxRecDepth 100000 in
set_option maxHeartbeats 4000000 in
theorem c_bsMk (fid : FuncId) (caps : Array Value) (hE : ∀ args w, (callFunc fid args).run Try.prog w = .ok (.enter fid args) w) (px py pz : Int) (cf : Nat → Int) (A : Option Addr) (n c : Nat) (vv : Nat → MkW) (w : World)
    (hcell : ∀ W, Stays w W → ∀ k, k < n → ∃ ad, A = some ad ∧ (vv k).at_ W (ad.add (k * 9)))
    (hcl : ∀ W, Stays w W → ∀ k, k < n → Calls Try.prog fid (#[(vv k).val, .agg #[.int .i32 px, .int .i32 py, .int .i32 pz]] ++ caps) W fun e w' => e = .returned (.int .i64 (cf k)) ∧ Stays W w')
    (hmono : ∀ a b, a ≤ b → b < n → cf b < 0 → cf a < 0) (hn : n ≤ 1048576) :
    Calls Try.prog 71 #[.slice A n c, .agg #[.int .i32 px, .int .i32 py, .int .i32 pz], .func (Fn.func fid) #[] caps] w fun e w' => ∃ i, Parts cf n i ∧ e = .returned (.tuple #[.int .i64 (i : Nat), .bool (decide (i < n) && decide (cf i = 0))]) ∧ Stays w w' := by
  have u0 := heap_alloc_new w (.cells #[.int .i32 px, .int .i32 py, .int .i32 pz] 43)
  have hst : Stays w (w.alloc (.cells #[.int .i32 px, .int .i32 py, .int .i32 pz] 43)) := by (repeat (first | exact Stays.refl _ | (with_reducible refine Stays.drewN ?_ _) | (with_reducible refine Stays.alloc ?_ _) | (with_reducible refine Stays.drew ?_) | (refine Stays.trans ?_ ‹Stays _ _›)))
  have HB := Lib.hid fun W (hW : Stays (w.alloc (.cells #[.int .i32 px, .int .i32 py, .int .i32 pz] 43)) W) => And.intro (And.intro (row_of hW u0 0) (And.intro (row_of hW u0 1) (row_of hW u0 2))) (hst.trans hW)
  have HE := Lib.hid hE
  have HC := Lib.hid hcell
  have HF := Lib.hid hcl
  have HM := Lib.hid hmono
  clear hE hcell hcl hmono u0 hst
  go_enter Try.func71, Try.ntmps71
  go_wp2
  generalize (w.alloc (.cells #[.int .i32 px, .int .i32 py, .int .i32 pz] 43)) = W0 at HB ⊢
  go_loopw [9, 10] (fun s9 s10 wr => ∃ lo hi : Nat, s9 = .int .i64 lo ∧ s10 = .int .i64 hi ∧ lo ≤ hi ∧ hi ≤ n ∧ Hid (Stays W0 wr) ∧ Hid ((∀ t, t < lo → cf t < 0) ∧ (∀ t, hi ≤ t → t < n → 0 ≤ cf t))) (fun s9 s10 _ => (intOf s10).toNat - (intOf s9).toNat)
  case atStart => exact ⟨0, n, rfl, rfl, Nat.zero_le _, Nat.le_refl _, Lib.hid (Stays.refl _), Lib.hid ⟨fun t ht => absurd ht (Nat.not_lt_zero _), fun t h1 h2 => by omega⟩⟩
  case round =>
    obtain ⟨lo, hi, rfl, rfl, hlh, hin, hs, I⟩ := hrel
    by_cases hlt : lo < hi
    · obtain ⟨ad, rfl, _⟩ := HC.out w (Stays.refl _) ((lo + hi) / 2) (by omega)
      have hc0 := fun W (hW : Stays wr W) => And.intro (HB.out W (hs.out.trans hW)).1 (show (vv ((lo + hi) / 2)).at_ W (ad.add ((lo + hi) / 2 * 9)) from by
        obtain ⟨ad', e, h⟩ := HC.out W (HB.out W (hs.out.trans hW)).2 ((lo + hi) / 2) (by omega)
        cases e
        exact h)
      have hcall := Lib.hid fun W (hW : Stays wr W) => HF.out W (HB.out W (hs.out.trans hW)).2 ((lo + hi) / 2) (by omega)
      generalize hcm : cf ((lo + hi) / 2) = cm at hcall
      have CM := Lib.hid hcm
      clear hcm
      generalize vv ((lo + hi) / 2) = y at hcall hc0
      have hmid : (lo + hi) / 2 < n := by omega
      have hm1 : ((lo : Int) + (hi : Int)) / 2 < (n : Int) := by omega
      have hm2 : (((lo : Int) + (hi : Int)) / 2).toNat = (lo + hi) / 2 := by omega
      have hm4 : ¬ ((lo : Int) + (hi : Int)) / 2 < 0 := by omega
      have hm5 : (0 : Int) ≤ ((lo : Int) + (hi : Int)) / 2 := by omega
      have hlt' : (lo : Int) < (hi : Int) := by omega
      have hmL := Lib.hid (show lo ≤ (lo + hi) / 2 ∧ (lo + hi) / 2 < hi from by omega)
      go_upto_region 5 with fail
      have hcells := fun W (hW : Stays wr W) => hc0 W hW
      unfold MkW.at_ at hcells
      refine wp_region_soft_tail 7 (Stays.refl _) (bsS fid (#[y.val, .agg #[.int .i32 px, .int .i32 py, .int .i32 pz]] ++ caps) cm) [] (by kernel_rfl) (by kernel_rfl) (fun _ h => by cases h) ?_
      simp only [List.take_succ_cons, List.take_zero, List.drop_succ_cons, List.drop_zero]
      repeat ((with_reducible apply soft_detG); (case hwa => rfl); (case hA => rfl); (case h => (intro w1 hw1; have hc := hcells w1 hw1; go_simp; exact rfl)); go_simp)
      refine soft_callW (fid := fid) (A0 := #[y.val, .agg #[.int .i32 px, .int .i32 py, .int .i32 pz]] ++ caps) (V := fun v => v = .int .i64 cm) (by rfl) rfl ?h (fun W hW => (hcall.out W hW).mono fun e w' ⟨he, hw⟩ => ⟨_, he, rfl, hw⟩) (fun v hv => fun _ _ => hv) (fun v hv => hv rfl rfl) ?_
      case h => (intro w1 hw1; have hc := hcells w1 hw1; go_simp; rw [HE.out]; rfl)
      rintro v rfl
      go_simp
      refine soft_nil ?_
      rintro w5 ⟨hw5, _⟩
      replace hs := Lib.hid (hs.out.trans hw5)
      clear hw5 hcells hc0
      by_cases hneg : cm < 0
      · go_wp2
        go_roundw
        case rel =>
          exact ⟨(lo + hi) / 2 + 1, hi, by go_num, rfl, by have := hmL.out; omega, hin, hs, Lib.hid ⟨fun t ht => HM.out t ((lo + hi) / 2) (by omega) hmid (by rw [CM.out]; exact hneg), I.out.2⟩⟩
        case measure => have := hmL.out; simp [intOf]; omega
      · go_wp2
        go_roundw
        case rel =>
          exact ⟨lo, (lo + hi) / 2, rfl, by go_num, by have := hmL.out; omega, by have := hmL.out; omega, hs, Lib.hid ⟨I.out.1, fun t ht htn => Int.not_lt.1 fun h => by have := HM.out ((lo + hi) / 2) t ht htn h; rw [CM.out] at this; omega⟩⟩
        case measure => have := hmL.out; simp [intOf]; omega
    · obtain rfl : hi = lo := by omega
      have P := Lib.hid (show Parts cf n hi from ⟨hin, I.out.1, I.out.2⟩)
      by_cases hn2 : hi < n
      · obtain ⟨ad, rfl, _⟩ := HC.out w (Stays.refl _) hi hn2
        have hc0 := fun W (hW : Stays wr W) => And.intro (HB.out W (hs.out.trans hW)).1 (show (vv hi).at_ W (ad.add (hi * 9)) from by
          obtain ⟨ad', e, h⟩ := HC.out W (HB.out W (hs.out.trans hW)).2 hi hn2
          cases e
          exact h)
        have hcall := Lib.hid fun W (hW : Stays wr W) => HF.out W (HB.out W (hs.out.trans hW)).2 hi hn2
        have hn2' : (hi : Int) < (n : Int) := by omega
        generalize hcm : cf hi = cm at hcall
        generalize vv hi = y at hcall hc0
        have hfin : (decide (hi < n) && decide (cf hi = 0)) = decide (cm = 0) := by rw [hcm, decide_eq_true hn2]; rfl
        replace hfin := Lib.hid hfin
        clear hcm
        have hz3 : decide (cm = 0) = (cm == 0) := by by_cases g : cm = 0 <;> simp [g]
        replace hfin := Lib.hid (hfin.out.trans hz3)
        clear hz3
        cases hz2 : (cm == 0)
        all_goals
          go_upto_region 8 with fail
          have hcells := fun W (hW : Stays wr W) => hc0 W hW
          unfold MkW.at_ at hcells
          refine wp_region_soft_tail 15 (Stays.refl _) (bsS fid (#[y.val, .agg #[.int .i32 px, .int .i32 py, .int .i32 pz]] ++ caps) cm) [] (by kernel_rfl) (by kernel_rfl) (fun _ h => by cases h) ?_
          simp only [List.take_succ_cons, List.take_zero, List.drop_succ_cons, List.drop_zero]
          repeat ((with_reducible apply soft_detG); (case hwa => rfl); (case hA => rfl); (case h => (intro w1 hw1; have hc := hcells w1 hw1; go_simp; exact rfl)); go_simp)
          refine soft_callW (fid := fid) (A0 := #[y.val, .agg #[.int .i32 px, .int .i32 py, .int .i32 pz]] ++ caps) (V := fun v => v = .int .i64 cm) (by rfl) rfl ?h (fun W hW => (hcall.out W hW).mono fun e w' ⟨he, hw⟩ => ⟨_, he, rfl, hw⟩) (fun v hv => fun _ _ => hv) (fun v hv => hv rfl rfl) ?_
          case h => (intro w1 hw1; have hc := hcells w1 hw1; go_simp; rw [HE.out]; rfl)
          rintro v rfl
          go_simp
          repeat ((with_reducible apply soft_detG); (case hwa => rfl); (case hA => rfl); (case h => (intro w1 hw1; have hc := hcells w1 hw1; go_simp; exact rfl)); go_simp)
          refine soft_nil ?_
          rintro w5 ⟨hw5, _⟩
          replace hs := Lib.hid ((HB.out _ (hs.out.trans hw5)).2)
          clear hw5 hcells hc0
          go_wp2
          go_ret2
          exact ⟨hi, P.out, by rw [hfin.out, hz2]; rfl, hs.out⟩
      · have hn2' : ¬ (hi : Int) < (n : Int) := by omega
        have hcells := fun W (hW : Stays wr W) => (HB.out W (hs.out.trans hW)).1
        go_upto_region 8 with fail
        refine wp_region_soft_tail 15 (Stays.refl _) (fun _ _ _ => False) [] (by kernel_rfl) (by kernel_rfl) (fun _ h => by cases h) ?_
        simp only [List.take_succ_cons, List.take_zero, List.drop_succ_cons, List.drop_zero]
        repeat (first | ((with_reducible apply soft_detG); (case hwa => rfl); (case hA => rfl); (case h => (intro w1 hw1; have hc := hcells w1 hw1; go_simp; exact rfl)); go_simp) | ((with_reducible apply soft_skipG); (case hwa => rfl); (case hA => rfl); go_simp))
        refine soft_nil ?_
        rintro w5 ⟨hw5, _⟩
        replace hs := Lib.hid ((HB.out _ (hs.out.trans hw5)).2)
        clear hw5 hcells
        go_wp2
        go_ret2
        exact ⟨hi, P.out, by rw [decide_eq_false hn2]; rfl, hs.out⟩
end Go.Proofs.Ytmcbeaihjdnelaa
