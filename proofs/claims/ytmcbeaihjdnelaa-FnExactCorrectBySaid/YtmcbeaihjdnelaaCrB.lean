/- A search among numbers. No condition. -/
import Derived.Test.YtmcbeaihjdnelaaCrA
import Derived.Test.YtmcbeaihjdnelaaScw
namespace Go.Proofs.Ytmcbeaihjdnelaa
open Go Go.RowKit
set_option linter.unusedVariables false
set_option linter.unusedSimpArgs false

set_option maxRecDepth 100000 in
set_option maxHeartbeats 2000000 in
theorem c_bsFl (fid : FuncId) (caps : Array Value) (hE : ∀ args w, (callFunc fid args).run Try.prog w = .ok (.enter fid args) w) (tv : Nat) (cf : Nat → Int) (A : Option Addr) (n c : Nat) (vv : Nat → Nat) (w : World)
    (hcell : ∀ W, Stays w W → ∀ k, k < n → ∃ ad, A = some ad ∧ W.cell? (ad.add k) = some (.float .f32 (vv k)))
    (hcl : ∀ W, Stays w W → ∀ k, k < n → Calls Try.prog fid (#[.float .f32 (vv k), .float .f32 tv] ++ caps) W fun e w' => e = .returned (.int .i64 (cf k)) ∧ Stays W w')
    (hmono : ∀ a b, a ≤ b → b < n → cf b < 0 → cf a < 0) (hn : n ≤ 1048576) :
    Calls Try.prog 80 #[.slice A n c, .float .f32 tv, .func (Fn.func fid) #[] caps] w fun e w' => ∃ i, Parts cf n i ∧ e = .returned (.tuple #[.int .i64 (i : Nat), .bool (decide (i < n) && decide (cf i = 0))]) ∧ Stays w w' := by
  have HE := Lib.hid hE
  have HC := Lib.hid hcell
  have HF := Lib.hid hcl
  have HM := Lib.hid hmono
  clear hE hcell hcl hmono
  go_enter Try.func80, Try.ntmps80
  go_wp2
  go_loopw [9, 10] (fun s9 s10 wr => ∃ lo hi : Nat, s9 = .int .i64 lo ∧ s10 = .int .i64 hi ∧ lo ≤ hi ∧ hi ≤ n ∧ Hid (Stays w wr) ∧ Hid ((∀ t, t < lo → cf t < 0) ∧ (∀ t, hi ≤ t → t < n → 0 ≤ cf t))) (fun s9 s10 _ => (intOf s10).toNat - (intOf s9).toNat)
  case atStart => exact ⟨0, n, rfl, rfl, Nat.zero_le _, Nat.le_refl _, Lib.hid (Stays.refl _), Lib.hid ⟨fun t ht => absurd ht (Nat.not_lt_zero _), fun t h1 h2 => by omega⟩⟩
  case round =>
    obtain ⟨lo, hi, rfl, rfl, hlh, hin, hs, I⟩ := hrel
    by_cases hlt : lo < hi
    · obtain ⟨ad, rfl, hc⟩ := HC.out wr hs.out ((lo + hi) / 2) (by omega)
      have hcall := HF.out wr hs.out ((lo + hi) / 2) (by omega)
      generalize hcm : cf ((lo + hi) / 2) = cm at hcall
      have CM := Lib.hid hcm
      clear hcm
      generalize vv ((lo + hi) / 2) = y at hcall hc
      have hlt' : (lo : Int) < (hi : Int) := by omega
      by_cases hneg : cm < 0
      · go_wp2_with fail
        rw [HE.out]
        refine hcall.mono ?_
        rintro e w' ⟨rfl, hw'⟩
        have hs2 := Lib.hid (hs.out.trans hw')
        clear hw' hc
        go_wp2
        go_roundw
        case rel =>
          exact ⟨(lo + hi) / 2 + 1, hi, by go_num, rfl, by omega, hin, hs2, Lib.hid ⟨fun t ht => HM.out t ((lo + hi) / 2) (by omega) (by omega) (by rw [CM.out]; exact hneg), I.out.2⟩⟩
        case measure => simp [intOf]; omega
      · go_wp2_with fail
        rw [HE.out]
        refine hcall.mono ?_
        rintro e w' ⟨rfl, hw'⟩
        have hs2 := Lib.hid (hs.out.trans hw')
        clear hw' hc
        go_wp2
        go_roundw
        case rel =>
          exact ⟨lo, (lo + hi) / 2, rfl, by go_num, by omega, by omega, hs2, Lib.hid ⟨I.out.1, fun t ht htn => Int.not_lt.1 fun h => by have := HM.out ((lo + hi) / 2) t ht htn h; rw [CM.out] at this; omega⟩⟩
        case measure => simp [intOf]; omega
    · obtain rfl : hi = lo := by omega
      have P := Lib.hid (show Parts cf n hi from ⟨hin, I.out.1, I.out.2⟩)
      by_cases hn2 : hi < n
      · obtain ⟨ad, rfl, hc⟩ := HC.out wr hs.out hi hn2
        have hcall := HF.out wr hs.out hi hn2
        have hn2' : (hi : Int) < (n : Int) := by omega
        generalize hcm : cf hi = cm at hcall
        generalize vv hi = y at hcall hc
        have hfin : (decide (hi < n) && decide (cf hi = 0)) = decide (cm = 0) := by rw [hcm, decide_eq_true hn2]; rfl
        replace hfin := Lib.hid hfin
        clear hcm
        by_cases hz : cm = 0
        · go_wp2_with fail
          rw [HE.out]
          refine hcall.mono ?_
          rintro e w' ⟨rfl, hw'⟩
          have hs2 := Lib.hid (hs.out.trans hw')
          clear hw' hc
          go_wp2
          go_ret2
          exact ⟨hi, P.out, by rw [hfin.out, decide_eq_true hz]; rfl, hs2.out⟩
        · have hz' : (cm == 0) = false := beq_eq_false_iff_ne.2 hz
          go_wp2_with fail
          rw [HE.out]
          refine hcall.mono ?_
          rintro e w' ⟨rfl, hw'⟩
          have hs2 := Lib.hid (hs.out.trans hw')
          clear hw' hc
          go_wp2
          go_ret2
          exact ⟨hi, P.out, by rw [hfin.out, decide_eq_false hz]; rfl, hs2.out⟩
      · have hn2' : ¬ (hi : Int) < (n : Int) := by omega
        go_wp2
        go_ret2
        exact ⟨hi, P.out, by rw [decide_eq_false hn2]; rfl, hs.out⟩
end Go.Proofs.Ytmcbeaihjdnelaa
