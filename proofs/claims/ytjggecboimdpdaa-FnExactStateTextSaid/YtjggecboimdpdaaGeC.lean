/- Where the cost of a spot is kept, as the program says it; what it makes, or the code of the failure. No condition. -/
import Derived.Test.YtjggecboimdpdaaGeB
import Derived.Defers
import Derived.Recover
import Derived.WalkSpells
namespace Go.Proofs.Ytjggecboimdpdaa
open Go Go.RowKit
set_option linter.unusedVariables false
set_option linter.unusedSimpArgs false

theorem row_slice {ad : Addr} {n c l s : Nat} (hs : 1 ≤ s) (h1 : l + s ≤ n) (hc : n ≤ c) (w : World) : (Instr.slice 51 (.slice (some ad) n c) (some (.int .i64 (l : Nat))) (some (.int .i64 (l + s : Nat))) (some (.int .i64 (l + s : Nat)))).run Try.prog w = .ok (.slice (some (ad.add l)) s s) w := by
  have hsz : ∀ w : World, (sizeOf (Try.prog.elem 51)).run Try.prog w = .ok 1 w := fun w => by kernel_rfl
  have hel : Try.prog.elem 51 = 5 := by kernel_rfl
  rw [run_slice_lhm w 51 (some ad) n c (by rw [hel]; exact Try.underlying51) .i64 .i64 .i64 (l : Nat) (l + s : Nat) (l + s : Nat) (by omega) (by omega) (by omega) (by omega), hsz]
  have e1 : ((l : Nat) : Int).toNat = l := by omega
  have e2 : ((l + s : Nat) : Int).toNat = l + s := by omega
  rw [e1, e2]
  have e3 : ¬ l + s = l := by omega
  have e4 : l + s - l = s := by omega
  simp [Result.andThen, sliced, e3, e4]
  intro h
  omega

set_option maxRecDepth 100000 in
theorem c_row (a b y : Int) (ad : Addr) (c n : Nat) (w : World) (ha : 1 ≤ a ∧ a ≤ 24) (hb : 1 ≤ b ∧ b ≤ 24) (hy : 0 ≤ y ∧ y ≤ b - 1) (hne : (n : Int) = a * b) (hc : n ≤ c) :
    Calls Try.prog 57 #[.agg #[.int .i64 a, .int .i64 b, .slice (some ad) n c], .int .i64 y] w fun e w' => e = .returned (.slice (some (ad.add (y * a).toNat)) a.toNat a.toNat) ∧ Stays w w' := by
  have bd := idx_bd (x := 0) ha hb (by omega) hy
  rw [Int.mul_comm b a] at bd
  have e1 : IntKind.i64.wrap (y * a) = y * a := IntWalk.i64_in _ (by omega)
  have e2 : IntKind.i64.wrap (y * a + a) = y * a + a := IntWalk.i64_in _ (by omega)
  obtain ⟨l, hl⟩ : ∃ l : Nat, y * a = l := ⟨(y * a).toNat, by omega⟩
  obtain ⟨s, hs⟩ : ∃ s : Nat, a = s := ⟨a.toNat, by omega⟩
  have hs1 : 1 ≤ s := by omega
  have hln : l + s ≤ n := by omega
  have hsl := fun W => row_slice (ad := ad) hs1 hln hc W
  have e3 : (y * a).toNat = l := by omega
  have e4 : a.toNat = s := by omega
  have e5 : ((l + s : Nat) : Int) = y * a + a := by omega
  rw [e3, e4]
  have e6 : ((l : Nat) : Int) = y * a := hl.symm
  simp only [e5, e6] at hsl
  have hst : Stays w (w.alloc (.cells #[.int .i64 a, .int .i64 b, .slice (some ad) n c] 56)) := by (repeat (first | exact Stays.refl _ | (with_reducible refine Stays.drewN ?_ _) | (with_reducible refine Stays.alloc ?_ _) | (with_reducible refine Stays.drew ?_) | (refine Stays.trans ?_ ‹Stays _ _›)))
  replace hst := Lib.hid hst
  clear ha hb hy hne hc bd hl hs hs1 hln e3 e4 e5 e6
  go_enter Try.func57, Try.ntmps57
  go_wp2
  go_ret
  exact ⟨rfl, hst.out⟩

theorem add_twice (a : Addr) (m n : Nat) : (a.add m).add n = a.add (m + n) := by
  unfold Addr.add
  by_cases h1 : m = 0
  · subst h1
    simp
  · by_cases h2 : n = 0
    · subst h2
      simp
    · simp [h1, h2, Nat.add_assoc]

end Go.Proofs.Ytjggecboimdpdaa
