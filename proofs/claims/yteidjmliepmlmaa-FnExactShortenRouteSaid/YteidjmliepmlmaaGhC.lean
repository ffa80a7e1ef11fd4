/- Routes: whether one is valid, as the program says it. No condition. -/
import Derived.Test.YteidjmliepmlmaaGhB
import Derived.Test.YteidjmliepmlmaaGv
namespace Go.Proofs.Yteidjmliepmlmaa
open Go Go.RowKit
set_option linter.unusedVariables false
set_option linter.unusedSimpArgs false

def sx (r : List NV) : Int := (r.getD 0 (.i 0)).gi
def sy (r : List NV) : Int := (r.getD 1 (.i 0)).gi
def InS (rs : List (List NV)) : Prop := ∀ (i : Nat) (r : List NV), rs[i]? = some r → In16 (sx r) ∧ In16 (sy r)

theorem sp_cells {c0 c1 : Value} {r : List NV} (h : KMs KSpot [c0, c1] r) : c0 = .int .i16 (sx r) ∧ c1 = .int .i16 (sy r) := by
  have hr := KMs_rlen h
  match r, hr, h with
  | [n0, n1], _, ⟨h0, h1, _⟩ => exact ⟨h0, h1⟩

def stepB (a b : Int) (xs : List Int) (rs : List (List NV)) (k : Nat) : Prop := ∀ p q, rs[k]? = some p → rs[k + 1]? = some q → leadB a b xs (sx p) (sy p) (sx q) (sy q) = true

def headB (a b : Int) (xs : List Int) : List (List NV) → Bool
  | [] => false
  | r :: _ => freeB a b xs (sx r) (sy r)

open Classical in
noncomputable def routeB (a b : Int) (xs : List Int) (rs : List (List NV)) : Bool := headB a b xs rs && decide (∀ k, stepB a b xs rs k)

theorem routeB_head {a b : Int} {xs : List Int} {rs : List (List NV)} (h : headB a b xs rs = false) : routeB a b xs rs = false := by
  unfold routeB
  rw [h]; rfl
theorem routeB_bad {a b : Int} {xs : List Int} {rs : List (List NV)} {k : Nat} (h : ¬ stepB a b xs rs k) : routeB a b xs rs = false := by
  unfold routeB
  rw [@decide_eq_false _ (Classical.propDecidable _) fun g => h (g k), Bool.and_false]
theorem routeB_end {a b : Int} {xs : List Int} {rs : List (List NV)} {k : Nat} (h0 : headB a b xs rs = true) (hk : rs.length ≤ k + 1) (h : ∀ j, j < k → stepB a b xs rs j) : routeB a b xs rs = true := by
  unfold routeB
  rw [h0, @decide_eq_true _ (Classical.propDecidable _) fun j => ?_]
  · rfl
  · by_cases hj : j < k
    · exact h j hj
    · intro p q hp hq
      have := (List.getElem?_eq_some_iff.1 hq).1
      omega
theorem stepB_at {a b : Int} {xs : List Int} {rs : List (List NV)} {k : Nat} {p q : List NV} (hp : rs[k]? = some p) (hq : rs[k + 1]? = some q) : stepB a b xs rs k ↔ leadB a b xs (sx p) (sy p) (sx q) (sy q) = true :=
  ⟨fun h => h p q hp hq, fun h p' q' hp' hq' => by
    rw [hp] at hp'
    rw [hq] at hq'
    cases hp'
    cases hq'
    exact h⟩

theorem spot_tail {ad : Addr} {n c : Nat} (h1 : 1 ≤ n) (hc : n ≤ c) : ∃ A', (∀ w, (Instr.slice 42 (.slice (some ad) n c) (some (.int .i64 1)) none none).run Try.prog w = .ok (.slice A' (n - 1) (c - 1)) w) ∧ (1 < n → A' = some (ad.add 2)) := by
  have hsz : ∀ w : World, (sizeOf (Try.prog.elem 42)).run Try.prog w = .ok 2 w := fun w => by kernel_rfl
  have hel : Try.prog.elem 42 = 32 := by kernel_rfl
  refine ⟨if c = 1 then some ad else some (ad.add 2), fun w => ?_, fun h => if_neg (by omega)⟩
  rw [run_slice_l w 42 (some ad) n c (by rw [hel]; exact Try.underlying42) .i64 1 (by decide) (by omega), hsz]
  by_cases h : c = 1
  · subst h; rfl
  · simp [Result.andThen, sliced, h]

theorem next_spot (a : Addr) (k : Nat) : a.add ((k + 1) * 2) = ⟨a.block, a.off + 2 + k * 2, none⟩ := by
  unfold Addr.add
  split
  · rename_i h
    omega
  · congr 1
    omega
end Go.Proofs.Yteidjmliepmlmaa
