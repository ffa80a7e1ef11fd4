/- Deeds: valid ones, their words, on both sides; copied. No condition. -/
import Derived.Test.YtpccnejchbachaaDoorDb
import Derived.Test.YtpccnejchbachaaDoorLa
import Derived.Test.YtpccnejchbachaaDoorGz
namespace Go.Proofs.YtpccnejchbachaaDoor
open Go Go.ChangeShapes Go.WideShapes Go.RowKit
set_option linter.unusedVariables false
set_option linter.unusedSimpArgs false

def DeedV (k a b : Int) : Value := .agg #[.int .i64 k, .int .i64 a, .int .i64 b]
def okD (k a b : Int) : Prop := (1 ≤ k ∧ k ≤ 7) ∧ (0 ≤ a ∧ a ≤ 999) ∧ (0 ≤ b ∧ b ≤ 999) ∧ (k = 2 ∨ b = 0)

set_option maxRecDepth 100000 in
set_option maxHeartbeats 4000000 in
theorem c_l09Deed (k a b : Int) (w : World) (B : Bool) (hB : B = true ↔ okD k a b) :
    Calls Tryd.prog 19 #[.agg #[.int .i64 k, .int .i64 a, .int .i64 b]] w fun e w' => e = .returned (.bool B) ∧ Stays w w' := by
  have hst : Stays w (w.alloc (.cells #[.int .i64 k, .int .i64 a, .int .i64 b] 25)) := by (repeat (first | exact Stays.refl _ | (with_reducible refine Stays.drewN ?_ _) | (with_reducible refine Stays.alloc ?_ _) | (with_reducible refine Stays.drew ?_) | (refine Stays.trans ?_ ‹Stays _ _›)))
  have hs := Lib.hid hst
  have t1 := Lib.hid fun W => c_l00In k 1 7 W
  have t2 := Lib.hid fun W => c_l00In a 0 999 W
  have t3 := Lib.hid fun W => c_l00In b 0 999 W
  by_cases h1 : 1 ≤ k ∧ k ≤ 7
  · rw [decide_eq_true h1] at t1
    by_cases h2 : 0 ≤ a ∧ a ≤ 999
    · rw [decide_eq_true h2] at t2
      by_cases h3 : 0 ≤ b ∧ b ≤ 999
      · rw [decide_eq_true h3] at t3
        by_cases h4 : k = 2
        · obtain rfl : B = true := hB.2 ⟨h1, h2, h3, .inl h4⟩
          subst h4
          clear hB h1 h2 h3 hst
          go_enter Tryd.func19, Tryd.ntmps19
          go_wp2_with (first | (with_reducible refine (t1.out _).mono ?_; rintro e w' ⟨rfl, rfl⟩) | (with_reducible refine (t2.out _).mono ?_; rintro e w' ⟨rfl, rfl⟩) | (with_reducible refine (t3.out _).mono ?_; rintro e w' ⟨rfl, rfl⟩))
          go_ret
          exact ⟨by first | rfl | exact ret_b (by simp; omega) | exact ret_b (by simp [*]), hs.out⟩
        · by_cases h5 : b = 0
          · obtain rfl : B = true := hB.2 ⟨h1, h2, h3, .inr h5⟩
            subst h5
            clear hB h1 h2 h3 hst
            go_enter Tryd.func19, Tryd.ntmps19
            go_wp2_with (first | (with_reducible refine (t1.out _).mono ?_; rintro e w' ⟨rfl, rfl⟩) | (with_reducible refine (t2.out _).mono ?_; rintro e w' ⟨rfl, rfl⟩) | (with_reducible refine (t3.out _).mono ?_; rintro e w' ⟨rfl, rfl⟩))
            go_ret
            exact ⟨by first | rfl | exact ret_b (by simp; omega) | exact ret_b (by simp [*]), hs.out⟩
          · obtain rfl : B = false := Bool.eq_false_iff.2 fun e => by have := hB.1 e; unfold okD at this; omega
            clear hB h1 h2 h3 hst
            go_enter Tryd.func19, Tryd.ntmps19
            go_wp2_with (first | (with_reducible refine (t1.out _).mono ?_; rintro e w' ⟨rfl, rfl⟩) | (with_reducible refine (t2.out _).mono ?_; rintro e w' ⟨rfl, rfl⟩) | (with_reducible refine (t3.out _).mono ?_; rintro e w' ⟨rfl, rfl⟩))
            go_ret
            exact ⟨by first | rfl | exact ret_b (by simp; omega) | exact ret_b (by simp [*]), hs.out⟩
      · rw [decide_eq_false h3] at t3
        obtain rfl : B = false := Bool.eq_false_iff.2 fun e => by have := hB.1 e; unfold okD at this; omega
        clear hB h1 h2 h3 hst
        go_enter Tryd.func19, Tryd.ntmps19
        go_wp2_with (first | (with_reducible refine (t1.out _).mono ?_; rintro e w' ⟨rfl, rfl⟩) | (with_reducible refine (t2.out _).mono ?_; rintro e w' ⟨rfl, rfl⟩) | (with_reducible refine (t3.out _).mono ?_; rintro e w' ⟨rfl, rfl⟩))
        go_ret
        exact ⟨by first | rfl | exact ret_b (by simp; omega) | exact ret_b (by simp [*]), hs.out⟩
    · rw [decide_eq_false h2] at t2
      obtain rfl : B = false := Bool.eq_false_iff.2 fun e => by have := hB.1 e; unfold okD at this; omega
      clear hB h1 h2 hst
      go_enter Tryd.func19, Tryd.ntmps19
      go_wp2_with (first | (with_reducible refine (t1.out _).mono ?_; rintro e w' ⟨rfl, rfl⟩) | (with_reducible refine (t2.out _).mono ?_; rintro e w' ⟨rfl, rfl⟩) | (with_reducible refine (t3.out _).mono ?_; rintro e w' ⟨rfl, rfl⟩))
      go_ret
      exact ⟨by first | rfl | exact ret_b (by simp; omega) | exact ret_b (by simp [*]), hs.out⟩
  · rw [decide_eq_false h1] at t1
    obtain rfl : B = false := Bool.eq_false_iff.2 fun e => by have := hB.1 e; unfold okD at this; omega
    clear hB h1 hst
    go_enter Tryd.func19, Tryd.ntmps19
    go_wp2_with (first | (with_reducible refine (t1.out _).mono ?_; rintro e w' ⟨rfl, rfl⟩) | (with_reducible refine (t2.out _).mono ?_; rintro e w' ⟨rfl, rfl⟩) | (with_reducible refine (t3.out _).mono ?_; rintro e w' ⟨rfl, rfl⟩))
    go_ret
    exact ⟨by first | rfl | exact ret_b (by simp; omega) | exact ret_b (by simp [*]), hs.out⟩

theorem c_isDeedNumber (n : Int) (w : World) : Calls Tryd.prog 48 #[.int .i64 n] w fun e w' => e = .returned (.bool (decide (0 ≤ n ∧ n ≤ 999))) ∧ w = w' := by
  go_enter Tryd.func48, Tryd.ntmps48
  by_cases h1 : 0 ≤ n
  · by_cases h2 : n ≤ 999
    · go_wp2
      go_ret
      exact ⟨ret_b (by simp [h1, h2]), rfl⟩
    · go_wp2
      go_ret
      exact ⟨ret_b (by simp; omega), rfl⟩
  · go_wp2
    go_ret
    exact ⟨ret_b (by simp; omega), rfl⟩

set_option maxRecDepth 100000 in
set_option maxHeartbeats 4000000 in
theorem c_ValidDeedV (k a b : Int) (w : World) (B : Bool) (hB : B = true ↔ okD k a b) :
    Calls Tryd.prog 22 #[.agg #[.int .i64 k, .int .i64 a, .int .i64 b]] w fun e w' => e = .returned (.bool B) ∧ Stays w w' := by
  have hst : Stays w (w.alloc (.cells #[.int .i64 k, .int .i64 a, .int .i64 b] 25)) := by (repeat (first | exact Stays.refl _ | (with_reducible refine Stays.drewN ?_ _) | (with_reducible refine Stays.alloc ?_ _) | (with_reducible refine Stays.drew ?_) | (refine Stays.trans ?_ ‹Stays _ _›)))
  have hs := Lib.hid hst
  have t2 := Lib.hid fun W => c_isDeedNumber a W
  have t3 := Lib.hid fun W => c_isDeedNumber b W
  clear hst
  by_cases h1 : k < 1
  · obtain rfl : B = false := Bool.eq_false_iff.2 fun e => by have := hB.1 e; unfold okD at this; omega
    clear hB
    go_enter Tryd.func22, Tryd.ntmps22
    go_wp2_with (first | (with_reducible refine (t2.out _).mono ?_; rintro e w' ⟨rfl, rfl⟩) | (with_reducible refine (t3.out _).mono ?_; rintro e w' ⟨rfl, rfl⟩))
    go_ret
    exact ⟨by first | rfl | exact ret_b (by simp; omega) | exact ret_b (by simp [*]), hs.out⟩
  · by_cases h1' : 7 < k
    · obtain rfl : B = false := Bool.eq_false_iff.2 fun e => by have := hB.1 e; unfold okD at this; omega
      clear hB
      go_enter Tryd.func22, Tryd.ntmps22
      go_wp2_with (first | (with_reducible refine (t2.out _).mono ?_; rintro e w' ⟨rfl, rfl⟩) | (with_reducible refine (t3.out _).mono ?_; rintro e w' ⟨rfl, rfl⟩))
      go_ret
      exact ⟨by first | rfl | exact ret_b (by simp; omega) | exact ret_b (by simp [*]), hs.out⟩
    · by_cases h2 : 0 ≤ a ∧ a ≤ 999
      · rw [decide_eq_true h2] at t2
        by_cases h3 : 0 ≤ b ∧ b ≤ 999
        · rw [decide_eq_true h3] at t3
          by_cases h5 : b = 0
          · obtain rfl : B = true := hB.2 ⟨by omega, h2, h3, .inr h5⟩
            subst h5
            clear hB h2 h3
            go_enter Tryd.func22, Tryd.ntmps22
            go_wp2_with (first | (with_reducible refine (t2.out _).mono ?_; rintro e w' ⟨rfl, rfl⟩) | (with_reducible refine (t3.out _).mono ?_; rintro e w' ⟨rfl, rfl⟩))
            go_ret
            exact ⟨by first | rfl | exact ret_b (by simp; omega) | exact ret_b (by simp [*]), hs.out⟩
          · by_cases h4 : k = 2
            · obtain rfl : B = true := hB.2 ⟨by omega, h2, h3, .inl h4⟩
              subst h4
              clear hB h2 h3
              go_enter Tryd.func22, Tryd.ntmps22
              go_wp2_with (first | (with_reducible refine (t2.out _).mono ?_; rintro e w' ⟨rfl, rfl⟩) | (with_reducible refine (t3.out _).mono ?_; rintro e w' ⟨rfl, rfl⟩))
              go_ret
              exact ⟨by first | rfl | exact ret_b (by simp; omega) | exact ret_b (by simp [*]), hs.out⟩
            · obtain rfl : B = false := Bool.eq_false_iff.2 fun e => by have := hB.1 e; unfold okD at this; omega
              clear hB h2 h3
              go_enter Tryd.func22, Tryd.ntmps22
              go_wp2_with (first | (with_reducible refine (t2.out _).mono ?_; rintro e w' ⟨rfl, rfl⟩) | (with_reducible refine (t3.out _).mono ?_; rintro e w' ⟨rfl, rfl⟩))
              go_ret
              exact ⟨by first | rfl | exact ret_b (by simp; omega) | exact ret_b (by simp [*]), hs.out⟩
        · rw [decide_eq_false h3] at t3
          obtain rfl : B = false := Bool.eq_false_iff.2 fun e => by have := hB.1 e; unfold okD at this; omega
          clear hB h2 h3
          go_enter Tryd.func22, Tryd.ntmps22
          go_wp2_with (first | (with_reducible refine (t2.out _).mono ?_; rintro e w' ⟨rfl, rfl⟩) | (with_reducible refine (t3.out _).mono ?_; rintro e w' ⟨rfl, rfl⟩))
          go_ret
          exact ⟨by first | rfl | exact ret_b (by simp; omega) | exact ret_b (by simp [*]), hs.out⟩
      · rw [decide_eq_false h2] at t2
        obtain rfl : B = false := Bool.eq_false_iff.2 fun e => by have := hB.1 e; unfold okD at this; omega
        clear hB h2
        go_enter Tryd.func22, Tryd.ntmps22
        go_wp2_with (first | (with_reducible refine (t2.out _).mono ?_; rintro e w' ⟨rfl, rfl⟩) | (with_reducible refine (t3.out _).mono ?_; rintro e w' ⟨rfl, rfl⟩))
        go_ret
        exact ⟨by first | rfl | exact ret_b (by simp; omega) | exact ret_b (by simp [*]), hs.out⟩

abbrev deedK : List Kd := [.i .i64, .i .i64, .i .i64]
noncomputable def wkDe : DT (SV × St) := callDT tb ftab otb 60 40 0 7 [inSh 0 (.agg deedK)] ⟨.nil, [], []⟩
noncomputable def nsDe : List Df := wkDe.gather []
theorem wfDe : wfT (withIds nsDe) [] = true := by kernel_rfl
theorem chDe : wkDe.chk nsDe [] (endIs (.agg (inKs 0 deedK))) = true := by kernel_rfl

theorem deed_cells {l : List Value} {k a b : Int} (h : KMs deedK l [.i k, .i a, .i b]) : l = [.int .i64 k, .int .i64 a, .int .i64 b] := by
  match l, h with
  | [_, _, _], ⟨h0, h1, h2, _⟩ =>
    have h0 : _ = Value.int .i64 k := h0
    have h1 : _ = Value.int .i64 a := h1
    have h2 : _ = Value.int .i64 b := h2
    rw [h0, h1, h2]

theorem c_toDeed (k a b : Int) (w : World) : Calls Tryd.prog 7 #[.agg #[.int .i64 k, .int .i64 a, .int .i64 b]] w fun e w' => e = .returned (.agg #[.int .i64 k, .int .i64 a, .int .i64 b]) ∧ Stays w w' := by
  have hl : ([.i k, .i a, .i b] : List NV).length = 3 := rfl
  have hl' : ([.i k, .i a, .i b] : List NV).length ≤ 1000 := by omega
  have h : ShM (.agg deedK) (.agg #[.int .i64 k, .int .i64 a, .int .i64 b]) [.i k, .i a, .i b] := ⟨_, rfl, rfl, rfl, rfl, trivial⟩
  refine (walk_args (args := [inSh 0 (.agg deedK)]) (vs := #[.agg #[.int .i64 k, .int .i64 a, .int .i64 b]]) (ins := [.i k, .i a, .i b]) (r := .agg (inKs 0 deedK)) tb_ok mixed ftab_ok (otb_ok baseΦ_ok) wfDe chDe (by kernel_rfl) ⟨inSh_ok h fun j hj => ins_at hl' j hj, trivial⟩).mono ?_
  rintro e w' ⟨v', γ, rfl, ⟨cs, rfl, hm⟩, hs⟩
  have hk := deed_cells (KMs_back hm hl fun j hj => ins_at hl' j hj)
  refine ⟨?_, hs⟩
  obtain ⟨l⟩ := cs
  have hk : l = [.int .i64 k, .int .i64 a, .int .i64 b] := hk
  rw [hk]

/-- The words of deeds. -/
def wordB : Nat → ByteArray
  | 1 => ⟨#[115, 101, 101]⟩
  | 2 => ⟨#[115, 101, 110, 100]⟩
  | 3 => ⟨#[100, 101, 108, 105, 118, 101, 114]⟩
  | 4 => ⟨#[99, 111, 112, 121]⟩
  | 5 => ⟨#[100, 114, 111, 112]⟩
  | 6 => ⟨#[115, 97, 118, 101]⟩
  | 7 => ⟨#[99, 114, 97, 115, 104]⟩
  | _ => ⟨#[]⟩
def wordCells : Array Value := #[.string (wordB 0), .string (wordB 1), .string (wordB 2), .string (wordB 3), .string (wordB 4), .string (wordB 5), .string (wordB 6), .string (wordB 7)]
def toldCells : Array Value := #[.int .i64 0, .int .i64 1, .int .i64 2, .int .i64 1, .int .i64 1, .int .i64 1, .int .i64 1, .int .i64 1]

set_option maxRecDepth 100000 in
theorem c_l09Words (w : World) : Calls Tryd.prog 20 #[] w fun e w' =>
    e = .returned (.tuple #[.slice (some ⟨w.heap.size, 0, none⟩) 8 8, .slice (some ⟨w.heap.size + 1, 0, none⟩) 8 8]) ∧ Stays w w' ∧ w'.heap[w.heap.size]? = some (.cells wordCells 9 (0, 0)) ∧ w'.heap[w.heap.size + 1]? = some (.cells toldCells 3 (0, 0)) := by
  go_enter Tryd.func20, Tryd.ntmps20
  go_wp2
  go_ret2
  exact ⟨rfl, by (repeat (first | exact Stays.refl _ | (with_reducible refine Stays.drewN ?_ _) | (with_reducible refine Stays.alloc ?_ _) | (with_reducible refine Stays.drew ?_) | (refine Stays.trans ?_ ‹Stays _ _›))), by (repeat (first | (refine heap_top _ _ _ ?_; simp; done) | (with_reducible refine heap_drawn _ _ _ ?_) | (with_reducible refine heap_under _ _ _ ?_ ?_; (simp <;> omega)))), by (repeat (first | (refine heap_top _ _ _ ?_; simp; done) | (with_reducible refine heap_drawn _ _ _ ?_) | (with_reducible refine heap_under _ _ _ ?_ ?_; (simp <;> omega))))⟩

set_option maxRecDepth 100000 in
theorem c_deedWords (w : World) : Calls Tryd.prog 23 #[] w fun e w' => e = .returned (.agg wordCells) ∧ Stays w w' := by
  go_enter Tryd.func23, Tryd.ntmps23
  go_wp2
  refine end_agg (t := 59) (g := w.heap.size) (cs := wordCells) rfl rfl rfl Tryd.underlying59 rfl ?_ (by kernel_rfl) ⟨rfl, by (repeat (first | exact Stays.refl _ | (with_reducible refine Stays.drewN ?_ _) | (with_reducible refine Stays.alloc ?_ _) | (with_reducible refine Stays.drew ?_) | (refine Stays.trans ?_ ‹Stays _ _›)))⟩
  exact heap_alloc_new w _

theorem word_at (k : Nat) (h : k < 8) : wordCells[k]? = some (.string (wordB k)) := by
  rcases (show k = 0 ∨ k = 1 ∨ k = 2 ∨ k = 3 ∨ k = 4 ∨ k = 5 ∨ k = 6 ∨ k = 7 from by omega) with rfl | rfl | rfl | rfl | rfl | rfl | rfl | rfl <;> rfl
theorem word_len (k : Nat) (h : k < 8) : (wordB k).size ≤ 7 := by
  rcases (show k = 0 ∨ k = 1 ∨ k = 2 ∨ k = 3 ∨ k = 4 ∨ k = 5 ∨ k = 6 ∨ k = 7 from by omega) with rfl | rfl | rfl | rfl | rfl | rfl | rfl | rfl <;> decide
theorem told_at (k : Nat) (h : k < 8) : ∃ t : Int, toldCells[k]? = some (.int .i64 t) ∧ (t > 1 ↔ k = 2) := by
  rcases (show k = 0 ∨ k = 1 ∨ k = 2 ∨ k = 3 ∨ k = 4 ∨ k = 5 ∨ k = 6 ∨ k = 7 from by omega) with rfl | rfl | rfl | rfl | rfl | rfl | rfl | rfl <;> exact ⟨_, rfl, by decide⟩
theorem word_idx (k : Nat) (h : k < 8) : ∀ w : World, (Instr.index 59 (.agg wordCells) (.int .i64 (k : Int))).run Tryd.prog w = .ok (.string (wordB k)) w := by
  rcases (show k = 0 ∨ k = 1 ∨ k = 2 ∨ k = 3 ∨ k = 4 ∨ k = 5 ∨ k = 6 ∨ k = 7 from by omega) with rfl | rfl | rfl | rfl | rfl | rfl | rfl | rfl <;> (intro w; kernel_rfl)
end Go.Proofs.YtpccnejchbachaaDoor
