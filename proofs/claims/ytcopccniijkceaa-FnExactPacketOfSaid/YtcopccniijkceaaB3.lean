/- Contracts: sizes of numbers, finite numbers and vectors, vectors that are the same. No condition. -/
import Derived.Laws.BitsAllLaws
import Derived.Test.YtcopccniijkceaaA1
import Derived.Test.YtcopccniijkceaaB1
import Derived.Test.YtcopccniijkceaaSp
namespace Go.Proofs.Ytcopccniijkceaa
open Go Go.RowKit
set_option linter.unusedVariables false

theorem c_l01Finite (a : Nat) (w : World) :
    Calls Try.prog 127 #[.float .f32 a] w fun en w' => en = .returned (.bool (finB (can .f32 a))) ∧ Stays w w' := by
  go_enter Try.func127, Try.ntmps127
  go_wp2_with ((with_reducible refine wpList_fop rfl _ _ _ _ _ rfl rfl _ _ _ rfl rfl ?_); intro r n hr)
  go_ret
  exact ⟨ret_b (sub_self_zero a r hr), by (repeat (first | exact Stays.refl _ | (with_reducible refine Stays.drewN ?_ _) | (with_reducible refine Stays.alloc ?_ _) | (with_reducible refine Stays.drew ?_) | (refine Stays.trans ?_ ‹Stays _ _›)))⟩

theorem read_bare (f : Ieee.Format) (b : Nat) : f.read (b % f.signWeight) = (match f.read b with | .number _ m p => .number false m p | .infinity _ => .infinity false | .nan _ t => .nan false t) := by
  have hlt : b % f.signWeight < f.signWeight := Nat.mod_lt _ (sw_pos f)
  have h0 := read_word f false hlt
  rw [word_false] at h0
  rw [h0]
  unfold Ieee.Format.read
  dsimp only
  split
  · rfl
  · split
    · rfl
    · split <;> rfl

theorem can_bare64 (b : Nat) : can .f64 (b % 2 ^ 63) = (can .f64 b).map (· % 2 ^ 63) := by
  have h := read_bare Ieee.double b
  have e : Ieee.double.signWeight = 2 ^ 63 := rfl
  rw [e] at h
  unfold can FloatKind.decode
  show (if (Ieee.double.read (b % 2 ^ 63)).isNaN = true then none else some (b % 2 ^ 63)) = Option.map _ (if (Ieee.double.read b).isNaN = true then none else some b)
  rw [h]
  cases Ieee.double.read b <;> rfl

theorem andNot_sign (b : Nat) (hb : b < 2 ^ 64) : bits .andNot .u64 (b : Int) 9223372036854775808 = ((b % 2 ^ 63 : Nat) : Int) := by
  have := u64_andNot_nat b 9223372036854775808 (by omega) (by omega)
  rw [show ((9223372036854775808 : Nat) : Int) = 9223372036854775808 from rfl] at this
  rw [this, show 18446744073709551615 - 9223372036854775808 = 2 ^ 63 - 1 from rfl, Nat.and_two_pow_sub_one_eq_mod]

theorem and_size (b : Nat) (hb : b < 2 ^ 32) : bits .and .u32 (b : Int) 2147483647 = ((b % 2 ^ 31 : Nat) : Int) := by
  have := u32_and_nat b 2147483647 (by omega) (by omega)
  rw [show ((2147483647 : Nat) : Int) = 2147483647 from rfl] at this
  rw [this, show (2147483647 : Nat) = 2 ^ 31 - 1 from rfl, Nat.and_two_pow_sub_one_eq_mod]

theorem c_Abs (b : Nat) (w : World) (hb : b < 2 ^ 64) :
    Calls Try.prog 138 #[.float .f64 b] w fun en w' => ∃ x, en = .returned (.float .f64 x) ∧ FIs .f64 x ((can .f64 b).map (· % 2 ^ 63)) ∧ Stays w w' := by
  have key := andNot_sign b hb
  have hk : FIs .f64 (b % 2 ^ 63) ((can .f64 b).map (· % 2 ^ 63)) := ⟨can_bare64 b, by show _ < 2 ^ 64; omega⟩
  clear hb
  go_enter Try.func138, Try.ntmps138
  go_wp2
  go_ret
  exact ⟨_, rfl, hk, by (repeat (first | exact Stays.refl _ | (with_reducible refine Stays.drewN ?_ _) | (with_reducible refine Stays.alloc ?_ _) | (with_reducible refine Stays.drew ?_) | (refine Stays.trans ?_ ‹Stays _ _›)))⟩

theorem fits_bare {a r y : Nat} (hr : FIs .f64 r ((can .f32 a).map wide)) (hy : FIs .f64 y ((can .f64 r).map (· % 2 ^ 63))) : (∀ c, can .f64 y = some c → fits c = true) ∧ (can .f64 y).map slim = (can .f32 a).map bare := by
  rw [hy.out, hr.out]
  have h32 := can32 a
  cases hn : (Ieee.single.read a).isNaN with
  | true =>
    rw [hn, if_pos rfl] at h32
    rw [h32]
    exact ⟨fun c h => (by cases h), rfl⟩
  | false =>
    rw [hn, if_neg (by decide)] at h32
    rw [h32]
    obtain ⟨h1, h2, h3⟩ := slim_bare_wide hn
    refine ⟨fun c h => ?_, ?_⟩
    · obtain rfl : wide a % 2 ^ 63 = c := by simpa using h
      unfold fits
      rw [h3, h1]
      cases e : Ieee.single.read a with
      | nan => rw [e] at hn; cases hn
      | infinity => rfl
      | number => rw [bare_read e]; rfl
    · simp [h1]

theorem c_sizeOf (a : Nat) (w : World) :
    Calls Try.prog 101 #[.float .f32 a] w fun en w' => ∃ x, en = .returned (.float .f32 x) ∧ FIs .f32 x ((can .f32 a).map bare) ∧ Stays w w' := by
  go_enter Try.func101, Try.ntmps101
  go_wp2_with (first | ((with_reducible refine wpList_widen rfl _ _ _ rfl _ rfl (some_of Try.underlying22) Try.underlying111 ?_); intro r n hr) | (go_at_call 138; refine (c_Abs _ _ hr.lt).mono ?_; rintro en w1 ⟨y, rfl, hy, hw1⟩) | ((with_reducible refine wpList_slim rfl _ _ _ rfl _ rfl (some_of Try.underlying111) Try.underlying22 ?_ ?_); rotate_right; intro r n hr))
  · go_ret
    exact ⟨_, rfl, hr.of_eq (fits_bare ‹FIs .f64 _ (Option.map wide _)› hy).2, by (repeat (first | exact Stays.refl _ | (with_reducible refine Stays.drewN ?_ _) | (with_reducible refine Stays.alloc ?_ _) | (with_reducible refine Stays.drew ?_) | (refine Stays.trans ?_ ‹Stays _ _›)))⟩
  · exact (fits_bare hr hy).1

theorem c_isFinite (a : Nat) (w : World) :
    Calls Try.prog 54 #[.float .f32 a] w fun en w' => en = .returned (.bool (finB (can .f32 a))) ∧ Stays w w' := by
  go_enter Try.func54, Try.ntmps54
  go_wp2_with (go_at_call 101; refine (c_sizeOf _ _).mono ?_; rintro en w1 ⟨y, rfl, hy, hw1⟩)
  go_ret
  exact ⟨ret_b (leq_max a y hy), by (repeat (first | exact Stays.refl _ | (with_reducible refine Stays.drewN ?_ _) | (with_reducible refine Stays.alloc ?_ _) | (with_reducible refine Stays.drew ?_) | (refine Stays.trans ?_ ‹Stays _ _›)))⟩

def finV (a b c : Nat) : Bool := finB (can .f32 a) && finB (can .f32 b) && finB (can .f32 c)
def r_IsFiniteVec (a b c : Nat) (v : Value) : Prop := v = .bool (finV a b c)

theorem c_specl01Vec (a b c : Nat) (w : World) :
    Calls Try.prog 142 #[.agg #[.float .f32 a, .float .f32 b, .float .f32 c]] w fun en w' => ∃ v, en = .returned v ∧ r_IsFiniteVec a b c v ∧ Stays w w' := by
  unfold r_IsFiniteVec finV
  have u0 : (w.alloc (.cells #[.float .f32 a, .float .f32 b, .float .f32 c] 64)).heap[w.heap.size]? = some (.cells #[.float .f32 a, .float .f32 b, .float .f32 c] 64 (0, 0)) := by (repeat (first | (refine heap_top _ _ _ ?_; simp; done) | (with_reducible refine heap_drawn _ _ _ ?_) | (with_reducible refine heap_under _ _ _ ?_ ?_; (simp <;> omega))))
  have hA : Hid (∀ w1, Stays (w.alloc (.cells #[.float .f32 a, .float .f32 b, .float .f32 c] 64)) w1 → ∀ i, w1.cell? ⟨w.heap.size, i, none⟩ = #[.float .f32 a, .float .f32 b, .float .f32 c][i]?) := fun w1 h => row_of h u0
  clear u0
  have hS : Stays (w.alloc (.cells #[.float .f32 a, .float .f32 b, .float .f32 c] 64)) (w.alloc (.cells #[.float .f32 a, .float .f32 b, .float .f32 c] 64)) := Stays.refl _
  cases ha : finB (can .f32 a) <;> cases hb : finB (can .f32 b)
  all_goals
    go_enter Try.func142, Try.ntmps142
    go_wp2_with (go_at_call 127; refine (c_l01Finite _ _).mono ?_; rintro en w1 ⟨rfl, hw1⟩; replace hS := Stays.trans hS hw1; clear hw1; have hc := hA.out _ hS)
    go_ret
    exact ⟨_, rfl, rfl, Stays.trans (by (repeat (first | exact Stays.refl _ | (with_reducible refine Stays.drewN ?_ _) | (with_reducible refine Stays.alloc ?_ _) | (with_reducible refine Stays.drew ?_) | (refine Stays.trans ?_ ‹Stays _ _›)))) hS⟩

theorem c_implIsFiniteVec (a b c : Nat) (w : World) :
    Calls Try.prog 139 #[.agg #[.float .f32 a, .float .f32 b, .float .f32 c]] w fun en w' => ∃ v, en = .returned v ∧ r_IsFiniteVec a b c v ∧ Stays w w' := by
  unfold r_IsFiniteVec finV
  have u0 : (w.alloc (.cells #[.float .f32 a, .float .f32 b, .float .f32 c] 64)).heap[w.heap.size]? = some (.cells #[.float .f32 a, .float .f32 b, .float .f32 c] 64 (0, 0)) := by (repeat (first | (refine heap_top _ _ _ ?_; simp; done) | (with_reducible refine heap_drawn _ _ _ ?_) | (with_reducible refine heap_under _ _ _ ?_ ?_; (simp <;> omega))))
  have hA : Hid (∀ w1, Stays (w.alloc (.cells #[.float .f32 a, .float .f32 b, .float .f32 c] 64)) w1 → ∀ i, w1.cell? ⟨w.heap.size, i, none⟩ = #[.float .f32 a, .float .f32 b, .float .f32 c][i]?) := fun w1 h => row_of h u0
  clear u0
  have hS : Stays (w.alloc (.cells #[.float .f32 a, .float .f32 b, .float .f32 c] 64)) (w.alloc (.cells #[.float .f32 a, .float .f32 b, .float .f32 c] 64)) := Stays.refl _
  cases ha : finB (can .f32 a) <;> cases hb : finB (can .f32 b)
  all_goals
    go_enter Try.func139, Try.ntmps139
    go_wp2_with (go_at_call 54; refine (c_isFinite _ _).mono ?_; rintro en w1 ⟨rfl, hw1⟩; replace hS := Stays.trans hS hw1; clear hw1; have hc := hA.out _ hS)
    go_ret
    exact ⟨_, rfl, rfl, Stays.trans (by (repeat (first | exact Stays.refl _ | (with_reducible refine Stays.drewN ?_ _) | (with_reducible refine Stays.alloc ?_ _) | (with_reducible refine Stays.drew ?_) | (refine Stays.trans ?_ ‹Stays _ _›)))) hS⟩

def sameV (a b c d e f : Nat) : Bool := same a d && same b e && same c f
def r_SameVec (a b c d e f : Nat) (v : Value) : Prop := v = .bool (sameV a b c d e f)

theorem c_specl01SameVec (a b c d e f : Nat) (w : World) :
    Calls Try.prog 143 #[.agg #[.float .f32 a, .float .f32 b, .float .f32 c], .agg #[.float .f32 d, .float .f32 e, .float .f32 f]] w fun en w' => ∃ v, en = .returned v ∧ r_SameVec a b c d e f v ∧ Stays w w' := by
  unfold r_SameVec sameV
  cases ha : same a d <;> cases hb : same b e
  all_goals
    go_enter Try.func143, Try.ntmps143
    go_wp2_with (go_at_call 144; refine (c_l01Same _ _ _).mono ?_; rintro en w1 ⟨rfl, rfl⟩)
    go_ret
    exact ⟨_, rfl, rfl, by (repeat (first | exact Stays.refl _ | (with_reducible refine Stays.drewN ?_ _) | (with_reducible refine Stays.alloc ?_ _) | (with_reducible refine Stays.drew ?_) | (refine Stays.trans ?_ ‹Stays _ _›)))⟩

theorem c_vecBits (a b c : Nat) (w : World) :
    Calls Try.prog 191 #[.agg #[.float .f32 a, .float .f32 b, .float .f32 c]] w fun en w' => en = .returned (.agg #[.int .u32 (bitsOf a), .int .u32 (bitsOf b), .int .u32 (bitsOf c)]) ∧ Stays w w' := by
  go_enter Try.func191, Try.ntmps191
  go_wp2
  have u0 : ((w.alloc (.cells #[.float .f32 a, .float .f32 b, .float .f32 c] 64)).alloc (.cells #[.int .u32 0, .int .u32 0, .int .u32 0] 263)).heap[w.heap.size]? = some (.cells #[.float .f32 a, .float .f32 b, .float .f32 c] 64 (0, 0)) := by (repeat (first | (refine heap_top _ _ _ ?_; simp; done) | (with_reducible refine heap_drawn _ _ _ ?_) | (with_reducible refine heap_under _ _ _ ?_ ?_; (simp <;> omega))))
  have u1 : ((w.alloc (.cells #[.float .f32 a, .float .f32 b, .float .f32 c] 64)).alloc (.cells #[.int .u32 0, .int .u32 0, .int .u32 0] 263)).heap[w.heap.size + 1]? = some (.cells #[.int .u32 0, .int .u32 0, .int .u32 0] 263 (0, 0)) := by (repeat (first | (refine heap_top _ _ _ ?_; simp; done) | (with_reducible refine heap_drawn _ _ _ ?_) | (with_reducible refine heap_under _ _ _ ?_ ?_; (simp <;> omega))))
  have hcells := fun w1 (hw1 : Stays ((w.alloc (.cells #[.float .f32 a, .float .f32 b, .float .f32 c] 64)).alloc (.cells #[.int .u32 0, .int .u32 0, .int .u32 0] 263)) w1) => row_of hw1 u0
  refine wp_region_soft_tail 10 (Stays.refl ((w.alloc (.cells #[.float .f32 a, .float .f32 b, .float .f32 c] 64)).alloc (.cells #[.int .u32 0, .int .u32 0, .int .u32 0] 263))) (fun f args v => ∃ k, args = #[.float .f32 k] ∧ v = .int .u32 (bitsOf k)) [] (by kernel_rfl) (by kernel_rfl) (fun _ h => by cases h) ?_
  simp only [List.take_succ_cons, List.take_zero, List.drop_succ_cons, List.drop_zero]
  repeat ((with_reducible apply soft_det rfl); (case hA => rfl); (case h => (intro w1 hw1; have hc := hcells w1 hw1; go_simp; exact rfl)); go_simp)
  apply soft_call rfl
  case hA => rfl
  case h => (intro w1 hw1; go_simp; exact ⟨rfl, rfl⟩)
  case hc => exact fun w1 hw1 => (c_numberBits _ w1).mono fun e w' ⟨he, hw'⟩ => ⟨_, he, ⟨_, rfl, rfl⟩, hw' ▸ Stays.refl _⟩
  rintro v ⟨k, hk, rfl⟩; obtain rfl : a = k := by simpa using hk
  go_simp
  repeat ((with_reducible apply soft_det rfl); (case hA => rfl); (case h => (intro w1 hw1; have hc := hcells w1 hw1; go_simp; exact rfl)); go_simp)
  apply soft_call rfl
  case hA => rfl
  case h => (intro w1 hw1; go_simp; exact ⟨rfl, rfl⟩)
  case hc => exact fun w1 hw1 => (c_numberBits _ w1).mono fun e w' ⟨he, hw'⟩ => ⟨_, he, ⟨_, rfl, rfl⟩, hw' ▸ Stays.refl _⟩
  rintro v ⟨k, hk, rfl⟩; obtain rfl : b = k := by simpa using hk
  go_simp
  repeat ((with_reducible apply soft_det rfl); (case hA => rfl); (case h => (intro w1 hw1; have hc := hcells w1 hw1; go_simp; exact rfl)); go_simp)
  apply soft_call rfl
  case hA => rfl
  case h => (intro w1 hw1; go_simp; exact ⟨rfl, rfl⟩)
  case hc => exact fun w1 hw1 => (c_numberBits _ w1).mono fun e w' ⟨he, hw'⟩ => ⟨_, he, ⟨_, rfl, rfl⟩, hw' ▸ Stays.refl _⟩
  rintro v ⟨k, hk, rfl⟩; obtain rfl : c = k := by simpa using hk
  go_simp
  repeat ((with_reducible apply soft_det rfl); (case hA => rfl); (case h => (intro w1 hw1; have hc := hcells w1 hw1; go_simp; exact rfl)); go_simp)
  refine soft_nil ?_
  rintro w2 ⟨hw2, _⟩
  have hres := hw2.heap (in_heap u1) u1
  have hst : Stays w w2 := Stays.trans (by (repeat (first | exact Stays.refl _ | (with_reducible refine Stays.drewN ?_ _) | (with_reducible refine Stays.alloc ?_ _) | (with_reducible refine Stays.drew ?_) | (refine Stays.trans ?_ ‹Stays _ _›)))) hw2
  clear hcells u0 u1 hw2
  refine wpList_store_row rfl _ _ _ rfl _ _ _ rfl rfl hres ?hi ?ho ?h1 ?hB hst ?_
  case hi => kernel_rfl
  case ho => rfl
  case h1 => first | rfl | simp [Value.oneCell']
  case hB => first | omega | (simp <;> omega)
  intro w3 hw3 hq3 _ _
  go_wp2
  apply end_agg rfl rfl rfl Try.underlying263 rfl (t := 263)
  case hg => exact hq3
  case hi => kernel_rfl
  case hR => exact ⟨rfl, hw3⟩

end Go.Proofs.Ytcopccniijkceaa
