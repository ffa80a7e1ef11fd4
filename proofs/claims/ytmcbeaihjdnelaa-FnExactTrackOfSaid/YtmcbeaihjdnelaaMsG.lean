/- Missions: their frames and legs, whether one is valid, on both sides. No condition. -/
import Derived.Test.YtmcbeaihjdnelaaMsF
namespace Go.Proofs.Ytmcbeaihjdnelaa
open Go Go.RowKit
set_option linter.unusedVariables false
set_option linter.unusedSimpArgs false

theorem c_frameM (r : Int) (x y z : Nat) (A A' : Option Addr) (n c n' c' : Nat) (w : World) :
    Calls Try.prog 100 #[.agg #[.int .i64 r, .float .f32 x, .float .f32 y, .float .f32 z, .slice A n c, .slice A' n' c']] w fun e w' => e = .returned (.agg #[.int .i64 r, .float .f32 x, .float .f32 y, .float .f32 z, .slice A n c]) ∧ Stays w w' := by
  have hst : Stays w ((w.alloc (.cells #[.int .i64 r, .float .f32 x, .float .f32 y, .float .f32 z, .slice A n c, .slice A' n' c'] 99)).alloc (.cells #[.int .i64 0, .float .f32 0, .float .f32 0, .float .f32 0, .slice none 0 0] 159)) := by (repeat (first | exact Stays.refl _ | (with_reducible refine Stays.drewN ?_ _) | (with_reducible refine Stays.alloc ?_ _) | (with_reducible refine Stays.drew ?_) | (refine Stays.trans ?_ ‹Stays _ _›)))
  have hres : ((w.alloc (.cells #[.int .i64 r, .float .f32 x, .float .f32 y, .float .f32 z, .slice A n c, .slice A' n' c'] 99)).alloc (.cells #[.int .i64 0, .float .f32 0, .float .f32 0, .float .f32 0, .slice none 0 0] 159)).heap[w.heap.size + 1]? = some (.cells #[.int .i64 0, .float .f32 0, .float .f32 0, .float .f32 0, .slice none 0 0] 159 (0, 0)) := by (repeat (first | (refine heap_top _ _ _ ?_; simp; done) | (with_reducible refine heap_drawn _ _ _ ?_) | (with_reducible refine heap_under _ _ _ ?_ ?_; (simp <;> omega))))
  go_enter Try.func100, Try.ntmps100
  go_wp2_with (refine wpList_store_row rfl _ _ _ rfl _ _ _ rfl rfl hres ?hi ?ho ?h1 ?hB hst ?_; (case hi => kernel_rfl); (case ho => rfl); (case h1 => first | rfl | simp [Value.oneCell']); (case hB => first | omega | (simp <;> omega)); intro w2 hw2 hq2 hother hsame)
  go_wp2
  apply end_agg rfl rfl rfl Try.underlying159 rfl (t := 159)
  case hg => exact hq2
  case hi => kernel_rfl
  case hR => exact ⟨rfl, hw2⟩

noncomputable def legB (n : Nat) (r : List NV) : Bool := decide (1 ≤ (r.getD 0 (.i 0)).gi ∧ (r.getD 0 (.i 0)).gi ≤ 400) && (fV ((r.drop 1).take 3) && (decide (0 ≤ (r.getD 4 (.i 0)).gi ∧ (r.getD 4 (.i 0)).gi ≤ 400) && decide (-1 ≤ (r.getD 5 (.i 0)).gi ∧ (r.getD 5 (.i 0)).gi ≤ (n : Int) - 1)))

theorem leg_cells {cs : List Value} {r : List NV} (h : KMs KLeg cs r) : ∃ (t fx b : Int) (x y z : Nat), cs = [.int .i64 t, .float .f32 x, .float .f32 y, .float .f32 z, .int .i64 fx, .int .i64 b] ∧ (r.getD 0 (.i 0)).gi = t ∧ (r.getD 4 (.i 0)).gi = fx ∧ (r.getD 5 (.i 0)).gi = b ∧ ShM (.agg KVec) (.agg #[.float .f32 x, .float .f32 y, .float .f32 z]) ((r.drop 1).take 3) := by
  have hr := KMs_rlen h
  have hl := KMs_len h
  match cs, r, hl, hr, h with
  | [_, _, _, _, _, _], [n0, n1, n2, n3, n4, n5], _, _, ⟨h0, ⟨x, hx, hfx⟩, ⟨y, hy, hfy⟩, ⟨z, hz, hfz⟩, h4, h5, _⟩ =>
    subst hx hy hz
    have h0 : _ = Value.int .i64 n0.gi := h0
    have h4 : _ = Value.int .i64 n4.gi := h4
    have h5 : _ = Value.int .i64 n5.gi := h5
    subst h0 h4 h5
    exact ⟨_, _, _, x, y, z, rfl, rfl, rfl, rfl, ⟨_, rfl, ⟨x, rfl, hfx⟩, ⟨y, rfl, hfy⟩, ⟨z, rfl, hfz⟩, trivial⟩⟩

set_option maxRecDepth 100000 in
set_option maxHeartbeats 1000000 in
theorem c_fits (t fx b : Int) (x y z : Nat) (rv : List NV) (hv : ShM (.agg KVec) (.agg #[.float .f32 x, .float .f32 y, .float .f32 z]) rv) (r : Int) (x' y' z' : Nat) (A : Option Addr) (n c : Nat) (w : World) :
    Calls Try.prog 127 #[.agg #[.int .i64 t, .float .f32 x, .float .f32 y, .float .f32 z, .int .i64 fx, .int .i64 b], .agg #[.int .i64 r, .float .f32 x', .float .f32 y', .float .f32 z', .slice A n c]] w fun e w' => e = .returned (.bool (decide (1 ≤ t ∧ t ≤ 400) && (fV rv && (decide (0 ≤ fx ∧ fx ≤ 400) && decide (-1 ≤ b ∧ b ≤ (n : Int) - 1))))) ∧ Stays w w' := by
  have kf0 : ∀ W, Calls Try.prog 103 #[.agg #[.float .f32 x, .float .f32 y, .float .f32 z]] W fun e w' => e = .returned (.bool (fV rv)) ∧ Stays W w' := fun W => c_IsFiniteVecG _ _ W hv
  have kb0 : ∀ W, Calls Try.prog 135 #[.agg #[.int .i64 r, .float .f32 x', .float .f32 y', .float .f32 z', .slice A n c], .int .i64 b] W fun e w' => e = .returned (.bool (decide (0 ≤ b ∧ b < (n : Int)))) ∧ Stays W w' := fun W => c_hasBeacon _ _ _ _ A n c b W
  clear hv
  by_cases h1 : 1 ≤ t
  · have h1' : ¬ t < 1 := by omega
    by_cases h2 : t ≤ 400
    · have h2' : ¬ t > 400 := by omega
      have e0 : decide (1 ≤ t ∧ t ≤ 400) = true := decide_eq_true ⟨h1, h2⟩
      rw [e0]
      generalize fV rv = bf at kf0 ⊢
      have kf := Lib.hid kf0
      clear kf0 e0
      cases bf with
      | false =>
        clear kb0
        go_enter Try.func127, Try.ntmps127
        go_wp2_with (go_at_call 103; refine (kf.out _).mono ?_; rintro e w1 ⟨rfl, hw1⟩)
        go_ret
        exact ⟨rfl, Stays.trans (show Stays w _ from by (repeat (first | exact Stays.refl _ | (with_reducible refine Stays.drewN ?_ _) | (with_reducible refine Stays.alloc ?_ _) | (with_reducible refine Stays.drew ?_) | (refine Stays.trans ?_ ‹Stays _ _›)))) hw1⟩
      | true =>
        by_cases h3 : 0 ≤ fx
        · by_cases h4 : fx ≤ 400
          · have e1 : decide (0 ≤ fx ∧ fx ≤ 400) = true := decide_eq_true ⟨h3, h4⟩
            rw [e1]
            by_cases h5 : b = -1
            · subst h5
              have e2 : decide ((-1 : Int) ≤ -1 ∧ (-1 : Int) ≤ (n : Int) - 1) = true := decide_eq_true (by omega)
              rw [e2]
              clear kb0 e1 e2
              have HB : Hid (∀ w1, Stays ((w.alloc (.cells #[.int .i64 t, .float .f32 x, .float .f32 y, .float .f32 z, .int .i64 fx, .int .i64 (-1)] 163)).alloc (.cells #[.int .i64 r, .float .f32 x', .float .f32 y', .float .f32 z', .slice A n c] 159)) w1 → ∀ i, w1.cell? ⟨w.heap.size, i, none⟩ = (#[.int .i64 t, .float .f32 x, .float .f32 y, .float .f32 z, .int .i64 fx, .int .i64 (-1)] : Array Value)[i]?) := Lib.hid fun w1 h => row_of h (by (repeat (first | (refine heap_top _ _ _ ?_; simp; done) | (with_reducible refine heap_drawn _ _ _ ?_) | (with_reducible refine heap_under _ _ _ ?_ ?_; (simp <;> omega)))))
              go_enter Try.func127, Try.ntmps127
              go_wp2_with (go_at_call 103; refine (kf.out _).mono ?_; rintro e w1 ⟨rfl, hw1⟩; have hc := HB.out _ hw1)
              go_ret
              exact ⟨rfl, Stays.trans (show Stays w _ from by (repeat (first | exact Stays.refl _ | (with_reducible refine Stays.drewN ?_ _) | (with_reducible refine Stays.alloc ?_ _) | (with_reducible refine Stays.drew ?_) | (refine Stays.trans ?_ ‹Stays _ _›)))) hw1⟩
            · have e3 : decide ((-1 : Int) ≤ b ∧ b ≤ (n : Int) - 1) = decide (0 ≤ b ∧ b < (n : Int)) := decide_eq_decide.2 (by omega)
              rw [e3]
              generalize decide (0 ≤ b ∧ b < (n : Int)) = bb at kb0 ⊢
              have kb := Lib.hid kb0
              have h5' : (b == -1) = false := by simp [h5]
              clear kb0 e1 e3
              have HB : Hid (∀ w1, Stays ((w.alloc (.cells #[.int .i64 t, .float .f32 x, .float .f32 y, .float .f32 z, .int .i64 fx, .int .i64 b] 163)).alloc (.cells #[.int .i64 r, .float .f32 x', .float .f32 y', .float .f32 z', .slice A n c] 159)) w1 → (∀ i, w1.cell? ⟨w.heap.size, i, none⟩ = (#[.int .i64 t, .float .f32 x, .float .f32 y, .float .f32 z, .int .i64 fx, .int .i64 b] : Array Value)[i]?) ∧ (∀ i, w1.cell? ⟨w.heap.size + 1, i, none⟩ = (#[.int .i64 r, .float .f32 x', .float .f32 y', .float .f32 z', .slice A n c] : Array Value)[i]?)) := Lib.hid fun w1 h => ⟨row_of h (by (repeat (first | (refine heap_top _ _ _ ?_; simp; done) | (with_reducible refine heap_drawn _ _ _ ?_) | (with_reducible refine heap_under _ _ _ ?_ ?_; (simp <;> omega))))), row_of h (by (repeat (first | (refine heap_top _ _ _ ?_; simp; done) | (with_reducible refine heap_drawn _ _ _ ?_) | (with_reducible refine heap_under _ _ _ ?_ ?_; (simp <;> omega)))))⟩
              go_enter Try.func127, Try.ntmps127
              go_wp2_with (first | (go_at_call 103; refine (kf.out _).mono ?_; rintro e w1 ⟨rfl, hw1⟩; obtain ⟨hc, hc'⟩ := HB.out _ hw1) | (go_at_call 135; refine (kb.out _).mono ?_; rintro e w2 ⟨rfl, hw2⟩))
              go_ret
              exact ⟨ret_b (by simp), Stays.trans (show Stays w _ from by (repeat (first | exact Stays.refl _ | (with_reducible refine Stays.drewN ?_ _) | (with_reducible refine Stays.alloc ?_ _) | (with_reducible refine Stays.drew ?_) | (refine Stays.trans ?_ ‹Stays _ _›)))) (Stays.trans hw1 hw2)⟩
          · have e1 : decide (0 ≤ fx ∧ fx ≤ 400) = false := decide_eq_false (by omega)
            rw [e1]
            clear kb0 e1
            have HB : Hid (∀ w1, Stays ((w.alloc (.cells #[.int .i64 t, .float .f32 x, .float .f32 y, .float .f32 z, .int .i64 fx, .int .i64 b] 163)).alloc (.cells #[.int .i64 r, .float .f32 x', .float .f32 y', .float .f32 z', .slice A n c] 159)) w1 → ∀ i, w1.cell? ⟨w.heap.size, i, none⟩ = (#[.int .i64 t, .float .f32 x, .float .f32 y, .float .f32 z, .int .i64 fx, .int .i64 b] : Array Value)[i]?) := Lib.hid fun w1 h => row_of h (by (repeat (first | (refine heap_top _ _ _ ?_; simp; done) | (with_reducible refine heap_drawn _ _ _ ?_) | (with_reducible refine heap_under _ _ _ ?_ ?_; (simp <;> omega)))))
            go_enter Try.func127, Try.ntmps127
            go_wp2_with (go_at_call 103; refine (kf.out _).mono ?_; rintro e w1 ⟨rfl, hw1⟩; have hc := HB.out _ hw1)
            go_ret
            exact ⟨rfl, Stays.trans (show Stays w _ from by (repeat (first | exact Stays.refl _ | (with_reducible refine Stays.drewN ?_ _) | (with_reducible refine Stays.alloc ?_ _) | (with_reducible refine Stays.drew ?_) | (refine Stays.trans ?_ ‹Stays _ _›)))) hw1⟩
        · have e1 : decide (0 ≤ fx ∧ fx ≤ 400) = false := decide_eq_false (by omega)
          rw [e1]
          clear kb0 e1
          have HB : Hid (∀ w1, Stays ((w.alloc (.cells #[.int .i64 t, .float .f32 x, .float .f32 y, .float .f32 z, .int .i64 fx, .int .i64 b] 163)).alloc (.cells #[.int .i64 r, .float .f32 x', .float .f32 y', .float .f32 z', .slice A n c] 159)) w1 → ∀ i, w1.cell? ⟨w.heap.size, i, none⟩ = (#[.int .i64 t, .float .f32 x, .float .f32 y, .float .f32 z, .int .i64 fx, .int .i64 b] : Array Value)[i]?) := Lib.hid fun w1 h => row_of h (by (repeat (first | (refine heap_top _ _ _ ?_; simp; done) | (with_reducible refine heap_drawn _ _ _ ?_) | (with_reducible refine heap_under _ _ _ ?_ ?_; (simp <;> omega)))))
          go_enter Try.func127, Try.ntmps127
          go_wp2_with (go_at_call 103; refine (kf.out _).mono ?_; rintro e w1 ⟨rfl, hw1⟩; have hc := HB.out _ hw1)
          go_ret
          exact ⟨rfl, Stays.trans (show Stays w _ from by (repeat (first | exact Stays.refl _ | (with_reducible refine Stays.drewN ?_ _) | (with_reducible refine Stays.alloc ?_ _) | (with_reducible refine Stays.drew ?_) | (refine Stays.trans ?_ ‹Stays _ _›)))) hw1⟩
    · have h2' : t > 400 := by omega
      have e0 : decide (1 ≤ t ∧ t ≤ 400) = false := decide_eq_false (by omega)
      rw [e0]
      clear kf0 kb0 e0
      go_enter Try.func127, Try.ntmps127
      go_wp2
      go_ret
      exact ⟨rfl, show Stays w _ from by (repeat (first | exact Stays.refl _ | (with_reducible refine Stays.drewN ?_ _) | (with_reducible refine Stays.alloc ?_ _) | (with_reducible refine Stays.drew ?_) | (refine Stays.trans ?_ ‹Stays _ _›)))⟩
  · have h1' : t < 1 := by omega
    have e0 : decide (1 ≤ t ∧ t ≤ 400) = false := decide_eq_false (by omega)
    rw [e0]
    clear kf0 kb0 e0
    go_enter Try.func127, Try.ntmps127
    go_wp2
    go_ret
    exact ⟨rfl, show Stays w _ from by (repeat (first | exact Stays.refl _ | (with_reducible refine Stays.drewN ?_ _) | (with_reducible refine Stays.alloc ?_ _) | (with_reducible refine Stays.drew ?_) | (refine Stays.trans ?_ ‹Stays _ _›)))⟩

def tk (r : List NV) : Int := (r.getD 0 (.i 0)).gi
def tks (ls : List (List NV)) : Int := (ls.map tk).sum
theorem tks_next {ls : List (List NV)} {k : Nat} {r : List NV} (hk : ls[k]? = some r) : tks (ls.take (k + 1)) = tks (ls.take k) + tk r := by
  unfold tks
  rw [List.take_add_one, hk, List.map_append, List.sum_append]
  simp
theorem legB_tk {n : Nat} {r : List NV} (h : legB n r = true) : 1 ≤ tk r ∧ tk r ≤ 400 := by
  unfold legB at h
  simp only [Bool.and_eq_true, decide_eq_true_eq] at h
  exact h.1
/-- The sum of ticks of legs that are right. -/
def Sum (ls : List (List NV)) (k : Nat) (s : Int) : Prop := s = tks (ls.take k) ∧ 0 ≤ s ∧ s ≤ 400 * k
theorem Sum.next {ls : List (List NV)} {k : Nat} {r : List NV} {s : Int} (h : Sum ls k s) (hk : ls[k]? = some r) (h1 : 1 ≤ tk r ∧ tk r ≤ 400) : Sum ls (k + 1) (s + tk r) := by
  obtain ⟨e, h0, h2⟩ := h
  refine ⟨by rw [tks_next hk, e], by omega, by push_cast; omega⟩

noncomputable def missionB (hd : List NV) (bs ls : List (List NV)) : Bool := frameB hd bs && (decide (ls.length ≤ 64) && (ls.all (legB bs.length) && decide (tks ls ≤ 400)))
theorem missionB_f {hd : List NV} {bs ls : List (List NV)} (h : frameB hd bs = false) : missionB hd bs ls = false := by unfold missionB; rw [h]; rfl
theorem missionB_n {hd : List NV} {bs ls : List (List NV)} (h : ¬ ls.length ≤ 64) : missionB hd bs ls = false := by unfold missionB; rw [decide_eq_false h]; simp
theorem missionB_l {hd : List NV} {bs ls : List (List NV)} (h : ls.all (legB bs.length) = false) : missionB hd bs ls = false := by unfold missionB; rw [h]; simp
theorem missionB_t {hd : List NV} {bs ls : List (List NV)} {s : Int} {k : Nat} (hf : frameB hd bs = true) (hn : ls.length ≤ 64) (h : (ls.take k).all (legB bs.length) = true) (hk : ls.length ≤ k) (hs : Sum ls k s) : missionB hd bs ls = decide (s ≤ 400) := by
  unfold missionB
  rw [hf, decide_eq_true hn, all_end h hk]
  obtain ⟨e, _⟩ := hs
  rw [List.take_of_length_le hk] at e
  rw [← e]
  simp
end Go.Proofs.Ytmcbeaihjdnelaa
