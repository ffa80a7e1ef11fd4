/- Missions: whether one is valid, its ticks, on both sides. No condition. -/
import Derived.Test.YtmcbeaihjdnelaaMsI
namespace Go.Proofs.Ytmcbeaihjdnelaa
open Go Go.RowKit
set_option linter.unusedVariables false
set_option linter.unusedSimpArgs false

set_option maxRecDepth 100000 in
set_option maxHeartbeats 2000000 in
theorem c_implValidMission (v : Value) (hd : List NV) (bs ls : List (List NV)) (w : World) (h : MissionV w w.heap.size v hd bs ls) (hn : bs.length ≤ 1048576) (hm : ls.length ≤ 1048576) :
    Calls Try.prog 99 #[v] w fun e w' => e = .returned (.bool (missionB hd bs ls)) ∧ Stays w w' := by
  obtain ⟨r, x, y, z, A, c, A', c', rfl, hh, h1, h2⟩ := h.val
  have H' := Lib.hid h2
  have kM := Lib.hid fun W => c_frameM r x y z A A' bs.length c ls.length c' W
  have kS0 : ∀ W, Stays w W → Calls Try.prog 126 #[.agg #[.int .i64 r, .float .f32 x, .float .f32 y, .float .f32 z, .slice A bs.length c]] W fun e w' => e = .returned (.bool (frameB hd bs)) ∧ Stays W w' := fun W hb => c_isSound r x y z A c hd bs W hh ((h1.below hb).more hb.size) hn
  have HB : Hid (∀ w1, Stays (w.alloc (.cells #[.int .i64 r, .float .f32 x, .float .f32 y, .float .f32 z, .slice A bs.length c, .slice A' ls.length c'] 99)) w1 → (∀ i, w1.cell? ⟨w.heap.size, i, none⟩ = (#[.int .i64 r, .float .f32 x, .float .f32 y, .float .f32 z, .slice A bs.length c, .slice A' ls.length c'] : Array Value)[i]?) ∧ Stays w w1) := Lib.hid fun w1 h => ⟨row_of h (heap_alloc_new w _), Stays.trans (by (repeat (first | exact Stays.refl _ | (with_reducible refine Stays.drewN ?_ _) | (with_reducible refine Stays.alloc ?_ _) | (with_reducible refine Stays.drew ?_) | (refine Stays.trans ?_ ‹Stays _ _›)))) h⟩
  clear h h1 h2 hh
  cases hf : frameB hd bs with
  | false =>
    have fin := Lib.hid (missionB_f (ls := ls) hf)
    rw [hf] at kS0
    have kS := Lib.hid kS0
    clear kS0 hf
    go_enter Try.func99, Try.ntmps99
    go_wp2_with (first
      | (go_at_call 100; refine (kM.out _).mono ?_; rintro e w1 ⟨rfl, hw1⟩; replace hw1 := Lib.hid hw1)
      | (go_at_call 126; refine (kS.out _ (Stays.trans (HB.out _ hw1.out).2 (by (repeat (first | exact Stays.refl _ | (with_reducible refine Stays.drewN ?_ _) | (with_reducible refine Stays.alloc ?_ _) | (with_reducible refine Stays.drew ?_) | (refine Stays.trans ?_ ‹Stays _ _›)))))).mono ?_; rintro e w2 ⟨rfl, hw2⟩; replace hw2 := Lib.hid (Stays.trans (show Stays w1 _ from by (repeat (first | exact Stays.refl _ | (with_reducible refine Stays.drewN ?_ _) | (with_reducible refine Stays.alloc ?_ _) | (with_reducible refine Stays.drew ?_) | (refine Stays.trans ?_ ‹Stays _ _›)))) hw2)))
    go_ret
    exact ⟨ret_b fin.out.symm, (HB.out _ (Stays.trans hw1.out hw2.out)).2⟩
  | true =>
    rw [hf] at kS0
    have kS := Lib.hid kS0
    clear kS0
    by_cases h64 : ls.length ≤ 64
    · have h64' : ¬ ((ls.length : Nat) : Int) > 64 := by omega
      have h64'' : ((ls.length : Nat) : Int) ≤ 64 := by omega
      have fin := Lib.hid fun (k : Nat) (s : Int) hall (hk : ls.length ≤ k) hs => missionB_t (s := s) (k := k) hf h64 hall hk hs
      have bad := Lib.hid fun hl => missionB_l (hd := hd) (bs := bs) (ls := ls) hl
      clear hf
      go_enter Try.func99, Try.ntmps99
      go_wp2_with (first
        | (go_at_call 100; refine (kM.out _).mono ?_; rintro e w1 ⟨rfl, hw1⟩; replace hw1 := Lib.hid hw1; have HF : Hid (∀ w3, Stays (w1.alloc (.cells #[.int .i64 r, .float .f32 x, .float .f32 y, .float .f32 z, .slice A bs.length c] 159)) w3 → ∀ i, w3.cell? ⟨w1.heap.size, i, none⟩ = (#[.int .i64 r, .float .f32 x, .float .f32 y, .float .f32 z, .slice A bs.length c] : Array Value)[i]?) := Lib.hid fun w3 h => row_of h (heap_alloc_new w1 _))
        | (go_at_call 126; refine (kS.out _ (Stays.trans (HB.out _ hw1.out).2 (by (repeat (first | exact Stays.refl _ | (with_reducible refine Stays.drewN ?_ _) | (with_reducible refine Stays.alloc ?_ _) | (with_reducible refine Stays.drew ?_) | (refine Stays.trans ?_ ‹Stays _ _›)))))).mono ?_; rintro e w2 ⟨rfl, hw2⟩; replace hw2 := Lib.hid hw2; have hws := Lib.hid (Stays.trans hw1.out (show Stays w1 (w1.alloc (.cells #[.int .i64 r, .float .f32 x, .float .f32 y, .float .f32 z, .slice A bs.length c] 159)) from by (repeat (first | exact Stays.refl _ | (with_reducible refine Stays.drewN ?_ _) | (with_reducible refine Stays.alloc ?_ _) | (with_reducible refine Stays.drew ?_) | (refine Stays.trans ?_ ‹Stays _ _›))))); have hcb := (HB.out _ (Stays.trans hws.out hw2.out)).1))
      clear hcb kS kM
      generalize (w1.alloc (.cells #[.int .i64 r, .float .f32 x, .float .f32 y, .float .f32 z, .slice A bs.length c] 159)) = W0 at HF hw2 hws
      go_loopw [4, 21] (fun sv iv wr => ∃ (k : Nat) (s : Int), k ≤ ls.length ∧ iv = .int .i64 k ∧ sv = .int .i64 s ∧ Hid (Sum ls k s) ∧ Hid (Stays W0 wr) ∧ Hid ((ls.take k).all (legB bs.length) = true)) (fun _ iv _ => ls.length - (intOf iv).toNat)
      case atStart => exact ⟨0, 0, Nat.zero_le _, rfl, rfl, Lib.hid ⟨rfl, by omega, by omega⟩, hw2, Lib.hid rfl⟩
      case round =>
        clear hw2
        obtain ⟨k, s, hk, rfl, rfl, hs, hb, ha⟩ := hrel
        have hbw := Lib.hid (HB.out _ (Stays.trans hws.out hb.out)).2
        by_cases hlt : k < ls.length
        · obtain ⟨ad, rfl, hbl, hrow⟩ := (H'.out.below hbw.out) k ls[k] (List.getElem?_eq_getElem hlt)
          have hrk := List.getElem?_eq_getElem hlt
          generalize ls[k] = rr at hrow hrk
          obtain ⟨c0, c1, c2, c3, c4, c5, hK, g0, g1, g2, g3, g4, g5⟩ := row6 rfl hrow
          obtain ⟨t, fx, b, x', y', z', ecs, ht, hfx, hb5, hsh⟩ := leg_cells hK
          cases ecs
          have nx : Hid (legB bs.length rr = true → Hid ((ls.take (k + 1)).all (legB bs.length) = true)) := Lib.hid fun h => Lib.hid (all_next ha.out hrk h)
          have ns : Hid (legB bs.length rr = true → Hid (Sum ls (k + 1) (s + t)) ∧ IntKind.i64.wrap (s + t) = s + t) := Lib.hid fun h => ⟨Lib.hid (ht ▸ hs.out.next hrk (legB_tk h)), IntWalk.i64_in _ (by have := hs.out.2; have h2 := legB_tk h; have h3 : tk rr = t := ht; omega)⟩
          have bd : Hid (legB bs.length rr = false → missionB hd bs ls = false) := Lib.hid fun h => bad.out (all_bad hrk h)
          have ev : legB bs.length rr = (decide (1 ≤ t ∧ t ≤ 400) && (fV ((rr.drop 1).take 3) && (decide (0 ≤ fx ∧ fx ≤ 400) && decide (-1 ≤ b ∧ b ≤ (bs.length : Int) - 1)))) := by unfold legB; rw [ht, hfx, hb5]
          have kL0 := fun W => c_fits t fx b x' y' z' _ hsh r x y z A bs.length c W
          rw [← ev] at kL0
          generalize legB bs.length rr = bf at kL0 nx ns bd
          have kL := Lib.hid kL0
          clear kL0 ht hfx hb5 ev hK hrow hrk hsh
          have hcf := HF.out (wr.alloc (.cells #[.int .i64 t, .float .f32 x', .float .f32 y', .float .f32 z', .int .i64 fx, .int .i64 b] 163)) (Stays.trans hb.out (by (repeat (first | exact Stays.refl _ | (with_reducible refine Stays.drewN ?_ _) | (with_reducible refine Stays.alloc ?_ _) | (with_reducible refine Stays.drew ?_) | (refine Stays.trans ?_ ‹Stays _ _›)))))
          have hlt' : (k : Int) < (ls.length : Int) := by omega
          cases bf with
          | false =>
            go_wp2_with (go_at_call 127; refine (kL.out _).mono ?_; rintro e w3 ⟨rfl, hw3⟩; replace hw3 := Lib.hid hw3)
            go_ret
            exact ⟨ret_b (bd.out (by simp)).symm, Stays.trans hbw.out (Stays.trans (by (repeat (first | exact Stays.refl _ | (with_reducible refine Stays.drewN ?_ _) | (with_reducible refine Stays.alloc ?_ _) | (with_reducible refine Stays.drew ?_) | (refine Stays.trans ?_ ‹Stays _ _›)))) hw3.out)⟩
          | true =>
            obtain ⟨ns1, ns2⟩ := ns.out (by simp)
            clear ns
            go_wp2_with (go_at_call 127; refine (kL.out _).mono ?_; rintro e w3 ⟨rfl, hw3⟩; have hx := row_of hw3 (heap_alloc_new wr _); replace hw3 := Lib.hid (Stays.trans hb.out (Stays.trans (by (repeat (first | exact Stays.refl _ | (with_reducible refine Stays.drewN ?_ _) | (with_reducible refine Stays.alloc ?_ _) | (with_reducible refine Stays.drew ?_) | (refine Stays.trans ?_ ‹Stays _ _›)))) hw3)))
            go_round
            case rel => exact ⟨k + 1, s + t, by omega, by go_num, rfl, ns1, hw3, nx.out (by simp)⟩
            case measure => simp [intOf]; omega
        · have hL := Lib.hid (fin.out k s ha.out (by omega) hs.out)
          by_cases h400 : s ≤ 400
          · rw [decide_eq_true h400] at hL
            go_wp2
            go_ret
            exact ⟨ret_b (by first | (rw [hL.out]; done) | (rw [hL.out]; simp [h400])), hbw.out⟩
          · rw [decide_eq_false h400] at hL
            go_wp2
            go_ret
            exact ⟨ret_b (by first | (rw [hL.out]; done) | (rw [hL.out]; simp [h400])), hbw.out⟩
    · have h64' : ((ls.length : Nat) : Int) > 64 := by omega
      have fin := Lib.hid (missionB_n (hd := hd) (bs := bs) h64)
      clear hf
      go_enter Try.func99, Try.ntmps99
      go_wp2_with (first
        | (go_at_call 100; refine (kM.out _).mono ?_; rintro e w1 ⟨rfl, hw1⟩; replace hw1 := Lib.hid hw1)
        | (go_at_call 126; refine (kS.out _ (Stays.trans (HB.out _ hw1.out).2 (by (repeat (first | exact Stays.refl _ | (with_reducible refine Stays.drewN ?_ _) | (with_reducible refine Stays.alloc ?_ _) | (with_reducible refine Stays.drew ?_) | (refine Stays.trans ?_ ‹Stays _ _›)))))).mono ?_; rintro e w2 ⟨rfl, hw2⟩; replace hw2 := Lib.hid (Stays.trans (show Stays w1 _ from by (repeat (first | exact Stays.refl _ | (with_reducible refine Stays.drewN ?_ _) | (with_reducible refine Stays.alloc ?_ _) | (with_reducible refine Stays.drew ?_) | (refine Stays.trans ?_ ‹Stays _ _›)))) hw2); have hcb := (HB.out _ (Stays.trans hw1.out hw2.out)).1))
      go_ret
      exact ⟨ret_b fin.out.symm, (HB.out _ (Stays.trans hw1.out hw2.out)).2⟩

/-- The ticks of a mission, and a code. -/
noncomputable def ticksN (hd : List NV) (bs ls : List (List NV)) : Int × Int := if missionB hd bs ls then (tks ls, 0) else (0, 1)

theorem tks_sum {hd : List NV} {bs ls : List (List NV)} (h : missionB hd bs ls = true) : ∀ k, k ≤ ls.length → ∃ s, Sum ls k s := by
  unfold missionB at h
  simp only [Bool.and_eq_true] at h
  intro k
  induction k with
  | zero => exact fun _ => ⟨0, rfl, by omega, by omega⟩
  | succ k ih =>
    intro hk
    obtain ⟨s, hs⟩ := ih (by omega)
    have hrk : ls[k]? = some ls[k] := List.getElem?_eq_getElem (by omega)
    exact ⟨_, hs.next hrk (legB_tk (List.all_eq_true.1 h.2.2.1 _ (List.mem_of_getElem? hrk)))⟩

theorem tks_at {hd : List NV} {bs ls : List (List NV)} (h : missionB hd bs ls = true) (k : Nat) (hk : k < ls.length) : Sum ls k (tks (ls.take k)) ∧ tks (ls.take (k + 1)) = tks (ls.take k) + tk ls[k] ∧ IntKind.i64.wrap (tks (ls.take k) + tk ls[k]) = tks (ls.take k) + tk ls[k] := by
  obtain ⟨s, hs⟩ := tks_sum h k (by omega)
  obtain ⟨s', hs'⟩ := tks_sum h (k + 1) (by omega)
  have hrk : ls[k]? = some ls[k] := List.getElem?_eq_getElem (by omega)
  have e := tks_next hrk
  have e1 := hs.1
  have e2 := hs'.1
  subst e1
  rw [e] at e2
  refine ⟨hs, e, IntWalk.i64_in _ ?_⟩
  have h64 : ls.length ≤ 64 := by
    unfold missionB at h
    simp only [Bool.and_eq_true, decide_eq_true_eq] at h
    exact h.2.1
  obtain ⟨_, p1, p2⟩ := hs'
  rw [e2] at p1 p2
  omega

end Go.Proofs.Ytmcbeaihjdnelaa
