/- Missions and logs: frames, legs, on both sides. No condition. -/
import Derived.Test.YtmcbeaihjdnelaaMsMission
import Derived.Test.YtmcbeaihjdnelaaOFin
import Derived.Test.YtmcbeaihjdnelaaLa
import Derived.Test.YtmcbeaihjdnelaaSv
namespace Go.Proofs.Ytmcbeaihjdnelaa
open Go Go.RowKit
set_option linter.unusedVariables false
set_option linter.unusedSimpArgs false

theorem opq_sym {P : Program} {Φ : Syms} {e : Opq} (h : OpqOK P Φ e) (h0 : e.ext = 0) (h1 : e.same = false) : SymOK P Φ e := by
  unfold OpqOK at h
  rw [if_pos h0, if_neg (by rw [h1]; exact Bool.false_ne_true)] at h
  exact h

/-- One truth value of an argument that is a row. -/
theorem calls_rowB {Φ : Syms} {e : Opq} {K : List Kd} (h : OpqOK Try.prog Φ e) (h0 : e.ext = 0) (h1 : e.same = false) (ha : e.args = [.agg K]) (hr : e.res = .p (.one .b)) (v : Value) (r : List NV) (w : World) (hv : ShM (.agg K) v r) :
    Calls Try.prog e.f #[v] w fun en w' => en = .returned (.bool (Φ (e.sym * 64 + 0) r).gb) ∧ Below w.heap.size w w' := by
  have := opq_sym h h0 h1 #[v] r w (by rw [ha]; exact ⟨r, [], by simp, hv, rfl⟩)
  refine this.mono ?_
  rintro en w' ⟨v', rfl, hm, hs⟩
  rw [hr] at hm
  obtain ⟨n, hn, hb⟩ := hm
  cases hn
  exact ⟨congrArg _ hb, hs⟩

noncomputable def fV (r : List NV) : Bool := (oFin.Φ (10 * 64 + 0) r).gb

theorem c_l01VecG (v : Value) (r : List NV) (w : World) (h : ShM (.agg KVec) v r) : Calls Try.prog 106 #[v] w fun e w' => e = .returned (.bool (fV r)) ∧ Stays w w' :=
  calls_rowB oFin.okS rfl rfl rfl rfl v r w h
theorem c_IsFiniteVecG (v : Value) (r : List NV) (w : World) (h : ShM (.agg KVec) v r) : Calls Try.prog 103 #[v] w fun e w' => e = .returned (.bool (fV r)) ∧ Stays w w' :=
  calls_rowB oFin.okI rfl rfl rfl rfl v r w h

section
variable {p : List NV → Bool} {xs : List (List NV)} {k : Nat} {r : List NV}
theorem all_next (h : (xs.take k).all p = true) (hk : xs[k]? = some r) (hr : p r = true) : (xs.take (k + 1)).all p = true := by
  rw [List.take_add_one, hk, List.all_append, h]
  simp [hr]
theorem all_bad (hk : xs[k]? = some r) (hr : p r = false) : xs.all p = false :=
  Bool.eq_false_iff.2 fun h => by
    have := List.all_eq_true.1 h r (List.mem_of_getElem? hk)
    rw [hr] at this; cases this
theorem all_end (h : (xs.take k).all p = true) (hk : xs.length ≤ k) : xs.all p = true := by
  rwa [List.take_of_length_le hk] at h
end

def hdR (hd : List NV) : Int := (hd.getD 0 (.i 0)).gi
noncomputable def frameB (hd : List NV) (bs : List (List NV)) : Bool := decide (1 ≤ hdR hd ∧ hdR hd ≤ 64) && (fV (hd.drop 1) && (decide (bs.length ≤ 6) && bs.all fV))

theorem frameB_r {hd : List NV} {bs : List (List NV)} (h : ¬ (1 ≤ hdR hd ∧ hdR hd ≤ 64)) : frameB hd bs = false := by unfold frameB; rw [decide_eq_false h]; rfl
theorem frameB_f {hd : List NV} {bs : List (List NV)} (h : fV (hd.drop 1) = false) : frameB hd bs = false := by unfold frameB; rw [h]; simp
theorem frameB_n {hd : List NV} {bs : List (List NV)} (h : ¬ bs.length ≤ 6) : frameB hd bs = false := by unfold frameB; rw [decide_eq_false h]; simp
theorem frameB_b {hd : List NV} {bs : List (List NV)} (h : bs.all fV = false) : frameB hd bs = false := by unfold frameB; rw [h]; simp
theorem frameB_t {hd : List NV} {bs : List (List NV)} (h : 1 ≤ hdR hd ∧ hdR hd ≤ 64) (hf : fV (hd.drop 1) = true) (hn : bs.length ≤ 6) (hb : bs.all fV = true) : frameB hd bs = true := by unfold frameB; rw [decide_eq_true h, decide_eq_true hn, hf, hb]; rfl

set_option maxRecDepth 100000 in
set_option maxHeartbeats 1000000 in
theorem c_l08Frame (r : Int) (x y z : Nat) (A : Option Addr) (c : Nat) (hd : List NV) (bs : List (List NV)) (w : World) (hh : HdK r x y z hd) (h : Ls KVec 3 w w.heap.size A bs) (hn : bs.length ≤ 1048576) :
    Calls Try.prog 122 #[.int .i64 r, .agg #[.float .f32 x, .float .f32 y, .float .f32 z], .slice A bs.length c] w fun e w' => e = .returned (.bool (frameB hd bs)) ∧ Stays w w' := by
  have H := Lib.hid h
  have er : hdR hd = r := hh.r.symm
  have kf0 : ∀ W, Calls Try.prog 106 #[.agg #[.float .f32 x, .float .f32 y, .float .f32 z]] W fun e w' => e = .returned (.bool (fV (hd.drop 1))) ∧ Stays W w' := fun W => c_l01VecG _ _ W hh.shm
  clear h hh
  have kI := fun W => c_l00In r 1 64 W
  by_cases h1 : 1 ≤ r ∧ r ≤ 64
  · simp only [decide_eq_true h1] at kI
    replace kI := Lib.hid kI
    cases hf : fV (hd.drop 1) with
    | false =>
      have fin := Lib.hid (frameB_f (bs := bs) hf)
      rw [hf] at kf0
      have kf := Lib.hid kf0
      clear hf kf0 er
      go_enter Try.func122, Try.ntmps122
      go_wp2_with (first | (go_at_call 107; refine (kI.out _).mono ?_; rintro e w1 ⟨rfl, rfl⟩) | (go_at_call 106; refine (kf.out _).mono ?_; rintro e w1 ⟨rfl, hw1⟩))
      go_ret
      exact ⟨ret_b fin.out.symm, Stays.trans (show Stays w _ from by (repeat (first | exact Stays.refl _ | (with_reducible refine Stays.drewN ?_ _) | (with_reducible refine Stays.alloc ?_ _) | (with_reducible refine Stays.drew ?_) | (refine Stays.trans ?_ ‹Stays _ _›)))) hw1⟩
    | true =>
      rw [hf] at kf0
      have kf := Lib.hid kf0
      clear kf0
      by_cases h6 : bs.length ≤ 6
      · have h6' : ¬ ((bs.length : Nat) : Int) > 6 := by omega
        have fin := Lib.hid fun hb => frameB_t (bs := bs) (by rw [er]; exact h1) hf h6 hb
        have bad := Lib.hid fun hb => frameB_b (hd := hd) (bs := bs) hb
        clear hf er
        go_enter Try.func122, Try.ntmps122
        go_wp2_with (first | (go_at_call 107; refine (kI.out _).mono ?_; rintro e w1 ⟨rfl, rfl⟩) | (go_at_call 106; refine (kf.out _).mono ?_; rintro e w1 ⟨rfl, hw1⟩; replace hw1 := Lib.hid (Stays.trans (show Stays w _ from by (repeat (first | exact Stays.refl _ | (with_reducible refine Stays.drewN ?_ _) | (with_reducible refine Stays.alloc ?_ _) | (with_reducible refine Stays.drew ?_) | (refine Stays.trans ?_ ‹Stays _ _›)))) hw1)))
        go_loopw [7] (fun i wr => ∃ k : Nat, k ≤ bs.length ∧ i = .int .i64 k ∧ Hid (Stays w wr) ∧ Hid ((bs.take k).all fV = true)) (fun i _ => bs.length - (intOf i).toNat)
        case atStart => exact ⟨0, Nat.zero_le _, rfl, hw1, Lib.hid rfl⟩
        case round =>
          clear hw1
          obtain ⟨k, hk, rfl, hb, ha⟩ := hrel
          by_cases hlt : k < bs.length
          · obtain ⟨ad, rfl, hbl, hrow⟩ := (H.out.below hb.out) k bs[k] (List.getElem?_eq_getElem hlt)
            have hrk := List.getElem?_eq_getElem hlt
            generalize bs[k] = r' at hrow hrk
            obtain ⟨c0, c1, c2, hK, g0, g1, g2⟩ := row3 rfl hrow
            have hf : ∀ W, Calls Try.prog 106 #[.agg #[c0, c1, c2]] W fun e w' => e = .returned (.bool (fV r')) ∧ Stays W w' := fun W => c_l01VecG _ _ W ⟨_, rfl, hK⟩
            have nx : Hid (fV r' = true → Hid ((bs.take (k + 1)).all fV = true)) := Lib.hid fun h => Lib.hid (all_next ha.out hrk h)
            have bd : Hid (fV r' = false → bs.all fV = false) := Lib.hid fun h => all_bad hrk h
            generalize fV r' = bf at hf nx bd
            replace hf := Lib.hid hf
            clear hK hrow hrk
            have hlt' : (k : Int) < (bs.length : Int) := by omega
            cases bf with
            | true =>
              go_wp2_with (go_at_call 106; refine (hf.out _).mono ?_; rintro e w2 ⟨rfl, hw2⟩; have hb2 := Lib.hid (Stays.trans hb.out (Stays.trans (show Stays wr _ from by (repeat (first | exact Stays.refl _ | (with_reducible refine Stays.drewN ?_ _) | (with_reducible refine Stays.alloc ?_ _) | (with_reducible refine Stays.drew ?_) | (refine Stays.trans ?_ ‹Stays _ _›)))) hw2)); clear hw2)
              go_round
              case rel => exact ⟨k + 1, by omega, by go_num, hb2, nx.out (by simp)⟩
              case measure => simp [intOf]; omega
            | false =>
              go_wp2_with (go_at_call 106; refine (hf.out _).mono ?_; rintro e w2 ⟨rfl, hw2⟩; have hb2 := Lib.hid (Stays.trans hb.out (Stays.trans (show Stays wr _ from by (repeat (first | exact Stays.refl _ | (with_reducible refine Stays.drewN ?_ _) | (with_reducible refine Stays.alloc ?_ _) | (with_reducible refine Stays.drew ?_) | (refine Stays.trans ?_ ‹Stays _ _›)))) hw2)); clear hw2)
              go_ret
              exact ⟨ret_b (bad.out (bd.out (by simp))).symm, hb2.out⟩
          · have hL := Lib.hid (all_end ha.out (by omega))
            go_wp2
            go_ret
            exact ⟨ret_b (fin.out hL.out).symm, hb.out⟩
      · have h6' : ((bs.length : Nat) : Int) > 6 := by omega
        have fin := Lib.hid (frameB_n (hd := hd) h6)
        clear hf er
        go_enter Try.func122, Try.ntmps122
        go_wp2_with (first | (go_at_call 107; refine (kI.out _).mono ?_; rintro e w1 ⟨rfl, rfl⟩) | (go_at_call 106; refine (kf.out _).mono ?_; rintro e w1 ⟨rfl, hw1⟩))
        go_ret
        exact ⟨ret_b fin.out.symm, Stays.trans (show Stays w _ from by (repeat (first | exact Stays.refl _ | (with_reducible refine Stays.drewN ?_ _) | (with_reducible refine Stays.alloc ?_ _) | (with_reducible refine Stays.drew ?_) | (refine Stays.trans ?_ ‹Stays _ _›)))) hw1⟩
  · simp only [decide_eq_false h1] at kI
    replace kI := Lib.hid kI
    have fin := Lib.hid (frameB_r (bs := bs) (hd := hd) (by rw [er]; exact h1))
    clear er kf0
    go_enter Try.func122, Try.ntmps122
    go_wp2_with (first | (go_at_call 107; refine (kI.out _).mono ?_; rintro e w1 ⟨rfl, rfl⟩))
    go_ret
    exact ⟨ret_b fin.out.symm, show Stays w _ from by (repeat (first | exact Stays.refl _ | (with_reducible refine Stays.drewN ?_ _) | (with_reducible refine Stays.alloc ?_ _) | (with_reducible refine Stays.drew ?_) | (refine Stays.trans ?_ ‹Stays _ _›)))⟩

set_option maxRecDepth 100000 in
set_option maxHeartbeats 1000000 in
theorem c_isSound (r : Int) (x y z : Nat) (A : Option Addr) (c : Nat) (hd : List NV) (bs : List (List NV)) (w : World) (hh : HdK r x y z hd) (h : Ls KVec 3 w w.heap.size A bs) (hn : bs.length ≤ 1048576) :
    Calls Try.prog 126 #[.agg #[.int .i64 r, .float .f32 x, .float .f32 y, .float .f32 z, .slice A bs.length c]] w fun e w' => e = .returned (.bool (frameB hd bs)) ∧ Stays w w' := by
  have H := Lib.hid h
  have er : hdR hd = r := hh.r.symm
  have kf : Hid (∀ W, Calls Try.prog 103 #[.agg #[.float .f32 x, .float .f32 y, .float .f32 z]] W fun e w' => e = .returned (.bool (fV (hd.drop 1))) ∧ Stays W w') := Lib.hid fun W => c_IsFiniteVecG _ _ W hh.shm
  clear h hh
  by_cases h1 : 1 ≤ r
  · have h1' : ¬ r < 1 := by omega
    by_cases h2 : r ≤ 64
    · have h2' : ¬ r > 64 := by omega
      by_cases h6 : bs.length ≤ 6
      · have h6' : ¬ ((bs.length : Nat) : Int) > 6 := by omega
        have fin := Lib.hid fun (hb : bs.all fV = true) => show frameB hd bs = fV (hd.drop 1) from by unfold frameB; rw [er, decide_eq_true (And.intro h1 h2), decide_eq_true h6, hb]; simp
        have bad := Lib.hid fun hb => frameB_b (hd := hd) (bs := bs) hb
        generalize fV (hd.drop 1) = bv at kf fin
        have HB : Hid (∀ w1, Stays (w.alloc (.cells #[.int .i64 r, .float .f32 x, .float .f32 y, .float .f32 z, .slice A bs.length c] 159)) w1 → ∀ i, w1.cell? ⟨w.heap.size, i, none⟩ = (#[.int .i64 r, .float .f32 x, .float .f32 y, .float .f32 z, .slice A bs.length c] : Array Value)[i]?) := Lib.hid fun w1 h => row_of h (heap_alloc_new w _)
        have hw0 : Hid (Stays (w.alloc (.cells #[.int .i64 r, .float .f32 x, .float .f32 y, .float .f32 z, .slice A bs.length c] 159)) (w.alloc (.cells #[.int .i64 r, .float .f32 x, .float .f32 y, .float .f32 z, .slice A bs.length c] 159))) := Lib.hid (Stays.refl _)
        have hws : Hid (Stays w (w.alloc (.cells #[.int .i64 r, .float .f32 x, .float .f32 y, .float .f32 z, .slice A bs.length c] 159))) := Lib.hid (by (repeat (first | exact Stays.refl _ | (with_reducible refine Stays.drewN ?_ _) | (with_reducible refine Stays.alloc ?_ _) | (with_reducible refine Stays.drew ?_) | (refine Stays.trans ?_ ‹Stays _ _›))))
        clear er
        go_enter Try.func126, Try.ntmps126
        go_wp2
        generalize (w.alloc (.cells #[.int .i64 r, .float .f32 x, .float .f32 y, .float .f32 z, .slice A bs.length c] 159)) = W0 at HB hw0 hws ⊢
        go_loopw [22] (fun i wr => ∃ k : Nat, k ≤ bs.length ∧ i = .int .i64 k ∧ Hid (Stays W0 wr) ∧ Hid ((bs.take k).all fV = true)) (fun i _ => bs.length - (intOf i).toNat)
        case atStart => exact ⟨0, Nat.zero_le _, rfl, hw0, Lib.hid rfl⟩
        case round =>
          clear hw0
          obtain ⟨k, hk, rfl, hb, ha⟩ := hrel
          by_cases hlt : k < bs.length
          · obtain ⟨ad, rfl, hbl, hrow⟩ := (H.out.below (Stays.trans hws.out hb.out)) k bs[k] (List.getElem?_eq_getElem hlt)
            have hrk := List.getElem?_eq_getElem hlt
            generalize bs[k] = r' at hrow hrk
            obtain ⟨c0, c1, c2, hK, g0, g1, g2⟩ := row3 rfl hrow
            obtain ⟨x', y', z', ecs⟩ := vec_cells hK
            cases ecs
            have hf : ∀ W, Calls Try.prog 103 #[.agg #[.float .f32 x', .float .f32 y', .float .f32 z']] W fun e w' => e = .returned (.bool (fV r')) ∧ Stays W w' := fun W => c_IsFiniteVecG _ _ W ⟨_, rfl, hK⟩
            have nx : Hid (fV r' = true → Hid ((bs.take (k + 1)).all fV = true)) := Lib.hid fun h => Lib.hid (all_next ha.out hrk h)
            have bd : Hid (fV r' = false → bs.all fV = false) := Lib.hid fun h => all_bad hrk h
            generalize fV r' = bf at hf nx bd
            replace hf := Lib.hid hf
            clear hK hrow hrk
            have hlt' : (k : Int) < (bs.length : Int) := by omega
            cases bf with
            | true =>
              go_wp2_with (go_at_call 103; refine (hf.out _).mono ?_; rintro e w2 ⟨rfl, hw2⟩; have hb2 := Lib.hid (Stays.trans hb.out (Stays.trans (show Stays wr _ from by (repeat (first | exact Stays.refl _ | (with_reducible refine Stays.drewN ?_ _) | (with_reducible refine Stays.alloc ?_ _) | (with_reducible refine Stays.drew ?_) | (refine Stays.trans ?_ ‹Stays _ _›)))) hw2)); clear hw2)
              go_round
              case rel => exact ⟨k + 1, by omega, by go_num, hb2, nx.out (by simp)⟩
              case measure => simp [intOf]; omega
            | false =>
              go_wp2_with (go_at_call 103; refine (hf.out _).mono ?_; rintro e w2 ⟨rfl, hw2⟩; have hb2 := Lib.hid (Stays.trans hb.out (Stays.trans (show Stays wr _ from by (repeat (first | exact Stays.refl _ | (with_reducible refine Stays.drewN ?_ _) | (with_reducible refine Stays.alloc ?_ _) | (with_reducible refine Stays.drew ?_) | (refine Stays.trans ?_ ‹Stays _ _›)))) hw2)); clear hw2)
              go_ret
              exact ⟨ret_b (bad.out (bd.out (by simp))).symm, Stays.trans hws.out hb2.out⟩
          · have hL := Lib.hid (fin.out (all_end ha.out (by omega)))
            have hc := HB.out _ hb.out
            go_wp2_with (go_at_call 103; refine (kf.out _).mono ?_; rintro e w2 ⟨rfl, hw2⟩)
            go_ret
            exact ⟨ret_b hL.out.symm, Stays.trans hws.out (Stays.trans hb.out hw2)⟩
      · have h6' : ((bs.length : Nat) : Int) > 6 := by omega
        have fin := Lib.hid (frameB_n (hd := hd) h6)
        clear er
        go_enter Try.func126, Try.ntmps126
        go_wp2
        go_ret
        exact ⟨ret_b fin.out.symm, show Stays w _ from by (repeat (first | exact Stays.refl _ | (with_reducible refine Stays.drewN ?_ _) | (with_reducible refine Stays.alloc ?_ _) | (with_reducible refine Stays.drew ?_) | (refine Stays.trans ?_ ‹Stays _ _›)))⟩
    · have h2' : r > 64 := by omega
      have fin := Lib.hid (frameB_r (bs := bs) (hd := hd) (by rw [er]; omega))
      clear er
      go_enter Try.func126, Try.ntmps126
      go_wp2
      go_ret
      exact ⟨ret_b fin.out.symm, show Stays w _ from by (repeat (first | exact Stays.refl _ | (with_reducible refine Stays.drewN ?_ _) | (with_reducible refine Stays.alloc ?_ _) | (with_reducible refine Stays.drew ?_) | (refine Stays.trans ?_ ‹Stays _ _›)))⟩
  · have h1' : r < 1 := by omega
    have fin := Lib.hid (frameB_r (bs := bs) (hd := hd) (by rw [er]; omega))
    clear er
    go_enter Try.func126, Try.ntmps126
    go_wp2
    go_ret
    exact ⟨ret_b fin.out.symm, show Stays w _ from by (repeat (first | exact Stays.refl _ | (with_reducible refine Stays.drewN ?_ _) | (with_reducible refine Stays.alloc ?_ _) | (with_reducible refine Stays.drew ?_) | (refine Stays.trans ?_ ‹Stays _ _›)))⟩

theorem c_hasBeacon (a0 a1 a2 a3 : Value) (A : Option Addr) (n c : Nat) (i : Int) (w : World) :
    Calls Try.prog 135 #[.agg #[a0, a1, a2, a3, .slice A n c], .int .i64 i] w fun e w' => e = .returned (.bool (decide (0 ≤ i ∧ i < n))) ∧ Stays w w' := by
  by_cases h0 : 0 ≤ i
  · by_cases h1 : i < (n : Int)
    · go_enter Try.func135, Try.ntmps135
      go_wp2
      go_ret
      exact ⟨ret_b (by simp [h0, h1]), show Stays w _ from by (repeat (first | exact Stays.refl _ | (with_reducible refine Stays.drewN ?_ _) | (with_reducible refine Stays.alloc ?_ _) | (with_reducible refine Stays.drew ?_) | (refine Stays.trans ?_ ‹Stays _ _›)))⟩
    · go_enter Try.func135, Try.ntmps135
      go_wp2
      go_ret
      exact ⟨ret_b (by simp [h0, h1]), show Stays w _ from by (repeat (first | exact Stays.refl _ | (with_reducible refine Stays.drewN ?_ _) | (with_reducible refine Stays.alloc ?_ _) | (with_reducible refine Stays.drew ?_) | (refine Stays.trans ?_ ‹Stays _ _›)))⟩
  · go_enter Try.func135, Try.ntmps135
    go_wp2
    go_ret
    exact ⟨ret_b (by simp; omega), show Stays w _ from by (repeat (first | exact Stays.refl _ | (with_reducible refine Stays.drewN ?_ _) | (with_reducible refine Stays.alloc ?_ _) | (with_reducible refine Stays.drew ?_) | (refine Stays.trans ?_ ‹Stays _ _›)))⟩

end Go.Proofs.Ytmcbeaihjdnelaa
