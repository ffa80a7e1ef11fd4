/- The texts of deeds, on both sides, and the law. Condition: the library's table of powers of ten lies in memory. -/
import Derived.Test.YtpccnejchbachaaDoorDc
import Derived.Deep.RegionLaw
namespace Go.Proofs.YtpccnejchbachaaDoor
open Go Go.ChangeShapes Go.WideShapes Go.RowKit
set_option linter.unusedVariables false
set_option linter.unusedSimpArgs false

def sp1 : ByteArray := ⟨#[32]⟩
def deedT (k a b : Nat) : ByteArray := if k = 2 then wordB k ++ sp1 ++ decS a ++ (sp1 ++ decS b) else wordB k ++ sp1 ++ decS a

theorem add3 (T1 T2 : ByteArray) (h1 : T1.size ≤ 7) (h2 : T2.size ≤ 21) : (∀ W : World, (Op.stringOp .add T1 sp1).run Tryd.prog W = .ok (.string (T1 ++ sp1)) W) ∧ (∀ W : World, (Op.stringOp .add (T1 ++ sp1) T2).run Tryd.prog W = .ok (.string (T1 ++ sp1 ++ T2)) W) := by
  have e : sp1.size = 1 := rfl
  refine ⟨fun W => run_string_add_sum (P := Tryd.prog) W T1 sp1 (by omega), fun W => run_string_add_sum (P := Tryd.prog) W (T1 ++ sp1) T2 ?_⟩
  rw [ByteArray.size_append]
  omega
theorem add5 (T1 T2 T3 : ByteArray) (h1 : T1.size ≤ 7) (h2 : T2.size ≤ 21) (h3 : T3.size ≤ 21) : (∀ W : World, (Op.stringOp .add sp1 T3).run Tryd.prog W = .ok (.string (sp1 ++ T3)) W) ∧ (∀ W : World, (Op.stringOp .add (T1 ++ sp1 ++ T2) (sp1 ++ T3)).run Tryd.prog W = .ok (.string (T1 ++ sp1 ++ T2 ++ (sp1 ++ T3))) W) := by
  have e : sp1.size = 1 := rfl
  refine ⟨fun W => run_string_add_sum (P := Tryd.prog) W sp1 T3 (by omega), fun W => run_string_add_sum (P := Tryd.prog) W (T1 ++ sp1 ++ T2) (sp1 ++ T3) ?_⟩
  simp only [ByteArray.size_append]
  omega

set_option maxRecDepth 100000 in
set_option maxHeartbeats 4000000 in
theorem c_specDeed (k a b : Nat) (w : World) (hk : 1 ≤ k ∧ k ≤ 7) (ha : a ≤ 999) (hb : b ≤ 999) (hz : k = 2 ∨ b = 0) :
    Calls Tryd.prog 6 #[.agg #[.int .i64 k, .int .i64 a, .int .i64 b]] w fun e w' => e = .returned (.string (deedT k a b)) ∧ Stays w w' := by
  have hbox := heap_alloc_new w (.cells #[.int .i64 (k : Int), .int .i64 (a : Int), .int .i64 (b : Int)] 25)
  have hst : Stays w (w.alloc (.cells #[.int .i64 (k : Int), .int .i64 (a : Int), .int .i64 (b : Int)] 25)) := by (repeat (first | exact Stays.refl _ | (with_reducible refine Stays.drewN ?_ _) | (with_reducible refine Stays.alloc ?_ _) | (with_reducible refine Stays.drew ?_) | (refine Stays.trans ?_ ‹Stays _ _›)))
  have HB := Lib.hid fun W (h : Stays (w.alloc (.cells #[.int .i64 (k : Int), .int .i64 (a : Int), .int .i64 (b : Int)] 25)) W) => And.intro (row_of h hbox 0) (And.intro (row_of h hbox 1) (row_of h hbox 2))
  have kV := Lib.hid fun W => c_l09Deed k a b W true ⟨fun _ => by unfold okD; omega, fun _ => rfl⟩
  have kW := Lib.hid fun W => c_l09Words W
  have kA := Lib.hid fun (W : World) => c_Decimal a W (by omega)
  have kB := Lib.hid fun (W : World) => c_Decimal b W (by omega)
  obtain ⟨t, ht, htk⟩ := told_at k (by omega)
  have hw := word_at k (by omega)
  obtain ⟨s1, s2⟩ := add3 (wordB k) (decS a) (word_len k (by omega)) (decS_len (by omega))
  obtain ⟨s3, s4⟩ := add5 (wordB k) (decS a) (decS b) (word_len k (by omega)) (decS_len (by omega)) (decS_len (by omega))
  have hsp : (⟨#[32]⟩ : ByteArray) = sp1 := rfl
  have hT2 := Lib.hid (show k = 2 → deedT k a b = wordB k ++ sp1 ++ decS a ++ (sp1 ++ decS b) from fun h => if_pos h)
  have hT1 := Lib.hid (show k ≠ 2 → deedT k a b = wordB k ++ sp1 ++ decS a from fun h => if_neg h)
  have hk1 : (0 : Int) ≤ (k : Int) := by omega
  have hk2 : (k : Int) < 8 := by omega
  replace hst := Lib.hid hst
  generalize deedT k a b = R at hT1 hT2 ⊢
  generalize wordB k = T1 at s1 s2 s3 s4 hT1 hT2 hw
  generalize decS a = T2 at s2 s4 kA hT1 hT2
  generalize decS b = T3 at s3 s4 kB hT1 hT2
  clear hbox hz ha hb hk
  by_cases h2 : k = 2
  · have hR := hT2.out h2
    have ht1 : 1 < t := htk.2 h2
    subst hR
    clear h2 htk
    go_enter Tryd.func6, Tryd.ntmps6
    go_wp2_with fail
    refine (kV.out _).mono ?_
    rintro e w1 ⟨rfl, hb1⟩
    replace hb1 := Lib.hid hb1
    go_wp2_with fail
    refine (kW.out _).mono ?_
    rintro e w2 ⟨rfl, hb2, g1, g2⟩
    have hb12 := Lib.hid (hb1.out.trans hb2)
    have HC := Lib.hid fun W (h : Stays w2 W) => And.intro (HB.out W (hb12.out.trans h)) (And.intro ((row_of h g1 k).trans hw) ((row_of h g2 k).trans ht))
    clear hb2 g1 g2 hw ht
    obtain ⟨⟨q0, q1, q2⟩, q3, q4⟩ := HC.out w2 (Stays.refl _)
    go_wp2
    go_region_law (first
      | (go_simp; go_at_call 21; with_reducible refine (kA.out _).mono ?_; rintro e w5 ⟨rfl, hb5⟩; have h5 := Lib.hid ((Stays.refl w2).drew.trans hb5); clear hb5; obtain ⟨⟨p0, p1, p2⟩, p3, p4⟩ := HC.out w5 h5.out))
    all_goals
      clear q0 q1 q2 q3 q4
      go_wp2_with (go_at_call 21; with_reducible refine (kB.out _).mono ?_; rintro e w7 ⟨rfl, hb7⟩; replace h5 := Lib.hid (h5.out.trans hb7); clear hb7 p0 p1 p2 p3 p4)
      go_ret
      exact ⟨rfl, hst.out.trans (hb12.out.trans h5.out)⟩
  · have hR := hT1.out h2
    have ht1 : ¬ 1 < t := fun h => h2 (htk.1 h)
    subst hR
    clear h2 htk
    go_enter Tryd.func6, Tryd.ntmps6
    go_wp2_with fail
    refine (kV.out _).mono ?_
    rintro e w1 ⟨rfl, hb1⟩
    replace hb1 := Lib.hid hb1
    go_wp2_with fail
    refine (kW.out _).mono ?_
    rintro e w2 ⟨rfl, hb2, g1, g2⟩
    have hb12 := Lib.hid (hb1.out.trans hb2)
    have HC := Lib.hid fun W (h : Stays w2 W) => And.intro (HB.out W (hb12.out.trans h)) (And.intro ((row_of h g1 k).trans hw) ((row_of h g2 k).trans ht))
    clear hb2 g1 g2 hw ht
    obtain ⟨⟨q0, q1, q2⟩, q3, q4⟩ := HC.out w2 (Stays.refl _)
    go_wp2
    go_region_law (first
      | (go_simp; go_at_call 21; with_reducible refine (kA.out _).mono ?_; rintro e w5 ⟨rfl, hb5⟩; have h5 := Lib.hid ((Stays.refl w2).drew.trans hb5); clear hb5; obtain ⟨⟨p0, p1, p2⟩, p3, p4⟩ := HC.out w5 h5.out))
    all_goals
      clear q0 q1 q2 q3 q4
      go_wp2_with (go_at_call 21; with_reducible refine (kB.out _).mono ?_; rintro e w7 ⟨rfl, hb7⟩; replace h5 := Lib.hid (h5.out.trans hb7); clear hb7 p0 p1 p2 p3 p4)
      go_ret
      exact ⟨rfl, hst.out.trans (hb12.out.trans h5.out)⟩

set_option maxRecDepth 100000 in
set_option maxHeartbeats 4000000 in
theorem c_implDeed (k a b : Nat) (w : World) (hk : 1 ≤ k ∧ k ≤ 7) (ha : a ≤ 999) (hb : b ≤ 999) (hz : k = 2 ∨ b = 0) (hP : PowT w) :
    Calls Tryd.prog 8 #[.agg #[.int .i64 k, .int .i64 a, .int .i64 b]] w fun e w' => e = .returned (.string (deedT k a b)) ∧ Stays w w' := by
  have hbox := heap_alloc_new w (.cells #[.int .i64 (k : Int), .int .i64 (a : Int), .int .i64 (b : Int)] 25)
  have hst : Stays w (w.alloc (.cells #[.int .i64 (k : Int), .int .i64 (a : Int), .int .i64 (b : Int)] 25)) := by (repeat (first | exact Stays.refl _ | (with_reducible refine Stays.drewN ?_ _) | (with_reducible refine Stays.alloc ?_ _) | (with_reducible refine Stays.drew ?_) | (refine Stays.trans ?_ ‹Stays _ _›)))
  have HB := Lib.hid fun W (h : Stays (w.alloc (.cells #[.int .i64 (k : Int), .int .i64 (a : Int), .int .i64 (b : Int)] 25)) W) => And.intro (row_of h hbox 0) (And.intro (row_of h hbox 1) (row_of h hbox 2))
  have kV := Lib.hid fun W => c_ValidDeedV k a b W true ⟨fun _ => by unfold okD; omega, fun _ => rfl⟩
  have kW := Lib.hid fun W => c_deedWords W
  have HT := Lib.hid hP
  have kA := Lib.hid fun (W : World) (h : PowT W) => (c_decimal a W (by omega) (by omega) h).mono (R' := fun e w' => e = .returned (.string (decS a)) ∧ Stays W w') fun e w' h => by rw [← itoaS_nonneg]; exact h
  have kB := Lib.hid fun (W : World) (h : PowT W) => (c_decimal b W (by omega) (by omega) h).mono (R' := fun e w' => e = .returned (.string (decS b)) ∧ Stays W w') fun e w' h => by rw [← itoaS_nonneg]; exact h
  have hix := word_idx k (by omega)
  obtain ⟨s1, s2⟩ := add3 (wordB k) (decS a) (word_len k (by omega)) (decS_len (by omega))
  obtain ⟨s3, s4⟩ := add5 (wordB k) (decS a) (decS b) (word_len k (by omega)) (decS_len (by omega)) (decS_len (by omega))
  have hsp : (⟨#[32]⟩ : ByteArray) = sp1 := rfl
  have hT2 := Lib.hid (show k = 2 → deedT k a b = wordB k ++ sp1 ++ decS a ++ (sp1 ++ decS b) from fun h => if_pos h)
  have hT1 := Lib.hid (show k ≠ 2 → deedT k a b = wordB k ++ sp1 ++ decS a from fun h => if_neg h)
  have hk1 : (0 : Int) ≤ (k : Int) := by omega
  have hk2 : (k : Int) < 8 := by omega
  replace hst := Lib.hid hst
  generalize deedT k a b = R at hT1 hT2 ⊢
  generalize wordB k = T1 at s1 s2 s3 s4 hT1 hT2 hix
  generalize decS a = T2 at s2 s4 kA hT1 hT2
  generalize decS b = T3 at s3 s4 kB hT1 hT2
  clear hbox hz ha hb hk hP
  by_cases h2 : k = 2
  · have hR := hT2.out h2
    have hk3 : ((k : Int) == 2) = true := by simp; omega
    subst hR
    clear h2
    go_enter Tryd.func8, Tryd.ntmps8
    go_wp2_with fail
    refine (kV.out _).mono ?_
    rintro e w1 ⟨rfl, hb1⟩
    replace hb1 := Lib.hid hb1
    obtain ⟨q0, q1, q2⟩ := HB.out w1 hb1.out
    go_wp2
    go_region_law (first
      | (go_simp; go_at_call 23; with_reducible refine (kW.out _).mono ?_; rintro e w5 ⟨rfl, hb5⟩; have h5 := Lib.hid ((Stays.refl w1).drew.trans hb5); clear hb5; obtain ⟨p0, p1, p2⟩ := HB.out w5 (hb1.out.trans h5.out))
      | (go_simp; go_at_call 24; with_reducible refine (kA.out _ (HT.out.on (hst.out.trans (hb1.out.trans h5.out)))).mono ?_; rintro e w6 ⟨rfl, hb6⟩; have h6 := Lib.hid (h5.out.trans hb6); clear hb6; obtain ⟨u0, u1, u2⟩ := HB.out w6 (hb1.out.trans h6.out)))
    all_goals
      clear q0 q1 q2 p0 p1 p2
      go_wp2_with (go_at_call 24; with_reducible refine (kB.out _ (HT.out.on (hst.out.trans (hb1.out.trans h6.out)))).mono ?_; rintro e w7 ⟨rfl, hb7⟩; replace h6 := Lib.hid (h6.out.trans hb7); clear hb7 u0 u1 u2)
      go_ret
      exact ⟨rfl, hst.out.trans (hb1.out.trans h6.out)⟩
  · have hR := hT1.out h2
    have hk3 : ((k : Int) == 2) = false := by simp; omega
    subst hR
    clear h2
    go_enter Tryd.func8, Tryd.ntmps8
    go_wp2_with fail
    refine (kV.out _).mono ?_
    rintro e w1 ⟨rfl, hb1⟩
    replace hb1 := Lib.hid hb1
    obtain ⟨q0, q1, q2⟩ := HB.out w1 hb1.out
    go_wp2
    go_region_law (first
      | (go_simp; go_at_call 23; with_reducible refine (kW.out _).mono ?_; rintro e w5 ⟨rfl, hb5⟩; have h5 := Lib.hid ((Stays.refl w1).drew.trans hb5); clear hb5; obtain ⟨p0, p1, p2⟩ := HB.out w5 (hb1.out.trans h5.out))
      | (go_simp; go_at_call 24; with_reducible refine (kA.out _ (HT.out.on (hst.out.trans (hb1.out.trans h5.out)))).mono ?_; rintro e w6 ⟨rfl, hb6⟩; have h6 := Lib.hid (h5.out.trans hb6); clear hb6; obtain ⟨u0, u1, u2⟩ := HB.out w6 (hb1.out.trans h6.out)))
    all_goals
      clear q0 q1 q2 p0 p1 p2
      go_wp2_with (go_at_call 24; with_reducible refine (kB.out _ (HT.out.on (hst.out.trans (hb1.out.trans h6.out)))).mono ?_; rintro e w7 ⟨rfl, hb7⟩; replace h6 := Lib.hid (h6.out.trans hb7); clear hb7 u0 u1 u2)
      go_ret
      exact ⟨rfl, hst.out.trans (hb1.out.trans h6.out)⟩

set_option maxRecDepth 100000 in
theorem c_specBad (k a b : Int) (w : World) (h : ¬ okD k a b) :
    Calls Tryd.prog 6 #[.agg #[.int .i64 k, .int .i64 a, .int .i64 b]] w fun e w' => e = .returned (.string ⟨#[]⟩) ∧ Stays w w' := by
  have hst : Stays w (w.alloc (.cells #[.int .i64 (k : Int), .int .i64 (a : Int), .int .i64 (b : Int)] 25)) := by (repeat (first | exact Stays.refl _ | (with_reducible refine Stays.drewN ?_ _) | (with_reducible refine Stays.alloc ?_ _) | (with_reducible refine Stays.drew ?_) | (refine Stays.trans ?_ ‹Stays _ _›)))
  have kV := Lib.hid fun W => c_l09Deed k a b W false ⟨fun h' => (by cases h'), fun h' => absurd h' h⟩
  replace hst := Lib.hid hst
  clear h
  go_enter Tryd.func6, Tryd.ntmps6
  go_wp2_with fail
  refine (kV.out _).mono ?_
  rintro e w1 ⟨rfl, hb1⟩
  replace hb1 := Lib.hid hb1
  go_wp2
  go_ret
  exact ⟨rfl, hst.out.trans hb1.out⟩

set_option maxRecDepth 100000 in
theorem c_implBad (k a b : Int) (w : World) (h : ¬ okD k a b) :
    Calls Tryd.prog 8 #[.agg #[.int .i64 k, .int .i64 a, .int .i64 b]] w fun e w' => e = .returned (.string ⟨#[]⟩) ∧ Stays w w' := by
  have hst : Stays w (w.alloc (.cells #[.int .i64 (k : Int), .int .i64 (a : Int), .int .i64 (b : Int)] 25)) := by (repeat (first | exact Stays.refl _ | (with_reducible refine Stays.drewN ?_ _) | (with_reducible refine Stays.alloc ?_ _) | (with_reducible refine Stays.drew ?_) | (refine Stays.trans ?_ ‹Stays _ _›)))
  have kV := Lib.hid fun W => c_ValidDeedV k a b W false ⟨fun h' => (by cases h'), fun h' => absurd h' h⟩
  replace hst := Lib.hid hst
  clear h
  go_enter Tryd.func8, Tryd.ntmps8
  go_wp2_with fail
  refine (kV.out _).mono ?_
  rintro e w1 ⟨rfl, hb1⟩
  replace hb1 := Lib.hid hb1
  go_wp2
  go_ret
  exact ⟨rfl, hst.out.trans hb1.out⟩

/-- The text that both sides give. -/
theorem both_deed (k a b : Int) : ∃ R : ByteArray, (∀ w, Calls Tryd.prog 6 #[.agg #[.int .i64 k, .int .i64 a, .int .i64 b]] w fun e w' => e = .returned (.string R) ∧ Stays w w') ∧ (∀ w, PowT w → Calls Tryd.prog 8 #[.agg #[.int .i64 k, .int .i64 a, .int .i64 b]] w fun e w' => e = .returned (.string R) ∧ Stays w w') := by
  by_cases h : okD k a b
  · obtain ⟨⟨h1, h2⟩, ⟨h3, h4⟩, ⟨h5, h6⟩, h7⟩ := h
    obtain ⟨n, rfl⟩ := Int.eq_ofNat_of_zero_le (show 0 ≤ k by omega)
    obtain ⟨m, rfl⟩ := Int.eq_ofNat_of_zero_le h3
    obtain ⟨l, rfl⟩ := Int.eq_ofNat_of_zero_le h5
    exact ⟨deedT n m l, fun w => c_specDeed n m l w (by omega) (by omega) (by omega) (by omega), fun w hP => c_implDeed n m l w (by omega) (by omega) (by omega) (by omega) hP⟩
  · exact ⟨⟨#[]⟩, fun w => c_specBad k a b w h, fun w _ => c_implBad k a b w h⟩

theorem deed_open {l : List Value} {ns : List NV} (h : KMs deedK l ns) : ∃ ka kb kc : Int, l = [.int .i64 ka, .int .i64 kb, .int .i64 kc] := by
  have hl : l.length = 3 := KMs_len h
  have hn : ns.length = 3 := KMs_rlen h
  match l, hl, h with
  | [a, b, c], _, h =>
    match ns, hn, h with
    | [x, y, z], _, h =>
      obtain ⟨h0, h1, h2, _⟩ := h
      have h0 : a = Value.int .i64 x.gi := h0
      have h1 : b = Value.int .i64 y.gi := h1
      have h2 : c = Value.int .i64 z.gi := h2
      exact ⟨x.gi, y.gi, z.gi, by rw [h0, h1, h2]⟩

set_option maxRecDepth 100000 in
set_option maxHeartbeats 1000000 in
theorem c_lawDeedText (k a b : Int) (w : World) (hP : PowT w) :
    Calls Tryd.prog 3 #[.agg #[.int .i64 k, .int .i64 a, .int .i64 b]] w fun e w' => e = .returned (.bool true) ∧ Below w.heap.size w w' := by
  obtain ⟨R, hS, hI⟩ := both_deed k a b
  have hbox := heap_alloc_new w (.cells #[.int .i64 k, .int .i64 a, .int .i64 b] 23)
  have hst : Stays w (w.alloc (.cells #[.int .i64 k, .int .i64 a, .int .i64 b] 23)) := by (repeat (first | exact Stays.refl _ | (with_reducible refine Stays.drewN ?_ _) | (with_reducible refine Stays.alloc ?_ _) | (with_reducible refine Stays.drew ?_) | (refine Stays.trans ?_ ‹Stays _ _›)))
  have HB := Lib.hid fun W (h : Stays (w.alloc (.cells #[.int .i64 k, .int .i64 a, .int .i64 b] 23)) W) => And.intro (row_of h hbox 0) (And.intro (row_of h hbox 1) (row_of h hbox 2))
  have kT := Lib.hid fun W => c_toDeed k a b W
  replace hS := Lib.hid hS
  replace hI := Lib.hid hI
  replace hst := Lib.hid hst
  replace hP := Lib.hid hP
  clear hbox
  go_enter Tryd.func3, Tryd.ntmps3
  go_wp2_with fail
  refine (kT.out _).mono ?_
  rintro e w1 ⟨rfl, hb1⟩
  replace hb1 := Lib.hid hb1
  go_wp2_with fail
  refine (hS.out _).mono ?_
  rintro e w2 ⟨rfl, hb2⟩
  have h2 := Lib.hid (hb1.out.trans hb2)
  clear hb2
  obtain ⟨q0, q1, q2⟩ := HB.out w2 h2.out
  go_wp2_with fail
  refine (kT.out _).mono ?_
  rintro e w3 ⟨rfl, hb3⟩
  have h3 := Lib.hid (h2.out.trans hb3)
  clear hb3 q0 q1 q2
  go_wp2_with fail
  refine (hI.out _ (hP.out.on (hst.out.trans h3.out))).mono ?_
  rintro e w4 ⟨rfl, hb4⟩
  have h4 := Lib.hid (h3.out.trans hb4)
  clear hb4
  go_wp2
  go_ret
  exact ⟨rfl, hst.out.trans h4.out⟩
end Go.Proofs.YtpccnejchbachaaDoor
