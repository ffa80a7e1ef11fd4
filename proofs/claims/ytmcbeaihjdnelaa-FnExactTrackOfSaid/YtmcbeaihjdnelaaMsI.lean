/- Missions: whether one is valid, on both sides; their ticks. No condition. -/
import Derived.Test.YtmcbeaihjdnelaaMsG
namespace Go.Proofs.Ytmcbeaihjdnelaa
open Go Go.RowKit
set_option linter.unusedVariables false
set_option linter.unusedSimpArgs false

def okS (b : Bool) (f : FuncId) (args : Array Value) (v : Value) : Prop := f = 122 → v = .bool b
def lgS (b : Bool) (f : FuncId) (args : Array Value) (v : Value) : Prop := (f = 107 → ∀ x lo hi, args = #[.int .i64 x, .int .i64 lo, .int .i64 hi] → v = .bool (decide (lo ≤ x ∧ x ≤ hi))) ∧ (f = 106 → v = .bool b)

abbrev MCells (r : Int) (x y z : Nat) (A A' : Option Addr) (n c n' c' : Nat) : Array Value := #[.int .i64 r, .float .f32 x, .float .f32 y, .float .f32 z, .slice A n c, .slice A' n' c']

set_option maxRecDepth 100000 in
set_option maxHeartbeats 8000000 in
theorem c_l08Ok (p : Nat) (r : Int) (x y z : Nat) (A A' : Option Addr) (c c' : Nat) (hd : List NV) (bs ls : List (List NV)) (w : World) (hh : HdK r x y z hd) (h : Ls KVec 3 w w.heap.size A bs) (h' : Ls KLeg 6 w w.heap.size A' ls)
    (hg : w.heap[p]? = some (.cells #[.int .i64 r, .float .f32 x, .float .f32 y, .float .f32 z, .slice A bs.length c, .slice A' ls.length c'] 99 (0, 0))) (hn : bs.length ≤ 1048576) (hm : ls.length ≤ 1048576) :
    Calls Try.prog 95 #[.pointer (some ⟨p, 0, none⟩)] w fun e w' => e = .returned (.bool (missionB hd bs ls)) ∧ Stays w w' := by
  have H' := Lib.hid h'
  have HB : Hid (∀ w1, Stays w w1 → ∀ i, w1.cell? ⟨p, i, none⟩ = (#[.int .i64 r, .float .f32 x, .float .f32 y, .float .f32 z, .slice A bs.length c, .slice A' ls.length c'] : Array Value)[i]?) := Lib.hid fun w1 h => row_of h hg
  have kF0 : ∀ W, Stays w W → Calls Try.prog 122 #[.int .i64 r, .agg #[.float .f32 x, .float .f32 y, .float .f32 z], .slice A bs.length c] W fun e w' => e = .returned (.bool (frameB hd bs)) ∧ Stays W w' := fun W hb => c_l08Frame r x y z A c hd bs W hh ((h.below hb).more hb.size) hn
  clear h h' hg hh
  have hcells : ∀ w1, Stays w w1 → _ := fun w1 h => HB.out w1 h
  cases hf : frameB hd bs with
  | false =>
    have fin := Lib.hid (missionB_f (ls := ls) hf)
    rw [hf] at kF0
    have kF := Lib.hid kF0
    clear kF0 hf
    go_enter Try.func95, Try.ntmps95
    go_wp2
    refine wp_region_soft_tail 21 (Stays.refl _) (okS false) [] (by kernel_rfl) (by kernel_rfl) (fun _ h => by cases h) ?_
    simp only [List.take_succ_cons, List.take_zero, List.drop_succ_cons, List.drop_zero]
    repeat (first | ((with_reducible apply soft_detG); (case hwa => rfl); (case hA => rfl); (case h => (intro w1 hw1; have hc := hcells w1 hw1; go_simp; exact rfl)); go_simp) | ((with_reducible apply soft_skipG); (case hwa => rfl); (case hA => rfl); go_simp) | ((with_reducible apply soft_callS (v := .bool false)); (case hwa => rfl); (case hA => rfl); (case h => (intro w1 hw1; have hc := hcells w1 hw1; go_simp; exact ⟨rfl, rfl⟩)); (case hc => (intro w1 hw1; with_reducible exact kF.out w1 hw1)); (case hS => exact (fun _ => rfl)); (case hu => exact fun u hu => hu rfl); go_simp))
    refine soft_nil ?_
    rintro w2 ⟨hw2, _⟩
    go_wp2
    go_ret
    exact ⟨ret_b fin.out.symm, hw2⟩
  | true =>
    rw [hf] at kF0
    have kF := Lib.hid kF0
    clear kF0
    by_cases h64 : ls.length ≤ 64
    · have h64' : ¬ ((ls.length : Nat) : Int) > 64 := by omega
      have h64'' : ((ls.length : Nat) : Int) ≤ 64 := by omega
      have fin := Lib.hid fun (k : Nat) (s : Int) hall (hk : ls.length ≤ k) hs => missionB_t (s := s) (k := k) hf h64 hall hk hs
      have bad := Lib.hid fun hl => missionB_l (hd := hd) (bs := bs) (ls := ls) hl
      clear hf
      go_enter Try.func95, Try.ntmps95
      go_wp2
      refine wp_region_soft_tail 21 (Stays.refl _) (okS true) [] (by kernel_rfl) (by kernel_rfl) (fun _ h => by cases h) ?_
      simp only [List.take_succ_cons, List.take_zero, List.drop_succ_cons, List.drop_zero]
      repeat (first | ((with_reducible apply soft_detG); (case hwa => rfl); (case hA => rfl); (case h => (intro w1 hw1; have hc := hcells w1 hw1; go_simp; exact rfl)); go_simp) | ((with_reducible apply soft_skipG); (case hwa => rfl); (case hA => rfl); go_simp) | ((with_reducible apply soft_callS (v := .bool true)); (case hwa => rfl); (case hA => rfl); (case h => (intro w1 hw1; have hc := hcells w1 hw1; go_simp; exact ⟨rfl, rfl⟩)); (case hc => (intro w1 hw1; with_reducible exact kF.out w1 hw1)); (case hS => exact (fun _ => rfl)); (case hu => exact fun u hu => hu rfl); go_simp))
      refine soft_nil ?_
      rintro w2 ⟨hw2, _⟩
      replace hw2 := Lib.hid hw2
      clear hcells kF
      go_wp2
      go_loopw [3, 4] (fun sv iv wr => ∃ (k : Nat) (s : Int), k ≤ ls.length ∧ iv = .int .i64 k ∧ sv = .int .i64 s ∧ Hid (Sum ls k s) ∧ Hid (Stays w wr) ∧ Hid ((ls.take k).all (legB bs.length) = true)) (fun _ iv _ => ls.length - (intOf iv).toNat)
      case atStart => exact ⟨0, 0, Nat.zero_le _, rfl, rfl, Lib.hid ⟨rfl, by omega, by omega⟩, hw2, Lib.hid rfl⟩
      case round =>
        clear hw2
        obtain ⟨k, s, hk, rfl, rfl, hs, hb, ha⟩ := hrel
        have hcb := HB.out _ hb.out
        by_cases hlt : k < ls.length
        · obtain ⟨ad, rfl, hbl, hrow⟩ := (H'.out.below hb.out) k ls[k] (List.getElem?_eq_getElem hlt)
          have hrk := List.getElem?_eq_getElem hlt
          generalize ls[k] = rr at hrow hrk
          obtain ⟨c0, c1, c2, c3, c4, c5, hK, g0, g1, g2, g3, g4, g5⟩ := row6 rfl hrow
          obtain ⟨t, fx, b, x', y', z', ecs, ht, hfx, hb5, hsh⟩ := leg_cells hK
          cases ecs
          have nx : Hid (legB bs.length rr = true → Hid ((ls.take (k + 1)).all (legB bs.length) = true)) := Lib.hid fun h => Lib.hid (all_next ha.out hrk h)
          have ns : Hid (legB bs.length rr = true → Hid (Sum ls (k + 1) (s + t))) := Lib.hid fun h => Lib.hid (ht ▸ hs.out.next hrk (legB_tk h))
          have bd : Hid (legB bs.length rr = false → missionB hd bs ls = false) := Lib.hid fun h => bad.out (all_bad hrk h)
          have ev : legB bs.length rr = (decide (1 ≤ t ∧ t ≤ 400) && (fV ((rr.drop 1).take 3) && (decide (0 ≤ fx ∧ fx ≤ 400) && decide (-1 ≤ b ∧ b ≤ (bs.length : Int) - 1)))) := by unfold legB; rw [ht, hfx, hb5]
          rw [ev] at nx ns bd
          have kV0 : ∀ W, Calls Try.prog 106 #[.agg #[.float .f32 x', .float .f32 y', .float .f32 z']] W fun e w' => e = .returned (.bool (fV ((rr.drop 1).take 3))) ∧ Stays W w' := fun W => c_l01VecG _ _ W hsh
          have kin : ∀ a lo hi : Int, Hid (∀ W, Calls Try.prog 107 #[.int .i64 a, .int .i64 lo, .int .i64 hi] W fun e w' => e = .returned (.bool (decide (lo ≤ a ∧ a ≤ hi))) ∧ Stays W w') := fun a lo hi => Lib.hid fun W => (c_l00In a lo hi W).mono fun e w' he => ⟨he.1, he.2 ▸ Stays.refl _⟩
          have kA := kin t 1 400
          have kB := kin fx 0 400
          have kC := kin b (-1) ((bs.length : Int) - 1)
          have hsub : IntKind.i64.wrap ((bs.length : Int) - 1) = (bs.length : Int) - 1 := IntWalk.i64_in _ (by omega)
          have hadd : 1 ≤ t ∧ t ≤ 400 → IntKind.i64.wrap (s + t) = s + t := fun h => IntWalk.i64_in _ (by have := hs.out.2; omega)
          clear kin ht hfx hb5 ev hK hrow hrk hsh
          generalize fV ((rr.drop 1).take 3) = bf at kV0 nx ns bd
          have kV := Lib.hid kV0
          clear kV0
          have hA1 : ∀ n, (ad.add n).block < wr.heap.size := fun n => by rw [block_add]; exact Nat.lt_of_lt_of_le hbl hb.out.size
          have G : Hid (∀ w', Stays wr w' → w'.cell? (ad.add (k * 6)) = some (.int .i64 t) ∧ w'.cell? ⟨(ad.add (k * 6)).block, (ad.add (k * 6)).off + 1, none⟩ = some (.float .f32 x') ∧ w'.cell? ⟨(ad.add (k * 6)).block, (ad.add (k * 6)).off + 1 + 1, none⟩ = some (.float .f32 y') ∧ w'.cell? ⟨(ad.add (k * 6)).block, (ad.add (k * 6)).off + 1 + 2, none⟩ = some (.float .f32 z') ∧ w'.cell? ⟨(ad.add (k * 6)).block, (ad.add (k * 6)).off + 4, none⟩ = some (.int .i64 fx) ∧ w'.cell? ⟨(ad.add (k * 6)).block, (ad.add (k * 6)).off + 5, none⟩ = some (.int .i64 b)) := Lib.hid fun w' hs =>
            ⟨(Below.cell hs (hA1 _)).trans g0, (Below.cell (p := ⟨(ad.add (k * 6)).block, _, none⟩) hs (hA1 _)).trans g1, (Below.cell (p := ⟨(ad.add (k * 6)).block, _, none⟩) hs (hA1 _)).trans g2, (Below.cell (p := ⟨(ad.add (k * 6)).block, _, none⟩) hs (hA1 _)).trans g3, (Below.cell (p := ⟨(ad.add (k * 6)).block, _, none⟩) hs (hA1 _)).trans g4, (Below.cell (p := ⟨(ad.add (k * 6)).block, _, none⟩) hs (hA1 _)).trans g5⟩
          have hcells : ∀ w1, Stays wr w1 → _ := fun w1 h => And.intro (HB.out w1 (Stays.trans hb.out h)) (G.out w1 h)
          clear g0 g1 g2 g3 g4 g5
          have hlt' : (k : Int) < (ls.length : Int) := by omega
          cases h1 : decide (1 ≤ t ∧ t ≤ 400) with
          | false =>
            rw [h1] at kA nx ns bd
            replace h1 := Lib.hid h1
            go_wp2
            clear hcb
            refine wp_region_soft_tail 35 (Stays.refl _) (lgS bf) [] (by kernel_rfl) (by kernel_rfl) (fun _ h => by cases h) ?_
            simp only [List.take_succ_cons, List.take_zero, List.drop_succ_cons, List.drop_zero]
            repeat (first | ((with_reducible apply soft_detG); (case hwa => rfl); (case hA => rfl); (case h => (intro w1 hw1; have hc := hcells w1 hw1; go_simp; exact rfl)); go_simp) | ((with_reducible apply soft_skipG); (case hwa => rfl); (case hA => rfl); go_simp) | ((with_reducible apply soft_callS (v := .bool false)); (case hwa => rfl); (case hA => rfl); (case h => (intro w1 hw1; have hc := hcells w1 hw1; go_simp; exact ⟨rfl, rfl⟩)); (case hc => (intro w1 hw1; with_reducible exact kA.out w1)); (case hS => exact ⟨fun _ x lo hi e => (by simp at e; obtain ⟨rfl, rfl, rfl⟩ := e; rw [h1.out]), fun e => absurd e (by decide)⟩); (case hu => exact fun u hu => (hu.1 rfl _ _ _ rfl).trans (by rw [h1.out])); go_simp))
            refine soft_nil ?_
            rintro w2 ⟨hw2, _⟩
            replace hw2 := Lib.hid (Stays.trans hb.out hw2)
            clear hcells
            go_wp2
            go_ret
            exact ⟨ret_b (bd.out (by simp [*])).symm, hw2.out⟩
          | true =>
            have hadd' := hadd (of_decide_eq_true h1)
            rw [h1] at kA nx ns bd
            replace h1 := Lib.hid h1
            clear hadd
            cases bf with
            | false =>
              go_wp2
              clear hcb
              refine wp_region_soft_tail 35 (Stays.refl _) (lgS false) [] (by kernel_rfl) (by kernel_rfl) (fun _ h => by cases h) ?_
              simp only [List.take_succ_cons, List.take_zero, List.drop_succ_cons, List.drop_zero]
              repeat (first | ((with_reducible apply soft_detG); (case hwa => rfl); (case hA => rfl); (case h => (intro w1 hw1; have hc := hcells w1 hw1; go_simp; exact rfl)); go_simp) | ((with_reducible apply soft_skipG); (case hwa => rfl); (case hA => rfl); go_simp) | ((with_reducible apply soft_callS (v := .bool true)); (case hwa => rfl); (case hA => rfl); (case h => (intro w1 hw1; have hc := hcells w1 hw1; go_simp; exact ⟨rfl, rfl⟩)); (case hc => (intro w1 hw1; with_reducible exact kA.out w1)); (case hS => exact ⟨fun _ x lo hi e => (by simp at e; obtain ⟨rfl, rfl, rfl⟩ := e; rw [h1.out]), fun e => absurd e (by decide)⟩); (case hu => exact fun u hu => (hu.1 rfl _ _ _ rfl).trans (by rw [h1.out])); go_simp) | ((with_reducible apply soft_callS (v := .bool false)); (case hwa => rfl); (case hA => rfl); (case h => (intro w1 hw1; have hc := hcells w1 hw1; go_simp; exact ⟨rfl, rfl⟩)); (case hc => (intro w1 hw1; with_reducible exact kV.out w1)); (case hS => exact ⟨fun e => absurd e (by decide), fun _ => rfl⟩); (case hu => exact fun u hu => hu.2 rfl); go_simp))
              refine soft_nil ?_
              rintro w2 ⟨hw2, _⟩
              replace hw2 := Lib.hid (Stays.trans hb.out hw2)
              clear hcells
              go_wp2
              go_ret
              exact ⟨ret_b (bd.out (by simp [*])).symm, hw2.out⟩
            | true =>
              cases h2 : decide (0 ≤ fx ∧ fx ≤ 400) with
              | false =>
                rw [h2] at kB nx ns bd
                replace h2 := Lib.hid h2
                go_wp2
                clear hcb
                refine wp_region_soft_tail 35 (Stays.refl _) (lgS true) [] (by kernel_rfl) (by kernel_rfl) (fun _ h => by cases h) ?_
                simp only [List.take_succ_cons, List.take_zero, List.drop_succ_cons, List.drop_zero]
                repeat (first | ((with_reducible apply soft_detG); (case hwa => rfl); (case hA => rfl); (case h => (intro w1 hw1; have hc := hcells w1 hw1; go_simp; exact rfl)); go_simp) | ((with_reducible apply soft_skipG); (case hwa => rfl); (case hA => rfl); go_simp) | ((with_reducible apply soft_callS (v := .bool true)); (case hwa => rfl); (case hA => rfl); (case h => (intro w1 hw1; have hc := hcells w1 hw1; go_simp; exact ⟨rfl, rfl⟩)); (case hc => (intro w1 hw1; with_reducible exact kA.out w1)); (case hS => exact ⟨fun _ x lo hi e => (by simp at e; obtain ⟨rfl, rfl, rfl⟩ := e; rw [h1.out]), fun e => absurd e (by decide)⟩); (case hu => exact fun u hu => (hu.1 rfl _ _ _ rfl).trans (by rw [h1.out])); go_simp) | ((with_reducible apply soft_callS (v := .bool true)); (case hwa => rfl); (case hA => rfl); (case h => (intro w1 hw1; have hc := hcells w1 hw1; go_simp; exact ⟨rfl, rfl⟩)); (case hc => (intro w1 hw1; with_reducible exact kV.out w1)); (case hS => exact ⟨fun e => absurd e (by decide), fun _ => rfl⟩); (case hu => exact fun u hu => hu.2 rfl); go_simp) | ((with_reducible apply soft_callS (v := .bool false)); (case hwa => rfl); (case hA => rfl); (case h => (intro w1 hw1; have hc := hcells w1 hw1; go_simp; exact ⟨rfl, rfl⟩)); (case hc => (intro w1 hw1; with_reducible exact kB.out w1)); (case hS => exact ⟨fun _ x lo hi e => (by simp at e; obtain ⟨rfl, rfl, rfl⟩ := e; rw [h2.out]), fun e => absurd e (by decide)⟩); (case hu => exact fun u hu => (hu.1 rfl _ _ _ rfl).trans (by rw [h2.out])); go_simp))
                refine soft_nil ?_
                rintro w2 ⟨hw2, _⟩
                replace hw2 := Lib.hid (Stays.trans hb.out hw2)
                clear hcells
                go_wp2
                go_ret
                exact ⟨ret_b (bd.out (by simp [*])).symm, hw2.out⟩
              | true =>
                rw [h2] at kB nx ns bd
                replace h2 := Lib.hid h2
                cases h3 : decide (-1 ≤ b ∧ b ≤ (bs.length : Int) - 1) with
                | false =>
                  rw [h3] at kC nx ns bd
                  replace h3 := Lib.hid h3
                  go_wp2
                  clear hcb
                  refine wp_region_soft_tail 35 (Stays.refl _) (lgS true) [] (by kernel_rfl) (by kernel_rfl) (fun _ h => by cases h) ?_
                  simp only [List.take_succ_cons, List.take_zero, List.drop_succ_cons, List.drop_zero]
                  repeat (first | ((with_reducible apply soft_detG); (case hwa => rfl); (case hA => rfl); (case h => (intro w1 hw1; have hc := hcells w1 hw1; go_simp; exact rfl)); go_simp) | ((with_reducible apply soft_skipG); (case hwa => rfl); (case hA => rfl); go_simp) | ((with_reducible apply soft_callS (v := .bool true)); (case hwa => rfl); (case hA => rfl); (case h => (intro w1 hw1; have hc := hcells w1 hw1; go_simp; exact ⟨rfl, rfl⟩)); (case hc => (intro w1 hw1; with_reducible exact kA.out w1)); (case hS => exact ⟨fun _ x lo hi e => (by simp at e; obtain ⟨rfl, rfl, rfl⟩ := e; rw [h1.out]), fun e => absurd e (by decide)⟩); (case hu => exact fun u hu => (hu.1 rfl _ _ _ rfl).trans (by rw [h1.out])); go_simp) | ((with_reducible apply soft_callS (v := .bool true)); (case hwa => rfl); (case hA => rfl); (case h => (intro w1 hw1; have hc := hcells w1 hw1; go_simp; exact ⟨rfl, rfl⟩)); (case hc => (intro w1 hw1; with_reducible exact kV.out w1)); (case hS => exact ⟨fun e => absurd e (by decide), fun _ => rfl⟩); (case hu => exact fun u hu => hu.2 rfl); go_simp) | ((with_reducible apply soft_callS (v := .bool true)); (case hwa => rfl); (case hA => rfl); (case h => (intro w1 hw1; have hc := hcells w1 hw1; go_simp; exact ⟨rfl, rfl⟩)); (case hc => (intro w1 hw1; with_reducible exact kB.out w1)); (case hS => exact ⟨fun _ x lo hi e => (by simp at e; obtain ⟨rfl, rfl, rfl⟩ := e; rw [h2.out]), fun e => absurd e (by decide)⟩); (case hu => exact fun u hu => (hu.1 rfl _ _ _ rfl).trans (by rw [h2.out])); go_simp) | ((with_reducible apply soft_callS (v := .bool false)); (case hwa => rfl); (case hA => rfl); (case h => (intro w1 hw1; have hc := hcells w1 hw1; go_simp; exact ⟨rfl, rfl⟩)); (case hc => (intro w1 hw1; with_reducible exact kC.out w1)); (case hS => exact ⟨fun _ x lo hi e => (by simp at e; obtain ⟨rfl, rfl, rfl⟩ := e; rw [h3.out]), fun e => absurd e (by decide)⟩); (case hu => exact fun u hu => (hu.1 rfl _ _ _ rfl).trans (by rw [h3.out])); go_simp))
                  refine soft_nil ?_
                  rintro w2 ⟨hw2, _⟩
                  replace hw2 := Lib.hid (Stays.trans hb.out hw2)
                  clear hcells
                  go_wp2
                  go_ret
                  exact ⟨ret_b (bd.out (by simp [*])).symm, hw2.out⟩
                | true =>
                  rw [h3] at kC nx ns bd
                  replace h3 := Lib.hid h3
                  go_wp2
                  clear hcb
                  refine wp_region_soft_tail 35 (Stays.refl _) (lgS true) [] (by kernel_rfl) (by kernel_rfl) (fun _ h => by cases h) ?_
                  simp only [List.take_succ_cons, List.take_zero, List.drop_succ_cons, List.drop_zero]
                  repeat (first | ((with_reducible apply soft_detG); (case hwa => rfl); (case hA => rfl); (case h => (intro w1 hw1; have hc := hcells w1 hw1; go_simp; exact rfl)); go_simp) | ((with_reducible apply soft_skipG); (case hwa => rfl); (case hA => rfl); go_simp) | ((with_reducible apply soft_callS (v := .bool true)); (case hwa => rfl); (case hA => rfl); (case h => (intro w1 hw1; have hc := hcells w1 hw1; go_simp; exact ⟨rfl, rfl⟩)); (case hc => (intro w1 hw1; with_reducible exact kA.out w1)); (case hS => exact ⟨fun _ x lo hi e => (by simp at e; obtain ⟨rfl, rfl, rfl⟩ := e; rw [h1.out]), fun e => absurd e (by decide)⟩); (case hu => exact fun u hu => (hu.1 rfl _ _ _ rfl).trans (by rw [h1.out])); go_simp) | ((with_reducible apply soft_callS (v := .bool true)); (case hwa => rfl); (case hA => rfl); (case h => (intro w1 hw1; have hc := hcells w1 hw1; go_simp; exact ⟨rfl, rfl⟩)); (case hc => (intro w1 hw1; with_reducible exact kV.out w1)); (case hS => exact ⟨fun e => absurd e (by decide), fun _ => rfl⟩); (case hu => exact fun u hu => hu.2 rfl); go_simp) | ((with_reducible apply soft_callS (v := .bool true)); (case hwa => rfl); (case hA => rfl); (case h => (intro w1 hw1; have hc := hcells w1 hw1; go_simp; exact ⟨rfl, rfl⟩)); (case hc => (intro w1 hw1; with_reducible exact kB.out w1)); (case hS => exact ⟨fun _ x lo hi e => (by simp at e; obtain ⟨rfl, rfl, rfl⟩ := e; rw [h2.out]), fun e => absurd e (by decide)⟩); (case hu => exact fun u hu => (hu.1 rfl _ _ _ rfl).trans (by rw [h2.out])); go_simp) | ((with_reducible apply soft_callS (v := .bool true)); (case hwa => rfl); (case hA => rfl); (case h => (intro w1 hw1; have hc := hcells w1 hw1; go_simp; exact ⟨rfl, rfl⟩)); (case hc => (intro w1 hw1; with_reducible exact kC.out w1)); (case hS => exact ⟨fun _ x lo hi e => (by simp at e; obtain ⟨rfl, rfl, rfl⟩ := e; rw [h3.out]), fun e => absurd e (by decide)⟩); (case hu => exact fun u hu => (hu.1 rfl _ _ _ rfl).trans (by rw [h3.out])); go_simp))
                  refine soft_nil ?_
                  rintro w2 ⟨hw2, _⟩
                  have hw2x := Lib.hid hw2
                  replace hw2 := Lib.hid (Stays.trans hb.out hw2)
                  have hg0 := (G.out _ (show Stays wr wr from Stays.refl _)).1
                  have hcc := hcells w2 hw2x.out
                  clear hcells
                  go_wp2
                  go_round
                  case rel => exact ⟨k + 1, s + t, by omega, by go_num, rfl, ns.out (by simp [*]), hw2, nx.out (by simp [*])⟩
                  case measure => simp [intOf]; omega
        · have hL := Lib.hid (fin.out k s ha.out (by omega) hs.out)
          by_cases h400 : s ≤ 400
          · rw [decide_eq_true h400] at hL
            go_wp2
            go_ret
            exact ⟨ret_b (by first | (rw [hL.out]; done) | (rw [hL.out]; simp [h400])), hb.out⟩
          · rw [decide_eq_false h400] at hL
            go_wp2
            go_ret
            exact ⟨ret_b (by first | (rw [hL.out]; done) | (rw [hL.out]; simp [h400])), hb.out⟩
    · have h64' : ((ls.length : Nat) : Int) > 64 := by omega
      have fin := Lib.hid (missionB_n (hd := hd) (bs := bs) h64)
      clear hf
      go_enter Try.func95, Try.ntmps95
      go_wp2
      refine wp_region_soft_tail 21 (Stays.refl _) (okS true) [] (by kernel_rfl) (by kernel_rfl) (fun _ h => by cases h) ?_
      simp only [List.take_succ_cons, List.take_zero, List.drop_succ_cons, List.drop_zero]
      repeat (first | ((with_reducible apply soft_detG); (case hwa => rfl); (case hA => rfl); (case h => (intro w1 hw1; have hc := hcells w1 hw1; go_simp; exact rfl)); go_simp) | ((with_reducible apply soft_skipG); (case hwa => rfl); (case hA => rfl); go_simp) | ((with_reducible apply soft_callS (v := .bool true)); (case hwa => rfl); (case hA => rfl); (case h => (intro w1 hw1; have hc := hcells w1 hw1; go_simp; exact ⟨rfl, rfl⟩)); (case hc => (intro w1 hw1; with_reducible exact kF.out w1 hw1)); (case hS => exact (fun _ => rfl)); (case hu => exact fun u hu => hu rfl); go_simp))
      refine soft_nil ?_
      rintro w2 ⟨hw2, _⟩
      go_wp2
      go_ret
      exact ⟨ret_b fin.out.symm, hw2⟩

end Go.Proofs.Ytmcbeaihjdnelaa
