/- Graphs: whether two are the same, as the document says it. No condition. -/
import Derived.Test.YtfjchhfoefgldaaPb
import Derived.Test.YtfjchhfoefgldaaSv
namespace Go.Proofs.Ytfjchhfoefgldaa
open Go Go.RowKit
set_option linter.unusedVariables false
set_option linter.unusedSimpArgs false

theorem two_cells {w : World} {p : Nat} {a b : Value} {t : TypeId} (hg : w.heap[p]? = some (.cells #[a, b] t (0, 0))) : ∀ w', Below w.heap.size w w' → w'.cell? ⟨p, 0, none⟩ = some a ∧ w'.cell? ⟨p, 1, none⟩ = some b := fun w' hb => by
  have hlt : p < w.heap.size := (Array.getElem?_eq_some_iff.1 hg).1
  exact ⟨(hb.cell (p := ⟨p, 0, none⟩) hlt).trans (cell_of_row _ _ _ _ _ _ hg), (hb.cell (p := ⟨p, 1, none⟩) hlt).trans (cell_of_row _ _ _ _ _ _ hg)⟩

noncomputable def graphS (ps ls ps' ls' : List (List NV)) : Bool := pairB samP ps ps' && pairB linkS ls ls'

def sgS (bp bn : Bool) (f : FuncId) (args : Array Value) (v : Value) : Prop := (f = 43 → v = .bool bp) ∧ (f = 84 → v = .bool bn)

set_option maxRecDepth 100000 in
set_option maxHeartbeats 4000000 in
theorem c_l06Same (p p' : Nat) (A A' D D' : Option Addr) (c c' d d' : Nat) (ps ls ps' ls' : List (List NV)) (w : World) (hg : w.heap[p]? = some (.cells #[.slice A ps.length c, .slice A' ls.length c'] 46 (0, 0))) (hg' : w.heap[p']? = some (.cells #[.slice D ps'.length d, .slice D' ls'.length d'] 46 (0, 0)))
    (h : Ls KPose 3 w w.heap.size A ps) (h' : Ls KLink 6 w w.heap.size A' ls) (k : Ls KPose 3 w w.heap.size D ps') (k' : Ls KLink 6 w w.heap.size D' ls') (hn : ps.length ≤ 1048576) (hm : ls.length ≤ 1048576) :
    Calls Try.prog 60 #[.pointer (some ⟨p, 0, none⟩), .pointer (some ⟨p', 0, none⟩)] w fun e w' => e = .returned (.bool (graphS ps ls ps' ls')) ∧ Below w.heap.size w w' := by
  have H := Lib.hid h
  have H' := Lib.hid h'
  have K := Lib.hid k
  have K' := Lib.hid k'
  have HB : Hid (∀ w', Below w.heap.size w w' → (w'.cell? ⟨p, 0, none⟩ = some (.slice A ps.length c) ∧ w'.cell? ⟨p, 1, none⟩ = some (.slice A' ls.length c')) ∧ (w'.cell? ⟨p', 0, none⟩ = some (.slice D ps'.length d) ∧ w'.cell? ⟨p', 1, none⟩ = some (.slice D' ls'.length d'))) := Lib.hid fun w' h => ⟨two_cells hg w' h, two_cells hg' w' h⟩
  clear h h' k k' hg hg'
  have hcells : ∀ w1, Stays w w1 → _ := fun w1 h => HB.out w1 h
  by_cases hl : ps.length = ps'.length
  · by_cases hl2 : ls.length = ls'.length
    · rw [← hl, ← hl2] at HB hcells
      replace hl := Lib.hid hl
      replace hl2 := Lib.hid hl2
      go_enter Try.func60, Try.ntmps60
      go_wp2
      refine wp_region_soft_tail 23 (Stays.refl _) (sgS false false) [] (by kernel_rfl) (by kernel_rfl) (fun _ h => by cases h) ?_
      simp only [List.take_succ_cons, List.take_zero, List.drop_succ_cons, List.drop_zero]
      repeat (first | ((with_reducible apply soft_detG); (case hwa => rfl); (case hA => rfl); (case h => (intro w1 hw1; have hc := hcells w1 hw1; go_simp; exact rfl)); go_simp) | ((with_reducible apply soft_skipG); (case hwa => rfl); (case hA => rfl); go_simp))
      refine soft_nil ?_
      rintro w0 ⟨hw0, _⟩
      replace hw0 := Lib.hid hw0
      clear hcells
      go_wp2
      go_loopw [5] (fun i wr => ∃ k : Nat, k ≤ ps.length ∧ i = .int .i64 k ∧ Hid (Below w.heap.size w wr) ∧ Hid (∀ j r s, j < k → ps[j]? = some r → ps'[j]? = some s → samP r s = true)) (fun i _ => ps.length - (intOf i).toNat)
      case atStart => exact ⟨0, Nat.zero_le _, rfl, hw0, Lib.hid fun j r s hj => by omega⟩
      case round =>
        clear hw0
        obtain ⟨k, hk, rfl, hb, ha⟩ := hrel
        obtain ⟨⟨z0, z1⟩, z2, z3⟩ := HB.out _ hb.out
        by_cases hlt : k < ps.length
        · obtain ⟨ad, rfl, hbl, hrow⟩ := (H.out.below hb.out) k ps[k] (List.getElem?_eq_getElem hlt)
          obtain ⟨ad', rfl, hbl', hrow'⟩ := (K.out.below hb.out) k (ps'[k]'(by have := hl.out; omega)) (List.getElem?_eq_getElem (by have := hl.out; omega))
          have hrk := List.getElem?_eq_getElem hlt
          have hsk : ps'[k]? = some (ps'[k]'(by have := hl.out; omega)) := List.getElem?_eq_getElem (by have := hl.out; omega)
          generalize ps[k] = r at hrow hrk
          generalize ps'[k]'(by have := hl.out; omega) = s at hrow' hsk
          obtain ⟨c0, c1, c2, hK, g0, g1, g2⟩ := row3 rfl hrow
          obtain ⟨d0, d1, d2, hK', k0, k1, k2⟩ := row3 rfl hrow'
          have hf : ∀ W : World, Calls Try.prog 43 #[.agg #[c0, c1, c2], .agg #[d0, d1, d2]] W fun e w' => e = .returned (.bool (samP r s)) ∧ Stays W w' := fun W => c_l06SamePose (.agg #[c0, c1, c2]) (.agg #[d0, d1, d2]) r s ⟨_, rfl, hK⟩ ⟨_, rfl, hK'⟩ W
          have nx : Hid (samP r s = true → Hid (∀ j r s, j < k + 1 → ps[j]? = some r → ps'[j]? = some s → samP r s = true)) := Lib.hid fun h => Lib.hid (pair_next ha.out hrk hsk h)
          have bd : Hid (samP r s = false → graphS ps ls ps' ls' = false) := Lib.hid fun h => by unfold graphS; rw [pair_bad hrk hsk h]; rfl
          generalize samP r s = bf at hf nx bd
          replace hf := Lib.hid hf
          have hA1 : ∀ n, (ad.add n).block < wr.heap.size := fun n => by rw [block_add]; exact Nat.lt_of_lt_of_le hbl hb.out.size
          have hA2 : ∀ n, (ad'.add n).block < wr.heap.size := fun n => by rw [block_add]; exact Nat.lt_of_lt_of_le hbl' hb.out.size
          have G : Hid (∀ w', Stays wr w' → w'.cell? (ad.add (k * 3)) = some c0 ∧ w'.cell? ⟨(ad.add (k * 3)).block, (ad.add (k * 3)).off + 1, none⟩ = some c1 ∧ w'.cell? ⟨(ad.add (k * 3)).block, (ad.add (k * 3)).off + 2, none⟩ = some c2 ∧
              w'.cell? (ad'.add (k * 3)) = some d0 ∧ w'.cell? ⟨(ad'.add (k * 3)).block, (ad'.add (k * 3)).off + 1, none⟩ = some d1 ∧ w'.cell? ⟨(ad'.add (k * 3)).block, (ad'.add (k * 3)).off + 2, none⟩ = some d2) := Lib.hid fun w' hs =>
            ⟨(Below.cell hs (hA1 _)).trans g0, (Below.cell (p := ⟨(ad.add (k * 3)).block, _, none⟩) hs (hA1 _)).trans g1, (Below.cell (p := ⟨(ad.add (k * 3)).block, _, none⟩) hs (hA1 _)).trans g2, (Below.cell hs (hA2 _)).trans k0, (Below.cell (p := ⟨(ad'.add (k * 3)).block, _, none⟩) hs (hA2 _)).trans k1, (Below.cell (p := ⟨(ad'.add (k * 3)).block, _, none⟩) hs (hA2 _)).trans k2⟩
          have hcells : ∀ w1, Stays wr w1 → _ := fun w1 h => And.intro (HB.out w1 (hb.out.trans (Below.mono h hb.out.size))) (G.out w1 h)
          clear hK hrow hrk hK' hrow' hsk g0 g1 g2 k0 k1 k2
          have hlt' : (k : Int) < (ps.length : Int) := by omega
          cases bf with
          | true =>
            go_wp2
            refine wp_region_soft_tail 15 (Stays.refl _) (sgS true false) [] (by kernel_rfl) (by kernel_rfl) (fun _ h => by cases h) ?_
            simp only [List.take_succ_cons, List.take_zero, List.drop_succ_cons, List.drop_zero]
            repeat (first | ((with_reducible apply soft_detG); (case hwa => rfl); (case hA => rfl); (case h => (intro w1 hw1; have hc := hcells w1 hw1; go_simp; exact rfl)); go_simp) | ((with_reducible apply soft_callS (v := .bool true)); (case hwa => rfl); (case hA => rfl); (case h => (intro w1 hw1; have hc := hcells w1 hw1; go_simp; exact ⟨rfl, rfl⟩)); (case hc => (intro w1 hw1; with_reducible exact hf.out w1)); (case hS => exact ⟨fun _ => rfl, fun e => absurd e (by decide)⟩); (case hu => exact fun u hu => hu.1 rfl); go_simp))
            refine soft_nil ?_
            rintro w2 ⟨hw2, _⟩
            replace hw2 := Lib.hid (hb.out.trans (Below.mono hw2 hb.out.size))
            clear hcells
            go_wp2
            go_round
            case rel => exact ⟨k + 1, by omega, by go_num, hw2, nx.out (by simp)⟩
            case measure => simp [intOf]; omega
          | false =>
            go_wp2
            refine wp_region_soft_tail 15 (Stays.refl _) (sgS false false) [] (by kernel_rfl) (by kernel_rfl) (fun _ h => by cases h) ?_
            simp only [List.take_succ_cons, List.take_zero, List.drop_succ_cons, List.drop_zero]
            repeat (first | ((with_reducible apply soft_detG); (case hwa => rfl); (case hA => rfl); (case h => (intro w1 hw1; have hc := hcells w1 hw1; go_simp; exact rfl)); go_simp) | ((with_reducible apply soft_callS (v := .bool false)); (case hwa => rfl); (case hA => rfl); (case h => (intro w1 hw1; have hc := hcells w1 hw1; go_simp; exact ⟨rfl, rfl⟩)); (case hc => (intro w1 hw1; with_reducible exact hf.out w1)); (case hS => exact ⟨fun _ => rfl, fun e => absurd e (by decide)⟩); (case hu => exact fun u hu => hu.1 rfl); go_simp))
            refine soft_nil ?_
            rintro w2 ⟨hw2, _⟩
            replace hw2 := Lib.hid (hb.out.trans (Below.mono hw2 hb.out.size))
            clear hcells
            go_wp2
            go_ret
            exact ⟨ret_b (bd.out (by simp [*])).symm, hw2.out⟩
        · have hP := Lib.hid (pair_end hl.out ha.out (by omega))
          clear ha
          go_wp2
          clear z0 z1 z2 z3
          go_loopw [6] (fun i wr => ∃ k : Nat, k ≤ ls.length ∧ i = .int .i64 k ∧ Hid (Below w.heap.size w wr) ∧ Hid (∀ j r s, j < k → ls[j]? = some r → ls'[j]? = some s → linkS r s = true)) (fun i _ => ls.length - (intOf i).toNat)
          case atStart => exact ⟨0, Nat.zero_le _, rfl, hb, Lib.hid fun j r s hj => by omega⟩
          case round =>
            clear hb
            obtain ⟨k, hk, rfl, hb, ha⟩ := hrel
            obtain ⟨⟨z0, z1⟩, z2, z3⟩ := HB.out _ hb.out
            by_cases hlt : k < ls.length
            · obtain ⟨ad, rfl, hbl, hrow⟩ := (H'.out.below hb.out) k ls[k] (List.getElem?_eq_getElem hlt)
              obtain ⟨ad', rfl, hbl', hrow'⟩ := (K'.out.below hb.out) k (ls'[k]'(by have := hl2.out; omega)) (List.getElem?_eq_getElem (by have := hl2.out; omega))
              have hrk := List.getElem?_eq_getElem hlt
              have hsk : ls'[k]? = some (ls'[k]'(by have := hl2.out; omega)) := List.getElem?_eq_getElem (by have := hl2.out; omega)
              generalize ls[k] = r at hrow hrk
              generalize ls'[k]'(by have := hl2.out; omega) = s at hrow' hsk
              have nx : Hid (linkS r s = true → Hid (∀ j r s, j < k + 1 → ls[j]? = some r → ls'[j]? = some s → linkS r s = true)) := Lib.hid fun h => Lib.hid (pair_next ha.out hrk hsk h)
              have bd : Hid (linkS r s = false → graphS ps ls ps' ls' = false) := Lib.hid fun h => by unfold graphS; rw [pair_bad hrk hsk h]; simp
              clear hrk hsk
              obtain ⟨c0, c1, c2, c3, c4, c5, hK, g0, g1, g2, g3, g4, g5⟩ := row6 rfl hrow
              obtain ⟨d0, d1, d2, d3, d4, d5, hK', k0, k1, k2, k3, k4, k5⟩ := row6 rfl hrow'
              have hlen := KMs_rlen hK
              have hlen' := KMs_rlen hK'
              match r, hlen, hK, s, hlen', hK' with
              | [n0, n1, n2, n3, n4, n5], _, ⟨i0, i1, ⟨ra, i2, fa⟩, ⟨rb, i3, fb⟩, ⟨rc, i4, fc⟩, ⟨rd, i5, fd⟩, _⟩, [m0, m1, m2, m3, m4, m5], _, ⟨q0, q1, ⟨sa, q2, ga⟩, ⟨sb, q3, gb⟩, ⟨sc, q4, gc⟩, ⟨sd, q5, gd⟩, _⟩ =>
                have i0 : c0 = .int .i64 n0.gi := i0
                have i1 : c1 = .int .i64 n1.gi := i1
                have q0 : d0 = .int .i64 m0.gi := q0
                have q1 : d1 = .int .i64 m1.gi := q1
                subst i0 i1 i2 i3 i4 i5 q0 q1 q2 q3 q4 q5
                have hP' : ∀ W : World, Calls Try.prog 43 #[.agg #[.float .f32 ra, .float .f32 rb, .float .f32 rc], .agg #[.float .f32 sa, .float .f32 sb, .float .f32 sc]] W fun e w' => e = .returned (.bool (samP [n2, n3, n4] [m2, m3, m4])) ∧ Stays W w' := fun W => c_l06SamePose (.agg #[.float .f32 ra, .float .f32 rb, .float .f32 rc]) (.agg #[.float .f32 sa, .float .f32 sb, .float .f32 sc]) [n2, n3, n4] [m2, m3, m4] ⟨_, rfl, ⟨ra, rfl, fa⟩, ⟨rb, rfl, fb⟩, ⟨rc, rfl, fc⟩, trivial⟩ ⟨_, rfl, ⟨sa, rfl, ga⟩, ⟨sb, rfl, gb⟩, ⟨sc, rfl, gc⟩, trivial⟩ W
                have hN : ∀ W : World, Calls Try.prog 84 #[.float .f32 rd, .float .f32 sd] W fun e w' => e = .returned (.bool (sameN n5 m5)) ∧ Stays W w' := fun W => (c_l01Same rd sd W).mono fun e w' he => ⟨he.1.trans (by rw [sameN_of fd gd]), he.2 ▸ Stays.refl _⟩
                have hA1 : ∀ n, (ad.add n).block < wr.heap.size := fun n => by rw [block_add]; exact Nat.lt_of_lt_of_le hbl hb.out.size
                have hA2 : ∀ n, (ad'.add n).block < wr.heap.size := fun n => by rw [block_add]; exact Nat.lt_of_lt_of_le hbl' hb.out.size
                have hv : linkS [n0, n1, n2, n3, n4, n5] [m0, m1, m2, m3, m4, m5] = ((n0.gi == m0.gi && n1.gi == m1.gi) && (samP [n2, n3, n4] [m2, m3, m4] && sameN n5 m5)) := rfl
                rw [hv] at nx bd
                clear fa fb fc fd ga gb gc gd hv hrow hrow'
                generalize n0.gi = a at g0 nx bd
                generalize n1.gi = b at g1 nx bd
                generalize m0.gi = a' at k0 nx bd
                generalize m1.gi = b' at k1 nx bd
                generalize samP [n2, n3, n4] [m2, m3, m4] = bp at hP' nx bd
                generalize sameN n5 m5 = bn at hN nx bd
                replace hP' := Lib.hid hP'
                replace hN := Lib.hid hN
                have G : Hid (∀ w', Stays wr w' → w'.cell? (ad.add (k * 6)) = some (.int .i64 a) ∧ w'.cell? ⟨(ad.add (k * 6)).block, (ad.add (k * 6)).off + 1, none⟩ = some (.int .i64 b) ∧ w'.cell? ⟨(ad.add (k * 6)).block, (ad.add (k * 6)).off + 2, none⟩ = some (.float .f32 ra) ∧ w'.cell? ⟨(ad.add (k * 6)).block, (ad.add (k * 6)).off + 2 + 1, none⟩ = some (.float .f32 rb) ∧ w'.cell? ⟨(ad.add (k * 6)).block, (ad.add (k * 6)).off + 2 + 2, none⟩ = some (.float .f32 rc) ∧ w'.cell? ⟨(ad.add (k * 6)).block, (ad.add (k * 6)).off + 5, none⟩ = some (.float .f32 rd) ∧ w'.cell? (ad'.add (k * 6)) = some (.int .i64 a') ∧ w'.cell? ⟨(ad'.add (k * 6)).block, (ad'.add (k * 6)).off + 1, none⟩ = some (.int .i64 b') ∧ w'.cell? ⟨(ad'.add (k * 6)).block, (ad'.add (k * 6)).off + 2, none⟩ = some (.float .f32 sa) ∧ w'.cell? ⟨(ad'.add (k * 6)).block, (ad'.add (k * 6)).off + 2 + 1, none⟩ = some (.float .f32 sb) ∧ w'.cell? ⟨(ad'.add (k * 6)).block, (ad'.add (k * 6)).off + 2 + 2, none⟩ = some (.float .f32 sc) ∧ w'.cell? ⟨(ad'.add (k * 6)).block, (ad'.add (k * 6)).off + 5, none⟩ = some (.float .f32 sd)) := Lib.hid fun w' hs => ⟨(Below.cell hs (hA1 _)).trans g0, (Below.cell (p := ⟨(ad.add (k * 6)).block, (ad.add (k * 6)).off + 1, none⟩) hs (hA1 _)).trans g1, (Below.cell (p := ⟨(ad.add (k * 6)).block, (ad.add (k * 6)).off + 2, none⟩) hs (hA1 _)).trans g2, (Below.cell (p := ⟨(ad.add (k * 6)).block, (ad.add (k * 6)).off + 3, none⟩) hs (hA1 _)).trans g3, (Below.cell (p := ⟨(ad.add (k * 6)).block, (ad.add (k * 6)).off + 4, none⟩) hs (hA1 _)).trans g4, (Below.cell (p := ⟨(ad.add (k * 6)).block, (ad.add (k * 6)).off + 5, none⟩) hs (hA1 _)).trans g5, (Below.cell hs (hA2 _)).trans k0, (Below.cell (p := ⟨(ad'.add (k * 6)).block, (ad'.add (k * 6)).off + 1, none⟩) hs (hA2 _)).trans k1, (Below.cell (p := ⟨(ad'.add (k * 6)).block, (ad'.add (k * 6)).off + 2, none⟩) hs (hA2 _)).trans k2, (Below.cell (p := ⟨(ad'.add (k * 6)).block, (ad'.add (k * 6)).off + 3, none⟩) hs (hA2 _)).trans k3, (Below.cell (p := ⟨(ad'.add (k * 6)).block, (ad'.add (k * 6)).off + 4, none⟩) hs (hA2 _)).trans k4, (Below.cell (p := ⟨(ad'.add (k * 6)).block, (ad'.add (k * 6)).off + 5, none⟩) hs (hA2 _)).trans k5⟩
                have hcells : ∀ w1, Stays wr w1 → _ := fun w1 h => And.intro (HB.out w1 (hb.out.trans (Below.mono h hb.out.size))) (G.out w1 h)
                clear g0 g1 g2 g3 g4 g5 k0 k1 k2 k3 k4 k5
                have hlt' : (k : Int) < (ls.length : Int) := by omega
                by_cases e0 : a = a'
                · subst e0
                  by_cases e1 : b = b'
                  · subst e1
                    cases bp with
                    | false =>
                      go_wp2
                      refine wp_region_soft_tail 43 (Stays.refl _) (sgS false bn) [] (by kernel_rfl) (by kernel_rfl) (fun _ h => by cases h) ?_
                      simp only [List.take_succ_cons, List.take_zero, List.drop_succ_cons, List.drop_zero]
                      repeat (first | ((with_reducible apply soft_detG); (case hwa => rfl); (case hA => rfl); (case h => (intro w1 hw1; have hc := hcells w1 hw1; go_simp; exact rfl)); go_simp) | ((with_reducible apply soft_skipG); (case hwa => rfl); (case hA => rfl); go_simp) | ((with_reducible apply soft_callS (v := .bool false)); (case hwa => rfl); (case hA => rfl); (case h => (intro w1 hw1; have hc := hcells w1 hw1; go_simp; exact ⟨rfl, rfl⟩)); (case hc => (intro w1 hw1; with_reducible exact hP'.out w1)); (case hS => exact ⟨fun _ => rfl, fun e => absurd e (by decide)⟩); (case hu => exact fun u hu => hu.1 rfl); go_simp) | ((with_reducible apply soft_callS (v := .bool bn)); (case hwa => rfl); (case hA => rfl); (case h => (intro w1 hw1; have hc := hcells w1 hw1; go_simp; exact ⟨rfl, rfl⟩)); (case hc => (intro w1 hw1; with_reducible exact hN.out w1)); (case hS => exact ⟨fun e => absurd e (by decide), fun _ => rfl⟩); (case hu => exact fun u hu => hu.2 rfl); go_simp))
                      refine soft_nil ?_
                      rintro w2 ⟨hw2, _⟩
                      replace hw2 := Lib.hid (hb.out.trans (Below.mono hw2 hb.out.size))
                      clear hcells
                      go_wp2
                      go_ret
                      exact ⟨ret_b (bd.out (by simp [*])).symm, hw2.out⟩
                    | true =>
                      cases bn with
                      | false =>
                        go_wp2
                        refine wp_region_soft_tail 43 (Stays.refl _) (sgS true false) [] (by kernel_rfl) (by kernel_rfl) (fun _ h => by cases h) ?_
                        simp only [List.take_succ_cons, List.take_zero, List.drop_succ_cons, List.drop_zero]
                        repeat (first | ((with_reducible apply soft_detG); (case hwa => rfl); (case hA => rfl); (case h => (intro w1 hw1; have hc := hcells w1 hw1; go_simp; exact rfl)); go_simp) | ((with_reducible apply soft_skipG); (case hwa => rfl); (case hA => rfl); go_simp) | ((with_reducible apply soft_callS (v := .bool true)); (case hwa => rfl); (case hA => rfl); (case h => (intro w1 hw1; have hc := hcells w1 hw1; go_simp; exact ⟨rfl, rfl⟩)); (case hc => (intro w1 hw1; with_reducible exact hP'.out w1)); (case hS => exact ⟨fun _ => rfl, fun e => absurd e (by decide)⟩); (case hu => exact fun u hu => hu.1 rfl); go_simp) | ((with_reducible apply soft_callS (v := .bool false)); (case hwa => rfl); (case hA => rfl); (case h => (intro w1 hw1; have hc := hcells w1 hw1; go_simp; exact ⟨rfl, rfl⟩)); (case hc => (intro w1 hw1; with_reducible exact hN.out w1)); (case hS => exact ⟨fun e => absurd e (by decide), fun _ => rfl⟩); (case hu => exact fun u hu => hu.2 rfl); go_simp))
                        refine soft_nil ?_
                        rintro w2 ⟨hw2, _⟩
                        replace hw2 := Lib.hid (hb.out.trans (Below.mono hw2 hb.out.size))
                        clear hcells
                        go_wp2
                        go_ret
                        exact ⟨ret_b (bd.out (by simp [*])).symm, hw2.out⟩
                      | true =>
                        go_wp2
                        refine wp_region_soft_tail 43 (Stays.refl _) (sgS true true) [] (by kernel_rfl) (by kernel_rfl) (fun _ h => by cases h) ?_
                        simp only [List.take_succ_cons, List.take_zero, List.drop_succ_cons, List.drop_zero]
                        repeat (first | ((with_reducible apply soft_detG); (case hwa => rfl); (case hA => rfl); (case h => (intro w1 hw1; have hc := hcells w1 hw1; go_simp; exact rfl)); go_simp) | ((with_reducible apply soft_skipG); (case hwa => rfl); (case hA => rfl); go_simp) | ((with_reducible apply soft_callS (v := .bool true)); (case hwa => rfl); (case hA => rfl); (case h => (intro w1 hw1; have hc := hcells w1 hw1; go_simp; exact ⟨rfl, rfl⟩)); (case hc => (intro w1 hw1; with_reducible exact hP'.out w1)); (case hS => exact ⟨fun _ => rfl, fun e => absurd e (by decide)⟩); (case hu => exact fun u hu => hu.1 rfl); go_simp) | ((with_reducible apply soft_callS (v := .bool true)); (case hwa => rfl); (case hA => rfl); (case h => (intro w1 hw1; have hc := hcells w1 hw1; go_simp; exact ⟨rfl, rfl⟩)); (case hc => (intro w1 hw1; with_reducible exact hN.out w1)); (case hS => exact ⟨fun e => absurd e (by decide), fun _ => rfl⟩); (case hu => exact fun u hu => hu.2 rfl); go_simp))
                        refine soft_nil ?_
                        rintro w2 ⟨hw2, _⟩
                        replace hw2 := Lib.hid (hb.out.trans (Below.mono hw2 hb.out.size))
                        clear hcells
                        go_wp2
                        go_round
                        case rel => exact ⟨k + 1, by omega, by go_num, hw2, nx.out (by simp)⟩
                        case measure => simp [intOf]; omega
                  · have f1 : (b == b') = false := by simp [e1]
                    have f2 : (b != b') = true := by simp [e1]
                    go_wp2
                    refine wp_region_soft_tail 43 (Stays.refl _) (sgS bp bn) [] (by kernel_rfl) (by kernel_rfl) (fun _ h => by cases h) ?_
                    simp only [List.take_succ_cons, List.take_zero, List.drop_succ_cons, List.drop_zero]
                    repeat (first | ((with_reducible apply soft_detG); (case hwa => rfl); (case hA => rfl); (case h => (intro w1 hw1; have hc := hcells w1 hw1; go_simp; exact rfl)); go_simp) | ((with_reducible apply soft_skipG); (case hwa => rfl); (case hA => rfl); go_simp) | ((with_reducible apply soft_callS (v := .bool bp)); (case hwa => rfl); (case hA => rfl); (case h => (intro w1 hw1; have hc := hcells w1 hw1; go_simp; exact ⟨rfl, rfl⟩)); (case hc => (intro w1 hw1; with_reducible exact hP'.out w1)); (case hS => exact ⟨fun _ => rfl, fun e => absurd e (by decide)⟩); (case hu => exact fun u hu => hu.1 rfl); go_simp) | ((with_reducible apply soft_callS (v := .bool bn)); (case hwa => rfl); (case hA => rfl); (case h => (intro w1 hw1; have hc := hcells w1 hw1; go_simp; exact ⟨rfl, rfl⟩)); (case hc => (intro w1 hw1; with_reducible exact hN.out w1)); (case hS => exact ⟨fun e => absurd e (by decide), fun _ => rfl⟩); (case hu => exact fun u hu => hu.2 rfl); go_simp))
                    refine soft_nil ?_
                    rintro w2 ⟨hw2, _⟩
                    replace hw2 := Lib.hid (hb.out.trans (Below.mono hw2 hb.out.size))
                    clear hcells
                    go_wp2
                    go_ret
                    exact ⟨ret_b (bd.out (by simp [*])).symm, hw2.out⟩
                · have f0 : (a == a') = false := by simp [e0]
                  have f2 : (a != a') = true := by simp [e0]
                  go_wp2
                  refine wp_region_soft_tail 43 (Stays.refl _) (sgS bp bn) [] (by kernel_rfl) (by kernel_rfl) (fun _ h => by cases h) ?_
                  simp only [List.take_succ_cons, List.take_zero, List.drop_succ_cons, List.drop_zero]
                  repeat (first | ((with_reducible apply soft_detG); (case hwa => rfl); (case hA => rfl); (case h => (intro w1 hw1; have hc := hcells w1 hw1; go_simp; exact rfl)); go_simp) | ((with_reducible apply soft_skipG); (case hwa => rfl); (case hA => rfl); go_simp) | ((with_reducible apply soft_callS (v := .bool bp)); (case hwa => rfl); (case hA => rfl); (case h => (intro w1 hw1; have hc := hcells w1 hw1; go_simp; exact ⟨rfl, rfl⟩)); (case hc => (intro w1 hw1; with_reducible exact hP'.out w1)); (case hS => exact ⟨fun _ => rfl, fun e => absurd e (by decide)⟩); (case hu => exact fun u hu => hu.1 rfl); go_simp) | ((with_reducible apply soft_callS (v := .bool bn)); (case hwa => rfl); (case hA => rfl); (case h => (intro w1 hw1; have hc := hcells w1 hw1; go_simp; exact ⟨rfl, rfl⟩)); (case hc => (intro w1 hw1; with_reducible exact hN.out w1)); (case hS => exact ⟨fun e => absurd e (by decide), fun _ => rfl⟩); (case hu => exact fun u hu => hu.2 rfl); go_simp))
                  refine soft_nil ?_
                  rintro w2 ⟨hw2, _⟩
                  replace hw2 := Lib.hid (hb.out.trans (Below.mono hw2 hb.out.size))
                  clear hcells
                  go_wp2
                  go_ret
                  exact ⟨ret_b (bd.out (by simp [*])).symm, hw2.out⟩
            · have fin : graphS ps ls ps' ls' = true := by unfold graphS; rw [hP.out, pair_end hl2.out ha.out (by omega)]; rfl
              replace fin := Lib.hid fin
              go_wp2
              go_ret
              exact ⟨ret_b fin.out.symm, hb.out⟩
    · have fin : graphS ps ls ps' ls' = false := by unfold graphS; rw [pair_len hl2]; simp
      replace fin := Lib.hid fin
      have hl3 : (((ls.length : Nat) : Int) != (ls'.length : Nat)) = true := by simp; omega
      rw [← hl] at hcells
      clear HB
      replace hl := Lib.hid hl
      go_enter Try.func60, Try.ntmps60
      go_wp2
      refine wp_region_soft_tail 23 (Stays.refl _) (sgS false false) [] (by kernel_rfl) (by kernel_rfl) (fun _ h => by cases h) ?_
      simp only [List.take_succ_cons, List.take_zero, List.drop_succ_cons, List.drop_zero]
      repeat (first | ((with_reducible apply soft_detG); (case hwa => rfl); (case hA => rfl); (case h => (intro w1 hw1; have hc := hcells w1 hw1; go_simp; exact rfl)); go_simp) | ((with_reducible apply soft_skipG); (case hwa => rfl); (case hA => rfl); go_simp))
      refine soft_nil ?_
      rintro w0 ⟨hw0, _⟩
      clear hcells
      go_wp2
      go_ret
      exact ⟨ret_b fin.out.symm, hw0⟩
  · have fin : graphS ps ls ps' ls' = false := by unfold graphS; rw [pair_len hl]; rfl
    replace fin := Lib.hid fin
    have hl3 : (((ps.length : Nat) : Int) != (ps'.length : Nat)) = true := by simp; omega
    clear HB
    go_enter Try.func60, Try.ntmps60
    go_wp2
    refine wp_region_soft_tail 23 (Stays.refl _) (sgS false false) [] (by kernel_rfl) (by kernel_rfl) (fun _ h => by cases h) ?_
    simp only [List.take_succ_cons, List.take_zero, List.drop_succ_cons, List.drop_zero]
    repeat (first | ((with_reducible apply soft_detG); (case hwa => rfl); (case hA => rfl); (case h => (intro w1 hw1; have hc := hcells w1 hw1; go_simp; exact rfl)); go_simp) | ((with_reducible apply soft_skipG); (case hwa => rfl); (case hA => rfl); go_simp))
    refine soft_nil ?_
    rintro w0 ⟨hw0, _⟩
    clear hcells
    go_wp2
    go_ret
    exact ⟨ret_b fin.out.symm, hw0⟩
end Go.Proofs.Ytfjchhfoefgldaa
