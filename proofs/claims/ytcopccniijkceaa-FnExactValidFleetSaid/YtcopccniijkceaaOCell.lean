/- spec.CellOf and impl.CellOf give the same, by one symbol of the walk. No condition. -/
import Derived.Test.YtcopccniijkceaaOt
import Derived.Test.YtcopccniijkceaaOe
import Derived.Test.YtcopccniijkceaaYc
import Derived.Test.YtcopccniijkceaaCe
namespace Go.Proofs.Ytcopccniijkceaa.oCell
open Go Go.RowKit
set_option linter.unusedVariables false

abbrev eS : Opq := { f := 98, sym := 10, args := [.one (.f .f32), .agg [.f .f32, .f .f32, .f .f32]], res := .tup [.agg [.i .i32, .i .i32, .i .i32], .one (.i .i64)] }
abbrev eI : Opq := { f := 102, sym := 10, args := [.one (.f .f32), .agg [.f .f32, .f .f32, .f .f32]], res := .tup [.agg [.i .i32, .i .i32, .i .i32], .one (.i .i64)] }
noncomputable def wS : DT (SV × St) := walkOf tb ftab otb eS.f eS.args
noncomputable def wI : DT (SV × St) := walkOf tb ftab otb eI.f eI.args
noncomputable def ns : List Df := wI.gather (wS.gather [])
theorem wf : wfT (withIds ns) [] = true := by kernel_rfl
noncomputable def sFN : Nat := 1284028151914534682
noncomputable def zN : Nat := 1640756989669875575
noncomputable def pN : Nat := 838320025694664885
noncomputable def loN : Nat := 749816696625593544
noncomputable def hiN : Nat := 1690758908391007795
noncomputable def f1N : Nat := 2139952733003493351
noncomputable def d1N : Nat := 492435337129435210
noncomputable def w1N : Nat := 2272639128731072293
noncomputable def y1N : Nat := 984975035703379531
noncomputable def ge1N : Nat := 12723303870304791
noncomputable def le1N : Nat := 1564593909842703278
noncomputable def a1N : Nat := 14379060637295177
noncomputable def g1N : Nat := 92284031203662238
noncomputable def f2N : Nat := 690034304878758071
noncomputable def d2N : Nat := 406693744732708574
noncomputable def w2N : Nat := 485900309195957407
noncomputable def y2N : Nat := 666820628667894189
noncomputable def ge2N : Nat := 1444611098581307378
noncomputable def le2N : Nat := 2043699173423545285
noncomputable def a2N : Nat := 1497475365206010436
noncomputable def g2N : Nat := 130910471538280148
noncomputable def f3N : Nat := 1545958885967716744
noncomputable def d3N : Nat := 857877711172092378
noncomputable def w3N : Nat := 811400248750557802
noncomputable def y3N : Nat := 1325138677762745461
noncomputable def ge3N : Nat := 207569601517602138
noncomputable def le3N : Nat := 78264700739449095
noncomputable def a3N : Nat := 385961707189525542
noncomputable def g3N : Nat := 1295989727551533853
theorem ids_ok : (Nat.beq (Df.id ⟨20, 64, [0]⟩) sFN && (Nat.beq (Df.id ⟨4, 0, []⟩) zN && (Nat.beq (Df.id ⟨11, 0, [0, zN]⟩) pN && (Nat.beq (Df.id ⟨5, 13920209183539462144, []⟩) loN && (Nat.beq (Df.id ⟨5, 4696837146684686336, []⟩) hiN && (Nat.beq (Df.id ⟨20, 64, [1]⟩) f1N && (Nat.beq (Df.id ⟨3, 0, [1, 0]⟩) d1N && (Nat.beq (Df.id ⟨6, 0, [d1N]⟩) w1N && (Nat.beq (Df.id ⟨20, 512, [w1N]⟩) y1N && (Nat.beq (Df.id ⟨12, 1, [y1N, loN]⟩) ge1N && (Nat.beq (Df.id ⟨10, 1, [y1N, hiN]⟩) le1N && (Nat.beq (Df.id ⟨20, 320, [y1N]⟩) a1N && (Nat.beq (Df.id ⟨11, 1, [a1N, hiN]⟩) g1N && (Nat.beq (Df.id ⟨20, 64, [2]⟩) f2N && (Nat.beq (Df.id ⟨3, 0, [2, 0]⟩) d2N && (Nat.beq (Df.id ⟨6, 0, [d2N]⟩) w2N && (Nat.beq (Df.id ⟨20, 512, [w2N]⟩) y2N && (Nat.beq (Df.id ⟨12, 1, [y2N, loN]⟩) ge2N && (Nat.beq (Df.id ⟨10, 1, [y2N, hiN]⟩) le2N && (Nat.beq (Df.id ⟨20, 320, [y2N]⟩) a2N && (Nat.beq (Df.id ⟨11, 1, [a2N, hiN]⟩) g2N && (Nat.beq (Df.id ⟨20, 64, [3]⟩) f3N && (Nat.beq (Df.id ⟨3, 0, [3, 0]⟩) d3N && (Nat.beq (Df.id ⟨6, 0, [d3N]⟩) w3N && (Nat.beq (Df.id ⟨20, 512, [w3N]⟩) y3N && (Nat.beq (Df.id ⟨12, 1, [y3N, loN]⟩) ge3N && (Nat.beq (Df.id ⟨10, 1, [y3N, hiN]⟩) le3N && (Nat.beq (Df.id ⟨20, 320, [y3N]⟩) a3N && (Nat.beq (Df.id ⟨11, 1, [a3N, hiN]⟩) g3N))))))))))))))))))))))))))))) = true := by kernel_rfl
theorem mem_ok : (memD ⟨20, 64, [0]⟩ ns && (memD ⟨4, 0, []⟩ ns && (memD ⟨11, 0, [0, zN]⟩ ns && (memD ⟨5, 13920209183539462144, []⟩ ns && (memD ⟨5, 4696837146684686336, []⟩ ns && (memD ⟨20, 64, [1]⟩ ns && (memD ⟨3, 0, [1, 0]⟩ ns && (memD ⟨6, 0, [d1N]⟩ ns && (memD ⟨20, 512, [w1N]⟩ ns && (memD ⟨12, 1, [y1N, loN]⟩ ns && (memD ⟨10, 1, [y1N, hiN]⟩ ns && (memD ⟨20, 320, [y1N]⟩ ns && (memD ⟨11, 1, [a1N, hiN]⟩ ns && (memD ⟨20, 64, [2]⟩ ns && (memD ⟨3, 0, [2, 0]⟩ ns && (memD ⟨6, 0, [d2N]⟩ ns && (memD ⟨20, 512, [w2N]⟩ ns && (memD ⟨12, 1, [y2N, loN]⟩ ns && (memD ⟨10, 1, [y2N, hiN]⟩ ns && (memD ⟨20, 320, [y2N]⟩ ns && (memD ⟨11, 1, [a2N, hiN]⟩ ns && (memD ⟨20, 64, [3]⟩ ns && (memD ⟨3, 0, [3, 0]⟩ ns && (memD ⟨6, 0, [d3N]⟩ ns && (memD ⟨20, 512, [w3N]⟩ ns && (memD ⟨12, 1, [y3N, loN]⟩ ns && (memD ⟨10, 1, [y3N, hiN]⟩ ns && (memD ⟨20, 320, [y3N]⟩ ns && (memD ⟨11, 1, [a3N, hiN]⟩ ns))))))))))))))))))))))))))))) = true := by kernel_rfl
theorem node_at {ρ : Nat → NV} {Φ : Syms} (hT : ∀ d ∈ ns, ρ d.id = d.sem Φ ρ) {d : Df} {k : Nat} (h : memD d ns = true) (hk : Nat.beq d.id k = true) : ρ k = d.sem Φ ρ := by
  rw [← Nat.eq_of_beq_eq_true hk]; exact hT d (memD_mem h)
structure Env (ρ : Nat → NV) : Prop where
  sF : ρ sFN = baseSyms 1 0 [ρ 0]
  z : ρ zN = .f (can .f32 0)
  p : ρ pN = .b (ford .f32 (ρ 0).gf (ρ zN).gf == some .gt)
  lo : ρ loN = .f (can .f64 13920209183539462144)
  hi : ρ hiN = .f (can .f64 4696837146684686336)
  f1 : ρ f1N = baseSyms 1 0 [ρ 1]
  d1 : ρ d1N = .f (fop .quo .f32 (ρ 1).gf (ρ 0).gf)
  w1 : ρ w1N = .f ((ρ d1N).gf.map wide)
  y1 : ρ y1N = baseSyms 8 0 [ρ w1N]
  ge1 : ρ ge1N = .b (ford .f64 (ρ y1N).gf (ρ loN).gf == some .gt || ford .f64 (ρ y1N).gf (ρ loN).gf == some .eq)
  le1 : ρ le1N = .b (ford .f64 (ρ y1N).gf (ρ hiN).gf == some .lt || ford .f64 (ρ y1N).gf (ρ hiN).gf == some .eq)
  a1 : ρ a1N = baseSyms 5 0 [ρ y1N]
  g1 : ρ g1N = .b (ford .f64 (ρ a1N).gf (ρ hiN).gf == some .gt)
  f2 : ρ f2N = baseSyms 1 0 [ρ 2]
  d2 : ρ d2N = .f (fop .quo .f32 (ρ 2).gf (ρ 0).gf)
  w2 : ρ w2N = .f ((ρ d2N).gf.map wide)
  y2 : ρ y2N = baseSyms 8 0 [ρ w2N]
  ge2 : ρ ge2N = .b (ford .f64 (ρ y2N).gf (ρ loN).gf == some .gt || ford .f64 (ρ y2N).gf (ρ loN).gf == some .eq)
  le2 : ρ le2N = .b (ford .f64 (ρ y2N).gf (ρ hiN).gf == some .lt || ford .f64 (ρ y2N).gf (ρ hiN).gf == some .eq)
  a2 : ρ a2N = baseSyms 5 0 [ρ y2N]
  g2 : ρ g2N = .b (ford .f64 (ρ a2N).gf (ρ hiN).gf == some .gt)
  f3 : ρ f3N = baseSyms 1 0 [ρ 3]
  d3 : ρ d3N = .f (fop .quo .f32 (ρ 3).gf (ρ 0).gf)
  w3 : ρ w3N = .f ((ρ d3N).gf.map wide)
  y3 : ρ y3N = baseSyms 8 0 [ρ w3N]
  ge3 : ρ ge3N = .b (ford .f64 (ρ y3N).gf (ρ loN).gf == some .gt || ford .f64 (ρ y3N).gf (ρ loN).gf == some .eq)
  le3 : ρ le3N = .b (ford .f64 (ρ y3N).gf (ρ hiN).gf == some .lt || ford .f64 (ρ y3N).gf (ρ hiN).gf == some .eq)
  a3 : ρ a3N = baseSyms 5 0 [ρ y3N]
  g3 : ρ g3N = .b (ford .f64 (ρ a3N).gf (ρ hiN).gf == some .gt)
theorem env_of {ρ : Nat → NV} {Φ : Syms} (hB : Base Φ) (hT : ∀ d ∈ ns, ρ d.id = d.sem Φ ρ) : Env ρ := by
  have hi := ids_ok
  have hm := mem_ok
  simp only [Bool.and_eq_true] at hi hm
  obtain ⟨i0, i1, i2, i3, i4, i5, i6, i7, i8, i9, i10, i11, i12, i13, i14, i15, i16, i17, i18, i19, i20, i21, i22, i23, i24, i25, i26, i27, i28⟩ := hi
  obtain ⟨m0, m1, m2, m3, m4, m5, m6, m7, m8, m9, m10, m11, m12, m13, m14, m15, m16, m17, m18, m19, m20, m21, m22, m23, m24, m25, m26, m27, m28⟩ := hm
  exact ⟨(node_at hT m0 i0).trans (hB 1 0 _ (by decide) (by decide)), node_at hT m1 i1, node_at hT m2 i2, node_at hT m3 i3, node_at hT m4 i4, (node_at hT m5 i5).trans (hB 1 0 _ (by decide) (by decide)), node_at hT m6 i6, node_at hT m7 i7, (node_at hT m8 i8).trans (hB 8 0 _ (by decide) (by decide)), node_at hT m9 i9, node_at hT m10 i10, (node_at hT m11 i11).trans (hB 5 0 _ (by decide) (by decide)), node_at hT m12 i12, (node_at hT m13 i13).trans (hB 1 0 _ (by decide) (by decide)), node_at hT m14 i14, node_at hT m15 i15, (node_at hT m16 i16).trans (hB 8 0 _ (by decide) (by decide)), node_at hT m17 i17, node_at hT m18 i18, (node_at hT m19 i19).trans (hB 5 0 _ (by decide) (by decide)), node_at hT m20 i20, (node_at hT m21 i21).trans (hB 1 0 _ (by decide) (by decide)), node_at hT m22 i22, node_at hT m23 i23, (node_at hT m24 i24).trans (hB 8 0 _ (by decide) (by decide)), node_at hT m25 i25, node_at hT m26 i26, (node_at hT m27 i27).trans (hB 5 0 _ (by decide) (by decide)), node_at hT m28 i28⟩
noncomputable abbrev rq : List Rq := [⟨26, y1N, [(sFN, true), (pN, true), (f1N, true), (ge1N, true), (le1N, true)]⟩,
  ⟨26, y1N, [(sFN, true), (pN, true), (f1N, true), (g1N, false)]⟩,
  ⟨26, y2N, [(sFN, true), (pN, true), (f2N, true), (ge2N, true), (le2N, true)]⟩,
  ⟨26, y2N, [(sFN, true), (pN, true), (f2N, true), (g2N, false)]⟩,
  ⟨26, y3N, [(sFN, true), (pN, true), (f3N, true), (ge3N, true), (le3N, true)]⟩,
  ⟨26, y3N, [(sFN, true), (pN, true), (f3N, true), (g3N, false)]⟩]
noncomputable abbrev xs : List (List Fact) := [[(sFN, true), (pN, true), (f1N, true), (g1N, true), (ge1N, true), (le1N, true)],
  [(sFN, true), (pN, true), (f1N, true), (g1N, false), (ge1N, false)],
  [(sFN, true), (pN, true), (f1N, true), (g1N, false), (le1N, false)],
  [(sFN, true), (pN, true), (f2N, true), (g2N, true), (ge2N, true), (le2N, true)],
  [(sFN, true), (pN, true), (f2N, true), (g2N, false), (ge2N, false)],
  [(sFN, true), (pN, true), (f2N, true), (g2N, false), (le2N, false)],
  [(sFN, true), (pN, true), (f3N, true), (g3N, true), (ge3N, true), (le3N, true)],
  [(sFN, true), (pN, true), (f3N, true), (g3N, false), (ge3N, false)],
  [(sFN, true), (pN, true), (f3N, true), (g3N, false), (le3N, false)]]
theorem KMs_rl3 {cs : List Value} {r : List NV} (h : KMs [.f .f32, .f .f32, .f .f32] cs r) : ∃ a b c, r = [a, b, c] := by
  rcases cs with _ | ⟨_, _ | ⟨_, _ | ⟨_, _ | ⟨_, _⟩⟩⟩⟩ <;> rcases r with _ | ⟨a, _ | ⟨b, _ | ⟨c, _ | ⟨_, _⟩⟩⟩⟩ <;> first | exact ⟨_, _, _, rfl⟩ | (simp [KMs] at h)
theorem inF {vs : List Value} {ins : List NV} (hv : ShMs eS.args vs ins) : ∀ j, j < 4 → ∃ k, (envI baseΦ ns ins j).gf = can .f32 k := by
  match vs, hv with
  | [v, u], hv =>
    obtain ⟨n1, n2, rfl, ⟨x, rfl, r0, rfl, h0⟩, n3, n4, rfl, ⟨cs, rfl, hm⟩, rfl⟩ := hv
    have hl := KMs_rl3 hm
    obtain ⟨a, b, c, rfl⟩ := hl
    obtain ⟨cs⟩ := cs
    match cs, hm with
    | [c0, c1, c2], ⟨⟨r1, _, h1⟩, ⟨r2, _, h2⟩, ⟨r3, _, h3⟩, _⟩ =>
      intro j hj
      rcases (show j = 0 ∨ j = 1 ∨ j = 2 ∨ j = 3 by omega) with rfl | rfl | rfl | rfl
      · exact ⟨r0, by rw [input_of 0 (by decide)]; exact h0.out.symm⟩
      · exact ⟨r1, by rw [input_of 1 (by decide)]; exact h1.out.symm⟩
      · exact ⟨r2, by rw [input_of 2 (by decide)]; exact h2.out.symm⟩
      · exact ⟨r3, by rw [input_of 3 (by decide)]; exact h3.out.symm⟩
theorem num1 {ρ : Nat → NV} (E : Env ρ) (h0 : ∃ k, (ρ 0).gf = can .f32 k) (h1 : ∃ k, (ρ 1).gf = can .f32 k) (fs : (ρ sFN).gb = true) (fp : (ρ pN).gb = true) (f1 : (ρ f1N).gb = true) : ∃ y, (ρ y1N).gf = some y ∧ (Ieee.double.read y).isNaN = false ∧ (ρ g1N).gb = absGt (some y) ∧ (ρ ge1N).gb = geLo (some y) ∧ (ρ le1N).gb = leHi (some y) := by
  rw [E.sF] at fs
  rw [E.f1] at f1
  rw [E.p, E.z] at fp
  obtain ⟨q, hq, hn⟩ := quo_num (show finB (ρ 1).gf = true from f1) (show finB (ρ 0).gf = true from fs) fp h1 h0
  have e1 : (ρ d1N).gf = some q := by rw [E.d1]; exact hq
  have e2 : (ρ w1N).gf = some (wide q) := by rw [E.w1, e1]; rfl
  have e3 : (ρ y1N).gf = some (integralF .down (wide q)) := by
    rw [E.y1]; show ((ρ w1N).gf).map _ = _; rw [e2]; rfl
  have e4 : (ρ a1N).gf = (some (integralF .down (wide q))).map (· % 2 ^ 63) := by
    rw [E.a1]; show ((ρ y1N).gf).map _ = _; rw [e3]
  refine ⟨_, e3, integralF_num (wide_num' hn), ?_, ?_, ?_⟩
  · rw [E.g1]; show (ford .f64 (ρ a1N).gf (ρ hiN).gf == some Ordering.gt) = _; rw [e4, E.hi]; rfl
  · rw [E.ge1]; show (ford .f64 (ρ y1N).gf (ρ loN).gf == some Ordering.gt || ford .f64 (ρ y1N).gf (ρ loN).gf == some Ordering.eq) = _; rw [e3, E.lo]; rfl
  · rw [E.le1]; show (ford .f64 (ρ y1N).gf (ρ hiN).gf == some Ordering.lt || ford .f64 (ρ y1N).gf (ρ hiN).gf == some Ordering.eq) = _; rw [e3, E.hi]; rfl
theorem num2 {ρ : Nat → NV} (E : Env ρ) (h0 : ∃ k, (ρ 0).gf = can .f32 k) (h1 : ∃ k, (ρ 2).gf = can .f32 k) (fs : (ρ sFN).gb = true) (fp : (ρ pN).gb = true) (f1 : (ρ f2N).gb = true) : ∃ y, (ρ y2N).gf = some y ∧ (Ieee.double.read y).isNaN = false ∧ (ρ g2N).gb = absGt (some y) ∧ (ρ ge2N).gb = geLo (some y) ∧ (ρ le2N).gb = leHi (some y) := by
  rw [E.sF] at fs
  rw [E.f2] at f1
  rw [E.p, E.z] at fp
  obtain ⟨q, hq, hn⟩ := quo_num (show finB (ρ 2).gf = true from f1) (show finB (ρ 0).gf = true from fs) fp h1 h0
  have e1 : (ρ d2N).gf = some q := by rw [E.d2]; exact hq
  have e2 : (ρ w2N).gf = some (wide q) := by rw [E.w2, e1]; rfl
  have e3 : (ρ y2N).gf = some (integralF .down (wide q)) := by
    rw [E.y2]; show ((ρ w2N).gf).map _ = _; rw [e2]; rfl
  have e4 : (ρ a2N).gf = (some (integralF .down (wide q))).map (· % 2 ^ 63) := by
    rw [E.a2]; show ((ρ y2N).gf).map _ = _; rw [e3]
  refine ⟨_, e3, integralF_num (wide_num' hn), ?_, ?_, ?_⟩
  · rw [E.g2]; show (ford .f64 (ρ a2N).gf (ρ hiN).gf == some Ordering.gt) = _; rw [e4, E.hi]; rfl
  · rw [E.ge2]; show (ford .f64 (ρ y2N).gf (ρ loN).gf == some Ordering.gt || ford .f64 (ρ y2N).gf (ρ loN).gf == some Ordering.eq) = _; rw [e3, E.lo]; rfl
  · rw [E.le2]; show (ford .f64 (ρ y2N).gf (ρ hiN).gf == some Ordering.lt || ford .f64 (ρ y2N).gf (ρ hiN).gf == some Ordering.eq) = _; rw [e3, E.hi]; rfl
theorem num3 {ρ : Nat → NV} (E : Env ρ) (h0 : ∃ k, (ρ 0).gf = can .f32 k) (h1 : ∃ k, (ρ 3).gf = can .f32 k) (fs : (ρ sFN).gb = true) (fp : (ρ pN).gb = true) (f1 : (ρ f3N).gb = true) : ∃ y, (ρ y3N).gf = some y ∧ (Ieee.double.read y).isNaN = false ∧ (ρ g3N).gb = absGt (some y) ∧ (ρ ge3N).gb = geLo (some y) ∧ (ρ le3N).gb = leHi (some y) := by
  rw [E.sF] at fs
  rw [E.f3] at f1
  rw [E.p, E.z] at fp
  obtain ⟨q, hq, hn⟩ := quo_num (show finB (ρ 3).gf = true from f1) (show finB (ρ 0).gf = true from fs) fp h1 h0
  have e1 : (ρ d3N).gf = some q := by rw [E.d3]; exact hq
  have e2 : (ρ w3N).gf = some (wide q) := by rw [E.w3, e1]; rfl
  have e3 : (ρ y3N).gf = some (integralF .down (wide q)) := by
    rw [E.y3]; show ((ρ w3N).gf).map _ = _; rw [e2]; rfl
  have e4 : (ρ a3N).gf = (some (integralF .down (wide q))).map (· % 2 ^ 63) := by
    rw [E.a3]; show ((ρ y3N).gf).map _ = _; rw [e3]
  refine ⟨_, e3, integralF_num (wide_num' hn), ?_, ?_, ?_⟩
  · rw [E.g3]; show (ford .f64 (ρ a3N).gf (ρ hiN).gf == some Ordering.gt) = _; rw [e4, E.hi]; rfl
  · rw [E.ge3]; show (ford .f64 (ρ y3N).gf (ρ loN).gf == some Ordering.gt || ford .f64 (ρ y3N).gf (ρ loN).gf == some Ordering.eq) = _; rw [e3, E.lo]; rfl
  · rw [E.le3]; show (ford .f64 (ρ y3N).gf (ρ hiN).gf == some Ordering.lt || ford .f64 (ρ y3N).gf (ρ hiN).gf == some Ordering.eq) = _; rw [e3, E.hi]; rfl
theorem rq_ok (vs : List Value) (ins : List NV) (hv : ShMs eS.args vs ins) : ∀ q ∈ rq, FactsT (envI baseΦ ns ins) q.on → Asked q.tag (envI baseΦ ns ins q.n) := by
  have E := env_of baseΦ_ok (envI_ok (Φ := baseΦ) wf ins)
  have I := inF hv
  generalize envI baseΦ ns ins = ρ at *
  intro q hq hF
  rcases List.mem_cons.1 hq with rfl | hq
  · obtain ⟨y, hy, hn, eg, el, eh⟩ := num1 E (I 0 (by decide)) (I 1 (by decide)) (hF (sFN, true) (by simp)) (hF (pN, true) (by simp)) (hF (f1N, true) (by simp))
    show ∃ n, truncI .f64 (ρ y1N).gf = some n ∧ IntKind.i32.min ≤ n ∧ n ≤ IntKind.i32.max
    rw [hy]
    exact truncM hn (el.symm.trans (hF (ge1N, true) (by simp))) (eh.symm.trans (hF (le1N, true) (by simp)))
  rcases List.mem_cons.1 hq with rfl | hq
  · obtain ⟨y, hy, hn, eg, el, eh⟩ := num1 E (I 0 (by decide)) (I 1 (by decide)) (hF (sFN, true) (by simp)) (hF (pN, true) (by simp)) (hF (f1N, true) (by simp))
    show ∃ n, truncI .f64 (ρ y1N).gf = some n ∧ IntKind.i32.min ≤ n ∧ n ≤ IntKind.i32.max
    rw [hy]
    have h := (absGt_iff hn).symm.trans (eg.symm.trans (hF (g1N, false) (by simp)))
    rw [Bool.not_eq_false', Bool.and_eq_true] at h
    exact truncM hn h.1 h.2
  rcases List.mem_cons.1 hq with rfl | hq
  · obtain ⟨y, hy, hn, eg, el, eh⟩ := num2 E (I 0 (by decide)) (I 2 (by decide)) (hF (sFN, true) (by simp)) (hF (pN, true) (by simp)) (hF (f2N, true) (by simp))
    show ∃ n, truncI .f64 (ρ y2N).gf = some n ∧ IntKind.i32.min ≤ n ∧ n ≤ IntKind.i32.max
    rw [hy]
    exact truncM hn (el.symm.trans (hF (ge2N, true) (by simp))) (eh.symm.trans (hF (le2N, true) (by simp)))
  rcases List.mem_cons.1 hq with rfl | hq
  · obtain ⟨y, hy, hn, eg, el, eh⟩ := num2 E (I 0 (by decide)) (I 2 (by decide)) (hF (sFN, true) (by simp)) (hF (pN, true) (by simp)) (hF (f2N, true) (by simp))
    show ∃ n, truncI .f64 (ρ y2N).gf = some n ∧ IntKind.i32.min ≤ n ∧ n ≤ IntKind.i32.max
    rw [hy]
    have h := (absGt_iff hn).symm.trans (eg.symm.trans (hF (g2N, false) (by simp)))
    rw [Bool.not_eq_false', Bool.and_eq_true] at h
    exact truncM hn h.1 h.2
  rcases List.mem_cons.1 hq with rfl | hq
  · obtain ⟨y, hy, hn, eg, el, eh⟩ := num3 E (I 0 (by decide)) (I 3 (by decide)) (hF (sFN, true) (by simp)) (hF (pN, true) (by simp)) (hF (f3N, true) (by simp))
    show ∃ n, truncI .f64 (ρ y3N).gf = some n ∧ IntKind.i32.min ≤ n ∧ n ≤ IntKind.i32.max
    rw [hy]
    exact truncM hn (el.symm.trans (hF (ge3N, true) (by simp))) (eh.symm.trans (hF (le3N, true) (by simp)))
  rcases List.mem_cons.1 hq with rfl | hq
  · obtain ⟨y, hy, hn, eg, el, eh⟩ := num3 E (I 0 (by decide)) (I 3 (by decide)) (hF (sFN, true) (by simp)) (hF (pN, true) (by simp)) (hF (f3N, true) (by simp))
    show ∃ n, truncI .f64 (ρ y3N).gf = some n ∧ IntKind.i32.min ≤ n ∧ n ≤ IntKind.i32.max
    rw [hy]
    have h := (absGt_iff hn).symm.trans (eg.symm.trans (hF (g3N, false) (by simp)))
    rw [Bool.not_eq_false', Bool.and_eq_true] at h
    exact truncM hn h.1 h.2
  exact absurd hq List.not_mem_nil
theorem xs_ok (vs : List Value) (ins : List NV) (hv : ShMs eS.args vs ins) : ∀ l ∈ xs, ¬ FactsT (envI baseΦ ns ins) l := by
  have E := env_of baseΦ_ok (envI_ok (Φ := baseΦ) wf ins)
  have I := inF hv
  generalize envI baseΦ ns ins = ρ at *
  intro l hl hF
  rcases List.mem_cons.1 hl with rfl | hl
  · obtain ⟨y, hy, hn, eg, el, eh⟩ := num1 E (I 0 (by decide)) (I 1 (by decide)) (hF (sFN, true) (by simp)) (hF (pN, true) (by simp)) (hF (f1N, true) (by simp))
    have h := absGt_iff hn
    rw [← eg, show (ρ g1N).gb = true from hF (g1N, true) (by simp)] at h
    rw [← el, ← eh, show (ρ ge1N).gb = true from hF (ge1N, true) (by simp), show (ρ le1N).gb = true from hF (le1N, true) (by simp)] at h
    cases h
  rcases List.mem_cons.1 hl with rfl | hl
  · obtain ⟨y, hy, hn, eg, el, eh⟩ := num1 E (I 0 (by decide)) (I 1 (by decide)) (hF (sFN, true) (by simp)) (hF (pN, true) (by simp)) (hF (f1N, true) (by simp))
    have h := absGt_iff hn
    rw [← eg, show (ρ g1N).gb = false from hF (g1N, false) (by simp)] at h
    rw [← el, show (ρ ge1N).gb = false from hF (ge1N, false) (by simp)] at h
    cases h
  rcases List.mem_cons.1 hl with rfl | hl
  · obtain ⟨y, hy, hn, eg, el, eh⟩ := num1 E (I 0 (by decide)) (I 1 (by decide)) (hF (sFN, true) (by simp)) (hF (pN, true) (by simp)) (hF (f1N, true) (by simp))
    have h := absGt_iff hn
    rw [← eg, show (ρ g1N).gb = false from hF (g1N, false) (by simp)] at h
    rw [← eh, show (ρ le1N).gb = false from hF (le1N, false) (by simp), Bool.and_false] at h
    cases h
  rcases List.mem_cons.1 hl with rfl | hl
  · obtain ⟨y, hy, hn, eg, el, eh⟩ := num2 E (I 0 (by decide)) (I 2 (by decide)) (hF (sFN, true) (by simp)) (hF (pN, true) (by simp)) (hF (f2N, true) (by simp))
    have h := absGt_iff hn
    rw [← eg, show (ρ g2N).gb = true from hF (g2N, true) (by simp)] at h
    rw [← el, ← eh, show (ρ ge2N).gb = true from hF (ge2N, true) (by simp), show (ρ le2N).gb = true from hF (le2N, true) (by simp)] at h
    cases h
  rcases List.mem_cons.1 hl with rfl | hl
  · obtain ⟨y, hy, hn, eg, el, eh⟩ := num2 E (I 0 (by decide)) (I 2 (by decide)) (hF (sFN, true) (by simp)) (hF (pN, true) (by simp)) (hF (f2N, true) (by simp))
    have h := absGt_iff hn
    rw [← eg, show (ρ g2N).gb = false from hF (g2N, false) (by simp)] at h
    rw [← el, show (ρ ge2N).gb = false from hF (ge2N, false) (by simp)] at h
    cases h
  rcases List.mem_cons.1 hl with rfl | hl
  · obtain ⟨y, hy, hn, eg, el, eh⟩ := num2 E (I 0 (by decide)) (I 2 (by decide)) (hF (sFN, true) (by simp)) (hF (pN, true) (by simp)) (hF (f2N, true) (by simp))
    have h := absGt_iff hn
    rw [← eg, show (ρ g2N).gb = false from hF (g2N, false) (by simp)] at h
    rw [← eh, show (ρ le2N).gb = false from hF (le2N, false) (by simp), Bool.and_false] at h
    cases h
  rcases List.mem_cons.1 hl with rfl | hl
  · obtain ⟨y, hy, hn, eg, el, eh⟩ := num3 E (I 0 (by decide)) (I 3 (by decide)) (hF (sFN, true) (by simp)) (hF (pN, true) (by simp)) (hF (f3N, true) (by simp))
    have h := absGt_iff hn
    rw [← eg, show (ρ g3N).gb = true from hF (g3N, true) (by simp)] at h
    rw [← el, ← eh, show (ρ ge3N).gb = true from hF (ge3N, true) (by simp), show (ρ le3N).gb = true from hF (le3N, true) (by simp)] at h
    cases h
  rcases List.mem_cons.1 hl with rfl | hl
  · obtain ⟨y, hy, hn, eg, el, eh⟩ := num3 E (I 0 (by decide)) (I 3 (by decide)) (hF (sFN, true) (by simp)) (hF (pN, true) (by simp)) (hF (f3N, true) (by simp))
    have h := absGt_iff hn
    rw [← eg, show (ρ g3N).gb = false from hF (g3N, false) (by simp)] at h
    rw [← el, show (ρ ge3N).gb = false from hF (ge3N, false) (by simp)] at h
    cases h
  rcases List.mem_cons.1 hl with rfl | hl
  · obtain ⟨y, hy, hn, eg, el, eh⟩ := num3 E (I 0 (by decide)) (I 3 (by decide)) (hF (sFN, true) (by simp)) (hF (pN, true) (by simp)) (hF (f3N, true) (by simp))
    have h := absGt_iff hn
    rw [← eg, show (ρ g3N).gb = false from hF (g3N, false) (by simp)] at h
    rw [← eh, show (ρ le3N).gb = false from hF (le3N, false) (by simp), Bool.and_false] at h
    cases h
  exact absurd hl List.not_mem_nil
theorem chS : wS.chkF ns rq xs (fun x => okR eS.res x.1) [] = true := by kernel_rfl
theorem chI : wI.chkF ns rq xs (fun x => okR eI.res x.1) [] = true := by kernel_rfl
theorem same : sameG xs (rC ns eS.res) wS [] wI = true := by kernel_rfl
noncomputable def g (l : List NV) : List NV := gives baseΦ ns wS eS.res l
noncomputable def Φ : Syms := ext baseΦ 10 g
theorem okS : OpqOK Try.prog Φ eS := opq_walk tb_ok mixed ftab_ok (otb_ok baseΦ_ok) rfl rfl wf chS (by kernel_rfl) (by kernel_rfl) (by kernel_rfl) (fun vs ins hv => rq_ok vs ins hv) (fun vs ins hv => xs_ok vs ins hv) fun _ _ _ => rfl
theorem okI : OpqOK Try.prog Φ eI := opq_walk tb_ok mixed ftab_ok (otb_ok baseΦ_ok) rfl rfl wf chI (by kernel_rfl) (by kernel_rfl) (by kernel_rfl) (fun vs ins hv => rq_ok vs ins hv) (fun vs ins hv => xs_ok vs ins hv) fun vs ins hv => gives_sameG wf (xs_ok vs ins hv) same
noncomputable def ot : OTab := eS :: eI :: otb
theorem ok : ∀ e ∈ ot, OpqOK Try.prog Φ e := by
  intro e he
  rcases List.mem_cons.1 he with rfl | he
  · exact okS
  · rcases List.mem_cons.1 he with rfl | he
    · exact okI
    · exact tab_old (by kernel_rfl) (otb_ok baseΦ_ok) e he
theorem base : Base Φ := ext_base 10 g (by rfl) baseΦ_ok
end Go.Proofs.Ytcopccniijkceaa.oCell
