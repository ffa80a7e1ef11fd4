/- For all arguments, FnExactShakeCounts returns true; its arguments read as before. No condition. -/
import Derived.Test.YtpfihfdbkoclnaaOCnt
import Derived.Test.YtpfihfdbkoclnaaYo
import Derived.Test.YtpfihfdbkoclnaaYf
import Derived.Test.YtpfihfdbkoclnaaYc
import Derived.Test.YtpfihfdbkoclnaaAg
namespace Go.Proofs.Ytpfihfdbkoclnaa.fnExactShakeCounts
open Go Go.ChangeShapes Go.WideShapes Go.ChangeAt Go.RowKit
set_option linter.unusedVariables false
set_option linter.unusedSimpArgs false
set_option maxRecDepth 1000000

noncomputable def shs : List Sh := (shsOf Try.prog (Try.f9).params.toList).getD []
noncomputable def wk : DT (SV × St) := walkOf tb ftab oCnt.ot 9 shs
noncomputable def ns : List Df := wk.gather []
theorem wf : wfT (withIds ns) [] = true := by kernel_rfl
noncomputable def mN : Nat := 2188174514136878348
noncomputable def aN : Nat := 684885857954145810
noncomputable def bN : Nat := 144834519877713695
noncomputable def dN : Nat := 238125657647213307
noncomputable def eN : Nat := 1698230654318820711
noncomputable def qN : Nat := 1073207945640494095
noncomputable def kN : Nat := 525401123840093402
noncomputable def gaN : Nat := 181264639829629319
noncomputable def gbN : Nat := 1948752023026985044
noncomputable def gcN : Nat := 69768341118951003
noncomputable def laN : Nat := 617591030572297316
noncomputable def lbN : Nat := 27402256785677293
noncomputable def lcN : Nat := 2126684753856331567
theorem ids_ok : (Nat.beq (Df.id ⟨26, 0, [4]⟩) mN && (Nat.beq (Df.id ⟨16, 1, []⟩) aN && (Nat.beq (Df.id ⟨34, 3, [4]⟩) bN && (Nat.beq (Df.id ⟨16, 2, []⟩) dN && (Nat.beq (Df.id ⟨32, 3, [bN, dN]⟩) eN && (Nat.beq (Df.id ⟨30, 3, [aN, eN]⟩) qN && (Nat.beq (Df.id ⟨17, 32768, []⟩) kN && (Nat.beq (Df.id ⟨27, 32767, [1164282253016375712]⟩) gaN && (Nat.beq (Df.id ⟨27, 32767, [764782224465363065]⟩) gbN && (Nat.beq (Df.id ⟨27, 32767, [560159930966104964]⟩) gcN && (Nat.beq (Df.id ⟨28, 0, [1164282253016375712, kN]⟩) laN && (Nat.beq (Df.id ⟨28, 0, [764782224465363065, kN]⟩) lbN && (Nat.beq (Df.id ⟨28, 0, [560159930966104964, kN]⟩) lcN))))))))))))) = true := by kernel_rfl
theorem mem_ok : (memD ⟨26, 0, [4]⟩ ns && (memD ⟨16, 1, []⟩ ns && (memD ⟨34, 3, [4]⟩ ns && (memD ⟨16, 2, []⟩ ns && (memD ⟨32, 3, [bN, dN]⟩ ns && (memD ⟨30, 3, [aN, eN]⟩ ns && (memD ⟨17, 32768, []⟩ ns && (memD ⟨27, 32767, [1164282253016375712]⟩ ns && (memD ⟨27, 32767, [764782224465363065]⟩ ns && (memD ⟨27, 32767, [560159930966104964]⟩ ns && (memD ⟨28, 0, [1164282253016375712, kN]⟩ ns && (memD ⟨28, 0, [764782224465363065, kN]⟩ ns && (memD ⟨28, 0, [560159930966104964, kN]⟩ ns))))))))))))) = true := by kernel_rfl
theorem node_at {ρ : Nat → NV} {Φ : Syms} (hT : ∀ d ∈ ns, ρ d.id = d.sem Φ ρ) {d : Df} {k : Nat} (h : memD d ns = true) (hk : Nat.beq d.id k = true) : ρ k = d.sem Φ ρ := by
  rw [← Nat.eq_of_beq_eq_true hk]; exact hT d (memD_mem h)
structure Env (ρ : Nat → NV) : Prop where
  m : ρ mN = .b (decide ((ρ 4).gi < ((0 : Nat) : Int)))
  a : ρ aN = .i (1 : Nat)
  b : ρ bN = .i ((ik 3).wrap (ρ 4).gi)
  d : ρ dN = .i (2 : Nat)
  e : ρ eN = .i ((ik 3).wrap ((ρ bN).gi * (ρ dN).gi))
  q : ρ qN = .i ((ik 3).wrap ((ρ aN).gi + (ρ eN).gi))
  k : ρ kN = .i (-((32768 : Nat) : Int))
  ga : ρ gaN = .b (decide (((32767 : Nat) : Int) < (ρ 1164282253016375712).gi))
  gb : ρ gbN = .b (decide (((32767 : Nat) : Int) < (ρ 764782224465363065).gi))
  gc : ρ gcN = .b (decide (((32767 : Nat) : Int) < (ρ 560159930966104964).gi))
  la : ρ laN = .b (decide ((ρ 1164282253016375712).gi < (ρ kN).gi))
  lb : ρ lbN = .b (decide ((ρ 764782224465363065).gi < (ρ kN).gi))
  lc : ρ lcN = .b (decide ((ρ 560159930966104964).gi < (ρ kN).gi))
theorem env_of {ρ : Nat → NV} {Φ : Syms} (hB : Base Φ) (hT : ∀ d ∈ ns, ρ d.id = d.sem Φ ρ) : Env ρ := by
  have hi := ids_ok
  have hm := mem_ok
  simp only [Bool.and_eq_true] at hi hm
  obtain ⟨i0, i1, i2, i3, i4, i5, i6, i7, i8, i9, i10, i11, i12⟩ := hi
  obtain ⟨m0, m1, m2, m3, m4, m5, m6, m7, m8, m9, m10, m11, m12⟩ := hm
  exact ⟨node_at hT m0 i0, node_at hT m1 i1, node_at hT m2 i2, node_at hT m3 i3, node_at hT m4 i4, node_at hT m5 i5, node_at hT m6 i6, node_at hT m7 i7, node_at hT m8 i8, node_at hT m9 i9, node_at hT m10 i10, node_at hT m11 i11, node_at hT m12 i12⟩
theorem gi_i (x : Int) : (NV.i x).gi = x := rfl
theorem gb_b (x : Bool) : (NV.b x).gb = x := rfl
noncomputable abbrev rq : List Rq := [⟨4, qN, [(mN, false)]⟩]
noncomputable abbrev xs : List (List Fact) := [[(gaN, true), (laN, true)],
  [(gbN, true), (lbN, true)],
  [(gcN, true), (lcN, true)]]
theorem rg4 {Φ : Syms} {ins : List NV} (hg : RGs (allKs shs) ins) : -32768 ≤ (envI Φ ns ins 4).gi ∧ (envI Φ ns ins 4).gi ≤ 32767 := by
  have h := RGs_at (k := .i16) 4 hg (by kernel_rfl)
  rw [← input_of (Φ := Φ) (T := ns) (ins := ins) 4 (by decide)] at h
  generalize (envI Φ ns ins 4).gi = z at *
  have h : (decide (IntKind.i16.min ≤ z) && decide (z ≤ IntKind.i16.max)) = true := h
  simp only [Bool.and_eq_true, decide_eq_true_eq] at h
  exact h
theorem rq_ok {vs : List Value} {ins : List NV} (_ : ShMs shs vs ins) (hg : RGs (allKs shs) ins) : ∀ q ∈ rq, FactsT (envI oCnt.Φ ns ins) q.on → Asked q.tag (envI oCnt.Φ ns ins q.n) := by
  have E := env_of oCnt.base (envI_ok (Φ := oCnt.Φ) wf ins)
  have r4 := rg4 (Φ := oCnt.Φ) hg
  generalize envI oCnt.Φ ns ins = ρ at *
  intro q hq hF
  rcases List.mem_cons.1 hq with rfl | hq
  · have f0 := hF (mN, false) (by simp)
    simp only [E.m, gb_b, gi_i, List.all_cons, List.all_nil, Bool.and_true, Bool.and_eq_true, decide_eq_true_eq, decide_eq_false_iff_not, beq_iff_eq, beq_eq_false_iff_ne, ne_eq] at f0
    show (ρ qN).gi ≠ 0
    rw [E.q, E.a, E.e, E.b, E.d]
    show IntKind.i64.wrap ((1 : Nat) + IntKind.i64.wrap (IntKind.i64.wrap (ρ 4).gi * ((2 : Nat) : Int))) ≠ 0
    rw [IntWalk.i64_in (ρ 4).gi (by omega), IntWalk.i64_in ((ρ 4).gi * _) (by omega), IntWalk.i64_in _ (by omega)]
    omega
  exact absurd hq List.not_mem_nil
theorem xs_ok {vs : List Value} {ins : List NV} (_ : ShMs shs vs ins) (hg : RGs (allKs shs) ins) : ∀ l ∈ xs, ¬ FactsT (envI oCnt.Φ ns ins) l := by
  have E := env_of oCnt.base (envI_ok (Φ := oCnt.Φ) wf ins)
  have r4 := rg4 (Φ := oCnt.Φ) hg
  generalize envI oCnt.Φ ns ins = ρ at *
  intro l hl hF
  rcases List.mem_cons.1 hl with rfl | hl
  · have f0 := hF (gaN, true) (by simp)
    have f1 := hF (laN, true) (by simp)
    simp only [E.ga, E.la, E.k, gb_b, gi_i, List.all_cons, List.all_nil, Bool.and_true, Bool.and_eq_true, decide_eq_true_eq, decide_eq_false_iff_not, beq_iff_eq, beq_eq_false_iff_ne, ne_eq] at f0 f1
    omega
  rcases List.mem_cons.1 hl with rfl | hl
  · have f0 := hF (gbN, true) (by simp)
    have f1 := hF (lbN, true) (by simp)
    simp only [E.gb, E.lb, E.k, gb_b, gi_i, List.all_cons, List.all_nil, Bool.and_true, Bool.and_eq_true, decide_eq_true_eq, decide_eq_false_iff_not, beq_iff_eq, beq_eq_false_iff_ne, ne_eq] at f0 f1
    omega
  rcases List.mem_cons.1 hl with rfl | hl
  · have f0 := hF (gcN, true) (by simp)
    have f1 := hF (lcN, true) (by simp)
    simp only [E.gc, E.lc, E.k, gb_b, gi_i, List.all_cons, List.all_nil, Bool.and_true, Bool.and_eq_true, decide_eq_true_eq, decide_eq_false_iff_not, beq_iff_eq, beq_eq_false_iff_ne, ne_eq] at f0 f1
    omega
  exact absurd hl List.not_mem_nil
theorem chk : wk.chkF ns rq xs (fun x => isTrue x.1) [] = true := by kernel_rfl

theorem own : ownKnob Try.prog.godebug = none := by kernel_rfl
theorem laidOut : laidOutB Try.prog = true := by kernel_rfl

set_option maxRecDepth 100000 in
theorem lifted (os : Os) (started : os.Started) (H : Type) (enc : TypeId × Value → H) :
    ReturnsInHanded {} Try.checked os 9 .any (Rows.fnExactShakeCountsSpec.pre6 enc Try.prog Try.f9 Rows.fnExactShakeCountsRow.domain false) (Rows.fnExactShakeCountsSpec.post enc Try.prog Try.f9 false true false false) := by
  refine returnsInHanded_of_change (C := Try.checked) own started (by kernel_rfl) Try.func9
    (ChangeSpec.witness6 (enc := enc) (C := Try.checked) false ⟨#[], #[.agg #[.int .i16 0, .int .i16 0, .int .i16 0], .int .u32 0, .int .i16 0], []⟩ 8 (by kernel_rfl) (by kernel_rfl) (by kernel_rfl) (by kernel_rfl)) ?_
  intro W base args ds gs before hval0 hW hcnd _
  have hval : ∀ (j : Nat) t v, (Try.f9).params.toList[j]? = some t → args.toList[j]? = some v → Value.okWide Try.prog W .any base t v := fun j t v ht hv => hval0 j t v (by simpa using ht) (by simpa using hv)
  have hW' := hW
  obtain ⟨p, q, hA0, hV, rfl, hfz, hnd⟩ := hW
  have hA : DataW.TrodAll enc Try.prog W 0 (fun _ => true) true (Try.f9).params.toList args.toList ds p := hA0
  obtain ⟨rfl, rfl⟩ := trodVars_none hV
  obtain ⟨ins, hm, hg⟩ := open_all' (ss := shs) (by kernel_rfl) hval hA
  refine (lawF_ok tb_ok mixed ftab_ok oCnt.ok wf chk (Nat.le_of_ble_eq_true (by kernel_rfl)) (by kernel_rfl) (rq_ok hm hg) (xs_ok hm hg) hm).mono fun e W' ⟨he, bel⟩ => ?_
  subst he
  have hA2 := all_trod laidOut bel (by kernel_rfl) hA
  rw [Try.params9] at hA
  obtain ⟨v0, vs0, d0, ds0, p0, q0, hargs, rfl, rfl, h0, r0⟩ := trodAll_cons hA
  obtain ⟨v1, vs1, d1, ds1, p1, q1, rfl, rfl, rfl, h1, r1⟩ := trodAll_cons r0
  obtain ⟨v2, vs2, d2, ds2, p2, q2, rfl, rfl, rfl, h2, r2⟩ := trodAll_cons r1
  obtain ⟨rfl, rfl, rfl⟩ := trodAll_nil r2
  exact ⟨_, rfl, _, _, _, [], _, [], hW', trodAll_mk1 (shut_bool Try.underlying4 _), hA2, rfl, bel.frame _, fun h => by cases h⟩

theorem over : Rows.fnExactShakeCountsRow.holds Try.pinned (OpenSpec.ofChange Rows.fnExactShakeCountsSpec) :=
  OpenClaim.holds_of_wide 9 Try.f9 rfl rfl rfl rfl rfl rfl rfl ⟨rfl, rfl, rfl, rfl, rfl⟩ rfl rfl rfl rfl rfl (by kernel_rfl) Try.func9 (by kernel_rfl)
    (of_decide_eq_true (by kernel_rfl)) (by unfold Func.isWrapper; first | (rw [if_pos (by decide +kernel)]; kernel_rfl) | (rw [if_neg (by decide +kernel)]; exact ⟨rfl, rfl⟩))
    (fun os started H enc _ => lifted os started H enc)

theorem proved : Rows.FnExactShakeCountsSaid := over
#print axioms proved
end Go.Proofs.Ytpfihfdbkoclnaa.fnExactShakeCounts
