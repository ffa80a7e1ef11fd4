/- For all arguments, FnExactIsSaturated returns true; its arguments read as before. No condition. -/
import Derived.Test.YtpfihfdbkoclnaaOt
import Derived.Test.YtpfihfdbkoclnaaYo
import Derived.Test.YtpfihfdbkoclnaaYf
import Derived.Test.YtpfihfdbkoclnaaYc
import Derived.Test.YtpfihfdbkoclnaaAg
namespace Go.Proofs.Ytpfihfdbkoclnaa.fnExactIsSaturated
open Go Go.ChangeShapes Go.WideShapes Go.ChangeAt Go.RowKit
set_option linter.unusedVariables false
set_option linter.unusedSimpArgs false
set_option maxRecDepth 1000000

noncomputable def shs : List Sh := (shsOf Try.prog (Try.f7).params.toList).getD []
noncomputable def wk : DT (SV × St) := walkOf tb ftab otb 7 shs
noncomputable def ns : List Df := wk.gather []
theorem wf : wfT (withIds ns) [] = true := by kernel_rfl
noncomputable def k8N : Nat := 525401123840093402
noncomputable def k7N : Nat := 474683572941765888
noncomputable def h6N : Nat := 78345290913398423
noncomputable def HaN : Nat := 1387579332022204175
noncomputable def HbN : Nat := 906248454109044548
noncomputable def HcN : Nat := 424917576195884923
noncomputable def LaN : Nat := 723265894626029870
noncomputable def laN : Nat := 532379432399735317
noncomputable def gaN : Nat := 1852587504673465070
noncomputable def uaN : Nat := 210558836636252851
noncomputable def vaN : Nat := 1679231823313863703
noncomputable def LbN : Nat := 1974847051590459564
noncomputable def lbN : Nat := 1253706327613499952
noncomputable def gbN : Nat := 738525623870865144
noncomputable def ubN : Nat := 1097985074933286769
noncomputable def vbN : Nat := 1091352449575404169
noncomputable def LcN : Nat := 242343655303185778
noncomputable def lcN : Nat := 178090896998198474
noncomputable def gcN : Nat := 1930306752281959171
noncomputable def ucN : Nat := 748464129505218022
noncomputable def vcN : Nat := 49712478015403376
noncomputable def A0N : Nat := 1106644666523980513
noncomputable def A1N : Nat := 2264141548561530719
noncomputable def A2N : Nat := 1592396828244429752
noncomputable def A3N : Nat := 675028580303864659
noncomputable def A4N : Nat := 1663783104404770107
noncomputable def A5N : Nat := 675260953949668420
noncomputable def A6N : Nat := 777393861038201411
noncomputable def A7N : Nat := 729717928307841735
noncomputable def A8N : Nat := 2248961192355490280
noncomputable def A9N : Nat := 457976774167865323
noncomputable def A10N : Nat := 1022856635301488378
noncomputable def A11N : Nat := 342858163424329774
noncomputable def A12N : Nat := 208787697817047544
noncomputable def A13N : Nat := 231015694535904643
noncomputable def A14N : Nat := 1985270213598911107
noncomputable def A15N : Nat := 1583828571068581291
noncomputable def A16N : Nat := 704908748383479463
noncomputable def A17N : Nat := 376334762076143380
noncomputable def A18N : Nat := 1532778588576842812
noncomputable def A19N : Nat := 1080762304667364712
noncomputable def A20N : Nat := 1110052143787891610
noncomputable def A21N : Nat := 1600122599404227320
noncomputable def A22N : Nat := 96309717375679447
noncomputable def A23N : Nat := 689741311011901805
noncomputable def A24N : Nat := 1913334256774180993
noncomputable def A25N : Nat := 863079623005891118
theorem ids_ok : (Nat.beq (Df.id ⟨17, 32768, []⟩) k8N && (Nat.beq (Df.id ⟨17, 32767, []⟩) k7N && (Nat.beq (Df.id ⟨16, 32766, []⟩) h6N && (Nat.beq (Df.id ⟨13, 32767, [0]⟩) HaN && (Nat.beq (Df.id ⟨13, 32767, [1]⟩) HbN && (Nat.beq (Df.id ⟨13, 32767, [2]⟩) HcN && (Nat.beq (Df.id ⟨21, 0, [0, k8N]⟩) LaN && (Nat.beq (Df.id ⟨28, 0, [0, k7N]⟩) laN && (Nat.beq (Df.id ⟨27, 32766, [0]⟩) gaN && (Nat.beq (Df.id ⟨21, 0, [0, h6N]⟩) uaN && (Nat.beq (Df.id ⟨21, 0, [0, k7N]⟩) vaN && (Nat.beq (Df.id ⟨21, 0, [1, k8N]⟩) LbN && (Nat.beq (Df.id ⟨28, 0, [1, k7N]⟩) lbN && (Nat.beq (Df.id ⟨27, 32766, [1]⟩) gbN && (Nat.beq (Df.id ⟨21, 0, [1, h6N]⟩) ubN && (Nat.beq (Df.id ⟨21, 0, [1, k7N]⟩) vbN && (Nat.beq (Df.id ⟨21, 0, [2, k8N]⟩) LcN && (Nat.beq (Df.id ⟨28, 0, [2, k7N]⟩) lcN && (Nat.beq (Df.id ⟨27, 32766, [2]⟩) gcN && (Nat.beq (Df.id ⟨21, 0, [2, h6N]⟩) ucN && (Nat.beq (Df.id ⟨21, 0, [2, k7N]⟩) vcN && (Nat.beq (Df.id ⟨22, 0, [ucN]⟩) A0N && (Nat.beq (Df.id ⟨22, 0, [vcN]⟩) A1N && (Nat.beq (Df.id ⟨22, 0, [ubN]⟩) A2N && (Nat.beq (Df.id ⟨22, 0, [ubN, ucN]⟩) A3N && (Nat.beq (Df.id ⟨22, 0, [ubN, vcN]⟩) A4N && (Nat.beq (Df.id ⟨22, 0, [vbN]⟩) A5N && (Nat.beq (Df.id ⟨22, 0, [vbN, ucN]⟩) A6N && (Nat.beq (Df.id ⟨22, 0, [vbN, vcN]⟩) A7N && (Nat.beq (Df.id ⟨22, 0, [uaN]⟩) A8N && (Nat.beq (Df.id ⟨22, 0, [uaN, ucN]⟩) A9N && (Nat.beq (Df.id ⟨22, 0, [uaN, vcN]⟩) A10N && (Nat.beq (Df.id ⟨22, 0, [uaN, ubN]⟩) A11N && (Nat.beq (Df.id ⟨22, 0, [uaN, ubN, ucN]⟩) A12N && (Nat.beq (Df.id ⟨22, 0, [uaN, ubN, vcN]⟩) A13N && (Nat.beq (Df.id ⟨22, 0, [uaN, vbN]⟩) A14N && (Nat.beq (Df.id ⟨22, 0, [uaN, vbN, ucN]⟩) A15N && (Nat.beq (Df.id ⟨22, 0, [uaN, vbN, vcN]⟩) A16N && (Nat.beq (Df.id ⟨22, 0, [vaN]⟩) A17N && (Nat.beq (Df.id ⟨22, 0, [vaN, ucN]⟩) A18N && (Nat.beq (Df.id ⟨22, 0, [vaN, vcN]⟩) A19N && (Nat.beq (Df.id ⟨22, 0, [vaN, ubN]⟩) A20N && (Nat.beq (Df.id ⟨22, 0, [vaN, ubN, ucN]⟩) A21N && (Nat.beq (Df.id ⟨22, 0, [vaN, ubN, vcN]⟩) A22N && (Nat.beq (Df.id ⟨22, 0, [vaN, vbN]⟩) A23N && (Nat.beq (Df.id ⟨22, 0, [vaN, vbN, ucN]⟩) A24N && (Nat.beq (Df.id ⟨22, 0, [vaN, vbN, vcN]⟩) A25N))))))))))))))))))))))))))))))))))))))))))))))) = true := by kernel_rfl
theorem mem_ok : (memD ⟨17, 32768, []⟩ ns && (memD ⟨17, 32767, []⟩ ns && (memD ⟨16, 32766, []⟩ ns && (memD ⟨13, 32767, [0]⟩ ns && (memD ⟨13, 32767, [1]⟩ ns && (memD ⟨13, 32767, [2]⟩ ns && (memD ⟨21, 0, [0, k8N]⟩ ns && (memD ⟨28, 0, [0, k7N]⟩ ns && (memD ⟨27, 32766, [0]⟩ ns && (memD ⟨21, 0, [0, h6N]⟩ ns && (memD ⟨21, 0, [0, k7N]⟩ ns && (memD ⟨21, 0, [1, k8N]⟩ ns && (memD ⟨28, 0, [1, k7N]⟩ ns && (memD ⟨27, 32766, [1]⟩ ns && (memD ⟨21, 0, [1, h6N]⟩ ns && (memD ⟨21, 0, [1, k7N]⟩ ns && (memD ⟨21, 0, [2, k8N]⟩ ns && (memD ⟨28, 0, [2, k7N]⟩ ns && (memD ⟨27, 32766, [2]⟩ ns && (memD ⟨21, 0, [2, h6N]⟩ ns && (memD ⟨21, 0, [2, k7N]⟩ ns && (memD ⟨22, 0, [ucN]⟩ ns && (memD ⟨22, 0, [vcN]⟩ ns && (memD ⟨22, 0, [ubN]⟩ ns && (memD ⟨22, 0, [ubN, ucN]⟩ ns && (memD ⟨22, 0, [ubN, vcN]⟩ ns && (memD ⟨22, 0, [vbN]⟩ ns && (memD ⟨22, 0, [vbN, ucN]⟩ ns && (memD ⟨22, 0, [vbN, vcN]⟩ ns && (memD ⟨22, 0, [uaN]⟩ ns && (memD ⟨22, 0, [uaN, ucN]⟩ ns && (memD ⟨22, 0, [uaN, vcN]⟩ ns && (memD ⟨22, 0, [uaN, ubN]⟩ ns && (memD ⟨22, 0, [uaN, ubN, ucN]⟩ ns && (memD ⟨22, 0, [uaN, ubN, vcN]⟩ ns && (memD ⟨22, 0, [uaN, vbN]⟩ ns && (memD ⟨22, 0, [uaN, vbN, ucN]⟩ ns && (memD ⟨22, 0, [uaN, vbN, vcN]⟩ ns && (memD ⟨22, 0, [vaN]⟩ ns && (memD ⟨22, 0, [vaN, ucN]⟩ ns && (memD ⟨22, 0, [vaN, vcN]⟩ ns && (memD ⟨22, 0, [vaN, ubN]⟩ ns && (memD ⟨22, 0, [vaN, ubN, ucN]⟩ ns && (memD ⟨22, 0, [vaN, ubN, vcN]⟩ ns && (memD ⟨22, 0, [vaN, vbN]⟩ ns && (memD ⟨22, 0, [vaN, vbN, ucN]⟩ ns && (memD ⟨22, 0, [vaN, vbN, vcN]⟩ ns))))))))))))))))))))))))))))))))))))))))))))))) = true := by kernel_rfl
theorem node_at {ρ : Nat → NV} {Φ : Syms} (hT : ∀ d ∈ ns, ρ d.id = d.sem Φ ρ) {d : Df} {k : Nat} (h : memD d ns = true) (hk : Nat.beq d.id k = true) : ρ k = d.sem Φ ρ := by
  rw [← Nat.eq_of_beq_eq_true hk]; exact hT d (memD_mem h)
structure Env (ρ : Nat → NV) : Prop where
  k8 : ρ k8N = .i (-((32768 : Nat) : Int))
  k7 : ρ k7N = .i (-((32767 : Nat) : Int))
  h6 : ρ h6N = .i (32766 : Nat)
  Ha : ρ HaN = .b ((ρ 0).gi == (32767 : Int))
  Hb : ρ HbN = .b ((ρ 1).gi == (32767 : Int))
  Hc : ρ HcN = .b ((ρ 2).gi == (32767 : Int))
  La : ρ LaN = .b ((ρ 0).gi == (ρ k8N).gi)
  la : ρ laN = .b (decide ((ρ 0).gi < (ρ k7N).gi))
  ga : ρ gaN = .b (decide (((32766 : Nat) : Int) < (ρ 0).gi))
  ua : ρ uaN = .b ((ρ 0).gi == (ρ h6N).gi)
  va : ρ vaN = .b ((ρ 0).gi == (ρ k7N).gi)
  Lb : ρ LbN = .b ((ρ 1).gi == (ρ k8N).gi)
  lb : ρ lbN = .b (decide ((ρ 1).gi < (ρ k7N).gi))
  gb : ρ gbN = .b (decide (((32766 : Nat) : Int) < (ρ 1).gi))
  ub : ρ ubN = .b ((ρ 1).gi == (ρ h6N).gi)
  vb : ρ vbN = .b ((ρ 1).gi == (ρ k7N).gi)
  Lc : ρ LcN = .b ((ρ 2).gi == (ρ k8N).gi)
  lc : ρ lcN = .b (decide ((ρ 2).gi < (ρ k7N).gi))
  gc : ρ gcN = .b (decide (((32766 : Nat) : Int) < (ρ 2).gi))
  uc : ρ ucN = .b ((ρ 2).gi == (ρ h6N).gi)
  vc : ρ vcN = .b ((ρ 2).gi == (ρ k7N).gi)
  A0 : ρ A0N = .b ([ucN].all fun n => (ρ n).gb)
  A1 : ρ A1N = .b ([vcN].all fun n => (ρ n).gb)
  A2 : ρ A2N = .b ([ubN].all fun n => (ρ n).gb)
  A3 : ρ A3N = .b ([ubN, ucN].all fun n => (ρ n).gb)
  A4 : ρ A4N = .b ([ubN, vcN].all fun n => (ρ n).gb)
  A5 : ρ A5N = .b ([vbN].all fun n => (ρ n).gb)
  A6 : ρ A6N = .b ([vbN, ucN].all fun n => (ρ n).gb)
  A7 : ρ A7N = .b ([vbN, vcN].all fun n => (ρ n).gb)
  A8 : ρ A8N = .b ([uaN].all fun n => (ρ n).gb)
  A9 : ρ A9N = .b ([uaN, ucN].all fun n => (ρ n).gb)
  A10 : ρ A10N = .b ([uaN, vcN].all fun n => (ρ n).gb)
  A11 : ρ A11N = .b ([uaN, ubN].all fun n => (ρ n).gb)
  A12 : ρ A12N = .b ([uaN, ubN, ucN].all fun n => (ρ n).gb)
  A13 : ρ A13N = .b ([uaN, ubN, vcN].all fun n => (ρ n).gb)
  A14 : ρ A14N = .b ([uaN, vbN].all fun n => (ρ n).gb)
  A15 : ρ A15N = .b ([uaN, vbN, ucN].all fun n => (ρ n).gb)
  A16 : ρ A16N = .b ([uaN, vbN, vcN].all fun n => (ρ n).gb)
  A17 : ρ A17N = .b ([vaN].all fun n => (ρ n).gb)
  A18 : ρ A18N = .b ([vaN, ucN].all fun n => (ρ n).gb)
  A19 : ρ A19N = .b ([vaN, vcN].all fun n => (ρ n).gb)
  A20 : ρ A20N = .b ([vaN, ubN].all fun n => (ρ n).gb)
  A21 : ρ A21N = .b ([vaN, ubN, ucN].all fun n => (ρ n).gb)
  A22 : ρ A22N = .b ([vaN, ubN, vcN].all fun n => (ρ n).gb)
  A23 : ρ A23N = .b ([vaN, vbN].all fun n => (ρ n).gb)
  A24 : ρ A24N = .b ([vaN, vbN, ucN].all fun n => (ρ n).gb)
  A25 : ρ A25N = .b ([vaN, vbN, vcN].all fun n => (ρ n).gb)
theorem env_of {ρ : Nat → NV} {Φ : Syms} (hB : Base Φ) (hT : ∀ d ∈ ns, ρ d.id = d.sem Φ ρ) : Env ρ := by
  have hi := ids_ok
  have hm := mem_ok
  simp only [Bool.and_eq_true] at hi hm
  obtain ⟨i0, i1, i2, i3, i4, i5, i6, i7, i8, i9, i10, i11, i12, i13, i14, i15, i16, i17, i18, i19, i20, i21, i22, i23, i24, i25, i26, i27, i28, i29, i30, i31, i32, i33, i34, i35, i36, i37, i38, i39, i40, i41, i42, i43, i44, i45, i46⟩ := hi
  obtain ⟨m0, m1, m2, m3, m4, m5, m6, m7, m8, m9, m10, m11, m12, m13, m14, m15, m16, m17, m18, m19, m20, m21, m22, m23, m24, m25, m26, m27, m28, m29, m30, m31, m32, m33, m34, m35, m36, m37, m38, m39, m40, m41, m42, m43, m44, m45, m46⟩ := hm
  exact ⟨node_at hT m0 i0, node_at hT m1 i1, node_at hT m2 i2, node_at hT m3 i3, node_at hT m4 i4, node_at hT m5 i5, node_at hT m6 i6, node_at hT m7 i7, node_at hT m8 i8, node_at hT m9 i9, node_at hT m10 i10, node_at hT m11 i11, node_at hT m12 i12, node_at hT m13 i13, node_at hT m14 i14, node_at hT m15 i15, node_at hT m16 i16, node_at hT m17 i17, node_at hT m18 i18, node_at hT m19 i19, node_at hT m20 i20, node_at hT m21 i21, node_at hT m22 i22, node_at hT m23 i23, node_at hT m24 i24, node_at hT m25 i25, node_at hT m26 i26, node_at hT m27 i27, node_at hT m28 i28, node_at hT m29 i29, node_at hT m30 i30, node_at hT m31 i31, node_at hT m32 i32, node_at hT m33 i33, node_at hT m34 i34, node_at hT m35 i35, node_at hT m36 i36, node_at hT m37 i37, node_at hT m38 i38, node_at hT m39 i39, node_at hT m40 i40, node_at hT m41 i41, node_at hT m42 i42, node_at hT m43 i43, node_at hT m44 i44, node_at hT m45 i45, node_at hT m46 i46⟩
theorem gi_i (x : Int) : (NV.i x).gi = x := rfl
theorem gb_b (x : Bool) : (NV.b x).gb = x := rfl
noncomputable abbrev rq : List Rq := []
noncomputable abbrev xs : List (List Fact) := [[(HaN, true), (gaN, false)],
  [(HaN, true), (laN, true)],
  [(LaN, true), (laN, false)],
  [(LaN, false), (laN, true)],
  [(HaN, false), (gaN, true)],
  [(HbN, true), (gbN, false)],
  [(HbN, true), (lbN, true)],
  [(LbN, true), (lbN, false)],
  [(LbN, false), (lbN, true)],
  [(HbN, false), (gbN, true)],
  [(HcN, true), (gcN, false)],
  [(HcN, true), (lcN, true)],
  [(LcN, true), (lcN, false)],
  [(LcN, false), (lcN, true)],
  [(HcN, false), (gcN, true)],
  [(A0N, true), (gcN, true)],
  [(A1N, true), (lcN, true)],
  [(A2N, true), (gbN, true)],
  [(A3N, true), (gbN, true)],
  [(A4N, true), (gbN, true)],
  [(A5N, true), (lbN, true)],
  [(A6N, true), (lbN, true)],
  [(A7N, true), (lbN, true)],
  [(A8N, true), (gaN, true)],
  [(A9N, true), (gaN, true)],
  [(A10N, true), (gaN, true)],
  [(A11N, true), (gaN, true)],
  [(A12N, true), (gaN, true)],
  [(A13N, true), (gaN, true)],
  [(A14N, true), (gaN, true)],
  [(A15N, true), (gaN, true)],
  [(A16N, true), (gaN, true)],
  [(A17N, true), (laN, true)],
  [(A18N, true), (laN, true)],
  [(A19N, true), (laN, true)],
  [(A20N, true), (laN, true)],
  [(A21N, true), (laN, true)],
  [(A22N, true), (laN, true)],
  [(A23N, true), (laN, true)],
  [(A24N, true), (laN, true)],
  [(A25N, true), (laN, true)]]
theorem rg0 {Φ : Syms} {ins : List NV} (hg : RGs (allKs shs) ins) : -32768 ≤ (envI Φ ns ins 0).gi ∧ (envI Φ ns ins 0).gi ≤ 32767 := by
  have h := RGs_at (k := .i16) 0 hg (by kernel_rfl)
  rw [← input_of (Φ := Φ) (T := ns) (ins := ins) 0 (by decide)] at h
  generalize (envI Φ ns ins 0).gi = z at *
  have h : (decide (IntKind.i16.min ≤ z) && decide (z ≤ IntKind.i16.max)) = true := h
  simp only [Bool.and_eq_true, decide_eq_true_eq] at h
  exact h
theorem rg1 {Φ : Syms} {ins : List NV} (hg : RGs (allKs shs) ins) : -32768 ≤ (envI Φ ns ins 1).gi ∧ (envI Φ ns ins 1).gi ≤ 32767 := by
  have h := RGs_at (k := .i16) 1 hg (by kernel_rfl)
  rw [← input_of (Φ := Φ) (T := ns) (ins := ins) 1 (by decide)] at h
  generalize (envI Φ ns ins 1).gi = z at *
  have h : (decide (IntKind.i16.min ≤ z) && decide (z ≤ IntKind.i16.max)) = true := h
  simp only [Bool.and_eq_true, decide_eq_true_eq] at h
  exact h
theorem rg2 {Φ : Syms} {ins : List NV} (hg : RGs (allKs shs) ins) : -32768 ≤ (envI Φ ns ins 2).gi ∧ (envI Φ ns ins 2).gi ≤ 32767 := by
  have h := RGs_at (k := .i16) 2 hg (by kernel_rfl)
  rw [← input_of (Φ := Φ) (T := ns) (ins := ins) 2 (by decide)] at h
  generalize (envI Φ ns ins 2).gi = z at *
  have h : (decide (IntKind.i16.min ≤ z) && decide (z ≤ IntKind.i16.max)) = true := h
  simp only [Bool.and_eq_true, decide_eq_true_eq] at h
  exact h
theorem rq_ok {vs : List Value} {ins : List NV} (_ : ShMs shs vs ins) (hg : RGs (allKs shs) ins) : ∀ q ∈ rq, FactsT (envI baseΦ ns ins) q.on → Asked q.tag (envI baseΦ ns ins q.n) := by
  exact fun q hq => absurd hq List.not_mem_nil
theorem xs_ok {vs : List Value} {ins : List NV} (_ : ShMs shs vs ins) (hg : RGs (allKs shs) ins) : ∀ l ∈ xs, ¬ FactsT (envI baseΦ ns ins) l := by
  have E := env_of baseΦ_ok (envI_ok (Φ := baseΦ) wf ins)
  have r0 := rg0 (Φ := baseΦ) hg
  have r1 := rg1 (Φ := baseΦ) hg
  have r2 := rg2 (Φ := baseΦ) hg
  generalize envI baseΦ ns ins = ρ at *
  intro l hl hF
  rcases List.mem_cons.1 hl with rfl | hl
  · have f0 := hF (HaN, true) (by simp)
    have f1 := hF (gaN, false) (by simp)
    simp only [E.Ha, E.ga, gb_b, gi_i, List.all_cons, List.all_nil, Bool.and_true, Bool.and_eq_true, decide_eq_true_eq, decide_eq_false_iff_not, beq_iff_eq, beq_eq_false_iff_ne, ne_eq] at f0 f1
    omega
  rcases List.mem_cons.1 hl with rfl | hl
  · have f0 := hF (HaN, true) (by simp)
    have f1 := hF (laN, true) (by simp)
    simp only [E.Ha, E.la, E.k7, gb_b, gi_i, List.all_cons, List.all_nil, Bool.and_true, Bool.and_eq_true, decide_eq_true_eq, decide_eq_false_iff_not, beq_iff_eq, beq_eq_false_iff_ne, ne_eq] at f0 f1
    omega
  rcases List.mem_cons.1 hl with rfl | hl
  · have f0 := hF (LaN, true) (by simp)
    have f1 := hF (laN, false) (by simp)
    simp only [E.La, E.k8, E.la, E.k7, gb_b, gi_i, List.all_cons, List.all_nil, Bool.and_true, Bool.and_eq_true, decide_eq_true_eq, decide_eq_false_iff_not, beq_iff_eq, beq_eq_false_iff_ne, ne_eq] at f0 f1
    omega
  rcases List.mem_cons.1 hl with rfl | hl
  · have f0 := hF (LaN, false) (by simp)
    have f1 := hF (laN, true) (by simp)
    simp only [E.La, E.k8, E.la, E.k7, gb_b, gi_i, List.all_cons, List.all_nil, Bool.and_true, Bool.and_eq_true, decide_eq_true_eq, decide_eq_false_iff_not, beq_iff_eq, beq_eq_false_iff_ne, ne_eq] at f0 f1
    omega
  rcases List.mem_cons.1 hl with rfl | hl
  · have f0 := hF (HaN, false) (by simp)
    have f1 := hF (gaN, true) (by simp)
    simp only [E.Ha, E.ga, gb_b, gi_i, List.all_cons, List.all_nil, Bool.and_true, Bool.and_eq_true, decide_eq_true_eq, decide_eq_false_iff_not, beq_iff_eq, beq_eq_false_iff_ne, ne_eq] at f0 f1
    omega
  rcases List.mem_cons.1 hl with rfl | hl
  · have f0 := hF (HbN, true) (by simp)
    have f1 := hF (gbN, false) (by simp)
    simp only [E.Hb, E.gb, gb_b, gi_i, List.all_cons, List.all_nil, Bool.and_true, Bool.and_eq_true, decide_eq_true_eq, decide_eq_false_iff_not, beq_iff_eq, beq_eq_false_iff_ne, ne_eq] at f0 f1
    omega
  rcases List.mem_cons.1 hl with rfl | hl
  · have f0 := hF (HbN, true) (by simp)
    have f1 := hF (lbN, true) (by simp)
    simp only [E.Hb, E.lb, E.k7, gb_b, gi_i, List.all_cons, List.all_nil, Bool.and_true, Bool.and_eq_true, decide_eq_true_eq, decide_eq_false_iff_not, beq_iff_eq, beq_eq_false_iff_ne, ne_eq] at f0 f1
    omega
  rcases List.mem_cons.1 hl with rfl | hl
  · have f0 := hF (LbN, true) (by simp)
    have f1 := hF (lbN, false) (by simp)
    simp only [E.Lb, E.k8, E.lb, E.k7, gb_b, gi_i, List.all_cons, List.all_nil, Bool.and_true, Bool.and_eq_true, decide_eq_true_eq, decide_eq_false_iff_not, beq_iff_eq, beq_eq_false_iff_ne, ne_eq] at f0 f1
    omega
  rcases List.mem_cons.1 hl with rfl | hl
  · have f0 := hF (LbN, false) (by simp)
    have f1 := hF (lbN, true) (by simp)
    simp only [E.Lb, E.k8, E.lb, E.k7, gb_b, gi_i, List.all_cons, List.all_nil, Bool.and_true, Bool.and_eq_true, decide_eq_true_eq, decide_eq_false_iff_not, beq_iff_eq, beq_eq_false_iff_ne, ne_eq] at f0 f1
    omega
  rcases List.mem_cons.1 hl with rfl | hl
  · have f0 := hF (HbN, false) (by simp)
    have f1 := hF (gbN, true) (by simp)
    simp only [E.Hb, E.gb, gb_b, gi_i, List.all_cons, List.all_nil, Bool.and_true, Bool.and_eq_true, decide_eq_true_eq, decide_eq_false_iff_not, beq_iff_eq, beq_eq_false_iff_ne, ne_eq] at f0 f1
    omega
  rcases List.mem_cons.1 hl with rfl | hl
  · have f0 := hF (HcN, true) (by simp)
    have f1 := hF (gcN, false) (by simp)
    simp only [E.Hc, E.gc, gb_b, gi_i, List.all_cons, List.all_nil, Bool.and_true, Bool.and_eq_true, decide_eq_true_eq, decide_eq_false_iff_not, beq_iff_eq, beq_eq_false_iff_ne, ne_eq] at f0 f1
    omega
  rcases List.mem_cons.1 hl with rfl | hl
  · have f0 := hF (HcN, true) (by simp)
    have f1 := hF (lcN, true) (by simp)
    simp only [E.Hc, E.lc, E.k7, gb_b, gi_i, List.all_cons, List.all_nil, Bool.and_true, Bool.and_eq_true, decide_eq_true_eq, decide_eq_false_iff_not, beq_iff_eq, beq_eq_false_iff_ne, ne_eq] at f0 f1
    omega
  rcases List.mem_cons.1 hl with rfl | hl
  · have f0 := hF (LcN, true) (by simp)
    have f1 := hF (lcN, false) (by simp)
    simp only [E.Lc, E.k8, E.lc, E.k7, gb_b, gi_i, List.all_cons, List.all_nil, Bool.and_true, Bool.and_eq_true, decide_eq_true_eq, decide_eq_false_iff_not, beq_iff_eq, beq_eq_false_iff_ne, ne_eq] at f0 f1
    omega
  rcases List.mem_cons.1 hl with rfl | hl
  · have f0 := hF (LcN, false) (by simp)
    have f1 := hF (lcN, true) (by simp)
    simp only [E.Lc, E.k8, E.lc, E.k7, gb_b, gi_i, List.all_cons, List.all_nil, Bool.and_true, Bool.and_eq_true, decide_eq_true_eq, decide_eq_false_iff_not, beq_iff_eq, beq_eq_false_iff_ne, ne_eq] at f0 f1
    omega
  rcases List.mem_cons.1 hl with rfl | hl
  · have f0 := hF (HcN, false) (by simp)
    have f1 := hF (gcN, true) (by simp)
    simp only [E.Hc, E.gc, gb_b, gi_i, List.all_cons, List.all_nil, Bool.and_true, Bool.and_eq_true, decide_eq_true_eq, decide_eq_false_iff_not, beq_iff_eq, beq_eq_false_iff_ne, ne_eq] at f0 f1
    omega
  rcases List.mem_cons.1 hl with rfl | hl
  · have f0 := hF (A0N, true) (by simp)
    have f1 := hF (gcN, true) (by simp)
    simp only [E.A0, E.uc, E.h6, E.gc, gb_b, gi_i, List.all_cons, List.all_nil, Bool.and_true, Bool.and_eq_true, decide_eq_true_eq, decide_eq_false_iff_not, beq_iff_eq, beq_eq_false_iff_ne, ne_eq] at f0 f1
    omega
  rcases List.mem_cons.1 hl with rfl | hl
  · have f0 := hF (A1N, true) (by simp)
    have f1 := hF (lcN, true) (by simp)
    simp only [E.A1, E.vc, E.k7, E.lc, gb_b, gi_i, List.all_cons, List.all_nil, Bool.and_true, Bool.and_eq_true, decide_eq_true_eq, decide_eq_false_iff_not, beq_iff_eq, beq_eq_false_iff_ne, ne_eq] at f0 f1
    omega
  rcases List.mem_cons.1 hl with rfl | hl
  · have f0 := hF (A2N, true) (by simp)
    have f1 := hF (gbN, true) (by simp)
    simp only [E.A2, E.ub, E.h6, E.gb, gb_b, gi_i, List.all_cons, List.all_nil, Bool.and_true, Bool.and_eq_true, decide_eq_true_eq, decide_eq_false_iff_not, beq_iff_eq, beq_eq_false_iff_ne, ne_eq] at f0 f1
    omega
  rcases List.mem_cons.1 hl with rfl | hl
  · have f0 := hF (A3N, true) (by simp)
    have f1 := hF (gbN, true) (by simp)
    simp only [E.A3, E.ub, E.h6, E.uc, E.gb, gb_b, gi_i, List.all_cons, List.all_nil, Bool.and_true, Bool.and_eq_true, decide_eq_true_eq, decide_eq_false_iff_not, beq_iff_eq, beq_eq_false_iff_ne, ne_eq] at f0 f1
    omega
  rcases List.mem_cons.1 hl with rfl | hl
  · have f0 := hF (A4N, true) (by simp)
    have f1 := hF (gbN, true) (by simp)
    simp only [E.A4, E.ub, E.h6, E.vc, E.k7, E.gb, gb_b, gi_i, List.all_cons, List.all_nil, Bool.and_true, Bool.and_eq_true, decide_eq_true_eq, decide_eq_false_iff_not, beq_iff_eq, beq_eq_false_iff_ne, ne_eq] at f0 f1
    omega
  rcases List.mem_cons.1 hl with rfl | hl
  · have f0 := hF (A5N, true) (by simp)
    have f1 := hF (lbN, true) (by simp)
    simp only [E.A5, E.vb, E.k7, E.lb, gb_b, gi_i, List.all_cons, List.all_nil, Bool.and_true, Bool.and_eq_true, decide_eq_true_eq, decide_eq_false_iff_not, beq_iff_eq, beq_eq_false_iff_ne, ne_eq] at f0 f1
    omega
  rcases List.mem_cons.1 hl with rfl | hl
  · have f0 := hF (A6N, true) (by simp)
    have f1 := hF (lbN, true) (by simp)
    simp only [E.A6, E.vb, E.k7, E.uc, E.h6, E.lb, gb_b, gi_i, List.all_cons, List.all_nil, Bool.and_true, Bool.and_eq_true, decide_eq_true_eq, decide_eq_false_iff_not, beq_iff_eq, beq_eq_false_iff_ne, ne_eq] at f0 f1
    omega
  rcases List.mem_cons.1 hl with rfl | hl
  · have f0 := hF (A7N, true) (by simp)
    have f1 := hF (lbN, true) (by simp)
    simp only [E.A7, E.vb, E.k7, E.vc, E.lb, gb_b, gi_i, List.all_cons, List.all_nil, Bool.and_true, Bool.and_eq_true, decide_eq_true_eq, decide_eq_false_iff_not, beq_iff_eq, beq_eq_false_iff_ne, ne_eq] at f0 f1
    omega
  rcases List.mem_cons.1 hl with rfl | hl
  · have f0 := hF (A8N, true) (by simp)
    have f1 := hF (gaN, true) (by simp)
    simp only [E.A8, E.ua, E.h6, E.ga, gb_b, gi_i, List.all_cons, List.all_nil, Bool.and_true, Bool.and_eq_true, decide_eq_true_eq, decide_eq_false_iff_not, beq_iff_eq, beq_eq_false_iff_ne, ne_eq] at f0 f1
    omega
  rcases List.mem_cons.1 hl with rfl | hl
  · have f0 := hF (A9N, true) (by simp)
    have f1 := hF (gaN, true) (by simp)
    simp only [E.A9, E.ua, E.h6, E.uc, E.ga, gb_b, gi_i, List.all_cons, List.all_nil, Bool.and_true, Bool.and_eq_true, decide_eq_true_eq, decide_eq_false_iff_not, beq_iff_eq, beq_eq_false_iff_ne, ne_eq] at f0 f1
    omega
  rcases List.mem_cons.1 hl with rfl | hl
  · have f0 := hF (A10N, true) (by simp)
    have f1 := hF (gaN, true) (by simp)
    simp only [E.A10, E.ua, E.h6, E.vc, E.k7, E.ga, gb_b, gi_i, List.all_cons, List.all_nil, Bool.and_true, Bool.and_eq_true, decide_eq_true_eq, decide_eq_false_iff_not, beq_iff_eq, beq_eq_false_iff_ne, ne_eq] at f0 f1
    omega
  rcases List.mem_cons.1 hl with rfl | hl
  · have f0 := hF (A11N, true) (by simp)
    have f1 := hF (gaN, true) (by simp)
    simp only [E.A11, E.ua, E.h6, E.ub, E.ga, gb_b, gi_i, List.all_cons, List.all_nil, Bool.and_true, Bool.and_eq_true, decide_eq_true_eq, decide_eq_false_iff_not, beq_iff_eq, beq_eq_false_iff_ne, ne_eq] at f0 f1
    omega
  rcases List.mem_cons.1 hl with rfl | hl
  · have f0 := hF (A12N, true) (by simp)
    have f1 := hF (gaN, true) (by simp)
    simp only [E.A12, E.ua, E.h6, E.ub, E.uc, E.ga, gb_b, gi_i, List.all_cons, List.all_nil, Bool.and_true, Bool.and_eq_true, decide_eq_true_eq, decide_eq_false_iff_not, beq_iff_eq, beq_eq_false_iff_ne, ne_eq] at f0 f1
    omega
  rcases List.mem_cons.1 hl with rfl | hl
  · have f0 := hF (A13N, true) (by simp)
    have f1 := hF (gaN, true) (by simp)
    simp only [E.A13, E.ua, E.h6, E.ub, E.vc, E.k7, E.ga, gb_b, gi_i, List.all_cons, List.all_nil, Bool.and_true, Bool.and_eq_true, decide_eq_true_eq, decide_eq_false_iff_not, beq_iff_eq, beq_eq_false_iff_ne, ne_eq] at f0 f1
    omega
  rcases List.mem_cons.1 hl with rfl | hl
  · have f0 := hF (A14N, true) (by simp)
    have f1 := hF (gaN, true) (by simp)
    simp only [E.A14, E.ua, E.h6, E.vb, E.k7, E.ga, gb_b, gi_i, List.all_cons, List.all_nil, Bool.and_true, Bool.and_eq_true, decide_eq_true_eq, decide_eq_false_iff_not, beq_iff_eq, beq_eq_false_iff_ne, ne_eq] at f0 f1
    omega
  rcases List.mem_cons.1 hl with rfl | hl
  · have f0 := hF (A15N, true) (by simp)
    have f1 := hF (gaN, true) (by simp)
    simp only [E.A15, E.ua, E.h6, E.vb, E.k7, E.uc, E.ga, gb_b, gi_i, List.all_cons, List.all_nil, Bool.and_true, Bool.and_eq_true, decide_eq_true_eq, decide_eq_false_iff_not, beq_iff_eq, beq_eq_false_iff_ne, ne_eq] at f0 f1
    omega
  rcases List.mem_cons.1 hl with rfl | hl
  · have f0 := hF (A16N, true) (by simp)
    have f1 := hF (gaN, true) (by simp)
    simp only [E.A16, E.ua, E.h6, E.vb, E.k7, E.vc, E.ga, gb_b, gi_i, List.all_cons, List.all_nil, Bool.and_true, Bool.and_eq_true, decide_eq_true_eq, decide_eq_false_iff_not, beq_iff_eq, beq_eq_false_iff_ne, ne_eq] at f0 f1
    omega
  rcases List.mem_cons.1 hl with rfl | hl
  · have f0 := hF (A17N, true) (by simp)
    have f1 := hF (laN, true) (by simp)
    simp only [E.A17, E.va, E.k7, E.la, gb_b, gi_i, List.all_cons, List.all_nil, Bool.and_true, Bool.and_eq_true, decide_eq_true_eq, decide_eq_false_iff_not, beq_iff_eq, beq_eq_false_iff_ne, ne_eq] at f0 f1
    omega
  rcases List.mem_cons.1 hl with rfl | hl
  · have f0 := hF (A18N, true) (by simp)
    have f1 := hF (laN, true) (by simp)
    simp only [E.A18, E.va, E.k7, E.uc, E.h6, E.la, gb_b, gi_i, List.all_cons, List.all_nil, Bool.and_true, Bool.and_eq_true, decide_eq_true_eq, decide_eq_false_iff_not, beq_iff_eq, beq_eq_false_iff_ne, ne_eq] at f0 f1
    omega
  rcases List.mem_cons.1 hl with rfl | hl
  · have f0 := hF (A19N, true) (by simp)
    have f1 := hF (laN, true) (by simp)
    simp only [E.A19, E.va, E.k7, E.vc, E.la, gb_b, gi_i, List.all_cons, List.all_nil, Bool.and_true, Bool.and_eq_true, decide_eq_true_eq, decide_eq_false_iff_not, beq_iff_eq, beq_eq_false_iff_ne, ne_eq] at f0 f1
    omega
  rcases List.mem_cons.1 hl with rfl | hl
  · have f0 := hF (A20N, true) (by simp)
    have f1 := hF (laN, true) (by simp)
    simp only [E.A20, E.va, E.k7, E.ub, E.h6, E.la, gb_b, gi_i, List.all_cons, List.all_nil, Bool.and_true, Bool.and_eq_true, decide_eq_true_eq, decide_eq_false_iff_not, beq_iff_eq, beq_eq_false_iff_ne, ne_eq] at f0 f1
    omega
  rcases List.mem_cons.1 hl with rfl | hl
  · have f0 := hF (A21N, true) (by simp)
    have f1 := hF (laN, true) (by simp)
    simp only [E.A21, E.va, E.k7, E.ub, E.h6, E.uc, E.la, gb_b, gi_i, List.all_cons, List.all_nil, Bool.and_true, Bool.and_eq_true, decide_eq_true_eq, decide_eq_false_iff_not, beq_iff_eq, beq_eq_false_iff_ne, ne_eq] at f0 f1
    omega
  rcases List.mem_cons.1 hl with rfl | hl
  · have f0 := hF (A22N, true) (by simp)
    have f1 := hF (laN, true) (by simp)
    simp only [E.A22, E.va, E.k7, E.ub, E.h6, E.vc, E.la, gb_b, gi_i, List.all_cons, List.all_nil, Bool.and_true, Bool.and_eq_true, decide_eq_true_eq, decide_eq_false_iff_not, beq_iff_eq, beq_eq_false_iff_ne, ne_eq] at f0 f1
    omega
  rcases List.mem_cons.1 hl with rfl | hl
  · have f0 := hF (A23N, true) (by simp)
    have f1 := hF (laN, true) (by simp)
    simp only [E.A23, E.va, E.k7, E.vb, E.la, gb_b, gi_i, List.all_cons, List.all_nil, Bool.and_true, Bool.and_eq_true, decide_eq_true_eq, decide_eq_false_iff_not, beq_iff_eq, beq_eq_false_iff_ne, ne_eq] at f0 f1
    omega
  rcases List.mem_cons.1 hl with rfl | hl
  · have f0 := hF (A24N, true) (by simp)
    have f1 := hF (laN, true) (by simp)
    simp only [E.A24, E.va, E.k7, E.vb, E.uc, E.h6, E.la, gb_b, gi_i, List.all_cons, List.all_nil, Bool.and_true, Bool.and_eq_true, decide_eq_true_eq, decide_eq_false_iff_not, beq_iff_eq, beq_eq_false_iff_ne, ne_eq] at f0 f1
    omega
  rcases List.mem_cons.1 hl with rfl | hl
  · have f0 := hF (A25N, true) (by simp)
    have f1 := hF (laN, true) (by simp)
    simp only [E.A25, E.va, E.k7, E.vb, E.vc, E.la, gb_b, gi_i, List.all_cons, List.all_nil, Bool.and_true, Bool.and_eq_true, decide_eq_true_eq, decide_eq_false_iff_not, beq_iff_eq, beq_eq_false_iff_ne, ne_eq] at f0 f1
    omega
  exact absurd hl List.not_mem_nil
theorem chk : wk.chkF ns rq xs (fun x => isTrue x.1) [] = true := by kernel_rfl

theorem own : ownKnob Try.prog.godebug = none := by kernel_rfl
theorem laidOut : laidOutB Try.prog = true := by kernel_rfl

set_option maxRecDepth 100000 in
theorem lifted (os : Os) (started : os.Started) (H : Type) (enc : TypeId × Value → H) :
    ReturnsInHanded {} Try.checked os 7 .any (Rows.fnExactIsSaturatedSpec.pre6 enc Try.prog Try.f7 Rows.fnExactIsSaturatedRow.domain false) (Rows.fnExactIsSaturatedSpec.post enc Try.prog Try.f7 false true false false) := by
  refine returnsInHanded_of_change (C := Try.checked) own started (by kernel_rfl) Try.func7
    (ChangeSpec.witness6 (enc := enc) (C := Try.checked) false ⟨#[], #[.agg #[.int .i16 0, .int .i16 0, .int .i16 0]], []⟩ 8 (by kernel_rfl) (by kernel_rfl) (by kernel_rfl) (by kernel_rfl)) ?_
  intro W base args ds gs before hval0 hW hcnd _
  have hval : ∀ (j : Nat) t v, (Try.f7).params.toList[j]? = some t → args.toList[j]? = some v → Value.okWide Try.prog W .any base t v := fun j t v ht hv => hval0 j t v (by simpa using ht) (by simpa using hv)
  have hW' := hW
  obtain ⟨p, q, hA0, hV, rfl, hfz, hnd⟩ := hW
  have hA : DataW.TrodAll enc Try.prog W 0 (fun _ => true) true (Try.f7).params.toList args.toList ds p := hA0
  obtain ⟨rfl, rfl⟩ := trodVars_none hV
  obtain ⟨ins, hm, hg⟩ := open_all' (ss := shs) (by kernel_rfl) hval hA
  refine (lawF_ok tb_ok mixed ftab_ok (otb_ok baseΦ_ok) wf chk (Nat.le_of_ble_eq_true (by kernel_rfl)) (by kernel_rfl) (rq_ok hm hg) (xs_ok hm hg) hm).mono fun e W' ⟨he, bel⟩ => ?_
  subst he
  have hA2 := all_trod laidOut bel (by kernel_rfl) hA
  rw [Try.params7] at hA
  obtain ⟨v0, vs0, d0, ds0, p0, q0, hargs, rfl, rfl, h0, r0⟩ := trodAll_cons hA
  obtain ⟨rfl, rfl, rfl⟩ := trodAll_nil r0
  exact ⟨_, rfl, _, _, _, [], _, [], hW', trodAll_mk1 (shut_bool Try.underlying4 _), hA2, rfl, bel.frame _, fun h => by cases h⟩

theorem over : Rows.fnExactIsSaturatedRow.holds Try.pinned (OpenSpec.ofChange Rows.fnExactIsSaturatedSpec) :=
  OpenClaim.holds_of_wide 7 Try.f7 rfl rfl rfl rfl rfl rfl rfl ⟨rfl, rfl, rfl, rfl, rfl⟩ rfl rfl rfl rfl rfl (by kernel_rfl) Try.func7 (by kernel_rfl)
    (of_decide_eq_true (by kernel_rfl)) (by unfold Func.isWrapper; first | (rw [if_pos (by decide +kernel)]; kernel_rfl) | (rw [if_neg (by decide +kernel)]; exact ⟨rfl, rfl⟩))
    (fun os started H enc _ => lifted os started H enc)

theorem proved : Rows.FnExactIsSaturatedSaid := over
#print axioms proved
end Go.Proofs.Ytpfihfdbkoclnaa.fnExactIsSaturated
