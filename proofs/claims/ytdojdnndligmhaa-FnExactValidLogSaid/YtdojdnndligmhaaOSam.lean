/- spec.l01SameVec and impl.SameVec give the same, by one symbol of the walk. No condition. -/
import Derived.Test.YtdojdnndligmhaaOt
import Derived.Test.YtdojdnndligmhaaOe
import Derived.Test.YtdojdnndligmhaaAn
import Derived.Test.YtdojdnndligmhaaYo
namespace Go.Proofs.Ytdojdnndligmhaa.oSam
open Go Go.RowKit
set_option linter.unusedVariables false

abbrev eS : Opq := { f := 45, sym := 11, args := [.agg [.f .f32, .f .f32, .f .f32], .agg [.f .f32, .f .f32, .f .f32]], res := .p (.one .b) }
abbrev eI : Opq := { f := 72, sym := 11, args := [.agg [.f .f32, .f .f32, .f .f32], .agg [.f .f32, .f .f32, .f .f32]], res := .p (.one .b) }
noncomputable def wS : DT (SV × St) := walkOf tb ftab otb eS.f eS.args
noncomputable def wI : DT (SV × St) := walkOf tb ftab otb eI.f eI.args
noncomputable def ns : List Df := wI.gather (wS.gather [])
theorem wf : wfT (withIds ns) [] = true := by kernel_rfl
theorem chS : wS.chkF ns [] [] (fun x => okR eS.res x.1) [] = true := by kernel_rfl
theorem chI : wI.chkF ns [] [] (fun x => okR eI.res x.1) [] = true := by kernel_rfl
/-- The bits of both, whether they are equal, whether both are the same. -/
abbrev tab : List (Nat × Nat × Nat × Nat × Nat) := [(0, 1372446385042385705, 1487844656809892283, 627223197762420826, 78668904208235947), (1, 642298139226989912, 757696410994496496, 556833813527220534, 1922698016104729325), (2, 2217992902625288072, 27548165179100711, 1709759841600633584, 318899472706972176)]
def aN : Nat := 1076707573753821731
abbrev sL : List Nat := [78668904208235947, 1922698016104729325, 318899472706972176]
abbrev eL : List Nat := [627223197762420826, 556833813527220534, 1709759841600633584]
theorem hasE : (tab.all fun x => memD ⟨20, 448, [x.1]⟩ ns && (memD ⟨20, 448, [3 + x.1]⟩ ns && (memD ⟨21, 0, [x.2.1, x.2.2.1]⟩ ns && (memD ⟨20, 384, [x.1, 3 + x.1]⟩ ns && (Nat.beq (Df.id ⟨20, 448, [x.1]⟩) x.2.1 && (Nat.beq (Df.id ⟨20, 448, [3 + x.1]⟩) x.2.2.1 && (Nat.beq (Df.id ⟨21, 0, [x.2.1, x.2.2.1]⟩) x.2.2.2.1 && (Nat.beq (Df.id ⟨20, 384, [x.1, 3 + x.1]⟩) x.2.2.2.2 && Nat.blt x.1 3)))))))) = true := by kernel_rfl
theorem hasA : (memD ⟨22, 0, eL⟩ ns && Nat.beq (Df.id ⟨22, 0, eL⟩) aN) = true := by kernel_rfl
theorem sIs : sL = tab.map (·.2.2.2.2) := rfl
theorem eIs : eL = tab.map (·.2.2.2.1) := rfl
theorem andS : isAnd sL [] wS = true := by kernel_rfl
theorem nodeI : isNode aN wI = true := by kernel_rfl

noncomputable def g (ins : List NV) : List NV := gives baseΦ ns wS eS.res ins
noncomputable def Φ : Syms := ext baseΦ 11 g

theorem can_all {vs : List Value} {ins : List NV} (h : ShMs eS.args vs ins) : ∀ n c, (ins.getD n (.i 0)).gf = some c → (FloatKind.f32.decode c).isNaN = false := by
  match vs, h with
  | [v1, v2], ⟨n1, n2, he, ⟨c1, _, k1⟩, n3, n4, he2, ⟨c2, _, k2⟩, h4⟩ =>
    have h4 : n4 = [] := h4
    subst h4 he2 he
    rw [List.append_nil]
    exact ins_can (KMs_append k1 k2) (by simp)

theorem es {ins : List NV} (hc : ∀ n c, (ins.getD n (.i 0)).gf = some c → (FloatKind.f32.decode c).isNaN = false) : ∀ x ∈ tab, (envI baseΦ ns ins x.2.2.2.1).gb = (envI baseΦ ns ins x.2.2.2.2).gb := by
  intro x hx
  have hi : ∀ n, n < 1000 → envI baseΦ ns ins n = ins.getD n (.i 0) := fun n hn => envT_ins baseΦ (insOf ins) ns n hn
  have h := List.all_eq_true.1 hasE x hx
  simp only [Bool.and_eq_true] at h
  obtain ⟨m1, m2, m3, m4, i1, i2, i3, i4, hlt⟩ := h
  have hlt' : x.1 < 3 := by simpa using hlt
  have n1 : envI baseΦ ns ins x.2.1 = .i (((envI baseΦ ns ins x.1).gf.getD 2143289344 : Nat)) := by
    rw [← Nat.eq_of_beq_eq_true i1]
    exact (envI_ok wf ins _ (memD_mem m1)).trans (baseΦ_ok 7 0 _ (by decide) (by decide))
  have n2 : envI baseΦ ns ins x.2.2.1 = .i (((envI baseΦ ns ins (3 + x.1)).gf.getD 2143289344 : Nat)) := by
    rw [← Nat.eq_of_beq_eq_true i2]
    exact (envI_ok wf ins _ (memD_mem m2)).trans (baseΦ_ok 7 0 _ (by decide) (by decide))
  have n3 : envI baseΦ ns ins x.2.2.2.1 = .b ((envI baseΦ ns ins x.2.1).gi == (envI baseΦ ns ins x.2.2.1).gi) := by
    rw [← Nat.eq_of_beq_eq_true i3]
    exact envI_ok wf ins _ (memD_mem m3)
  have n4 : envI baseΦ ns ins x.2.2.2.2 = .b ((envI baseΦ ns ins x.1).gf == (envI baseΦ ns ins (3 + x.1)).gf) := by
    rw [← Nat.eq_of_beq_eq_true i4]
    exact (envI_ok wf ins _ (memD_mem m4)).trans (baseΦ_ok 6 0 _ (by decide) (by decide))
  rw [n3, n4, n1, n2]
  have k1 : ∀ c, (envI baseΦ ns ins x.1).gf = some c → (FloatKind.f32.decode c).isNaN = false := fun c h => by
    rw [hi _ (by omega)] at h
    exact hc _ c h
  have k2 : ∀ c, (envI baseΦ ns ins (3 + x.1)).gf = some c → (FloatKind.f32.decode c).isNaN = false := fun c h => by
    rw [hi _ (by omega)] at h
    exact hc _ c h
  exact bits_same k1 k2

theorem gives_is {ins : List NV} (hc : ∀ n c, (ins.getD n (.i 0)).gf = some c → (FloatKind.f32.decode c).isNaN = false) : gives baseΦ ns wI eI.res ins = g ins := by
  have hh := hasA
  simp only [Bool.and_eq_true] at hh
  have hS := isAnd_ok (ρ := envI baseΦ ns ins) wS [] (fun f hf => by simp at hf) andS
  have hI := isNode_ok (ρ := envI baseΦ ns ins) wI nodeI
  have na : envI baseΦ ns ins aN = .b (eL.all fun n => (envI baseΦ ns ins n).gb) := by
    rw [← Nat.eq_of_beq_eq_true hh.2]
    exact envI_ok wf ins _ (memD_mem hh.1)
  have e1 : gives baseΦ ns wI eI.res ins = [.b (envI baseΦ ns ins aN).gb] := gives_of hI
  have e2 : g ins = [.b (sL.all fun n => (envI baseΦ ns ins n).gb)] := gives_of hS
  rw [e1, e2, na]
  show [NV.b (eL.all fun n => (envI baseΦ ns ins n).gb)] = _
  congr 2
  rw [sIs, eIs, List.all_map, List.all_map, Bool.eq_iff_iff, List.all_eq_true, List.all_eq_true]
  refine forall_congr' fun x => forall_congr' fun hx => ?_
  show (envI baseΦ ns ins x.2.2.2.1).gb = true ↔ (envI baseΦ ns ins x.2.2.2.2).gb = true
  rw [es hc x hx]

theorem okS : OpqOK Try.prog Φ eS := opq_walk tb_ok mixed ftab_ok (otb_ok baseΦ_ok) rfl rfl wf chS (by kernel_rfl) (by kernel_rfl) (by kernel_rfl) (fun vs ins _ q hq => by simp at hq) (fun vs ins _ l hl => by simp at hl) fun _ _ _ => rfl
theorem okI : OpqOK Try.prog Φ eI := opq_walk tb_ok mixed ftab_ok (otb_ok baseΦ_ok) rfl rfl wf chI (by kernel_rfl) (by kernel_rfl) (by kernel_rfl) (fun vs ins _ q hq => by simp at hq) (fun vs ins _ l hl => by simp at hl) fun vs ins hv => gives_is (can_all hv)
noncomputable def ot : OTab := eS :: eI :: otb
theorem ok : ∀ e ∈ ot, OpqOK Try.prog Φ e := by
  intro e he
  rcases List.mem_cons.1 he with rfl | he
  · exact okS
  · rcases List.mem_cons.1 he with rfl | he
    · exact okI
    · exact tab_old (by kernel_rfl) (otb_ok baseΦ_ok) e he
theorem base : Base Φ := ext_base 11 g (by rfl) baseΦ_ok
end Go.Proofs.Ytdojdnndligmhaa.oSam
