/- spec.l02Wrap and impl.WrapAngle give the same, by one symbol of the walk. No condition. -/
import Derived.Test.YtfjchhfoefgldaaOt
import Derived.Test.YtfjchhfoefgldaaOe
import Derived.Test.YtfjchhfoefgldaaYc
import Derived.Test.YtfjchhfoefgldaaWr
namespace Go.Proofs.Ytfjchhfoefgldaa.oWrap
open Go Go.RowKit
set_option linter.unusedVariables false

abbrev eS : Opq := { f := 93, sym := 10, args := [.one (.f .f32)], res := .p (.one (.f .f32)) }
abbrev eI : Opq := { f := 48, sym := 10, args := [.one (.f .f32)], res := .p (.one (.f .f32)) }
noncomputable def wS : DT (SV × St) := walkOf tb ftab otb eS.f eS.args
noncomputable def wI : DT (SV × St) := walkOf tb ftab otb eI.f eI.args
noncomputable def ns : List Df := wI.gather (wS.gather [])
theorem wf : wfT (withIds ns) [] = true := by kernel_rfl
def wN : Nat := 865307938208485397
def cN : Nat := 1011360722698978452
def qN : Nat := 2107379823117918434
def nN : Nat := 1266863945309458027
def pN : Nat := 2162179287945446419
def dN : Nat := 2153586100906331424
def oN : Nat := 1959247847536799532
def PN : Nat := 488901373320527162
def MN : Nat := 1812732791437066174
def zN : Nat := 1640756989669875575
def fN : Nat := 1284028151914534682
def ltN : Nat := 1676755714130147908
def gtN : Nat := 1924137927778579099
def eqN : Nat := 298466122884961065
theorem ids_ok : (Nat.beq (Df.id ⟨6, 0, [0]⟩) wN && (Nat.beq (Df.id ⟨5, twoPi, []⟩) cN && (Nat.beq (Df.id ⟨3, 1, [wN, cN]⟩) qN && (Nat.beq (Df.id ⟨20, 576, [qN]⟩) nN && (Nat.beq (Df.id ⟨2, 1, ordA 2 cN nN⟩) pN && (Nat.beq (Df.id ⟨1, 1, [wN, pN]⟩) dN && (Nat.beq (Df.id ⟨7, 0, [dN]⟩) oN &&
  (Nat.beq (Df.id ⟨4, 1078530011, []⟩) PN && (Nat.beq (Df.id ⟨4, 3226013659, []⟩) MN && (Nat.beq (Df.id ⟨4, 0, []⟩) zN && (Nat.beq (Df.id ⟨20, 64, [0]⟩) fN && (Nat.beq (Df.id ⟨9, 0, [oN, MN]⟩) ltN && (Nat.beq (Df.id ⟨11, 0, [oN, PN]⟩) gtN && Nat.beq (Df.id ⟨8, 0, [0, zN]⟩) eqN))))))))))))) = true := by kernel_rfl
theorem mem_ok : (memD ⟨6, 0, [0]⟩ ns && (memD ⟨5, twoPi, []⟩ ns && (memD ⟨3, 1, [wN, cN]⟩ ns && (memD ⟨20, 576, [qN]⟩ ns && (memD ⟨2, 1, ordA 2 cN nN⟩ ns && (memD ⟨1, 1, [wN, pN]⟩ ns && (memD ⟨7, 0, [dN]⟩ ns &&
  (memD ⟨4, 1078530011, []⟩ ns && (memD ⟨4, 3226013659, []⟩ ns && (memD ⟨4, 0, []⟩ ns && (memD ⟨20, 64, [0]⟩ ns && (memD ⟨9, 0, [oN, MN]⟩ ns && (memD ⟨11, 0, [oN, PN]⟩ ns && memD ⟨8, 0, [0, zN]⟩ ns))))))))))))) = true := by kernel_rfl
noncomputable abbrev F0 : List Fact := [(fN, true)]
noncomputable abbrev rq : List Rq := [⟨0, dN, F0⟩, ⟨2, oN, F0⟩]
noncomputable abbrev xs : List (List Fact) := [[(ltN, true), (gtN, true)]]
noncomputable abbrev xs2 : List (List Fact) := [(eqN, true)] :: xs

structure Env (ρ : Nat → NV) : Prop where
  w : ρ wN = .f ((ρ 0).gf.map wide)
  c : ρ cN = .f (can .f64 twoPi)
  q : ρ qN = .f (fop .quo .f64 (ρ wN).gf (ρ cN).gf)
  n : ρ nN = .f ((ρ qN).gf.map (integralF .even))
  p : ρ pN = .f (fop .mul .f64 (ρ cN).gf (ρ nN).gf)
  d : ρ dN = .f (fop .sub .f64 (ρ wN).gf (ρ pN).gf)
  o : ρ oN = .f ((ρ dN).gf.map slim)
  P : ρ PN = .f (can .f32 1078530011)
  M : ρ MN = .f (can .f32 3226013659)
  z : ρ zN = .f (can .f32 0)
  f : ρ fN = .b (finB (ρ 0).gf)
  lt : ρ ltN = .b (ford .f32 (ρ oN).gf (ρ MN).gf == some .lt)
  gt : ρ gtN = .b (ford .f32 (ρ oN).gf (ρ PN).gf == some .gt)
  eq : ρ eqN = .b (ford .f32 (ρ 0).gf (ρ zN).gf == some .eq)

theorem node_at {ρ : Nat → NV} {Φ : Syms} (hT : ∀ d ∈ ns, ρ d.id = d.sem Φ ρ) {d : Df} {k : Nat} (h : memD d ns = true) (hk : Nat.beq d.id k = true) : ρ k = d.sem Φ ρ := by
  rw [← Nat.eq_of_beq_eq_true hk]; exact hT d (memD_mem h)

theorem env_of {ρ : Nat → NV} {Φ : Syms} (hB : Base Φ) (hT : ∀ d ∈ ns, ρ d.id = d.sem Φ ρ) : Env ρ := by
  have hi := ids_ok
  have hm := mem_ok
  simp only [Bool.and_eq_true] at hi hm
  obtain ⟨i1, i2, i3, i4, i5, i6, i7, i8, i9, i10, i11, i12, i13, i14⟩ := hi
  obtain ⟨m1, m2, m3, m4, m5, m6, m7, m8, m9, m10, m11, m12, m13, m14⟩ := hm
  have n5 := node_at hT m5 i5
  rw [sem_ord] at n5
  exact ⟨node_at hT m1 i1, node_at hT m2 i2, node_at hT m3 i3, (node_at hT m4 i4).trans (hB 9 0 _ (by decide) (by decide)), n5, node_at hT m6 i6, node_at hT m7 i7, node_at hT m8 i8, node_at hT m9 i9, node_at hT m10 i10,
    (node_at hT m11 i11).trans (hB 1 0 _ (by decide) (by decide)), node_at hT m12 i12, node_at hT m13 i13, node_at hT m14 i14⟩

theorem asked {ρ : Nat → NV} (E : Env ρ) (h0 : ∃ k, (ρ 0).gf = can .f32 k) (hf : (ρ fN).gb = true) : Asked 0 (ρ dN) ∧ Asked 2 (ρ oN) := by
  rw [E.f] at hf
  obtain ⟨b, s, m, p, hb, hr⟩ := fin_parts hf h0
  obtain ⟨q, pr, hq, hp⟩ := wrap_steps hr
  obtain ⟨r, hsub, hfit⟩ := wrap_fits hr hq rfl hp
  have c2 : can .f64 twoPi = some twoPi := can_num (by show (Ieee.double.read twoPi).isNaN = false; rw [twoPi_read]; rfl)
  have gw : (ρ wN).gf = some (wide b) := by rw [E.w, hb]; rfl
  have gc : (ρ cN).gf = some twoPi := by rw [E.c, c2]; rfl
  have gq : (ρ qN).gf = some q := by rw [E.q, gw, gc]; exact hq
  have gn : (ρ nN).gf = some (integralF .even q) := by rw [E.n, gq]; rfl
  have gp : (ρ pN).gf = some pr := by rw [E.p, gc, gn]; exact hp
  have gd : (ρ dN).gf = some r := by rw [E.d, gw, gp]; exact hsub
  refine ⟨fun c hc => ?_, fun e => ?_⟩
  · rw [gd] at hc
    cases hc
    exact hfit
  · rw [E.o, gd] at e
    cases e

theorem rq_ok (vs : List Value) (ins : List NV) (hv : ShMs eS.args vs ins) : ∀ q ∈ rq, FactsT (envI baseΦ ns ins) q.on → Asked q.tag (envI baseΦ ns ins q.n) := by
  obtain ⟨v, x, _, rfl, r, _, hr⟩ := one_arg (vs := vs.toArray) (by simpa using hv)
  have i0 : envI baseΦ ns [x] 0 = x := input_of 0 (by decide)
  have E := env_of baseΦ_ok (envI_ok (Φ := baseΦ) wf [x])
  generalize envI baseΦ ns [x] = ρ at *
  have h0 : ∃ k, (ρ 0).gf = can .f32 k := ⟨r, by rw [i0]; exact hr.out.symm⟩
  intro k hk hF
  rcases List.mem_cons.1 hk with rfl | hk
  · exact (asked E h0 (hF (fN, true) List.mem_cons_self)).1
  · rcases List.mem_cons.1 hk with rfl | hk
    · exact (asked E h0 (hF (fN, true) List.mem_cons_self)).2
    · exact absurd hk List.not_mem_nil

theorem way_ok {ρ : Nat → NV} (E : Env ρ) : ¬ FactsT ρ [(ltN, true), (gtN, true)] := by
  intro hF
  have f1 : (ρ ltN).gb = true := hF (ltN, true) List.mem_cons_self
  have f2 : (ρ gtN).gb = true := hF (gtN, true) (List.mem_cons_of_mem _ List.mem_cons_self)
  rw [E.lt, E.M] at f1
  rw [E.gt, E.P] at f2
  exact not_both _ f1 f2

theorem xs_ok (vs : List Value) (ins : List NV) (hv : ShMs eS.args vs ins) : ∀ l ∈ xs, ¬ FactsT (envI baseΦ ns ins) l := by
  have E := env_of baseΦ_ok (envI_ok (Φ := baseΦ) wf ins)
  intro l hl
  rcases List.mem_cons.1 hl with rfl | hl
  · exact way_ok E
  · exact absurd hl List.not_mem_nil

theorem zero_of {o : Option Nat} (h : (ford .f32 o (can .f32 0) == some Ordering.eq) = true) (hb : ∀ b, o = some b → b < 2 ^ 32) : o = some 0 ∨ o = some 2147483648 := by
  cases o with
  | none => cases h
  | some b =>
    have hlt := hb b rfl
    cases e : Ieee.single.read b with
    | nan =>
      exfalso
      have h0 : can .f32 0 = some 0 := by kernel_rfl
      rw [h0] at h
      have h : (Ieee.single.order b 0 == some Ordering.eq) = true := h
      unfold Ieee.Format.order at h
      rw [e] at h
      cases h
    | infinity s =>
      exfalso
      have h0 : can .f32 0 = some 0 := by kernel_rfl
      rw [h0] at h
      have h : (Ieee.single.order b 0 == some Ordering.eq) = true := h
      unfold Ieee.Format.order at h
      have r0 : Ieee.single.read 0 = .number false 0 (-149) := by kernel_rfl
      rw [e, r0] at h
      cases s <;> cases h
    | number s m p =>
      rw [eq_zero32 e] at h
      have hm := of_decide_eq_true h
      subst hm
      obtain ⟨_, _, _, h4, h5, _⟩ := single_parts e
      have := h4 (by decide)
      subst this
      have h6 : b % 2 ^ 31 = 0 := by rw [← h5]; decide
      have : b = 0 ∨ b = 2147483648 := by omega
      rcases this with rfl | rfl
      · exact Or.inl rfl
      · exact Or.inr rfl
theorem chS : wS.chkF ns rq xs (fun x => okR eS.res x.1) [] = true := by kernel_rfl
theorem chI : wI.chkF ns rq xs (fun x => okR eI.res x.1) [] = true := by kernel_rfl
theorem same : sameG xs2 (rC ns eS.res) wS [] wI = true := by kernel_rfl
theorem zero1 : gives baseΦ ns wI eS.res [.f (some 0)] = gives baseΦ ns wS eS.res [.f (some 0)] := by kernel_rfl
theorem zero2 : gives baseΦ ns wI eS.res [.f (some 2147483648)] = gives baseΦ ns wS eS.res [.f (some 2147483648)] := by kernel_rfl
noncomputable def g (l : List NV) : List NV := gives baseΦ ns wS eS.res l
noncomputable def Φ : Syms := ext baseΦ 10 g
theorem okS : OpqOK Try.prog Φ eS := opq_walk tb_ok mixed ftab_ok (otb_ok baseΦ_ok) rfl rfl wf chS (by kernel_rfl) (by kernel_rfl) (by kernel_rfl) (fun vs ins hv => rq_ok vs ins hv) (fun vs ins hv => xs_ok vs ins hv) fun _ _ _ => rfl
theorem gives_all (vs : List Value) (ins : List NV) (hv : ShMs eS.args vs ins) : gives baseΦ ns wI eS.res ins = g ins := by
  obtain ⟨v, x, _, rfl, r, _, hr⟩ := one_arg (vs := vs.toArray) (by simpa using hv)
  by_cases hz : x.gf = some 0 ∨ x.gf = some 2147483648
  · cases x with
    | f o =>
      rcases hz with hz | hz
      · have hz : o = some 0 := hz
        subst hz
        exact zero1
      · have hz : o = some 2147483648 := hz
        subst hz
        exact zero2
    | i n => rcases hz with hz | hz <;> cases hz
    | b n => rcases hz with hz | hz <;> cases hz
  · refine gives_sameG wf ?_ same
    have i0 : envI baseΦ ns [x] 0 = x := input_of 0 (by decide)
    have E := env_of baseΦ_ok (envI_ok (Φ := baseΦ) wf [x])
    generalize envI baseΦ ns [x] = ρ at *
    intro l hl
    rcases List.mem_cons.1 hl with rfl | hl
    · intro hF
      have f1 : (ρ eqN).gb = true := hF (eqN, true) List.mem_cons_self
      rw [E.eq, E.z, i0] at f1
      refine hz (zero_of f1 fun b hb => ?_)
      have h1 := hr.out.trans hb
      obtain ⟨rfl, _⟩ := can_some h1
      exact hr.lt
    · rcases List.mem_cons.1 hl with rfl | hl
      · exact way_ok E
      · exact absurd hl List.not_mem_nil
theorem okI : OpqOK Try.prog Φ eI := opq_walk tb_ok mixed ftab_ok (otb_ok baseΦ_ok) rfl rfl wf chI (by kernel_rfl) (by kernel_rfl) (by kernel_rfl) (fun vs ins hv => rq_ok vs ins hv) (fun vs ins hv => xs_ok vs ins hv) fun vs ins hv => gives_all vs ins hv
noncomputable def ot : OTab := eS :: eI :: otb
theorem ok : ∀ e ∈ ot, OpqOK Try.prog Φ e := by
  intro e he
  rcases List.mem_cons.1 he with rfl | he
  · exact okS
  · rcases List.mem_cons.1 he with rfl | he
    · exact okI
    · exact tab_old (by kernel_rfl) (otb_ok baseΦ_ok) e he
theorem base : Base Φ := ext_base 10 g (by rfl) baseΦ_ok
end Go.Proofs.Ytfjchhfoefgldaa.oWrap
