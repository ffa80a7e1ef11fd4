/- spec.l02Wrap and impl.WrapAngle give the same, by one symbol of the walk. spec.l02Angle and impl.AngleOf give the same, by one symbol of the walk. spec.l02Sine and impl.sineOfTurns give the same, by one symbol of the walk. spec.l06Compose and impl.ComposePoses give the same, by one symbol of the walk. spec.l06Finite and impl.IsFinitePose give the same, by one symbol of the walk. No condition. -/
import Derived.Test.YtejljfejajckoaaOt
import Derived.Test.YtejljfejajckoaaOe
import Derived.Test.YtejljfejajckoaaYc
import Derived.Test.YtejljfejajckoaaWr
import Derived.Test.YtejljfejajckoaaAg
namespace Go.Proofs.Ytejljfejajckoaa.oWrap
open Go Go.RowKit
set_option linter.unusedVariables false

abbrev eS : Opq := { f := 137, sym := 10, args := [.one (.f .f32)], res := .p (.one (.f .f32)) }
abbrev eI : Opq := { f := 142, sym := 10, args := [.one (.f .f32)], res := .p (.one (.f .f32)) }
noncomputable def wS : DT (SV × St) := walkOf tb ftab otb eS.f eS.args
noncomputable def wI : DT (SV × St) := walkOf tb ftab otb eI.f eI.args
noncomputable def ns : List Df := wI.gather (wS.gather [])
theorem wf : wfT (withIds ns) [] = true := by kernel_rfl
def wN : Nat := 865307938208485397
def cN : Nat := 1011360722698978452
def qN : Nat := 2107379823117918434
def nN : Nat := 1266863945309458027
def pN : Nat := 2162179287945446419
def dN : Nat := 2153586100906331424
def oN : Nat := 1959247847536799532
def PN : Nat := 488901373320527162
def MN : Nat := 1812732791437066174
def zN : Nat := 1640756989669875575
def fN : Nat := 1284028151914534682
def ltN : Nat := 1676755714130147908
def gtN : Nat := 1924137927778579099
def eqN : Nat := 298466122884961065
theorem ids_ok : (Nat.beq (Df.id ⟨6, 0, [0]⟩) wN && (Nat.beq (Df.id ⟨5, twoPi, []⟩) cN && (Nat.beq (Df.id ⟨3, 1, [wN, cN]⟩) qN && (Nat.beq (Df.id ⟨20, 576, [qN]⟩) nN && (Nat.beq (Df.id ⟨2, 1, ordA 2 cN nN⟩) pN && (Nat.beq (Df.id ⟨1, 1, [wN, pN]⟩) dN && (Nat.beq (Df.id ⟨7, 0, [dN]⟩) oN &&
  (Nat.beq (Df.id ⟨4, 1078530011, []⟩) PN && (Nat.beq (Df.id ⟨4, 3226013659, []⟩) MN && (Nat.beq (Df.id ⟨4, 0, []⟩) zN && (Nat.beq (Df.id ⟨20, 64, [0]⟩) fN && (Nat.beq (Df.id ⟨9, 0, [oN, MN]⟩) ltN && (Nat.beq (Df.id ⟨11, 0, [oN, PN]⟩) gtN && Nat.beq (Df.id ⟨8, 0, [0, zN]⟩) eqN))))))))))))) = true := by kernel_rfl
theorem mem_ok : (memD ⟨6, 0, [0]⟩ ns && (memD ⟨5, twoPi, []⟩ ns && (memD ⟨3, 1, [wN, cN]⟩ ns && (memD ⟨20, 576, [qN]⟩ ns && (memD ⟨2, 1, ordA 2 cN nN⟩ ns && (memD ⟨1, 1, [wN, pN]⟩ ns && (memD ⟨7, 0, [dN]⟩ ns &&
  (memD ⟨4, 1078530011, []⟩ ns && (memD ⟨4, 3226013659, []⟩ ns && (memD ⟨4, 0, []⟩ ns && (memD ⟨20, 64, [0]⟩ ns && (memD ⟨9, 0, [oN, MN]⟩ ns && (memD ⟨11, 0, [oN, PN]⟩ ns && memD ⟨8, 0, [0, zN]⟩ ns))))))))))))) = true := by kernel_rfl
noncomputable abbrev F0 : List Fact := [(fN, true)]
noncomputable abbrev rq : List Rq := [⟨0, dN, F0⟩, ⟨2, oN, F0⟩]
noncomputable abbrev xs : List (List Fact) := [[(ltN, true), (gtN, true)]]
noncomputable abbrev xs2 : List (List Fact) := [(eqN, true)] :: xs

structure Env (ρ : Nat → NV) : Prop where
  w : ρ wN = .f ((ρ 0).gf.map wide)
  c : ρ cN = .f (can .f64 twoPi)
  q : ρ qN = .f (fop .quo .f64 (ρ wN).gf (ρ cN).gf)
  n : ρ nN = .f ((ρ qN).gf.map (integralF .even))
  p : ρ pN = .f (fop .mul .f64 (ρ cN).gf (ρ nN).gf)
  d : ρ dN = .f (fop .sub .f64 (ρ wN).gf (ρ pN).gf)
  o : ρ oN = .f ((ρ dN).gf.map slim)
  P : ρ PN = .f (can .f32 1078530011)
  M : ρ MN = .f (can .f32 3226013659)
  z : ρ zN = .f (can .f32 0)
  f : ρ fN = .b (finB (ρ 0).gf)
  lt : ρ ltN = .b (ford .f32 (ρ oN).gf (ρ MN).gf == some .lt)
  gt : ρ gtN = .b (ford .f32 (ρ oN).gf (ρ PN).gf == some .gt)
  eq : ρ eqN = .b (ford .f32 (ρ 0).gf (ρ zN).gf == some .eq)

theorem node_at {ρ : Nat → NV} {Φ : Syms} (hT : ∀ d ∈ ns, ρ d.id = d.sem Φ ρ) {d : Df} {k : Nat} (h : memD d ns = true) (hk : Nat.beq d.id k = true) : ρ k = d.sem Φ ρ := by
  rw [← Nat.eq_of_beq_eq_true hk]; exact hT d (memD_mem h)

theorem env_of {ρ : Nat → NV} {Φ : Syms} (hB : Base Φ) (hT : ∀ d ∈ ns, ρ d.id = d.sem Φ ρ) : Env ρ := by
  have hi := ids_ok
  have hm := mem_ok
  simp only [Bool.and_eq_true] at hi hm
  obtain ⟨i1, i2, i3, i4, i5, i6, i7, i8, i9, i10, i11, i12, i13, i14⟩ := hi
  obtain ⟨m1, m2, m3, m4, m5, m6, m7, m8, m9, m10, m11, m12, m13, m14⟩ := hm
  have n5 := node_at hT m5 i5
  rw [sem_ord] at n5
  exact ⟨node_at hT m1 i1, node_at hT m2 i2, node_at hT m3 i3, (node_at hT m4 i4).trans (hB 9 0 _ (by decide) (by decide)), n5, node_at hT m6 i6, node_at hT m7 i7, node_at hT m8 i8, node_at hT m9 i9, node_at hT m10 i10,
    (node_at hT m11 i11).trans (hB 1 0 _ (by decide) (by decide)), node_at hT m12 i12, node_at hT m13 i13, node_at hT m14 i14⟩

theorem asked {ρ : Nat → NV} (E : Env ρ) (h0 : ∃ k, (ρ 0).gf = can .f32 k) (hf : (ρ fN).gb = true) : Asked 0 (ρ dN) ∧ Asked 2 (ρ oN) := by
  rw [E.f] at hf
  obtain ⟨b, s, m, p, hb, hr⟩ := fin_parts hf h0
  obtain ⟨q, pr, hq, hp⟩ := wrap_steps hr
  obtain ⟨r, hsub, hfit⟩ := wrap_fits hr hq rfl hp
  have c2 : can .f64 twoPi = some twoPi := can_num (by show (Ieee.double.read twoPi).isNaN = false; rw [twoPi_read]; rfl)
  have gw : (ρ wN).gf = some (wide b) := by rw [E.w, hb]; rfl
  have gc : (ρ cN).gf = some twoPi := by rw [E.c, c2]; rfl
  have gq : (ρ qN).gf = some q := by rw [E.q, gw, gc]; exact hq
  have gn : (ρ nN).gf = some (integralF .even q) := by rw [E.n, gq]; rfl
  have gp : (ρ pN).gf = some pr := by rw [E.p, gc, gn]; exact hp
  have gd : (ρ dN).gf = some r := by rw [E.d, gw, gp]; exact hsub
  refine ⟨fun c hc => ?_, fun e => ?_⟩
  · rw [gd] at hc
    cases hc
    exact hfit
  · rw [E.o, gd] at e
    cases e

theorem rq_ok (vs : List Value) (ins : List NV) (hv : ShMs eS.args vs ins) : ∀ q ∈ rq, FactsT (envI baseΦ ns ins) q.on → Asked q.tag (envI baseΦ ns ins q.n) := by
  obtain ⟨v, x, _, rfl, r, _, hr⟩ := one_arg (vs := vs.toArray) (by simpa using hv)
  have i0 : envI baseΦ ns [x] 0 = x := input_of 0 (by decide)
  have E := env_of baseΦ_ok (envI_ok (Φ := baseΦ) wf [x])
  generalize envI baseΦ ns [x] = ρ at *
  have h0 : ∃ k, (ρ 0).gf = can .f32 k := ⟨r, by rw [i0]; exact hr.out.symm⟩
  intro k hk hF
  rcases List.mem_cons.1 hk with rfl | hk
  · exact (asked E h0 (hF (fN, true) List.mem_cons_self)).1
  · rcases List.mem_cons.1 hk with rfl | hk
    · exact (asked E h0 (hF (fN, true) List.mem_cons_self)).2
    · exact absurd hk List.not_mem_nil

theorem way_ok {ρ : Nat → NV} (E : Env ρ) : ¬ FactsT ρ [(ltN, true), (gtN, true)] := by
  intro hF
  have f1 : (ρ ltN).gb = true := hF (ltN, true) List.mem_cons_self
  have f2 : (ρ gtN).gb = true := hF (gtN, true) (List.mem_cons_of_mem _ List.mem_cons_self)
  rw [E.lt, E.M] at f1
  rw [E.gt, E.P] at f2
  exact not_both _ f1 f2

theorem xs_ok (vs : List Value) (ins : List NV) (hv : ShMs eS.args vs ins) : ∀ l ∈ xs, ¬ FactsT (envI baseΦ ns ins) l := by
  have E := env_of baseΦ_ok (envI_ok (Φ := baseΦ) wf ins)
  intro l hl
  rcases List.mem_cons.1 hl with rfl | hl
  · exact way_ok E
  · exact absurd hl List.not_mem_nil

theorem zero_of {o : Option Nat} (h : (ford .f32 o (can .f32 0) == some Ordering.eq) = true) (hb : ∀ b, o = some b → b < 2 ^ 32) : o = some 0 ∨ o = some 2147483648 := by
  cases o with
  | none => cases h
  | some b =>
    have hlt := hb b rfl
    cases e : Ieee.single.read b with
    | nan =>
      exfalso
      have h0 : can .f32 0 = some 0 := by kernel_rfl
      rw [h0] at h
      have h : (Ieee.single.order b 0 == some Ordering.eq) = true := h
      unfold Ieee.Format.order at h
      rw [e] at h
      cases h
    | infinity s =>
      exfalso
      have h0 : can .f32 0 = some 0 := by kernel_rfl
      rw [h0] at h
      have h : (Ieee.single.order b 0 == some Ordering.eq) = true := h
      unfold Ieee.Format.order at h
      have r0 : Ieee.single.read 0 = .number false 0 (-149) := by kernel_rfl
      rw [e, r0] at h
      cases s <;> cases h
    | number s m p =>
      rw [eq_zero32 e] at h
      have hm := of_decide_eq_true h
      subst hm
      obtain ⟨_, _, _, h4, h5, _⟩ := single_parts e
      have := h4 (by decide)
      subst this
      have h6 : b % 2 ^ 31 = 0 := by rw [← h5]; decide
      have : b = 0 ∨ b = 2147483648 := by omega
      rcases this with rfl | rfl
      · exact Or.inl rfl
      · exact Or.inr rfl
theorem chS : wS.chkF ns rq xs (fun x => okR eS.res x.1) [] = true := by kernel_rfl
theorem chI : wI.chkF ns rq xs (fun x => okR eI.res x.1) [] = true := by kernel_rfl
theorem same : sameG xs2 (rC ns eS.res) wS [] wI = true := by kernel_rfl
theorem zero1 : gives baseΦ ns wI eS.res [.f (some 0)] = gives baseΦ ns wS eS.res [.f (some 0)] := by kernel_rfl
theorem zero2 : gives baseΦ ns wI eS.res [.f (some 2147483648)] = gives baseΦ ns wS eS.res [.f (some 2147483648)] := by kernel_rfl
noncomputable def g (l : List NV) : List NV := gives baseΦ ns wS eS.res l
noncomputable def Φ : Syms := ext baseΦ 10 g
theorem okS : OpqOK Try.prog Φ eS := opq_walk tb_ok mixed ftab_ok (otb_ok baseΦ_ok) rfl rfl wf chS (by kernel_rfl) (by kernel_rfl) (by kernel_rfl) (fun vs ins hv => rq_ok vs ins hv) (fun vs ins hv => xs_ok vs ins hv) fun _ _ _ => rfl
theorem gives_all (vs : List Value) (ins : List NV) (hv : ShMs eS.args vs ins) : gives baseΦ ns wI eS.res ins = g ins := by
  obtain ⟨v, x, _, rfl, r, _, hr⟩ := one_arg (vs := vs.toArray) (by simpa using hv)
  by_cases hz : x.gf = some 0 ∨ x.gf = some 2147483648
  · cases x with
    | f o =>
      rcases hz with hz | hz
      · have hz : o = some 0 := hz
        subst hz
        exact zero1
      · have hz : o = some 2147483648 := hz
        subst hz
        exact zero2
    | i n => rcases hz with hz | hz <;> cases hz
    | b n => rcases hz with hz | hz <;> cases hz
  · refine gives_sameG wf ?_ same
    have i0 : envI baseΦ ns [x] 0 = x := input_of 0 (by decide)
    have E := env_of baseΦ_ok (envI_ok (Φ := baseΦ) wf [x])
    generalize envI baseΦ ns [x] = ρ at *
    intro l hl
    rcases List.mem_cons.1 hl with rfl | hl
    · intro hF
      have f1 : (ρ eqN).gb = true := hF (eqN, true) List.mem_cons_self
      rw [E.eq, E.z, i0] at f1
      refine hz (zero_of f1 fun b hb => ?_)
      have h1 := hr.out.trans hb
      obtain ⟨rfl, _⟩ := can_some h1
      exact hr.lt
    · rcases List.mem_cons.1 hl with rfl | hl
      · exact way_ok E
      · exact absurd hl List.not_mem_nil
theorem okI : OpqOK Try.prog Φ eI := opq_walk tb_ok mixed ftab_ok (otb_ok baseΦ_ok) rfl rfl wf chI (by kernel_rfl) (by kernel_rfl) (by kernel_rfl) (fun vs ins hv => rq_ok vs ins hv) (fun vs ins hv => xs_ok vs ins hv) fun vs ins hv => gives_all vs ins hv
noncomputable def ot : OTab := eS :: eI :: otb
theorem ok : ∀ e ∈ ot, OpqOK Try.prog Φ e := by
  intro e he
  rcases List.mem_cons.1 he with rfl | he
  · exact okS
  · rcases List.mem_cons.1 he with rfl | he
    · exact okI
    · exact tab_old (by kernel_rfl) (otb_ok baseΦ_ok) e he
theorem base : Base Φ := ext_base 10 g (by rfl) baseΦ_ok
end Go.Proofs.Ytejljfejajckoaa.oWrap

namespace Go.Proofs.Ytejljfejajckoaa.oAngle
open Go Go.RowKit
set_option linter.unusedVariables false

abbrev eS : Opq := { f := 138, sym := 11, args := [.one (.f .f32), .one (.f .f32)], res := .p (.one (.f .f32)) }
abbrev eI : Opq := { f := 143, sym := 11, args := [.one (.f .f32), .one (.f .f32)], res := .p (.one (.f .f32)) }
noncomputable def wS : DT (SV × St) := walkOf tb ftab oWrap.ot eS.f eS.args
noncomputable def wI : DT (SV × St) := walkOf tb ftab oWrap.ot eI.f eI.args
noncomputable def ns : List Df := wI.gather (wS.gather [])
theorem wf : wfT (withIds ns) [] = true := by kernel_rfl
noncomputable abbrev dfy : Df := ⟨20, 64, [0]⟩
noncomputable abbrev dfx : Df := ⟨20, 64, [1]⟩
noncomputable abbrev dwy : Df := ⟨6, 0, [0]⟩
noncomputable abbrev dwx : Df := ⟨6, 0, [1]⟩
noncomputable abbrev da : Df := ⟨20, 320, [dwy.id]⟩
noncomputable abbrev db : Df := ⟨20, 320, [dwx.id]⟩
noncomputable abbrev dgt : Df := ⟨11, 1, [da.id, db.id]⟩
noncomputable abbrev dc : Df := ⟨4, 0, []⟩
noncomputable abbrev dC : Df := ⟨5, 0, []⟩
noncomputable abbrev dy0 : Df := ⟨8, 0, [0, dc.id]⟩
noncomputable abbrev dx0 : Df := ⟨8, 0, [1, dc.id]⟩
noncomputable abbrev da0 : Df := ⟨8, 1, [da.id, dC.id]⟩
noncomputable abbrev db0 : Df := ⟨8, 1, [db.id, dC.id]⟩
noncomputable abbrev dz1 : Df := ⟨3, 1, [da.id, db.id]⟩
noncomputable abbrev dz2 : Df := ⟨3, 1, [db.id, da.id]⟩
theorem has : (memD dfy ns && memD dfx ns && memD dwy ns && memD dwx ns && memD da ns && memD db ns && memD dgt ns && memD dc ns && memD dC ns && memD dy0 ns && memD dx0 ns && memD da0 ns && memD db0 ns && memD dz1 ns && memD dz2 ns) = true := by kernel_rfl
noncomputable def rqN : List (Nat × Nat) := wI.asks (wS.asks [])
noncomputable def bd1 : BEnv := bnds 8 ns ns.reverse [(dz1.id, { up := some (2, 0) })]
noncomputable def bd2 : BEnv := bnds 8 ns ns.reverse [(dz2.id, { up := some (2, 0) })]
noncomputable abbrev F0 : List Fact := [(dfy.id, true), (dfx.id, true)]
noncomputable def rq : List Rq := ⟨1, da.id, F0⟩ :: ⟨1, db.id, F0⟩ :: ((rqN.filter fun q => Nat.beq q.1 0 && fitsB bd1 q.2).map (fun q => ⟨0, q.2, (dgt.id, false) :: F0⟩) ++ (rqN.filter fun q => Nat.beq q.1 0 && fitsB bd2 q.2).map (fun q => ⟨0, q.2, (dgt.id, true) :: F0⟩))
noncomputable abbrev xs : List (List Fact) := [(dgt.id, true) :: (dy0.id, true) :: F0, (dgt.id, true) :: (da0.id, true) :: F0, (dgt.id, false) :: (db0.id, true) :: (dy0.id, false) :: F0, (dgt.id, false) :: (db0.id, true) :: (dx0.id, false) :: F0, (dgt.id, false) :: (db0.id, false) :: (dx0.id, true) :: F0]

/-- What the nodes stand for where both numbers are finite. -/
theorem parts (vs : List Value) (ins : List NV) (hv : ShMs eS.args vs ins) (hF : FactsT (envI oWrap.Φ ns ins) F0) : ∃ a b m n p q my mx, (envI oWrap.Φ ns ins da.id).gf = some a ∧ (envI oWrap.Φ ns ins db.id).gf = some b ∧
    Ieee.double.read a = .number false m p ∧ Ieee.double.read b = .number false n q ∧ a < 2 ^ 63 ∧ b < 2 ^ 63 ∧ (m = 0 ↔ my = 0) ∧ (n = 0 ↔ mx = 0) ∧
    (envI oWrap.Φ ns ins dgt.id).gb = !decide (LeV m p n q) ∧ (envI oWrap.Φ ns ins dy0.id).gb = decide (my = 0) ∧ (envI oWrap.Φ ns ins dx0.id).gb = decide (mx = 0) ∧ (envI oWrap.Φ ns ins da0.id).gb = decide (m = 0) ∧ (envI oWrap.Φ ns ins db0.id).gb = decide (n = 0) := by
  have hh := has
  simp only [Bool.and_eq_true] at hh
  obtain ⟨⟨⟨⟨⟨⟨⟨⟨⟨⟨⟨⟨⟨⟨h1, h2⟩, h3⟩, h4⟩, h5⟩, h6⟩, h7⟩, h8⟩, h9⟩, h10⟩, h11⟩, h12⟩, h13⟩, h14⟩, h15⟩ := hh
  obtain ⟨v, y, v2, x, _, rfl, ⟨r, _, hr⟩, ⟨r2, _, hr2⟩⟩ := two_args (vs := vs.toArray) (by simpa using hv)
  have i0 : envI oWrap.Φ ns [y, x] 0 = y := input_of 0 (by decide)
  have i1 : envI oWrap.Φ ns [y, x] 1 = x := input_of 1 (by decide)
  have n1 := node_of (Φ := oWrap.Φ) (ins := [y, x]) wf h1
  have n2 := node_of (Φ := oWrap.Φ) (ins := [y, x]) wf h2
  have n3 := node_of (Φ := oWrap.Φ) (ins := [y, x]) wf h3
  have n4 := node_of (Φ := oWrap.Φ) (ins := [y, x]) wf h4
  have n5 := node_of (Φ := oWrap.Φ) (ins := [y, x]) wf h5
  have n6 := node_of (Φ := oWrap.Φ) (ins := [y, x]) wf h6
  have n7 := node_of (Φ := oWrap.Φ) (ins := [y, x]) wf h7
  have n8 := node_of (Φ := oWrap.Φ) (ins := [y, x]) wf h8
  have n9 := node_of (Φ := oWrap.Φ) (ins := [y, x]) wf h9
  have n10 := node_of (Φ := oWrap.Φ) (ins := [y, x]) wf h10
  have n11 := node_of (Φ := oWrap.Φ) (ins := [y, x]) wf h11
  have n12 := node_of (Φ := oWrap.Φ) (ins := [y, x]) wf h12
  have n13 := node_of (Φ := oWrap.Φ) (ins := [y, x]) wf h13
  have f1 := hF (dfy.id, true) (by simp)
  have f2 := hF (dfx.id, true) (by simp)
  generalize envI oWrap.Φ ns [y, x] = ρ at *
  have fy : finB y.gf = true := by
    have e : ρ dfy.id = .b (finB (ρ 0).gf) := n1.trans (oWrap.base 1 0 _ (by decide) (by decide))
    rw [e, i0] at f1; exact f1
  have fx : finB x.gf = true := by
    have e : ρ dfx.id = .b (finB (ρ 1).gf) := n2.trans (oWrap.base 1 0 _ (by decide) (by decide))
    rw [e, i1] at f2; exact f2
  obtain ⟨b, s, my, py, hb, hby⟩ := fin_parts fy ⟨r, hr.out.symm⟩
  obtain ⟨b2, s2, mx, px, hb2, hbx⟩ := fin_parts fx ⟨r2, hr2.out.symm⟩
  obtain ⟨m, p, ha, hm⟩ := abs_wide hby
  obtain ⟨n, q, hb', hn⟩ := abs_wide hbx
  have ea : (ρ da.id).gf = some (wide b % 2 ^ 63) := by
    have e : ρ da.id = .f ((ρ dwy.id).gf.map (· % 2 ^ 63)) := n5.trans (oWrap.base 5 0 _ (by decide) (by decide))
    have e2 : ρ dwy.id = .f ((ρ 0).gf.map wide) := n3
    rw [e, e2, i0, hb]; rfl
  have eb : (ρ db.id).gf = some (wide b2 % 2 ^ 63) := by
    have e : ρ db.id = .f ((ρ dwx.id).gf.map (· % 2 ^ 63)) := n6.trans (oWrap.base 5 0 _ (by decide) (by decide))
    have e2 : ρ dwx.id = .f ((ρ 1).gf.map wide) := n4
    rw [e, e2, i1, hb2]; rfl
  have ec : ρ dc.id = .f (can .f32 0) := n8
  have eC : ρ dC.id = .f (can .f64 0) := n9
  refine ⟨_, _, m, n, p, q, my, mx, ea, eb, ha, hb', Nat.mod_lt _ (by decide), Nat.mod_lt _ (by decide), hm, hn, ?_, ?_, ?_, ?_, ?_⟩
  · have e : ρ dgt.id = .b (ford .f64 (ρ da.id).gf (ρ db.id).gf == some .gt) := n7
    rw [e, ea, eb]; exact gt64 ha hb'
  · have e : ρ dy0.id = .b (ford .f32 (ρ 0).gf (ρ dc.id).gf == some .eq) := n10
    rw [e, i0, hb, ec]; exact eq_zero32 hby
  · have e : ρ dx0.id = .b (ford .f32 (ρ 1).gf (ρ dc.id).gf == some .eq) := n11
    rw [e, i1, hb2, ec]; exact eq_zero32 hbx
  · have e : ρ da0.id = .b (ford .f64 (ρ da.id).gf (ρ dC.id).gf == some .eq) := n12
    rw [e, ea, eC]; exact eq_zero64 ha
  · have e : ρ db0.id = .b (ford .f64 (ρ db.id).gf (ρ dC.id).gf == some .eq) := n13
    rw [e, eb, eC]; exact eq_zero64 hb'

theorem levZero {m n : Nat} {p q : Int} (h : LeV m p n q) (hn : n = 0) : m = 0 := by
  subst hn
  unfold LeV sc at h
  rw [Nat.zero_mul] at h
  rcases Nat.mul_eq_zero.1 (Nat.le_zero.1 h) with e | e
  · exact e
  · exact absurd e (Nat.ne_of_gt (Nat.two_pow_pos _))

theorem xs_ok (vs : List Value) (ins : List NV) (hv : ShMs eS.args vs ins) : ∀ l ∈ xs, ¬ FactsT (envI oWrap.Φ ns ins) l := by
  intro l hl hF
  have hF0 : FactsT (envI oWrap.Φ ns ins) F0 := by
    intro f hf
    simp only [xs, List.mem_cons, List.not_mem_nil, or_false] at hl
    rcases hl with rfl | rfl | rfl | rfl | rfl <;> exact hF f (by simp only [List.mem_cons, List.not_mem_nil, or_false] at hf ⊢; rcases hf with rfl | rfl <;> simp)
  obtain ⟨a, b, m, n, p, q, my, mx, ea, eb, ha, hb, la, lb, hm, hn, eg, ey, ex, ea0, eb0⟩ := parts vs ins hv hF0
  simp only [xs, List.mem_cons, List.not_mem_nil, or_false] at hl
  rcases hl with rfl | rfl | rfl | rfl | rfl
  · have g := hF (dgt.id, true) (by simp)
    have z := hF (dy0.id, true) (by simp)
    simp only at g z
    rw [eg] at g
    rw [ey] at z
    have hm0 := hm.2 (of_decide_eq_true z)
    subst hm0
    simp [LeV.zero] at g
  · have g := hF (dgt.id, true) (by simp)
    have z := hF (da0.id, true) (by simp)
    simp only at g z
    rw [eg] at g
    rw [ea0] at z
    have hm0 := of_decide_eq_true z
    subst hm0
    simp [LeV.zero] at g
  · have g := hF (dgt.id, false) (by simp)
    have z := hF (db0.id, true) (by simp)
    have u := hF (dy0.id, false) (by simp)
    simp only at g z u
    rw [eg] at g
    rw [eb0] at z
    rw [ey] at u
    have hle : LeV m p n q := by simpa using g
    exact of_decide_eq_false u (hm.1 (levZero hle (of_decide_eq_true z)))
  · have z := hF (db0.id, true) (by simp)
    have u := hF (dx0.id, false) (by simp)
    simp only at z u
    rw [eb0] at z
    rw [ex] at u
    exact of_decide_eq_false u (hn.1 (of_decide_eq_true z))
  · have z := hF (db0.id, false) (by simp)
    have u := hF (dx0.id, true) (by simp)
    simp only at z u
    rw [eb0] at z
    rw [ex] at u
    exact of_decide_eq_false z (hn.2 (of_decide_eq_true u))

theorem rq_ok (vs : List Value) (ins : List NV) (hv : ShMs eS.args vs ins) : ∀ q ∈ rq, FactsT (envI oWrap.Φ ns ins) q.on → Asked q.tag (envI oWrap.Φ ns ins q.n) := by
  have hh := has
  simp only [Bool.and_eq_true] at hh
  intro k hk hF
  rcases List.mem_cons.1 hk with rfl | hk
  · obtain ⟨a, b, m, n, p, q, my, mx, ea, eb, ha, hb, la, lb, _⟩ := parts vs ins hv hF
    exact ⟨a, ea, la⟩
  rcases List.mem_cons.1 hk with rfl | hk
  · obtain ⟨a, b, m, n, p, q, my, mx, ea, eb, ha, hb, la, lb, _⟩ := parts vs ins hv hF
    exact ⟨b, eb, lb⟩
  rcases List.mem_append.1 hk with hk | hk
  · obtain ⟨q, hq, rfl⟩ := List.mem_map.1 hk
    have hq2 := (List.mem_filter.1 hq).2
    simp only [Bool.and_eq_true] at hq2
    have hF0 : FactsT (envI oWrap.Φ ns ins) F0 := fun f hf => hF f (List.mem_cons_of_mem _ hf)
    obtain ⟨a, b, m, n, p, q', my, mx, ea, eb, ha, hb, la, lb, hm, hn, eg, _⟩ := parts vs ins hv hF0
    have g := hF (dgt.id, false) (by simp)
    simp only at g
    rw [eg] at g
    have hle : LeV m p n q' := by simpa using g
    refine fitsB_ok (B := bd1) ?_ hq2.2
    refine bnds_ok (fl := 8) (T := ns) (envI_ok wf ins) (fun l => oWrap.base 8 0 l (by decide) (by decide)) (fun l => oWrap.base 4 0 l (by decide) (by decide)) ns.reverse [(dz1.id, { up := some (2, 0) })] (fun d hd => List.mem_reverse.1 hd) ?_
    intro e he
    obtain rfl : e = _ := List.mem_singleton.1 he
    refine SatB.upOnly fun c hc => ?_
    have nz := node_of (Φ := oWrap.Φ) (ins := ins) wf hh.1.2
    have e2 : envI oWrap.Φ ns ins dz1.id = .f (fop .quo .f64 (envI oWrap.Φ ns ins da.id).gf (envI oWrap.Φ ns ins db.id).gf) := nz
    have hc' : (envI oWrap.Φ ns ins dz1.id).gf = some c := hc
    rw [e2, ea, eb] at hc'
    exact quo_le ha hb hle hc'
  · obtain ⟨q, hq, rfl⟩ := List.mem_map.1 hk
    have hq2 := (List.mem_filter.1 hq).2
    simp only [Bool.and_eq_true] at hq2
    have hF0 : FactsT (envI oWrap.Φ ns ins) F0 := fun f hf => hF f (List.mem_cons_of_mem _ hf)
    obtain ⟨a, b, m, n, p, q', my, mx, ea, eb, ha, hb, la, lb, hm, hn, eg, _⟩ := parts vs ins hv hF0
    have g := hF (dgt.id, true) (by simp)
    simp only at g
    rw [eg] at g
    have hnle : ¬ LeV m p n q' := by simpa using g
    have hle : LeV n q' m p := by
      unfold LeV at hnle ⊢
      rw [Int.min_comm q' p]
      omega
    refine fitsB_ok (B := bd2) ?_ hq2.2
    refine bnds_ok (fl := 8) (T := ns) (envI_ok wf ins) (fun l => oWrap.base 8 0 l (by decide) (by decide)) (fun l => oWrap.base 4 0 l (by decide) (by decide)) ns.reverse [(dz2.id, { up := some (2, 0) })] (fun d hd => List.mem_reverse.1 hd) ?_
    intro e he
    obtain rfl : e = _ := List.mem_singleton.1 he
    refine SatB.upOnly fun c hc => ?_
    have nz := node_of (Φ := oWrap.Φ) (ins := ins) wf hh.2
    have e2 : envI oWrap.Φ ns ins dz2.id = .f (fop .quo .f64 (envI oWrap.Φ ns ins db.id).gf (envI oWrap.Φ ns ins da.id).gf) := nz
    have hc' : (envI oWrap.Φ ns ins dz2.id).gf = some c := hc
    rw [e2, ea, eb] at hc'
    exact quo_le hb ha hle hc'
theorem chS : wS.chkF ns rq xs (fun x => okR eS.res x.1) [] = true := by kernel_rfl
theorem chI : wI.chkF ns rq xs (fun x => okR eI.res x.1) [] = true := by kernel_rfl
theorem same : sameG xs (rC ns eS.res) wS [] wI = true := by kernel_rfl
noncomputable def g (l : List NV) : List NV := gives oWrap.Φ ns wS eS.res l
noncomputable def Φ : Syms := ext oWrap.Φ 11 g
theorem okS : OpqOK Try.prog Φ eS := opq_walk tb_ok mixed ftab_ok oWrap.ok rfl rfl wf chS (by kernel_rfl) (by kernel_rfl) (by kernel_rfl) (fun vs ins hv => rq_ok vs ins hv) (fun vs ins hv => xs_ok vs ins hv) fun _ _ _ => rfl
theorem okI : OpqOK Try.prog Φ eI := opq_walk tb_ok mixed ftab_ok oWrap.ok rfl rfl wf chI (by kernel_rfl) (by kernel_rfl) (by kernel_rfl) (fun vs ins hv => rq_ok vs ins hv) (fun vs ins hv => xs_ok vs ins hv) fun vs ins hv => gives_sameG wf (xs_ok vs ins hv) same
noncomputable def ot : OTab := eS :: eI :: oWrap.ot
theorem ok : ∀ e ∈ ot, OpqOK Try.prog Φ e := by
  intro e he
  rcases List.mem_cons.1 he with rfl | he
  · exact okS
  · rcases List.mem_cons.1 he with rfl | he
    · exact okI
    · exact tab_old (by kernel_rfl) oWrap.ok e he
theorem base : Base Φ := ext_base 11 g (by rfl) oWrap.base
end Go.Proofs.Ytejljfejajckoaa.oAngle

namespace Go.Proofs.Ytejljfejajckoaa.oSin
open Go Go.RowKit
set_option linter.unusedVariables false

abbrev eS : Opq := { f := 178, sym := 11, args := [.one (.f .f64)], res := .p (.one (.f .f32)) }
abbrev eI : Opq := { f := 171, sym := 11, args := [.one (.f .f64)], res := .p (.one (.f .f32)) }
noncomputable def wS : DT (SV × St) := walkOf tb ftab oWrap.ot eS.f eS.args
noncomputable def wI : DT (SV × St) := walkOf tb ftab oWrap.ot eI.f eI.args
noncomputable def ns : List Df := wI.gather (wS.gather [])
theorem wf : wfT (withIds ns) [] = true := by kernel_rfl
noncomputable def rqN : List (Nat × Nat) := wI.asks (wS.asks [])
noncomputable def rq : List Rq := rqN.map fun q => ⟨q.1, q.2, []⟩
abbrev xs : List (List Fact) := []
noncomputable def bd : BEnv := bnds 8 ns ns.reverse []
theorem fit : (rqN.all fun q => Nat.beq q.1 0 && fitsB bd q.2) = true := by kernel_rfl
theorem rq_ok (vs : List Value) (ins : List NV) (_ : ShMs eS.args vs ins) : ∀ q ∈ rq, FactsT (envI oWrap.Φ ns ins) q.on → Asked q.tag (envI oWrap.Φ ns ins q.n) := by
  intro q hq _
  obtain ⟨p, hp, rfl⟩ := List.mem_map.1 hq
  have := List.all_eq_true.1 fit p hp
  simp only [Bool.and_eq_true] at this
  show Asked p.1 _
  rw [Nat.eq_of_beq_eq_true this.1]
  exact fitsB_ok (bnds_ok (envI_ok wf ins) (fun l => oWrap.base 8 0 l (by decide) (by decide)) (fun l => oWrap.base 4 0 l (by decide) (by decide)) ns.reverse [] (fun d hd => by simpa using hd) (fun e he => by simp at he)) this.2
theorem xs_ok (vs : List Value) (ins : List NV) (_ : ShMs eS.args vs ins) : ∀ l ∈ xs, ¬ FactsT (envI oWrap.Φ ns ins) l := fun l hl => by simp at hl
theorem chS : wS.chkF ns rq xs (fun x => okR eS.res x.1) [] = true := by kernel_rfl
theorem chI : wI.chkF ns rq xs (fun x => okR eI.res x.1) [] = true := by kernel_rfl
theorem same : sameG xs (rC ns eS.res) wS [] wI = true := by kernel_rfl
noncomputable def g (l : List NV) : List NV := gives oWrap.Φ ns wS eS.res l
noncomputable def Φ : Syms := ext oWrap.Φ 11 g
theorem okS : OpqOK Try.prog Φ eS := opq_walk tb_ok mixed ftab_ok oWrap.ok rfl rfl wf chS (by kernel_rfl) (by kernel_rfl) (by kernel_rfl) (fun vs ins hv => rq_ok vs ins hv) (fun vs ins hv => xs_ok vs ins hv) fun _ _ _ => rfl
theorem okI : OpqOK Try.prog Φ eI := opq_walk tb_ok mixed ftab_ok oWrap.ok rfl rfl wf chI (by kernel_rfl) (by kernel_rfl) (by kernel_rfl) (fun vs ins hv => rq_ok vs ins hv) (fun vs ins hv => xs_ok vs ins hv) fun vs ins hv => gives_sameG wf (xs_ok vs ins hv) same
noncomputable def ot : OTab := eS :: eI :: oWrap.ot
theorem ok : ∀ e ∈ ot, OpqOK Try.prog Φ e := by
  intro e he
  rcases List.mem_cons.1 he with rfl | he
  · exact okS
  · rcases List.mem_cons.1 he with rfl | he
    · exact okI
    · exact tab_old (by kernel_rfl) oWrap.ok e he
theorem base : Base Φ := ext_base 11 g (by rfl) oWrap.base
end Go.Proofs.Ytejljfejajckoaa.oSin

namespace Go.Proofs.Ytejljfejajckoaa.oCom
open Go Go.RowKit
set_option linter.unusedVariables false

abbrev eS : Opq := { f := 84, sym := 12, args := [.agg [.f .f32, .f .f32, .f .f32], .agg [.f .f32, .f .f32, .f .f32]], res := .p (.agg [.f .f32, .f .f32, .f .f32]) }
abbrev eI : Opq := { f := 88, sym := 12, args := [.agg [.f .f32, .f .f32, .f .f32], .agg [.f .f32, .f .f32, .f .f32]], res := .p (.agg [.f .f32, .f .f32, .f .f32]) }
noncomputable def wS : DT (SV × St) := walkOf tb ftab oSin.ot eS.f eS.args
noncomputable def wI : DT (SV × St) := walkOf tb ftab oSin.ot eI.f eI.args
noncomputable def ns : List Df := wI.gather (wS.gather [])
theorem wf : wfT (withIds ns) [] = true := by kernel_rfl
abbrev rq : List Rq := []
abbrev xs : List (List Fact) := []
theorem rq_ok (vs : List Value) (ins : List NV) (_ : ShMs eS.args vs ins) : ∀ q ∈ rq, FactsT (envI oSin.Φ ns ins) q.on → Asked q.tag (envI oSin.Φ ns ins q.n) := fun q hq => by simp at hq
theorem xs_ok (vs : List Value) (ins : List NV) (_ : ShMs eS.args vs ins) : ∀ l ∈ xs, ¬ FactsT (envI oSin.Φ ns ins) l := fun l hl => by simp at hl
theorem chS : wS.chkF ns rq xs (fun x => okR eS.res x.1) [] = true := by kernel_rfl
theorem chI : wI.chkF ns rq xs (fun x => okR eI.res x.1) [] = true := by kernel_rfl
theorem same : sameG xs (rC ns eS.res) wS [] wI = true := by kernel_rfl
noncomputable def g (l : List NV) : List NV := gives oSin.Φ ns wS eS.res l
noncomputable def Φ : Syms := ext oSin.Φ 12 g
theorem okS : OpqOK Try.prog Φ eS := opq_walk tb_ok mixed ftab_ok oSin.ok rfl rfl wf chS (by kernel_rfl) (by kernel_rfl) (by kernel_rfl) (fun vs ins hv => rq_ok vs ins hv) (fun vs ins hv => xs_ok vs ins hv) fun _ _ _ => rfl
theorem okI : OpqOK Try.prog Φ eI := opq_walk tb_ok mixed ftab_ok oSin.ok rfl rfl wf chI (by kernel_rfl) (by kernel_rfl) (by kernel_rfl) (fun vs ins hv => rq_ok vs ins hv) (fun vs ins hv => xs_ok vs ins hv) fun vs ins hv => gives_sameG wf (xs_ok vs ins hv) same
noncomputable def ot : OTab := eS :: eI :: oSin.ot
theorem ok : ∀ e ∈ ot, OpqOK Try.prog Φ e := by
  intro e he
  rcases List.mem_cons.1 he with rfl | he
  · exact okS
  · rcases List.mem_cons.1 he with rfl | he
    · exact okI
    · exact tab_old (by kernel_rfl) oSin.ok e he
theorem base : Base Φ := ext_base 12 g (by rfl) oSin.base
end Go.Proofs.Ytejljfejajckoaa.oCom

namespace Go.Proofs.Ytejljfejajckoaa.oFpo
open Go Go.RowKit
set_option linter.unusedVariables false

abbrev eS : Opq := { f := 80, sym := 13, args := [.agg [.f .f32, .f .f32, .f .f32]], res := .p (.one .b) }
abbrev eI : Opq := { f := 85, sym := 13, args := [.agg [.f .f32, .f .f32, .f .f32]], res := .p (.one .b) }
noncomputable def wS : DT (SV × St) := walkOf tb ftab oCom.ot eS.f eS.args
noncomputable def wI : DT (SV × St) := walkOf tb ftab oCom.ot eI.f eI.args
noncomputable def ns : List Df := wI.gather (wS.gather [])
theorem wf : wfT (withIds ns) [] = true := by kernel_rfl
abbrev rq : List Rq := []
abbrev xs : List (List Fact) := []
theorem rq_ok (vs : List Value) (ins : List NV) (_ : ShMs eS.args vs ins) : ∀ q ∈ rq, FactsT (envI oCom.Φ ns ins) q.on → Asked q.tag (envI oCom.Φ ns ins q.n) := fun q hq => by simp at hq
theorem xs_ok (vs : List Value) (ins : List NV) (_ : ShMs eS.args vs ins) : ∀ l ∈ xs, ¬ FactsT (envI oCom.Φ ns ins) l := fun l hl => by simp at hl
theorem chS : wS.chkF ns rq xs (fun x => okR eS.res x.1) [] = true := by kernel_rfl
theorem chI : wI.chkF ns rq xs (fun x => okR eI.res x.1) [] = true := by kernel_rfl
theorem same : sameG xs (rC ns eS.res) wS [] wI = true := by kernel_rfl
noncomputable def g (l : List NV) : List NV := gives oCom.Φ ns wS eS.res l
noncomputable def Φ : Syms := ext oCom.Φ 13 g
theorem okS : OpqOK Try.prog Φ eS := opq_walk tb_ok mixed ftab_ok oCom.ok rfl rfl wf chS (by kernel_rfl) (by kernel_rfl) (by kernel_rfl) (fun vs ins hv => rq_ok vs ins hv) (fun vs ins hv => xs_ok vs ins hv) fun _ _ _ => rfl
theorem okI : OpqOK Try.prog Φ eI := opq_walk tb_ok mixed ftab_ok oCom.ok rfl rfl wf chI (by kernel_rfl) (by kernel_rfl) (by kernel_rfl) (fun vs ins hv => rq_ok vs ins hv) (fun vs ins hv => xs_ok vs ins hv) fun vs ins hv => gives_sameG wf (xs_ok vs ins hv) same
noncomputable def ot : OTab := eS :: eI :: oCom.ot
theorem ok : ∀ e ∈ ot, OpqOK Try.prog Φ e := by
  intro e he
  rcases List.mem_cons.1 he with rfl | he
  · exact okS
  · rcases List.mem_cons.1 he with rfl | he
    · exact okI
    · exact tab_old (by kernel_rfl) oCom.ok e he
theorem base : Base Φ := ext_base 13 g (by rfl) oCom.base
end Go.Proofs.Ytejljfejajckoaa.oFpo
