/- spec.l04Count and impl.ToCount give the same, by one symbol of the walk. No condition. -/
import Derived.Test.YtpfihfdbkoclnaaOt
import Derived.Test.YtpfihfdbkoclnaaOe
import Derived.Test.YtpfihfdbkoclnaaYc
import Derived.Test.YtpfihfdbkoclnaaCn
import Derived.Test.YtpfihfdbkoclnaaAg
namespace Go.Proofs.Ytpfihfdbkoclnaa.oCnt
open Go Go.RowKit
set_option linter.unusedVariables false

abbrev eS : Opq := { f := 55, sym := 10, args := [.one (.f .f32)], res := .p (.one (.i .i16)) }
abbrev eI : Opq := { f := 16, sym := 10, args := [.one (.f .f32)], res := .p (.one (.i .i16)) }
noncomputable def wS : DT (SV × St) := walkOf tb ftab otb eS.f eS.args
noncomputable def wI : DT (SV × St) := walkOf tb ftab otb eI.f eI.args
noncomputable def ns : List Df := wI.gather (wS.gather [])
theorem wf : wfT (withIds ns) [] = true := by kernel_rfl
noncomputable def wN : Nat := 865307938208485397
noncomputable def yN : Nat := 2251012539923818062
noncomputable def eN : Nat := 449101817693035715
noncomputable def CN : Nat := 2141089563938445358
noncomputable def cN : Nat := 506949561611236444
noncomputable def gN : Nat := 2294007129121284726
noncomputable def lN : Nat := 1358720968062712164
noncomputable def aN : Nat := 2084491467242621971
theorem ids_ok : (Nat.beq (Df.id ⟨6, 0, [0]⟩) wN && (Nat.beq (Df.id ⟨20, 576, [wN]⟩) yN && (Nat.beq (Df.id ⟨8, 1, [yN, yN]⟩) eN && (Nat.beq (Df.id ⟨5, 4674736138332667904, []⟩) CN && (Nat.beq (Df.id ⟨5, 13898108450065350656, []⟩) cN && (Nat.beq (Df.id ⟨11, 1, [yN, CN]⟩) gN && (Nat.beq (Df.id ⟨9, 1, [yN, cN]⟩) lN && (Nat.beq (Df.id ⟨8, 0, [0, 0]⟩) aN)))))))) = true := by kernel_rfl
theorem mem_ok : (memD ⟨6, 0, [0]⟩ ns && (memD ⟨20, 576, [wN]⟩ ns && (memD ⟨8, 1, [yN, yN]⟩ ns && (memD ⟨5, 4674736138332667904, []⟩ ns && (memD ⟨5, 13898108450065350656, []⟩ ns && (memD ⟨11, 1, [yN, CN]⟩ ns && (memD ⟨9, 1, [yN, cN]⟩ ns && (memD ⟨8, 0, [0, 0]⟩ ns)))))))) = true := by kernel_rfl
theorem node_at {ρ : Nat → NV} {Φ : Syms} (hT : ∀ d ∈ ns, ρ d.id = d.sem Φ ρ) {d : Df} {k : Nat} (h : memD d ns = true) (hk : Nat.beq d.id k = true) : ρ k = d.sem Φ ρ := by
  rw [← Nat.eq_of_beq_eq_true hk]; exact hT d (memD_mem h)
structure Env (ρ : Nat → NV) : Prop where
  w : ρ wN = .f ((ρ 0).gf.map wide)
  y : ρ yN = baseSyms 9 0 [ρ wN]
  e : ρ eN = .b (ford .f64 (ρ yN).gf (ρ yN).gf == some .eq)
  C : ρ CN = .f (can .f64 4674736138332667904)
  c : ρ cN = .f (can .f64 13898108450065350656)
  g : ρ gN = .b (ford .f64 (ρ yN).gf (ρ CN).gf == some .gt)
  l : ρ lN = .b (ford .f64 (ρ yN).gf (ρ cN).gf == some .lt)
  a : ρ aN = .b (ford .f32 (ρ 0).gf (ρ 0).gf == some .eq)
theorem env_of {ρ : Nat → NV} {Φ : Syms} (hB : Base Φ) (hT : ∀ d ∈ ns, ρ d.id = d.sem Φ ρ) : Env ρ := by
  have hi := ids_ok
  have hm := mem_ok
  simp only [Bool.and_eq_true] at hi hm
  obtain ⟨i0, i1, i2, i3, i4, i5, i6, i7⟩ := hi
  obtain ⟨m0, m1, m2, m3, m4, m5, m6, m7⟩ := hm
  exact ⟨node_at hT m0 i0, (node_at hT m1 i1).trans (hB 9 0 _ (by decide) (by decide)), node_at hT m2 i2, node_at hT m3 i3, node_at hT m4 i4, node_at hT m5 i5, node_at hT m6 i6, node_at hT m7 i7⟩
noncomputable abbrev rq : List Rq := [⟨25, yN, [(eN, true), (gN, false), (lN, false)]⟩, ⟨25, yN, [(aN, true), (gN, false), (lN, false)]⟩, ⟨2, yN, [(aN, true)]⟩]
noncomputable abbrev xs : List (List Fact) := [[(aN, true), (eN, false)], [(aN, false), (eN, true)], [(gN, true), (lN, true)]]

/-- Either a NaN all through, or a number. -/
theorem parts {ρ : Nat → NV} (E : Env ρ) (h0 : ∃ k, (ρ 0).gf = can .f32 k) : ((ρ aN).gb = false ∧ (ρ eN).gb = false) ∨ ((ρ aN).gb = true ∧ (ρ eN).gb = true ∧ ∃ y, (ρ yN).gf = some y ∧ (Ieee.double.read y).isNaN = false) := by
  obtain ⟨k, hk⟩ := h0
  have ea : (ρ aN).gb = (can .f32 k).isSome := by
    rw [E.a, hk]; exact eq_self ⟨k, rfl⟩
  have ey : (ρ yN).gf = ((can .f32 k).map wide).map (integralF .even) := by
    rw [E.y]; show ((ρ wN).gf).map _ = _; rw [E.w, hk]; rfl
  cases hn : (FloatKind.f32.decode k).isNaN with
  | true =>
    rw [can_nan hn] at ea ey
    refine Or.inl ⟨ea, ?_⟩
    rw [E.e]
    show (ford .f64 (ρ yN).gf (ρ yN).gf == some Ordering.eq) = false
    rw [ey]; rfl
  | false =>
    rw [can_num hn] at ea ey
    have hy : (Ieee.double.read (integralF .even (wide k))).isNaN = false := integralF_num (wide_num' hn)
    refine Or.inr ⟨ea, ?_, _, ey, hy⟩
    rw [E.e]
    show (ford .f64 (ρ yN).gf (ρ yN).gf == some Ordering.eq) = true
    rw [ey]
    show (FloatKind.f64.format.order (integralF .even (wide k)) (integralF .even (wide k)) == some Ordering.eq) = true
    rw [num_self .f64 hy]; rfl

theorem rq_ok (vs : List Value) (ins : List NV) (hv : ShMs eS.args vs ins) : ∀ q ∈ rq, FactsT (envI baseΦ ns ins) q.on → Asked q.tag (envI baseΦ ns ins q.n) := by
  obtain ⟨v, x, _, rfl, r, _, hr⟩ := one_arg (vs := vs.toArray) (by simpa using hv)
  have i0 : envI baseΦ ns [x] 0 = x := input_of 0 (by decide)
  have E := env_of baseΦ_ok (envI_ok (Φ := baseΦ) wf [x])
  generalize envI baseΦ ns [x] = ρ at *
  have P := parts E ⟨r, by rw [i0]; exact hr.out.symm⟩
  have gl : (ρ gN).gb = false → (ρ lN).gb = false → (∃ y, (ρ yN).gf = some y ∧ (Ieee.double.read y).isNaN = false) → Asked 25 (ρ yN) := by
    rintro h1 h2 ⟨y, hy, hn⟩
    rw [E.g, E.C] at h1
    rw [E.l, E.c] at h2
    rw [show (NV.b (ford .f64 (ρ yN).gf (NV.f (can .f64 4674736138332667904)).gf == some Ordering.gt)).gb = (ford .f64 (ρ yN).gf (can .f64 4674736138332667904) == some Ordering.gt) from rfl, hy] at h1
    rw [show (NV.b (ford .f64 (ρ yN).gf (NV.f (can .f64 13898108450065350656)).gf == some Ordering.lt)).gb = (ford .f64 (ρ yN).gf (can .f64 13898108450065350656) == some Ordering.lt) from rfl, hy] at h2
    have := trunc16 hn h1 h2
    show ∃ n, truncI .f64 (ρ yN).gf = some n ∧ IntKind.i16.min ≤ n ∧ n ≤ IntKind.i16.max
    rw [hy]; exact this
  intro k hk hF
  rcases List.mem_cons.1 hk with rfl | hk
  · have f1 : (ρ eN).gb = true := hF (eN, true) (by simp)
    have f2 : (ρ gN).gb = false := hF (gN, false) (by simp)
    have f3 : (ρ lN).gb = false := hF (lN, false) (by simp)
    rcases P with ⟨_, h⟩ | ⟨_, _, h⟩
    · rw [h] at f1; cases f1
    · exact gl f2 f3 h
  · rcases List.mem_cons.1 hk with rfl | hk
    · have f1 : (ρ aN).gb = true := hF (aN, true) (by simp)
      have f2 : (ρ gN).gb = false := hF (gN, false) (by simp)
      have f3 : (ρ lN).gb = false := hF (lN, false) (by simp)
      rcases P with ⟨h, _⟩ | ⟨_, _, h⟩
      · rw [h] at f1; cases f1
      · exact gl f2 f3 h
    · rcases List.mem_cons.1 hk with rfl | hk
      · have f1 : (ρ aN).gb = true := hF (aN, true) (by simp)
        rcases P with ⟨h, _⟩ | ⟨_, _, y, hy, _⟩
        · rw [h] at f1; cases f1
        · show (ρ yN).gf ≠ none
          rw [hy]; exact fun e => by cases e
      · exact absurd hk List.not_mem_nil

theorem xs_ok (vs : List Value) (ins : List NV) (hv : ShMs eS.args vs ins) : ∀ l ∈ xs, ¬ FactsT (envI baseΦ ns ins) l := by
  obtain ⟨v, x, _, rfl, r, _, hr⟩ := one_arg (vs := vs.toArray) (by simpa using hv)
  have i0 : envI baseΦ ns [x] 0 = x := input_of 0 (by decide)
  have E := env_of baseΦ_ok (envI_ok (Φ := baseΦ) wf [x])
  generalize envI baseΦ ns [x] = ρ at *
  have P := parts E ⟨r, by rw [i0]; exact hr.out.symm⟩
  intro l hl hF
  rcases List.mem_cons.1 hl with rfl | hl
  · have f1 : (ρ aN).gb = true := hF (aN, true) (by simp)
    have f2 : (ρ eN).gb = false := hF (eN, false) (by simp)
    rcases P with ⟨h, _⟩ | ⟨_, h, _⟩
    · rw [h] at f1; cases f1
    · rw [h] at f2; cases f2
  · rcases List.mem_cons.1 hl with rfl | hl
    · have f1 : (ρ aN).gb = false := hF (aN, false) (by simp)
      have f2 : (ρ eN).gb = true := hF (eN, true) (by simp)
      rcases P with ⟨_, h⟩ | ⟨h, _, _⟩
      · rw [h] at f2; cases f2
      · rw [h] at f1; cases f1
    · rcases List.mem_cons.1 hl with rfl | hl
      · have f1 : (ρ gN).gb = true := hF (gN, true) (by simp)
        have f2 : (ρ lN).gb = true := hF (lN, true) (by simp)
        rw [E.g, E.C] at f1
        rw [E.l, E.c] at f2
        cases hy : (ρ yN).gf with
        | none =>
          have f1 : (ford .f64 (ρ yN).gf (can .f64 4674736138332667904) == some Ordering.gt) = true := f1
          rw [hy] at f1; cases f1
        | some y =>
          have f1 : (ford .f64 (ρ yN).gf (can .f64 4674736138332667904) == some Ordering.gt) = true := f1
          have f2 : (ford .f64 (ρ yN).gf (can .f64 13898108450065350656) == some Ordering.lt) = true := f2
          rw [hy] at f1 f2
          exact not_both16 f1 f2
      · exact absurd hl List.not_mem_nil
theorem chS : wS.chkF ns rq xs (fun x => okR eS.res x.1) [] = true := by kernel_rfl
theorem chI : wI.chkF ns rq xs (fun x => okR eI.res x.1) [] = true := by kernel_rfl
theorem same : sameG xs (rC ns eS.res) wS [] wI = true := by kernel_rfl
noncomputable def g (l : List NV) : List NV := gives baseΦ ns wS eS.res l
noncomputable def Φ : Syms := ext baseΦ 10 g
theorem okS : OpqOK Try.prog Φ eS := opq_walk tb_ok mixed ftab_ok (otb_ok baseΦ_ok) rfl rfl wf chS (by kernel_rfl) (by kernel_rfl) (by kernel_rfl) (fun vs ins hv => rq_ok vs ins hv) (fun vs ins hv => xs_ok vs ins hv) fun _ _ _ => rfl
theorem okI : OpqOK Try.prog Φ eI := opq_walk tb_ok mixed ftab_ok (otb_ok baseΦ_ok) rfl rfl wf chI (by kernel_rfl) (by kernel_rfl) (by kernel_rfl) (fun vs ins hv => rq_ok vs ins hv) (fun vs ins hv => xs_ok vs ins hv) fun vs ins hv => gives_sameG wf (xs_ok vs ins hv) same
noncomputable def ot : OTab := eS :: eI :: otb
theorem ok : ∀ e ∈ ot, OpqOK Try.prog Φ e := by
  intro e he
  rcases List.mem_cons.1 he with rfl | he
  · exact okS
  · rcases List.mem_cons.1 he with rfl | he
    · exact okI
    · exact tab_old (by kernel_rfl) (otb_ok baseΦ_ok) e he
theorem base : Base Φ := ext_base 10 g (by rfl) baseΦ_ok
end Go.Proofs.Ytpfihfdbkoclnaa.oCnt
