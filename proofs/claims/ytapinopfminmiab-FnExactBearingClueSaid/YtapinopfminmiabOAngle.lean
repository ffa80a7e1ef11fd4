/- spec.l02Angle and impl.AngleOf give the same, by one symbol of the walk. No condition. -/
import Derived.Test.YtapinopfminmiabOWrap
import Derived.Test.YtapinopfminmiabOe
import Derived.Test.YtapinopfminmiabYc
import Derived.Test.YtapinopfminmiabAg
namespace Go.Proofs.Ytapinopfminmiab.oAngle
open Go Go.RowKit
set_option linter.unusedVariables false

abbrev eS : Opq := { f := 77, sym := 11, args := [.one (.f .f32), .one (.f .f32)], res := .p (.one (.f .f32)) }
abbrev eI : Opq := { f := 79, sym := 11, args := [.one (.f .f32), .one (.f .f32)], res := .p (.one (.f .f32)) }
noncomputable def wS : DT (SV × St) := walkOf tb ftab oWrap.ot eS.f eS.args
noncomputable def wI : DT (SV × St) := walkOf tb ftab oWrap.ot eI.f eI.args
noncomputable def ns : List Df := wI.gather (wS.gather [])
theorem wf : wfT (withIds ns) [] = true := by kernel_rfl
noncomputable abbrev dfy : Df := ⟨20, 64, [0]⟩
noncomputable abbrev dfx : Df := ⟨20, 64, [1]⟩
noncomputable abbrev dwy : Df := ⟨6, 0, [0]⟩
noncomputable abbrev dwx : Df := ⟨6, 0, [1]⟩
noncomputable abbrev da : Df := ⟨20, 320, [dwy.id]⟩
noncomputable abbrev db : Df := ⟨20, 320, [dwx.id]⟩
noncomputable abbrev dgt : Df := ⟨11, 1, [da.id, db.id]⟩
noncomputable abbrev dc : Df := ⟨4, 0, []⟩
noncomputable abbrev dC : Df := ⟨5, 0, []⟩
noncomputable abbrev dy0 : Df := ⟨8, 0, [0, dc.id]⟩
noncomputable abbrev dx0 : Df := ⟨8, 0, [1, dc.id]⟩
noncomputable abbrev da0 : Df := ⟨8, 1, [da.id, dC.id]⟩
noncomputable abbrev db0 : Df := ⟨8, 1, [db.id, dC.id]⟩
noncomputable abbrev dz1 : Df := ⟨3, 1, [da.id, db.id]⟩
noncomputable abbrev dz2 : Df := ⟨3, 1, [db.id, da.id]⟩
theorem has : (memD dfy ns && memD dfx ns && memD dwy ns && memD dwx ns && memD da ns && memD db ns && memD dgt ns && memD dc ns && memD dC ns && memD dy0 ns && memD dx0 ns && memD da0 ns && memD db0 ns && memD dz1 ns && memD dz2 ns) = true := by kernel_rfl
noncomputable def rqN : List (Nat × Nat) := wI.asks (wS.asks [])
noncomputable def bd1 : BEnv := bnds 8 ns ns.reverse [(dz1.id, { up := some (2, 0) })]
noncomputable def bd2 : BEnv := bnds 8 ns ns.reverse [(dz2.id, { up := some (2, 0) })]
noncomputable abbrev F0 : List Fact := [(dfy.id, true), (dfx.id, true)]
noncomputable def rq : List Rq := ⟨1, da.id, F0⟩ :: ⟨1, db.id, F0⟩ :: ((rqN.filter fun q => Nat.beq q.1 0 && fitsB bd1 q.2).map (fun q => ⟨0, q.2, (dgt.id, false) :: F0⟩) ++ (rqN.filter fun q => Nat.beq q.1 0 && fitsB bd2 q.2).map (fun q => ⟨0, q.2, (dgt.id, true) :: F0⟩))
noncomputable abbrev xs : List (List Fact) := [(dgt.id, true) :: (dy0.id, true) :: F0, (dgt.id, true) :: (da0.id, true) :: F0, (dgt.id, false) :: (db0.id, true) :: (dy0.id, false) :: F0, (dgt.id, false) :: (db0.id, true) :: (dx0.id, false) :: F0, (dgt.id, false) :: (db0.id, false) :: (dx0.id, true) :: F0]

/-- What the nodes stand for where both numbers are finite. -/
theorem parts (vs : List Value) (ins : List NV) (hv : ShMs eS.args vs ins) (hF : FactsT (envI oWrap.Φ ns ins) F0) : ∃ a b m n p q my mx, (envI oWrap.Φ ns ins da.id).gf = some a ∧ (envI oWrap.Φ ns ins db.id).gf = some b ∧
    Ieee.double.read a = .number false m p ∧ Ieee.double.read b = .number false n q ∧ a < 2 ^ 63 ∧ b < 2 ^ 63 ∧ (m = 0 ↔ my = 0) ∧ (n = 0 ↔ mx = 0) ∧
    (envI oWrap.Φ ns ins dgt.id).gb = !decide (LeV m p n q) ∧ (envI oWrap.Φ ns ins dy0.id).gb = decide (my = 0) ∧ (envI oWrap.Φ ns ins dx0.id).gb = decide (mx = 0) ∧ (envI oWrap.Φ ns ins da0.id).gb = decide (m = 0) ∧ (envI oWrap.Φ ns ins db0.id).gb = decide (n = 0) := by
  have hh := has
  simp only [Bool.and_eq_true] at hh
  obtain ⟨⟨⟨⟨⟨⟨⟨⟨⟨⟨⟨⟨⟨⟨h1, h2⟩, h3⟩, h4⟩, h5⟩, h6⟩, h7⟩, h8⟩, h9⟩, h10⟩, h11⟩, h12⟩, h13⟩, h14⟩, h15⟩ := hh
  obtain ⟨v, y, v2, x, _, rfl, ⟨r, _, hr⟩, ⟨r2, _, hr2⟩⟩ := two_args (vs := vs.toArray) (by simpa using hv)
  have i0 : envI oWrap.Φ ns [y, x] 0 = y := input_of 0 (by decide)
  have i1 : envI oWrap.Φ ns [y, x] 1 = x := input_of 1 (by decide)
  have n1 := node_of (Φ := oWrap.Φ) (ins := [y, x]) wf h1
  have n2 := node_of (Φ := oWrap.Φ) (ins := [y, x]) wf h2
  have n3 := node_of (Φ := oWrap.Φ) (ins := [y, x]) wf h3
  have n4 := node_of (Φ := oWrap.Φ) (ins := [y, x]) wf h4
  have n5 := node_of (Φ := oWrap.Φ) (ins := [y, x]) wf h5
  have n6 := node_of (Φ := oWrap.Φ) (ins := [y, x]) wf h6
  have n7 := node_of (Φ := oWrap.Φ) (ins := [y, x]) wf h7
  have n8 := node_of (Φ := oWrap.Φ) (ins := [y, x]) wf h8
  have n9 := node_of (Φ := oWrap.Φ) (ins := [y, x]) wf h9
  have n10 := node_of (Φ := oWrap.Φ) (ins := [y, x]) wf h10
  have n11 := node_of (Φ := oWrap.Φ) (ins := [y, x]) wf h11
  have n12 := node_of (Φ := oWrap.Φ) (ins := [y, x]) wf h12
  have n13 := node_of (Φ := oWrap.Φ) (ins := [y, x]) wf h13
  have f1 := hF (dfy.id, true) (by simp)
  have f2 := hF (dfx.id, true) (by simp)
  generalize envI oWrap.Φ ns [y, x] = ρ at *
  have fy : finB y.gf = true := by
    have e : ρ dfy.id = .b (finB (ρ 0).gf) := n1.trans (oWrap.base 1 0 _ (by decide) (by decide))
    rw [e, i0] at f1; exact f1
  have fx : finB x.gf = true := by
    have e : ρ dfx.id = .b (finB (ρ 1).gf) := n2.trans (oWrap.base 1 0 _ (by decide) (by decide))
    rw [e, i1] at f2; exact f2
  obtain ⟨b, s, my, py, hb, hby⟩ := fin_parts fy ⟨r, hr.out.symm⟩
  obtain ⟨b2, s2, mx, px, hb2, hbx⟩ := fin_parts fx ⟨r2, hr2.out.symm⟩
  obtain ⟨m, p, ha, hm⟩ := abs_wide hby
  obtain ⟨n, q, hb', hn⟩ := abs_wide hbx
  have ea : (ρ da.id).gf = some (wide b % 2 ^ 63) := by
    have e : ρ da.id = .f ((ρ dwy.id).gf.map (· % 2 ^ 63)) := n5.trans (oWrap.base 5 0 _ (by decide) (by decide))
    have e2 : ρ dwy.id = .f ((ρ 0).gf.map wide) := n3
    rw [e, e2, i0, hb]; rfl
  have eb : (ρ db.id).gf = some (wide b2 % 2 ^ 63) := by
    have e : ρ db.id = .f ((ρ dwx.id).gf.map (· % 2 ^ 63)) := n6.trans (oWrap.base 5 0 _ (by decide) (by decide))
    have e2 : ρ dwx.id = .f ((ρ 1).gf.map wide) := n4
    rw [e, e2, i1, hb2]; rfl
  have ec : ρ dc.id = .f (can .f32 0) := n8
  have eC : ρ dC.id = .f (can .f64 0) := n9
  refine ⟨_, _, m, n, p, q, my, mx, ea, eb, ha, hb', Nat.mod_lt _ (by decide), Nat.mod_lt _ (by decide), hm, hn, ?_, ?_, ?_, ?_, ?_⟩
  · have e : ρ dgt.id = .b (ford .f64 (ρ da.id).gf (ρ db.id).gf == some .gt) := n7
    rw [e, ea, eb]; exact gt64 ha hb'
  · have e : ρ dy0.id = .b (ford .f32 (ρ 0).gf (ρ dc.id).gf == some .eq) := n10
    rw [e, i0, hb, ec]; exact eq_zero32 hby
  · have e : ρ dx0.id = .b (ford .f32 (ρ 1).gf (ρ dc.id).gf == some .eq) := n11
    rw [e, i1, hb2, ec]; exact eq_zero32 hbx
  · have e : ρ da0.id = .b (ford .f64 (ρ da.id).gf (ρ dC.id).gf == some .eq) := n12
    rw [e, ea, eC]; exact eq_zero64 ha
  · have e : ρ db0.id = .b (ford .f64 (ρ db.id).gf (ρ dC.id).gf == some .eq) := n13
    rw [e, eb, eC]; exact eq_zero64 hb'

theorem levZero {m n : Nat} {p q : Int} (h : LeV m p n q) (hn : n = 0) : m = 0 := by
  subst hn
  unfold LeV sc at h
  rw [Nat.zero_mul] at h
  rcases Nat.mul_eq_zero.1 (Nat.le_zero.1 h) with e | e
  · exact e
  · exact absurd e (Nat.ne_of_gt (Nat.two_pow_pos _))

theorem xs_ok (vs : List Value) (ins : List NV) (hv : ShMs eS.args vs ins) : ∀ l ∈ xs, ¬ FactsT (envI oWrap.Φ ns ins) l := by
  intro l hl hF
  have hF0 : FactsT (envI oWrap.Φ ns ins) F0 := by
    intro f hf
    simp only [xs, List.mem_cons, List.not_mem_nil, or_false] at hl
    rcases hl with rfl | rfl | rfl | rfl | rfl <;> exact hF f (by simp only [List.mem_cons, List.not_mem_nil, or_false] at hf ⊢; rcases hf with rfl | rfl <;> simp)
  obtain ⟨a, b, m, n, p, q, my, mx, ea, eb, ha, hb, la, lb, hm, hn, eg, ey, ex, ea0, eb0⟩ := parts vs ins hv hF0
  simp only [xs, List.mem_cons, List.not_mem_nil, or_false] at hl
  rcases hl with rfl | rfl | rfl | rfl | rfl
  · have g := hF (dgt.id, true) (by simp)
    have z := hF (dy0.id, true) (by simp)
    simp only at g z
    rw [eg] at g
    rw [ey] at z
    have hm0 := hm.2 (of_decide_eq_true z)
    subst hm0
    simp [LeV.zero] at g
  · have g := hF (dgt.id, true) (by simp)
    have z := hF (da0.id, true) (by simp)
    simp only at g z
    rw [eg] at g
    rw [ea0] at z
    have hm0 := of_decide_eq_true z
    subst hm0
    simp [LeV.zero] at g
  · have g := hF (dgt.id, false) (by simp)
    have z := hF (db0.id, true) (by simp)
    have u := hF (dy0.id, false) (by simp)
    simp only at g z u
    rw [eg] at g
    rw [eb0] at z
    rw [ey] at u
    have hle : LeV m p n q := by simpa using g
    exact of_decide_eq_false u (hm.1 (levZero hle (of_decide_eq_true z)))
  · have z := hF (db0.id, true) (by simp)
    have u := hF (dx0.id, false) (by simp)
    simp only at z u
    rw [eb0] at z
    rw [ex] at u
    exact of_decide_eq_false u (hn.1 (of_decide_eq_true z))
  · have z := hF (db0.id, false) (by simp)
    have u := hF (dx0.id, true) (by simp)
    simp only at z u
    rw [eb0] at z
    rw [ex] at u
    exact of_decide_eq_false z (hn.2 (of_decide_eq_true u))

theorem rq_ok (vs : List Value) (ins : List NV) (hv : ShMs eS.args vs ins) : ∀ q ∈ rq, FactsT (envI oWrap.Φ ns ins) q.on → Asked q.tag (envI oWrap.Φ ns ins q.n) := by
  have hh := has
  simp only [Bool.and_eq_true] at hh
  intro k hk hF
  rcases List.mem_cons.1 hk with rfl | hk
  · obtain ⟨a, b, m, n, p, q, my, mx, ea, eb, ha, hb, la, lb, _⟩ := parts vs ins hv hF
    exact ⟨a, ea, la⟩
  rcases List.mem_cons.1 hk with rfl | hk
  · obtain ⟨a, b, m, n, p, q, my, mx, ea, eb, ha, hb, la, lb, _⟩ := parts vs ins hv hF
    exact ⟨b, eb, lb⟩
  rcases List.mem_append.1 hk with hk | hk
  · obtain ⟨q, hq, rfl⟩ := List.mem_map.1 hk
    have hq2 := (List.mem_filter.1 hq).2
    simp only [Bool.and_eq_true] at hq2
    have hF0 : FactsT (envI oWrap.Φ ns ins) F0 := fun f hf => hF f (List.mem_cons_of_mem _ hf)
    obtain ⟨a, b, m, n, p, q', my, mx, ea, eb, ha, hb, la, lb, hm, hn, eg, _⟩ := parts vs ins hv hF0
    have g := hF (dgt.id, false) (by simp)
    simp only at g
    rw [eg] at g
    have hle : LeV m p n q' := by simpa using g
    refine fitsB_ok (B := bd1) ?_ hq2.2
    refine bnds_ok (fl := 8) (T := ns) (envI_ok wf ins) (fun l => oWrap.base 8 0 l (by decide) (by decide)) (fun l => oWrap.base 4 0 l (by decide) (by decide)) ns.reverse [(dz1.id, { up := some (2, 0) })] (fun d hd => List.mem_reverse.1 hd) ?_
    intro e he
    obtain rfl : e = _ := List.mem_singleton.1 he
    refine SatB.upOnly fun c hc => ?_
    have nz := node_of (Φ := oWrap.Φ) (ins := ins) wf hh.1.2
    have e2 : envI oWrap.Φ ns ins dz1.id = .f (fop .quo .f64 (envI oWrap.Φ ns ins da.id).gf (envI oWrap.Φ ns ins db.id).gf) := nz
    have hc' : (envI oWrap.Φ ns ins dz1.id).gf = some c := hc
    rw [e2, ea, eb] at hc'
    exact quo_le ha hb hle hc'
  · obtain ⟨q, hq, rfl⟩ := List.mem_map.1 hk
    have hq2 := (List.mem_filter.1 hq).2
    simp only [Bool.and_eq_true] at hq2
    have hF0 : FactsT (envI oWrap.Φ ns ins) F0 := fun f hf => hF f (List.mem_cons_of_mem _ hf)
    obtain ⟨a, b, m, n, p, q', my, mx, ea, eb, ha, hb, la, lb, hm, hn, eg, _⟩ := parts vs ins hv hF0
    have g := hF (dgt.id, true) (by simp)
    simp only at g
    rw [eg] at g
    have hnle : ¬ LeV m p n q' := by simpa using g
    have hle : LeV n q' m p := by
      unfold LeV at hnle ⊢
      rw [Int.min_comm q' p]
      omega
    refine fitsB_ok (B := bd2) ?_ hq2.2
    refine bnds_ok (fl := 8) (T := ns) (envI_ok wf ins) (fun l => oWrap.base 8 0 l (by decide) (by decide)) (fun l => oWrap.base 4 0 l (by decide) (by decide)) ns.reverse [(dz2.id, { up := some (2, 0) })] (fun d hd => List.mem_reverse.1 hd) ?_
    intro e he
    obtain rfl : e = _ := List.mem_singleton.1 he
    refine SatB.upOnly fun c hc => ?_
    have nz := node_of (Φ := oWrap.Φ) (ins := ins) wf hh.2
    have e2 : envI oWrap.Φ ns ins dz2.id = .f (fop .quo .f64 (envI oWrap.Φ ns ins db.id).gf (envI oWrap.Φ ns ins da.id).gf) := nz
    have hc' : (envI oWrap.Φ ns ins dz2.id).gf = some c := hc
    rw [e2, ea, eb] at hc'
    exact quo_le hb ha hle hc'
theorem chS : wS.chkF ns rq xs (fun x => okR eS.res x.1) [] = true := by kernel_rfl
theorem chI : wI.chkF ns rq xs (fun x => okR eI.res x.1) [] = true := by kernel_rfl
theorem same : sameG xs (rC ns eS.res) wS [] wI = true := by kernel_rfl
noncomputable def g (l : List NV) : List NV := gives oWrap.Φ ns wS eS.res l
noncomputable def Φ : Syms := ext oWrap.Φ 11 g
theorem okS : OpqOK Try.prog Φ eS := opq_walk tb_ok mixed ftab_ok oWrap.ok rfl rfl wf chS (by kernel_rfl) (by kernel_rfl) (by kernel_rfl) (fun vs ins hv => rq_ok vs ins hv) (fun vs ins hv => xs_ok vs ins hv) fun _ _ _ => rfl
theorem okI : OpqOK Try.prog Φ eI := opq_walk tb_ok mixed ftab_ok oWrap.ok rfl rfl wf chI (by kernel_rfl) (by kernel_rfl) (by kernel_rfl) (fun vs ins hv => rq_ok vs ins hv) (fun vs ins hv => xs_ok vs ins hv) fun vs ins hv => gives_sameG wf (xs_ok vs ins hv) same
noncomputable def ot : OTab := eS :: eI :: oWrap.ot
theorem ok : ∀ e ∈ ot, OpqOK Try.prog Φ e := by
  intro e he
  rcases List.mem_cons.1 he with rfl | he
  · exact okS
  · rcases List.mem_cons.1 he with rfl | he
    · exact okI
    · exact tab_old (by kernel_rfl) oWrap.ok e he
theorem base : Base Φ := ext_base 11 g (by rfl) oWrap.base
end Go.Proofs.Ytapinopfminmiab.oAngle
