/- For all arguments, FnExactSameTurn returns true; its arguments read as before. No condition. -/
import Derived.Test.YtefpnehdgbollaaOt
import Derived.Test.YtefpnehdgbollaaYo
import Derived.Test.YtefpnehdgbollaaYf
import Derived.Test.YtefpnehdgbollaaOe
namespace Go.Proofs.Ytefpnehdgbollaa.fnExactSameTurn
open Go Go.ChangeShapes Go.WideShapes Go.ChangeAt Go.RowKit
set_option linter.unusedVariables false

noncomputable def shs : List Sh := (shsOf Try.prog (Try.f5).params.toList).getD []
noncomputable def wk : DT (SV × St) := walkOf tb ftab otb 5 shs
noncomputable def ns : List Df := wk.gather []
theorem wf : wfT (withIds ns) [] = true := by kernel_rfl
abbrev bN (i : Nat) : Nat := Df.id ⟨20, 448, [i]⟩
abbrev eN (i : Nat) : Nat := Df.id ⟨21, 0, [bN i, bN (4 + i)]⟩
abbrev sN (i : Nat) : Nat := Df.id ⟨20, 384, [i, 4 + i]⟩
abbrev aD : Df := ⟨22, 0, [eN 0, eN 1, eN 2, eN 3]⟩
abbrev qD : Df := ⟨23, 0, [aD.id, sN 3]⟩
abbrev xs : List (List Fact) := [[(aD.id, true), (sN 0, false)], [(aD.id, true), (sN 1, false)], [(aD.id, true), (sN 2, false)], [(qD.id, false), (sN 0, true), (sN 1, true), (sN 2, true)]]
theorem has : (memD aD ns && memD qD ns) = true := by kernel_rfl
theorem hasE : ((List.range 4).all fun i => memD ⟨20, 448, [i]⟩ ns && (memD ⟨20, 448, [4 + i]⟩ ns && (memD ⟨21, 0, [bN i, bN (4 + i)]⟩ ns && memD ⟨20, 384, [i, 4 + i]⟩ ns))) = true := by kernel_rfl
theorem chk : wk.chkF ns [] xs (fun x => isTrue x.1) [] = true := by kernel_rfl

theorem ins_can : ∀ {ks : List Kd} {vs : List Value} {xs : List NV}, KMs ks vs xs → (∀ k ∈ ks, k = .f .f32) → ∀ (n : Nat) (c : Nat), (xs.getD n (.i 0)).gf = some c → (FloatKind.f32.decode c).isNaN = false
  | [], [], [], _, _, n, c, h => by simp [NV.gf] at h
  | k :: ks, v :: vs, x :: xs, ⟨h1, h2⟩, hk, 0, c, h => by
    obtain rfl := hk k List.mem_cons_self
    obtain ⟨r, _, hr⟩ := h1
    have hx : x.gf = some c := by simpa using h
    rw [← hr.out] at hx
    obtain ⟨rfl, h2⟩ := can_some hx
    exact h2
  | k :: ks, v :: vs, x :: xs, ⟨h1, h2⟩, hk, n + 1, c, h => ins_can h2 (fun k hk' => hk k (List.mem_cons_of_mem _ hk')) n c (by simpa using h)

theorem same_bits {a b : Option Nat} (ha : ∀ c, a = some c → (FloatKind.f32.decode c).isNaN = false) (hb : ∀ c, b = some c → (FloatKind.f32.decode c).isNaN = false) :
    (((a.getD 2143289344 : Nat) : Int) == ((b.getD 2143289344 : Nat) : Int)) = (a == b) := by
  have hn : (FloatKind.f32.decode 2143289344).isNaN = true := by decide
  have ne : ∀ c, (FloatKind.f32.decode c).isNaN = false → c ≠ 2143289344 := fun c hc e => by rw [e, hn] at hc; cases hc
  cases a with
  | none => cases b with
    | none => rfl
    | some y =>
      have := ne y (hb y rfl)
      rw [Bool.eq_iff_iff]
      simp
      omega
  | some x => cases b with
    | none =>
      have := ne x (ha x rfl)
      rw [Bool.eq_iff_iff]
      simp
      omega
    | some y =>
      rw [Bool.eq_iff_iff]
      simp
      omega

theorem xs_ok {ins : List NV} (hc : ∀ n c, (ins.getD n (.i 0)).gf = some c → (FloatKind.f32.decode c).isNaN = false) : ∀ l ∈ xs, ¬ FactsT (envI baseΦ ns ins) l := by
  have hh := has
  simp only [Bool.and_eq_true] at hh
  have hi : ∀ n, n < 1000 → envI baseΦ ns ins n = ins.getD n (.i 0) := fun n hn => envT_ins baseΦ (insOf ins) ns n hn
  have es : ∀ i, i < 4 → (envI baseΦ ns ins (eN i)).gb = (envI baseΦ ns ins (sN i)).gb := by
    intro i hi4
    have h := List.all_eq_true.1 hasE i (List.mem_range.2 hi4)
    simp only [Bool.and_eq_true] at h
    have n1 : envI baseΦ ns ins (bN i) = .i (((envI baseΦ ns ins i).gf.getD 2143289344 : Nat)) := (envI_ok wf ins _ (memD_mem h.1)).trans (baseΦ_ok 7 0 _ (by decide) (by decide))
    have n2 : envI baseΦ ns ins (bN (4 + i)) = .i (((envI baseΦ ns ins (4 + i)).gf.getD 2143289344 : Nat)) := (envI_ok wf ins _ (memD_mem h.2.1)).trans (baseΦ_ok 7 0 _ (by decide) (by decide))
    have n3 : envI baseΦ ns ins (eN i) = .b ((envI baseΦ ns ins (bN i)).gi == (envI baseΦ ns ins (bN (4 + i))).gi) := envI_ok wf ins _ (memD_mem h.2.2.1)
    have n4 : envI baseΦ ns ins (sN i) = .b ((envI baseΦ ns ins i).gf == (envI baseΦ ns ins (4 + i)).gf) := (envI_ok wf ins _ (memD_mem h.2.2.2)).trans (baseΦ_ok 6 0 _ (by decide) (by decide))
    rw [n3, n4, n1, n2]
    have k1 : ∀ c, (envI baseΦ ns ins i).gf = some c → (FloatKind.f32.decode c).isNaN = false := fun c h => by
      rw [hi i (by omega)] at h
      exact hc _ c h
    have k2 : ∀ c, (envI baseΦ ns ins (4 + i)).gf = some c → (FloatKind.f32.decode c).isNaN = false := fun c h => by
      rw [hi (4 + i) (by omega)] at h
      exact hc _ c h
    exact same_bits k1 k2
  have na : envI baseΦ ns ins aD.id = .b ([eN 0, eN 1, eN 2, eN 3].all fun n => (envI baseΦ ns ins n).gb) := envI_ok wf ins _ (memD_mem hh.1)
  have nq : envI baseΦ ns ins qD.id = .b ((envI baseΦ ns ins aD.id).gb == (envI baseΦ ns ins (sN 3)).gb) := envI_ok wf ins _ (memD_mem hh.2)
  have ga : (envI baseΦ ns ins aD.id).gb = ((envI baseΦ ns ins (sN 0)).gb && ((envI baseΦ ns ins (sN 1)).gb && ((envI baseΦ ns ins (sN 2)).gb && (envI baseΦ ns ins (sN 3)).gb))) := by
    rw [na]
    show ([eN 0, eN 1, eN 2, eN 3].all fun n => (envI baseΦ ns ins n).gb) = _
    simp only [List.all_cons, List.all_nil, Bool.and_true]
    rw [es 0 (by decide), es 1 (by decide), es 2 (by decide), es 3 (by decide)]
  intro l hl hF
  simp only [xs, List.mem_cons, List.not_mem_nil, or_false] at hl
  rcases hl with rfl | rfl | rfl | rfl
  · have f1 := hF (aD.id, true) List.mem_cons_self
    have f2 := hF (sN 0, false) (List.mem_cons_of_mem _ List.mem_cons_self)
    simp only at f1 f2
    rw [ga, f2] at f1
    simp at f1
  · have f1 := hF (aD.id, true) List.mem_cons_self
    have f2 := hF (sN 1, false) (List.mem_cons_of_mem _ List.mem_cons_self)
    simp only at f1 f2
    rw [ga, f2] at f1
    simp at f1
  · have f1 := hF (aD.id, true) List.mem_cons_self
    have f2 := hF (sN 2, false) (List.mem_cons_of_mem _ List.mem_cons_self)
    simp only at f1 f2
    rw [ga, f2] at f1
    simp at f1
  · have f1 := hF (qD.id, false) List.mem_cons_self
    have f2 := hF (sN 0, true) (List.mem_cons_of_mem _ List.mem_cons_self)
    have f3 := hF (sN 1, true) (List.mem_cons_of_mem _ (List.mem_cons_of_mem _ List.mem_cons_self))
    have f4 := hF (sN 2, true) (List.mem_cons_of_mem _ (List.mem_cons_of_mem _ (List.mem_cons_of_mem _ List.mem_cons_self)))
    simp only at f1 f2 f3 f4
    rw [nq] at f1
    have f1' : ((envI baseΦ ns ins aD.id).gb == (envI baseΦ ns ins (sN 3)).gb) = false := f1
    rw [ga, f2, f3, f4] at f1'
    simp at f1'

theorem shs_is : shs = [.agg [.f .f32, .f .f32, .f .f32, .f .f32], .agg [.f .f32, .f .f32, .f .f32, .f .f32]] := by kernel_rfl
theorem can_all {vs : List Value} {ins : List NV} (h : ShMs shs vs ins) : ∀ n c, (ins.getD n (.i 0)).gf = some c → (FloatKind.f32.decode c).isNaN = false := by
  rw [shs_is] at h
  match vs, h with
  | [v1, v2], ⟨n1, n2, he, ⟨c1, _, k1⟩, n3, n4, he2, ⟨c2, _, k2⟩, h4⟩ =>
    have h4 : n4 = [] := h4
    subst h4 he2 he
    rw [List.append_nil]
    exact ins_can (KMs_append k1 k2) (by simp)

theorem own : ownKnob Try.prog.godebug = none := by kernel_rfl
theorem laidOut : laidOutB Try.prog = true := by kernel_rfl

set_option maxRecDepth 100000 in
theorem lifted (os : Os) (started : os.Started) (H : Type) (enc : TypeId × Value → H) :
    ReturnsInHanded {} Try.checked os 5 .any (Rows.fnExactSameTurnSpec.pre6 enc Try.prog Try.f5 Rows.fnExactSameTurnRow.domain false) (Rows.fnExactSameTurnSpec.post enc Try.prog Try.f5 false true false false) := by
  refine returnsInHanded_of_change (C := Try.checked) own started (by kernel_rfl) Try.func5
    (ChangeSpec.witness6 (enc := enc) (C := Try.checked) false ⟨#[], #[.agg #[.float .f32 0, .float .f32 0, .float .f32 0, .float .f32 0], .agg #[.float .f32 0, .float .f32 0, .float .f32 0, .float .f32 0]], []⟩ 8 (by kernel_rfl) (by kernel_rfl) (by kernel_rfl) (by kernel_rfl)) ?_
  intro W base args ds gs before hval0 hW hcnd _
  have hval : ∀ (j : Nat) t v, (Try.f5).params.toList[j]? = some t → args.toList[j]? = some v → Value.okWide Try.prog W .any base t v := fun j t v ht hv => hval0 j t v (by simpa using ht) (by simpa using hv)
  have hW' := hW
  obtain ⟨p, q, hA0, hV, rfl, hfz, hnd⟩ := hW
  have hA : DataW.TrodAll enc Try.prog W 0 (fun _ => true) true (Try.f5).params.toList args.toList ds p := hA0
  obtain ⟨rfl, rfl⟩ := trodVars_none hV
  obtain ⟨ins, hm⟩ := open_all (ss := shs) (by kernel_rfl) hval hA
  refine (lawF_ok (R := []) (X := xs) tb_ok mixed ftab_ok (otb_ok baseΦ_ok) wf chk (Nat.le_of_ble_eq_true (by kernel_rfl)) (by kernel_rfl) (fun q hq => by simp at hq) (xs_ok (can_all hm)) hm).mono fun e W' ⟨he, bel⟩ => ?_
  subst he
  have hA2 := all_trod laidOut bel (by kernel_rfl) hA
  rw [Try.params5] at hA
  obtain ⟨v0, vs0, d0, ds0, p0, q0, hargs, rfl, rfl, h0, r0⟩ := trodAll_cons hA
  obtain ⟨v1, vs1, d1, ds1, p1, q1, rfl, rfl, rfl, h1, r1⟩ := trodAll_cons r0
  obtain ⟨rfl, rfl, rfl⟩ := trodAll_nil r1
  exact ⟨_, rfl, _, _, _, [], _, [], hW', trodAll_mk1 (shut_bool Try.underlying4 _), hA2, rfl, bel.frame _, fun h => by cases h⟩

theorem over : Rows.fnExactSameTurnRow.holds Try.pinned (OpenSpec.ofChange Rows.fnExactSameTurnSpec) :=
  OpenClaim.holds_of_wide 5 Try.f5 rfl rfl rfl rfl rfl rfl rfl ⟨rfl, rfl, rfl, rfl, rfl⟩ rfl rfl rfl rfl rfl (by kernel_rfl) Try.func5 (by kernel_rfl)
    (of_decide_eq_true (by kernel_rfl)) (by unfold Func.isWrapper; first | (rw [if_pos (by decide +kernel)]; kernel_rfl) | (rw [if_neg (by decide +kernel)]; exact ⟨rfl, rfl⟩))
    (fun os started H enc _ => lifted os started H enc)

theorem proved : Rows.FnExactSameTurnSaid := over
#print axioms proved
end Go.Proofs.Ytefpnehdgbollaa.fnExactSameTurn
