/- spec.RootMat and impl.RootMat give the same, by one symbol of the walk. No condition. -/
import Derived.Test.YtefpnehdgbollacOFin
import Derived.Test.YtefpnehdgbollacOe
import Derived.Test.YtefpnehdgbollacYc
import Derived.Test.YtefpnehdgbollacAg
namespace Go.Proofs.Ytefpnehdgbollac.oRoot
open Go Go.RowKit
set_option linter.unusedVariables false

abbrev eS : Opq := { f := 17, sym := 12, args := [.agg [.f .f32, .f .f32, .f .f32, .f .f32, .f .f32, .f .f32, .f .f32, .f .f32, .f .f32]], res := .tup [.agg [.f .f32, .f .f32, .f .f32, .f .f32, .f .f32, .f .f32, .f .f32, .f .f32, .f .f32], .one (.i .i64)] }
abbrev eI : Opq := { f := 18, sym := 12, args := [.agg [.f .f32, .f .f32, .f .f32, .f .f32, .f .f32, .f .f32, .f .f32, .f .f32, .f .f32]], res := .tup [.agg [.f .f32, .f .f32, .f .f32, .f .f32, .f .f32, .f .f32, .f .f32, .f .f32, .f .f32], .one (.i .i64)] }
noncomputable def wS : DT (SV × St) := walkOf tb ftab oFin.ot eS.f eS.args
noncomputable def wI : DT (SV × St) := walkOf tb ftab oFin.ot eI.f eI.args
noncomputable def ns : List Df := wI.gather (wS.gather [])
theorem wf : wfT (withIds ns) [] = true := by kernel_rfl
abbrev rq : List Rq := []
abbrev dz : Df := ⟨4, 0, []⟩
/-- The numbers whose roots are taken, by their nodes. -/
def sA : Nat := 194882156106049174
def sB : Nat := 961977131701302337
def zN : Nat := 1640756989669875575
theorem zN_is : Df.id ⟨4, 0, []⟩ = zN := by kernel_rfl
def xsAt (s : Nat) : List (List Fact) := [[(Df.id ⟨20, 64, [s]⟩, true), (Df.id ⟨10, 0, [s, zN]⟩, false), (Df.id ⟨11, 0, [s, zN]⟩, false)], [(Df.id ⟨10, 0, [s, zN]⟩, true), (Df.id ⟨11, 0, [s, zN]⟩, true)]]
abbrev xs : List (List Fact) := xsAt 0 ++ (xsAt sA ++ xsAt sB)
/-- A number that no NaN is: an input, or what an operation gives. -/
noncomputable def plainN (n : Nat) : Bool := Nat.blt n 9 || ns.any fun d => Nat.beq d.id n && (Nat.ble d.op 3 && Nat.beq d.imm 0)
noncomputable def okAt (s : Nat) : Bool := plainN s && (memD ⟨10, 0, [s, zN]⟩ ns && (memD ⟨11, 0, [s, zN]⟩ ns && memD ⟨20, 64, [s]⟩ ns))
theorem hasz : memD dz ns = true := by kernel_rfl

theorem can_of {k : FloatKind} {r : Nat} {o : Option Nat} (h : FIs k r o) : ∀ c, o = some c → (k.decode c).isNaN = false := fun c hc => by
  subst hc
  obtain ⟨rfl, h2⟩ := can_some h.out
  exact h2

theorem ins_can : ∀ {ks : List Kd} {vs : List Value} {xs : List NV}, KMs ks vs xs → (∀ k ∈ ks, k = .f .f32) → ∀ (n : Nat) (c : Nat), (xs.getD n (.i 0)).gf = some c → (FloatKind.f32.decode c).isNaN = false
  | [], [], [], _, _, n, c, h => by simp [NV.gf] at h
  | k :: ks, v :: vs, x :: xs, ⟨h1, h2⟩, hk, 0, c, h => by
    obtain rfl := hk k List.mem_cons_self
    obtain ⟨r, _, hr⟩ := h1
    exact can_of hr c (by simpa using h)
  | k :: ks, v :: vs, x :: xs, ⟨h1, h2⟩, hk, n + 1, c, h => ins_can h2 (fun k hk' => hk k (List.mem_cons_of_mem _ hk')) n c (by simpa using h)

theorem agg_arg {ks : List Kd} {vs : List Value} {ins : List NV} (h : ShMs [.agg ks] vs ins) : ∃ cs : List Value, KMs ks cs ins := by
  cases vs with
  | nil => exact h.elim
  | cons v r =>
    obtain ⟨n1, n2, he, ⟨cs, _, hk⟩, h2⟩ := h
    cases r with
    | nil =>
      have h2 : n2 = [] := h2
      subst h2
      rw [List.append_nil] at he
      subst he
      exact ⟨_, hk⟩
    | cons _ _ => exact h2.elim
theorem kds : ∀ k ∈ ([.f .f32, .f .f32, .f .f32, .f .f32, .f .f32, .f .f32, .f .f32, .f .f32, .f .f32] : List Kd), k = .f .f32 := by simp
theorem any_of {n : Nat} (h : plainN n = true) : n < 9 ∨ ∃ d ∈ ns, d.id = n ∧ d.op ≤ 3 ∧ d.imm = 0 := by
  unfold plainN at h
  generalize ns = T at h ⊢
  rw [Bool.or_eq_true] at h
  rcases h with h | h
  · exact Or.inl (by simpa using h)
  · obtain ⟨d, hd, hb⟩ := List.any_eq_true.1 h
    simp only [Bool.and_eq_true] at hb
    exact Or.inr ⟨d, hd, Nat.eq_of_beq_eq_true hb.1, Nat.le_of_ble_eq_true hb.2.1, Nat.eq_of_beq_eq_true hb.2.2⟩
theorem sem_num {ρ : Nat → NV} {op : Nat} {args : List Nat} {c : Nat} (hop : op ≤ 3) (hc : (Df.sem oFin.Φ ρ ⟨op, 0, args⟩).gf = some c) : (FloatKind.f32.decode c).isNaN = false := by
  have key : ∀ b : BinOp, fop b .f32 ((ρ (args.getD 0 0)).gf) ((ρ (args.getD 1 0)).gf) = some c → (FloatKind.f32.decode c).isNaN = false := by
    intro b hb'
    obtain ⟨x, y, _, _, hr⟩ := fop_some hb'
    exact floatBits_not_nan hr
  have hc4 : op = 0 ∨ op = 1 ∨ op = 2 ∨ op = 3 := by omega
  rcases hc4 with rfl | rfl | rfl | rfl
  · exact key .add hc
  · exact key .sub hc
  · exact key .mul hc
  · exact key .quo hc

theorem plain_ok (vs : List Value) (ins : List NV) (hv : ShMs eS.args vs ins) {n : Nat} (h : plainN n = true) : ∀ c, (envI oFin.Φ ns ins n).gf = some c → (FloatKind.f32.decode c).isNaN = false := by
  intro c hc
  rcases any_of h with hn | ⟨d, hd, e, hop, himm⟩
  · rw [input_of n (by omega)] at hc
    obtain ⟨cs, hk⟩ := agg_arg hv
    exact ins_can hk kds n c hc
  · have hs := envI_ok (Φ := oFin.Φ) wf ins d hd
    rw [e] at hs
    generalize envI oFin.Φ ns ins = ρ at hs hc
    rw [hs] at hc
    obtain ⟨op, imm, args⟩ := d
    obtain rfl : imm = 0 := himm
    exact sem_num hop hc

theorem cut_ok {ρ : Nat → NV} {f l g s : Nat} (nl : ρ l = .b (ford .f32 (ρ s).gf (some 0) == some .lt || ford .f32 (ρ s).gf (some 0) == some .eq)) (ng : ρ g = .b (ford .f32 (ρ s).gf (some 0) == some .gt)) (nf : ρ f = .b (finB (ρ s).gf))
    (hs : ∀ c, (ρ s).gf = some c → (FloatKind.f32.decode c).isNaN = false) : (¬ FactsT ρ [(f, true), (l, false), (g, false)]) ∧ ¬ FactsT ρ [(l, true), (g, true)] := by
  have h00 : (FloatKind.f32.decode 0).isNaN = false := by kernel_rfl
  generalize (ρ s).gf = o at nl ng nf hs
  constructor
  · intro hF
    have f1 : (ρ f).gb = true := hF (f, true) List.mem_cons_self
    have f2 : (ρ l).gb = false := hF (l, false) (List.mem_cons_of_mem _ List.mem_cons_self)
    have f3 : (ρ g).gb = false := hF (g, false) (List.mem_cons_of_mem _ (List.mem_cons_of_mem _ List.mem_cons_self))
    rw [nf] at f1
    rw [nl] at f2
    rw [ng] at f3
    cases o with
    | none => cases f1
    | some b =>
      obtain ⟨q, hq⟩ := order_some (hs b rfl) h00
      have hford : ford .f32 (some b) (some 0) = some q := hq
      rw [hford] at f2 f3
      cases q
      · cases f2
      · cases f2
      · cases f3
  · intro hF
    have f2 : (ρ l).gb = true := hF (l, true) List.mem_cons_self
    have f3 : (ρ g).gb = true := hF (g, true) (List.mem_cons_of_mem _ List.mem_cons_self)
    rw [nl] at f2
    rw [ng] at f3
    cases ho : ford .f32 o (some 0) with
    | none => rw [ho] at f3; cases f3
    | some q =>
      rw [ho] at f2 f3
      cases q
      · cases f3
      · cases f3
      · cases f2

theorem node_b {ρ : Nat → NV} {Φ : Syms} (hT : ∀ d ∈ ns, ρ d.id = d.sem Φ ρ) {d : Df} (h : memD d ns = true) : ρ d.id = d.sem Φ ρ := hT d (memD_mem h)

theorem at_ok {ρ : Nat → NV} {Φ : Syms} (hB : Base Φ) (hT : ∀ d ∈ ns, ρ d.id = d.sem Φ ρ) {s z : Nat} (hz : ρ z = .f (some 0)) (h3 : memD ⟨10, 0, [s, z]⟩ ns = true) (h4 : memD ⟨11, 0, [s, z]⟩ ns = true) (h5 : memD ⟨20, 64, [s]⟩ ns = true)
    (hs : ∀ c, (ρ s).gf = some c → (FloatKind.f32.decode c).isNaN = false) : (¬ FactsT ρ [(Df.id ⟨20, 64, [s]⟩, true), (Df.id ⟨10, 0, [s, z]⟩, false), (Df.id ⟨11, 0, [s, z]⟩, false)]) ∧ ¬ FactsT ρ [(Df.id ⟨10, 0, [s, z]⟩, true), (Df.id ⟨11, 0, [s, z]⟩, true)] := by
  have n3 := node_b hT h3
  have n4 := node_b hT h4
  have n5 := node_b hT h5
  generalize Df.id ⟨10, 0, [s, z]⟩ = l at n3 ⊢
  generalize Df.id ⟨11, 0, [s, z]⟩ = g at n4 ⊢
  generalize Df.id ⟨20, 64, [s]⟩ = f at n5 ⊢
  refine cut_ok (s := s) ?_ ?_ ?_ hs
  · rw [n3]
    show NV.b (ford .f32 (ρ s).gf (ρ z).gf == some .lt || ford .f32 (ρ s).gf (ρ z).gf == some .eq) = _
    rw [hz]
    rfl
  · rw [n4]
    show NV.b (ford .f32 (ρ s).gf (ρ z).gf == some .gt) = _
    rw [hz]
    rfl
  · rw [n5]
    exact hB 1 0 [ρ s] (by decide) (by decide)

theorem okAt_of {s : Nat} (h : okAt s = true) : plainN s = true ∧ memD ⟨10, 0, [s, zN]⟩ ns = true ∧ memD ⟨11, 0, [s, zN]⟩ ns = true ∧ memD ⟨20, 64, [s]⟩ ns = true := by
  unfold okAt at h
  simp only [Bool.and_eq_true] at h
  exact h

theorem zero_is (ins : List NV) : envI oFin.Φ ns ins zN = .f (some 0) := by
  have h := node_b (envI_ok (Φ := oFin.Φ) wf ins) hasz
  have e : dz.id = zN := zN_is
  rw [e] at h
  have h0 : can .f32 0 = some 0 := by kernel_rfl
  rw [h]
  show NV.f (can .f32 0) = _
  rw [h0]

theorem at_all (vs : List Value) (ins : List NV) (hv : ShMs eS.args vs ins) {s : Nat} (h : okAt s = true) : ∀ l ∈ xsAt s, ¬ FactsT (envI oFin.Φ ns ins) l := by
  obtain ⟨h2, h3, h4, h5⟩ := okAt_of h
  have hc := at_ok oFin.base (envI_ok (Φ := oFin.Φ) wf ins) (zero_is ins) h3 h4 h5 (plain_ok vs ins hv h2)
  intro l hl
  unfold xsAt at hl
  rcases List.mem_cons.1 hl with e | hl
  · rw [e]; exact hc.1
  · rcases List.mem_cons.1 hl with e | hl
    · rw [e]; exact hc.2
    · exact absurd hl List.not_mem_nil

theorem okS0 : okAt 0 = true := by kernel_rfl
theorem okSA : okAt sA = true := by kernel_rfl
theorem okSB : okAt sB = true := by kernel_rfl
theorem xs_ok (vs : List Value) (ins : List NV) (hv : ShMs eS.args vs ins) : ∀ l ∈ xs, ¬ FactsT (envI oFin.Φ ns ins) l := by
  intro l hl
  rcases List.mem_append.1 hl with h | h
  · exact at_all vs ins hv okS0 l h
  · rcases List.mem_append.1 h with h | h
    · exact at_all vs ins hv okSA l h
    · exact at_all vs ins hv okSB l h

theorem rq_ok (vs : List Value) (ins : List NV) (_ : ShMs eS.args vs ins) : ∀ q ∈ rq, FactsT (envI oFin.Φ ns ins) q.on → Asked q.tag (envI oFin.Φ ns ins q.n) := fun q hq => by simp at hq
theorem chS : wS.chkF ns rq xs (fun x => okR eS.res x.1) [] = true := by kernel_rfl
theorem chI : wI.chkF ns rq xs (fun x => okR eI.res x.1) [] = true := by kernel_rfl
theorem same : sameG xs (rC ns eS.res) wS [] wI = true := by kernel_rfl
noncomputable def g (l : List NV) : List NV := gives oFin.Φ ns wS eS.res l
noncomputable def Φ : Syms := ext oFin.Φ 12 g
theorem okS : OpqOK Try.prog Φ eS := opq_walk tb_ok mixed ftab_ok oFin.ok rfl rfl wf chS (by kernel_rfl) (by kernel_rfl) (by kernel_rfl) (fun vs ins hv => rq_ok vs ins hv) (fun vs ins hv => xs_ok vs ins hv) fun _ _ _ => rfl
theorem okI : OpqOK Try.prog Φ eI := opq_walk tb_ok mixed ftab_ok oFin.ok rfl rfl wf chI (by kernel_rfl) (by kernel_rfl) (by kernel_rfl) (fun vs ins hv => rq_ok vs ins hv) (fun vs ins hv => xs_ok vs ins hv) fun vs ins hv => gives_sameG wf (xs_ok vs ins hv) same
noncomputable def ot : OTab := eS :: eI :: oFin.ot
theorem ok : ∀ e ∈ ot, OpqOK Try.prog Φ e := by
  intro e he
  rcases List.mem_cons.1 he with rfl | he
  · exact okS
  · rcases List.mem_cons.1 he with rfl | he
    · exact okI
    · exact tab_old (by kernel_rfl) oFin.ok e he
theorem base : Base Φ := ext_base 12 g (by rfl) oFin.base
end Go.Proofs.Ytefpnehdgbollac.oRoot
