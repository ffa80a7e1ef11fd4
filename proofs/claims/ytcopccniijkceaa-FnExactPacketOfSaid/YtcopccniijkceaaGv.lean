/- Rows of cells in a form of their own; functions of two rows; their calls in regions that draw their order. No condition. -/
import Derived.Test.YtcopccniijkceaaGz
import Derived.Test.YtcopccniijkceaaSv
namespace Go.Proofs.Ytcopccniijkceaa
open Go Go.RowKit
set_option linter.unusedVariables false
set_option linter.unusedSimpArgs false

def nodeOf : Value → NV
  | .float k r => .f (can k r)
  | .int _ i => .i i
  | .bool b => .b b
  | _ => .i 0

def canN : Kd → NV → NV
  | .f _, n => .f n.gf
  | .i _, n => .i n.gi
  | .b, n => .b n.gb

theorem KM_can {k : Kd} {v : Value} {n : NV} (h : KM k v n) : KM k v (canN k n) ∧ canN k n = nodeOf v := by
  cases k with
  | f k => obtain ⟨r, rfl, hf⟩ := h; exact ⟨⟨r, rfl, hf⟩, by show NV.f n.gf = NV.f (can k r); rw [hf.out]⟩
  | i k => have h : v = .int k n.gi := h; subst h; exact ⟨rfl, rfl⟩
  | b => have h : v = .bool n.gb := h; subst h; exact ⟨rfl, rfl⟩

def canK : List Kd → List NV → List NV
  | k :: ks, n :: ns => canN k n :: canK ks ns
  | _, _ => []

def rowOf : Value → List NV
  | .agg cs => cs.toList.map nodeOf
  | v => [nodeOf v]

theorem KMs_can : ∀ {K : List Kd} {cs : List Value} {r : List NV}, KMs K cs r → KMs K cs (canK K r) ∧ canK K r = cs.map nodeOf
  | [], [], [], _ => ⟨trivial, rfl⟩
  | k :: K, c :: cs, n :: r, ⟨h1, h2⟩ => by
    obtain ⟨a, b⟩ := KM_can h1
    obtain ⟨c, d⟩ := KMs_can h2
    exact ⟨⟨a, c⟩, by simp [canK, b, d]⟩

theorem ShM_can {K : List Kd} {v : Value} {r : List NV} (h : ShM (.agg K) v r) : ShM (.agg K) v (canK K r) ∧ canK K r = rowOf v := by
  obtain ⟨cs, rfl, hk⟩ := h
  exact ⟨⟨cs, rfl, (KMs_can hk).1⟩, (KMs_can hk).2⟩

theorem ShM_one {K : List Kd} {v : Value} {r r' : List NV} (h : ShM (.agg K) v r) (h' : ShM (.agg K) v r') : canK K r = canK K r' := (ShM_can h).2.trans (ShM_can h').2.symm

/-- What a function of two rows gives. -/
noncomputable def fun2 (Φ : Syms) (sym n : Nat) (K : List Kd) (p q : List NV) : List NV := outsOf Φ sym (canK K p ++ canK K q) 0 n

theorem fun2_can {Φ : Syms} {sym n : Nat} {K : List Kd} {u1 u2 : Value} {p q p' q' : List NV} (h1 : ShM (.agg K) u1 p) (h2 : ShM (.agg K) u2 q) (h1' : ShM (.agg K) u1 p') (h2' : ShM (.agg K) u2 q') : fun2 Φ sym n K p q = fun2 Φ sym n K p' q' := by
  unfold fun2
  rw [ShM_one h1 h1', ShM_one h2 h2']

theorem opq_symR {P : Program} {Φ : Syms} {e : Opq} (h : OpqOK P Φ e) (h0 : e.ext = 0) (h1 : e.same = false) : SymOK P Φ e := by
  unfold OpqOK at h
  rw [if_pos h0, if_neg (by rw [h1]; exact Bool.false_ne_true)] at h
  exact h

theorem calls_row2 {P : Program} {Φ : Syms} {e : Opq} {K R : List Kd} {n : Nat} (h : OpqOK P Φ e) (h0 : e.ext = 0) (h1 : e.same = false) (ha : e.args = [.agg K, .agg K]) (hr : e.res = .p (.agg R)) (hn : R.length = n) (u1 u2 : Value) (p q : List NV) (w : World) (hp : ShM (.agg K) u1 p) (hq : ShM (.agg K) u2 q) :
    Calls P e.f #[u1, u2] w fun en w' => ∃ v, en = .returned v ∧ ShM (.agg R) v (fun2 Φ e.sym n K p q) ∧ Stays w w' := by
  have := opq_symR h h0 h1 #[u1, u2] (canK K p ++ canK K q) w (by rw [ha]; exact ⟨_, _, rfl, (ShM_can hp).1, _, [], by simp, (ShM_can hq).1, rfl⟩)
  refine this.mono ?_
  rintro en w' ⟨v', rfl, hm, hs⟩
  rw [hr] at hm
  have hm : ShM (.agg R) v' (outsOf Φ e.sym (canK K p ++ canK K q) 0 R.length) := hm
  rw [hn] at hm
  exact ⟨v', rfl, hm, hs⟩

/-- What a call of a function of two rows may give. -/
def rowS (fid : FuncId) (F : List NV → List NV → List NV) (K R : List Kd) (f : FuncId) (args : Array Value) (v : Value) : Prop :=
  f = fid → ∀ u1 u2, args = #[u1, u2] → ∀ p q, ShM (.agg K) u1 p → ShM (.agg K) u2 q → ShM (.agg R) v (F p q)

section
variable {P : Program} {ops : Array Oper} {W : World} {A : List (Tmp × Array Value × TypeId)}

theorem soft_callR {fid : FuncId} {Φ : Syms} {sym n : Nat} {K R : List Kd} {Q : Act → Prop} {a : Act} {o : Oper} {rest : List Oper} {u1 u2 : Value} {p q : List NV} (hwa : Region.wanted o (yielded ops a.tmps) = true) (hA : (A.all fun e => o.dst != some e.1) = true)
    (h : ∀ w, Stays W w → (execOp a.eval o).run P w = .ok (.enter fid #[u1, u2]) w) (h1 : ShM (.agg K) u1 p) (h2 : ShM (.agg K) u2 q)
    (hc : ∀ w, Calls P fid #[u1, u2] w fun e w' => ∃ v, e = .returned v ∧ ShM (.agg R) v (fun2 Φ sym n K p q) ∧ Stays w w')
    (hK : ∀ v, ShM (.agg R) v (fun2 Φ sym n K p q) → wpSoft P ops W (rowS fid (fun2 Φ sym n K) K R) A Q rest (a.put o.dst v)) : wpSoft P ops W (rowS fid (fun2 Φ sym n K) K R) A Q (o :: rest) a := by
  have hS : ∀ v, ShM (.agg R) v (fun2 Φ sym n K p q) → rowS fid (fun2 Φ sym n K) K R fid #[u1, u2] v := by
    intro v hv _ x1 x2 e p' q' hp hq
    simp at e
    obtain ⟨rfl, rfl⟩ := e
    rw [← fun2_can h1 h2 hp hq]
    exact hv
  refine ⟨fun _ w hw => ?_, not_listed hA a, ?_, fun u hu' => ?_⟩
  · rw [h w hw]
    exact ⟨rfl, (hc w).mono fun e w' ⟨v, he, hv, hs⟩ => ⟨v, he, hS v hv, hs⟩⟩
  · obtain ⟨_, _, _, ⟨v, _, hv, _⟩, _⟩ := hc W []
    exact ⟨v, Or.inl ⟨hwa, W, Stays.refl W, by rw [h W (Stays.refl W)]; exact hS v hv⟩⟩
  · rcases hu' with ⟨_, w, hw, hu'⟩ | ⟨hn, _⟩
    · rw [h w hw] at hu'
      exact hK u (hu' rfl _ _ rfl p q h1 h2)
    · rw [hwa] at hn; cases hn

/-- What one call may give. -/
def oneS (fid : FuncId) (A0 : Array Value) (V : Value → Prop) (f : FuncId) (args : Array Value) (v : Value) : Prop := f = fid → args = A0 → V v

theorem soft_callO {fid : FuncId} {A0 : Array Value} {V : Value → Prop} {Q : Act → Prop} {a : Act} {o : Oper} {rest : List Oper} (hwa : Region.wanted o (yielded ops a.tmps) = true) (hA : (A.all fun e => o.dst != some e.1) = true)
    (h : ∀ w, Stays W w → (execOp a.eval o).run P w = .ok (.enter fid A0) w)
    (hc : ∀ w, Stays W w → Calls P fid A0 w fun e w' => ∃ v, e = .returned v ∧ V v ∧ Stays w w')
    (hK : ∀ v, V v → wpSoft P ops W (oneS fid A0 V) A Q rest (a.put o.dst v)) : wpSoft P ops W (oneS fid A0 V) A Q (o :: rest) a := by
  refine ⟨fun _ w hw => ?_, not_listed hA a, ?_, fun u hu' => ?_⟩
  · rw [h w hw]
    exact ⟨rfl, (hc w hw).mono fun e w' ⟨v, he, hv, hs⟩ => ⟨v, he, fun _ _ => hv, hs⟩⟩
  · obtain ⟨_, _, _, ⟨v, _, hv, _⟩, _⟩ := hc W (Stays.refl W) []
    exact ⟨v, Or.inl ⟨hwa, W, Stays.refl W, by rw [h W (Stays.refl W)]; exact fun _ _ => hv⟩⟩
  · rcases hu' with ⟨_, w, hw, hu'⟩ | ⟨hn, _⟩
    · rw [h w hw] at hu'
      exact hK u (hu' rfl rfl)
    · rw [hwa] at hn; cases hn
end
end Go.Proofs.Ytcopccniijkceaa
