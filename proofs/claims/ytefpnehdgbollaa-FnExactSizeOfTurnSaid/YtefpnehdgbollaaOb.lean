/- The meaning of the smallest functions on numbers, as symbols of the symbolic walk. No condition. -/
import Derived.Test.YtefpnehdgbollaaY8
import Derived.Test.YtefpnehdgbollaaB10
namespace Go.Proofs.Ytefpnehdgbollaa
open Go Go.RowKit
set_option linter.unusedVariables false

def in0 (l : List NV) : NV := l.getD 0 (.i 0)
def in1 (l : List NV) : NV := l.getD 1 (.i 0)

/-- The symbols: 1: finite; 2: the root; 3: the size; 4: the wide root; 5: the wide size; 6: the same number; 7: the bits. -/
def baseSyms : Nat → Nat → List NV → NV
  | 1, _, l => .b (finB (in0 l).gf)
  | 2, _, l => .f (froot (in0 l).gf)
  | 3, _, l => .f ((in0 l).gf.map bare)
  | 4, _, l => .f (fsqrt (in0 l).gf)
  | 5, _, l => .f ((in0 l).gf.map (· % 2 ^ 63))
  | 6, _, l => .b ((in0 l).gf == (in1 l).gf)
  | 7, _, l => .i ((in0 l).gf.getD 2143289344 : Nat)
  | _, _, _ => .i 0

def symsOf (f : Nat → Nat → List NV → NV) : Syms := fun imm l => f (imm / 64) (imm % 64) l

theorem one_arg {k : Kd} {vs : Array Value} {ins : List NV} (h : ShMs [.one k] vs.toList ins) : ∃ v x, vs = #[v] ∧ ins = [x] ∧ KM k v x := by
  obtain ⟨l⟩ := vs
  match l, h with
  | [v], h =>
    obtain ⟨n1, n2, h1, ⟨x, hx, hk⟩, h2⟩ := h
    have h2 : n2 = [] := h2
    subst h2 hx
    exact ⟨v, x, rfl, by simpa using h1, hk⟩

theorem two_args {k k2 : Kd} {vs : Array Value} {ins : List NV} (h : ShMs [.one k, .one k2] vs.toList ins) : ∃ v x v2 x2, vs = #[v, v2] ∧ ins = [x, x2] ∧ KM k v x ∧ KM k2 v2 x2 := by
  obtain ⟨l⟩ := vs
  match l, h with
  | [v, v2], h =>
    obtain ⟨n1, n2, h1, ⟨x, hx, hk⟩, ⟨n3, n4, h3, ⟨x2, hx2, hk2⟩, h4⟩⟩ := h
    have h4 : n4 = [] := h4
    subst h4 hx2 h3 hx
    exact ⟨v, x, v2, x2, rfl, by simpa using h1, hk, hk2⟩

/-- What says what the base symbols say. -/
def Base (Φ : Syms) : Prop := ∀ s j l, s < 8 → j < 64 → Φ (s * 64 + j) l = baseSyms s j l

abbrev oneB (f : FuncId) (sym : Nat) (k : FloatKind) : Opq := { f := f, sym := sym, args := [.one (.f k)], res := .p (.one .b) }
abbrev oneF (f : FuncId) (sym : Nat) (k : FloatKind) : Opq := { f := f, sym := sym, args := [.one (.f k)], res := .p (.one (.f k)) }

theorem o_l01Finite {Φ : Syms} (H : Base Φ) : OpqOK Try.prog Φ (oneB 78 1 .f32) := by
  intro vs ins w h
  obtain ⟨v, x, rfl, rfl, r, rfl, hr⟩ := one_arg h
  refine (c_l01Finite r w).mono ?_
  rintro e w' ⟨rfl, hw⟩
  refine ⟨_, rfl, ⟨_, rfl, ?_⟩, hw⟩
  rw [H 1 0 _ (by decide) (by decide), hr.out]; rfl

theorem o_isFinite {Φ : Syms} (H : Base Φ) : OpqOK Try.prog Φ (oneB 48 1 .f32) := by
  intro vs ins w h
  obtain ⟨v, x, rfl, rfl, r, rfl, hr⟩ := one_arg h
  refine (c_isFinite r w).mono ?_
  rintro e w' ⟨rfl, hw⟩
  refine ⟨_, rfl, ⟨_, rfl, ?_⟩, hw⟩
  rw [H 1 0 _ (by decide) (by decide), hr.out]; rfl

theorem o_l01Root {Φ : Syms} (H : Base Φ) : OpqOK Try.prog Φ (oneF 59 2 .f32) := by
  intro vs ins w h
  obtain ⟨v, x, rfl, rfl, r, rfl, hr⟩ := one_arg h
  refine (c_l01Root r w).mono ?_
  rintro e w' ⟨v, rfl, ⟨y, rfl, hy⟩, hw⟩
  refine ⟨_, rfl, ⟨_, rfl, y, rfl, hy.of_eq ?_⟩, hw⟩
  rw [H 2 0 _ (by decide) (by decide), hr.out]; rfl

theorem o_rootOf {Φ : Syms} (H : Base Φ) : OpqOK Try.prog Φ (oneF 61 2 .f32) := by
  intro vs ins w h
  obtain ⟨v, x, rfl, rfl, r, rfl, hr⟩ := one_arg h
  refine (c_rootOf r w).mono ?_
  rintro e w' ⟨v, rfl, ⟨y, rfl, hy⟩, hw⟩
  refine ⟨_, rfl, ⟨_, rfl, y, rfl, hy.of_eq ?_⟩, hw⟩
  rw [H 2 0 _ (by decide) (by decide), hr.out]; rfl

theorem o_sizeOf {Φ : Syms} (H : Base Φ) : OpqOK Try.prog Φ (oneF 79 3 .f32) := by
  intro vs ins w h
  obtain ⟨v, x, rfl, rfl, r, rfl, hr⟩ := one_arg h
  refine (c_sizeOf r w).mono ?_
  rintro e w' ⟨y, rfl, hy, hw⟩
  refine ⟨_, rfl, ⟨_, rfl, y, rfl, hy.of_eq ?_⟩, hw⟩
  rw [H 3 0 _ (by decide) (by decide), hr.out]; rfl

theorem o_Sqrt {Φ : Syms} (H : Base Φ) : OpqOK Try.prog Φ (oneF 82 4 .f64) := by
  intro vs ins w h
  obtain ⟨v, x, rfl, rfl, r, rfl, hr⟩ := one_arg h
  refine (c_Sqrt r w).mono ?_
  rintro e w' ⟨y, rfl, hy, hw⟩
  refine ⟨_, rfl, ⟨_, rfl, y, rfl, hy.of_eq ?_⟩, hw⟩
  rw [H 4 0 _ (by decide) (by decide), hr.out]; rfl

theorem o_Abs {Φ : Syms} (H : Base Φ) : OpqOK Try.prog Φ (oneF 87 5 .f64) := by
  intro vs ins w h
  obtain ⟨v, x, rfl, rfl, r, rfl, hr⟩ := one_arg h
  refine (c_Abs r w hr.lt).mono ?_
  rintro e w' ⟨y, rfl, hy, hw⟩
  refine ⟨_, rfl, ⟨_, rfl, y, rfl, hy.of_eq ?_⟩, hw⟩
  rw [H 5 0 _ (by decide) (by decide), hr.out]; rfl

theorem o_l01Same {Φ : Syms} (H : Base Φ) : OpqOK Try.prog Φ { f := 80, sym := 6, args := [.one (.f .f32), .one (.f .f32)], res := .p (.one .b) } := by
  intro vs ins w h
  obtain ⟨v, x, v2, x2, rfl, rfl, ⟨r, rfl, hr⟩, ⟨r2, rfl, hr2⟩⟩ := two_args h
  refine (c_l01Same r r2 w).mono ?_
  rintro e w' ⟨rfl, rfl⟩
  refine ⟨_, rfl, ⟨_, rfl, ?_⟩, Stays.refl w⟩
  rw [H 6 0 _ (by decide) (by decide)]
  show Value.bool (same r r2) = .bool (x.gf == x2.gf)
  unfold same
  rw [hr.out, hr2.out]

theorem o_numberBits {Φ : Syms} (H : Base Φ) : OpqOK Try.prog Φ { f := 81, sym := 7, args := [.one (.f .f32)], res := .p (.one (.i .u32)) } := by
  intro vs ins w h
  obtain ⟨v, x, rfl, rfl, r, rfl, hr⟩ := one_arg h
  refine (c_numberBits r w).mono ?_
  rintro e w' ⟨rfl, rfl⟩
  refine ⟨_, rfl, ⟨_, rfl, ?_⟩, Stays.refl w⟩
  rw [H 7 0 _ (by decide) (by decide)]
  show Value.int .u32 (bitsOf r) = .int .u32 _
  unfold bitsOf
  rw [hr.out]; rfl

theorem o_sameFloat {Φ : Syms} (H : Base Φ) : OpqOK Try.prog Φ { f := 29, sym := 0, args := [.one (.f .f64)], res := .p (.one .b), same := true } := by
  intro s v1 v2 ins w hs h1 h2
  cases hs
  obtain ⟨x, rfl, r1, rfl, hr1⟩ := h1
  obtain ⟨y, hy, r2, rfl, hr2⟩ := h2
  cases hy
  exact c_sameFloat r1 r2 w (hr1.out.trans hr2.out.symm)
end Go.Proofs.Ytefpnehdgbollaa
