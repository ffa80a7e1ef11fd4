/- Ways: how long they are, on both sides, and the law. No condition. -/
import Derived.Test.YtejljfejajckoaaGfA
import Derived.Deep.RegionHeld
namespace Go.Proofs.Ytejljfejajckoaa
open Go Go.RowKit
set_option linter.unusedVariables false
set_option linter.unusedSimpArgs false

noncomputable def squO (p q : List NV) : Option Nat := (oSqu.Φ (10 * 64 + 0) (canK KPt p ++ canK KPt q)).gf
noncomputable def lenTo (ps : List (List NV)) : Nat → Option Nat
  | 0 => can .f32 0
  | k + 1 => fop .add .f32 (lenTo ps k) (froot (squO (ps.getD k []) (ps.getD (k + 1) [])))

theorem lenTo_next {ps : List (List NV)} {k : Nat} {p q : List NV} (hp : ps[k]? = some p) (hq : ps[k + 1]? = some q) : lenTo ps (k + 1) = fop .add .f32 (lenTo ps k) (froot (squO p q)) := by
  show fop .add .f32 (lenTo ps k) (froot (squO (ps.getD k []) (ps.getD (k + 1) []))) = _
  rw [List.getD_eq_getElem?_getD, List.getD_eq_getElem?_getD, hp, hq]; rfl

theorem calls_pair {P : Program} {Φ : Syms} {e : Opq} {K : List Kd} (h : OpqOK P Φ e) (h0 : e.ext = 0) (h1 : e.same = false) (ha : e.args = [.agg K, .agg K]) (hr : e.res = .p (.one (.f .f32))) (u1 u2 : Value) (p q : List NV) (w : World) (hp : ShM (.agg K) u1 p) (hq : ShM (.agg K) u2 q) :
    Calls P e.f #[u1, u2] w fun en w' => ∃ v, en = .returned v ∧ (∃ x, v = .float .f32 x ∧ FIs .f32 x (Φ (e.sym * 64 + 0) (canK K p ++ canK K q)).gf) ∧ Stays w w' := by
  have := opq_symR h h0 h1 #[u1, u2] (canK K p ++ canK K q) w (by rw [ha]; exact ⟨_, _, rfl, (ShM_can hp).1, _, [], by simp, (ShM_can hq).1, rfl⟩)
  refine this.mono ?_
  rintro en w' ⟨v', rfl, hm, hs⟩
  rw [hr] at hm
  obtain ⟨n, hn, x, hx, hf⟩ := hm
  cases hn
  exact ⟨v', rfl, ⟨x, hx, hf⟩, hs⟩

theorem c_l07Square (u1 u2 : Value) (p q : List NV) (h1 : ShM (.agg KPt) u1 p) (h2 : ShM (.agg KPt) u2 q) (w : World) : Calls Try.prog 133 #[u1, u2] w fun e w' => ∃ v, e = .returned v ∧ (∃ x, v = .float .f32 x ∧ FIs .f32 x (squO p q)) ∧ Stays w w' :=
  calls_pair oSqu.okS rfl rfl rfl rfl u1 u2 p q w h1 h2
theorem c_squareBetween (u1 u2 : Value) (p q : List NV) (h1 : ShM (.agg KPt) u1 p) (h2 : ShM (.agg KPt) u2 q) (w : World) : Calls Try.prog 78 #[u1, u2] w fun e w' => ∃ v, e = .returned v ∧ (∃ x, v = .float .f32 x ∧ FIs .f32 x (squO p q)) ∧ Stays w w' :=
  calls_pair oSqu.okI rfl rfl rfl rfl u1 u2 p q w h1 h2

/-- What a square and its root may be. -/
def rootS (f1 f2 : FuncId) (A0 : Array Value) (o : Option Nat) (f : FuncId) (args : Array Value) (v : Value) : Prop :=
  (f = f1 → args = A0 → ∃ x, v = .float .f32 x ∧ FIs .f32 x o) ∧ (f = f2 → ∀ y, args = #[.float .f32 y] → FIs .f32 y o → ∃ x, v = .float .f32 x ∧ FIs .f32 x (froot o))

theorem rootS_1 {f1 f2 : FuncId} {A0 : Array Value} {o : Option Nat} (hne : f1 ≠ f2) {v : Value} : rootS f1 f2 A0 o f1 A0 v ↔ ∃ x, v = .float .f32 x ∧ FIs .f32 x o :=
  ⟨fun h => h.1 rfl rfl, fun h => ⟨fun _ _ => h, fun e => absurd e hne⟩⟩
theorem rootS_2 {f1 f2 : FuncId} {A0 : Array Value} {o : Option Nat} (hne : f1 ≠ f2) {y : Nat} (hy : FIs .f32 y o) {v : Value} : rootS f1 f2 A0 o f2 #[.float .f32 y] v ↔ ∃ x, v = .float .f32 x ∧ FIs .f32 x (froot o) :=
  ⟨fun h => h.2 rfl y rfl hy, fun h => ⟨fun e => absurd e.symm hne, fun _ z e hz => h⟩⟩

theorem c_l01RootO (y : Nat) (o : Option Nat) (hy : FIs .f32 y o) (w : World) : Calls Try.prog 134 #[.float .f32 y] w fun e w' => ∃ v, e = .returned v ∧ (∃ x, v = .float .f32 x ∧ FIs .f32 x (froot o)) ∧ Stays w w' := by
  have := c_l01Root y w
  unfold r_root at this
  rw [hy.out] at this
  exact this
theorem c_rootOfO (y : Nat) (o : Option Nat) (hy : FIs .f32 y o) (w : World) : Calls Try.prog 77 #[.float .f32 y] w fun e w' => ∃ v, e = .returned v ∧ (∃ x, v = .float .f32 x ∧ FIs .f32 x (froot o)) ∧ Stays w w' := by
  have := c_rootOf y w
  unfold r_root at this
  rw [hy.out] at this
  exact this

def LenAs (w : World) (o : Option Nat) (code : Int) (e : Ending) (w' : World) : Prop := ∃ x, e = .returned (.tuple #[.float .f32 x, .int .i64 code]) ∧ FIs .f32 x o ∧ Below w.heap.size w w'
noncomputable def lenVal (ps : List (List NV)) : Option Nat := if wayB ps = true then lenTo ps (ps.length - 1) else can .f32 0
noncomputable def lenCode (ps : List (List NV)) : Int := if wayB ps = true then 0 else 2

theorem wayB_pos {xs : List (List NV)} (h : wayB xs = true) : 1 ≤ xs.length ∧ xs.length ≤ 600 := by
  unfold wayB at h
  rw [Bool.and_eq_true] at h
  exact of_decide_eq_true h.2

theorem slice_tail {ad : Addr} {n c : Nat} (h1 : 1 ≤ n) (hc : n ≤ c) : ∃ A', (∀ w, (Instr.slice 43 (.slice (some ad) n c) (some (.int .i64 1)) none none).run Try.prog w = .ok (.slice A' (n - 1) (c - 1)) w) ∧ (1 < n → A' = some (ad.add 2)) := by
  have hsz : ∀ w : World, (sizeOf (Try.prog.elem 43)).run Try.prog w = .ok 2 w := fun w => by kernel_rfl
  have hel : Try.prog.elem 43 = 26 := by kernel_rfl
  refine ⟨if c = 1 then some ad else some (ad.add 2), fun w => ?_, fun h => if_neg (by omega)⟩
  rw [run_slice_l w 43 (some ad) n c (by rw [hel]; exact Try.underlying43) .i64 1 (by decide) (by omega), hsz]
  by_cases h : c = 1
  · subst h; rfl
  · simp [Result.andThen, sliced, h]

end Go.Proofs.Ytejljfejajckoaa
