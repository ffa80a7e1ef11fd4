/- For all arguments, FnExactMarkIn returns true; its arguments read as before. No condition. -/
import Derived.Test.YtmcbeaihjdnelaaMiE
namespace Go.Proofs.Ytmcbeaihjdnelaa.fnExactMarkIn
open Go Go.ChangeShapes Go.WideShapes Go.ChangeAt Go.RowKit
set_option linter.unusedVariables false

theorem own : ownKnob Try.prog.godebug = none := by kernel_rfl
theorem laidOut : laidOutB Try.prog = true := by kernel_rfl

theorem c_law2 {p : Prop} (v : Value) (o : Option Nat) (xs : List Mk) (cs : Array Value) (ns : List NV) (w : World) (h : MpV w w.heap.size v o xs) (hn : xs.length ≤ 9223372036854775807) (k : KMs plK cs.toList ns) (_ : p) :
    Calls Try.prog 5 #[v, .agg cs] w fun e w' => e = .returned (.bool true) ∧ Below w.heap.size w w' := by
  obtain ⟨l⟩ := cs
  match l, KMs_len k, ns, KMs_rlen k, k with
  | [a, b, c], _, [x, y, z], _, ⟨h1, h2, h3, _⟩ =>
    have h1 : a = .int .i32 x.gi := h1
    have h2 : b = .int .i32 y.gi := h2
    have h3 : c = .int .i32 z.gi := h3
    subst h1 h2 h3
    exact c_lawMarkIn v o xs x.gi y.gi z.gi w h hn

set_option maxRecDepth 100000 in
theorem lifted (os : Os) (started : os.Started) (H : Type) (enc : TypeId × Value → H) :
    ReturnsInHanded {} Try.checked os 5 .any (Rows.fnExactMarkInSpec.pre6 enc Try.prog Try.f5 Rows.fnExactMarkInRow.domain false) (Rows.fnExactMarkInSpec.post enc Try.prog Try.f5 false true false false) := by
  refine returnsInHanded_of_change (C := Try.checked) own started (by kernel_rfl) Try.func5
    (ChangeSpec.witness6 (enc := enc) (C := Try.checked) false ⟨#[], #[.agg #[.float .f32 0, .slice none 0 0], .agg #[.int .i32 0, .int .i32 0, .int .i32 0]], []⟩ 8 (by kernel_rfl) (by kernel_rfl) (by kernel_rfl) (by kernel_rfl)) ?_
  intro W base args ds gs before hval0 hW hcnd _
  have hval : ∀ (j : Nat) t v, (Try.f5).params.toList[j]? = some t → args.toList[j]? = some v → Value.okWide Try.prog W .any base t v := fun j t v ht hv => hval0 j t v (by simpa using ht) (by simpa using hv)
  have hW' := hW
  obtain ⟨p, q, hA0, hV, rfl, hfz, hnd⟩ := hW
  have hA : DataW.TrodAll enc Try.prog W 0 (fun _ => true) true (Try.f5).params.toList args.toList ds p := hA0
  obtain ⟨rfl, rfl⟩ := trodVars_none hV
  have hA' := hA
  rw [Try.params5] at hA hval
  obtain ⟨v0, vs0, d0, ds0, p0, q0, hargs, rfl, rfl, h0, r0⟩ := trodAll_cons hA
  obtain ⟨v1, vs1, d1, ds1, p1, q1, rfl, rfl, rfl, h1, r1⟩ := trodAll_cons r0
  obtain ⟨rfl, rfl, rfl⟩ := trodAll_nil r1
  obtain ⟨o0, xs0, hg0, hn0⟩ := open_map (hval 0 _ v0 rfl (by rw [hargs]; rfl)) h0
  obtain ⟨ns1, ⟨cs1, rfl, k1⟩, rg1⟩ := open_sh (s := .agg [.i .i32, .i .i32, .i .i32]) (by kernel_rfl) (hval 1 _ v1 rfl (by rw [hargs]; rfl)) h1
  have eargs : args = #[v0, .agg cs1] := by
    obtain ⟨l⟩ := args
    exact congrArg Array.mk hargs
  rw [eargs]
  refine (c_law2 v0 o0 xs0 cs1 ns1 W hg0 hn0 k1 rg1).mono fun e W' ⟨he, bel⟩ => ?_
  subst he
  have hA2 := all_trod laidOut bel (by kernel_rfl) hA'
  rw [eargs] at hA2 hW'
  exact ⟨_, rfl, _, _, _, [], _, [], hW', trodAll_mk1 (shut_bool Try.underlying4 _), hA2, rfl, bel.frame _, fun h => by cases h⟩

theorem over : Rows.fnExactMarkInRow.holds Try.pinned (OpenSpec.ofChange Rows.fnExactMarkInSpec) :=
  OpenClaim.holds_of_wide 5 Try.f5 rfl rfl rfl rfl rfl rfl rfl ⟨rfl, rfl, rfl, rfl, rfl⟩ rfl rfl rfl rfl rfl (by kernel_rfl) Try.func5 (by kernel_rfl)
    (of_decide_eq_true (by kernel_rfl)) (by unfold Func.isWrapper; first | (rw [if_pos (by decide +kernel)]; kernel_rfl) | (rw [if_neg (by decide +kernel)]; exact ⟨rfl, rfl⟩))
    (fun os started H enc _ => lifted os started H enc)

theorem proved : Rows.FnExactMarkInSaid := over
#print axioms proved
end Go.Proofs.Ytmcbeaihjdnelaa.fnExactMarkIn
