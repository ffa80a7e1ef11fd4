/- For all arguments, FnExactInsertReading returns true; its arguments read as before. No condition. -/
import Derived.Test.YtmcbeaihjdnelaaMgj
namespace Go.Proofs.Ytmcbeaihjdnelaa.fnExactInsertReading
open Go Go.ChangeShapes Go.WideShapes Go.ChangeAt Go.RowKit
set_option linter.unusedVariables false

theorem own : ownKnob Try.prog.godebug = none := by kernel_rfl
theorem laidOut : laidOutB Try.prog = true := by kernel_rfl

theorem c_law2 {p : Prop} (A : Option Addr) (c : Nat) (xs : List Rd) (cs : Array Value) (ns : List NV) (w : World) (h : Feed w w.heap.size A xs) (hn : xs.length ≤ 9223372036854775807) (k : KMs [.i .i64, .i .i16, .i .i16, .i .i16] cs.toList ns) (_ : p) :
    Calls Try.prog 8 #[.slice A xs.length c, .agg cs] w fun e w' => e = .returned (.bool true) ∧ Below w.heap.size w w' := by
  obtain ⟨l⟩ := cs
  match l, KMs_len k, ns, KMs_rlen k, k with
  | [a, b, c1, d], _, [x, y, z, u], _, ⟨h1, h2, h3, h4, _⟩ =>
    have h1 : a = .int .i64 x.gi := h1
    have h2 : b = .int .i16 y.gi := h2
    have h3 : c1 = .int .i16 z.gi := h3
    have h4 : d = .int .i16 u.gi := h4
    subst h1 h2 h3 h4
    exact c_lawInsertReading A c xs ⟨x.gi, y.gi, z.gi, u.gi⟩ w h hn

set_option maxRecDepth 100000 in
theorem lifted (os : Os) (started : os.Started) (H : Type) (enc : TypeId × Value → H) :
    ReturnsInHanded {} Try.checked os 8 .any (Rows.fnExactInsertReadingSpec.pre6 enc Try.prog Try.f8 Rows.fnExactInsertReadingRow.domain false) (Rows.fnExactInsertReadingSpec.post enc Try.prog Try.f8 false true false false) := by
  refine returnsInHanded_of_change (C := Try.checked) own started (by kernel_rfl) Try.func8
    (ChangeSpec.witness6 (enc := enc) (C := Try.checked) false ⟨#[], #[.slice none 0 0, .agg #[.int .i64 0, .int .i16 0, .int .i16 0, .int .i16 0]], []⟩ 8 (by kernel_rfl) (by kernel_rfl) (by kernel_rfl) (by kernel_rfl)) ?_
  intro W base args ds gs before hval0 hW hcnd _
  have hval : ∀ (j : Nat) t v, (Try.f8).params.toList[j]? = some t → args.toList[j]? = some v → Value.okWide Try.prog W .any base t v := fun j t v ht hv => hval0 j t v (by simpa using ht) (by simpa using hv)
  have hW' := hW
  obtain ⟨p, q, hA0, hV, rfl, hfz, hnd⟩ := hW
  have hA : DataW.TrodAll enc Try.prog W 0 (fun _ => true) true (Try.f8).params.toList args.toList ds p := hA0
  obtain ⟨rfl, rfl⟩ := trodVars_none hV
  have hA' := hA
  rw [Try.params8] at hA hval
  obtain ⟨v0, vs0, d0, ds0, p0, q0, hargs, rfl, rfl, h0, r0⟩ := trodAll_cons hA
  obtain ⟨v1, vs1, d1, ds1, p1, q1, rfl, rfl, rfl, h1, r1⟩ := trodAll_cons r0
  obtain ⟨rfl, rfl, rfl⟩ := trodAll_nil r1
  obtain ⟨A0, rs0, c0, rfl, hg0, hn0⟩ := open_feed (hval 0 _ v0 rfl (by rw [hargs]; rfl)) h0
  obtain ⟨ns1, ⟨cs1, rfl, k1⟩, rg1⟩ := open_sh (s := .agg [.i .i64, .i .i16, .i .i16, .i .i16]) (by kernel_rfl) (hval 1 _ v1 rfl (by rw [hargs]; rfl)) h1
  have eargs : args = #[.slice A0 rs0.length c0, .agg cs1] := by
    obtain ⟨l⟩ := args
    exact congrArg Array.mk hargs
  rw [eargs]
  refine (c_law2 A0 c0 rs0 cs1 ns1 W hg0 hn0 k1 rg1).mono fun e W' ⟨he, bel⟩ => ?_
  subst he
  have hA2 := all_trod laidOut bel (by kernel_rfl) hA'
  rw [eargs] at hA2 hW'
  exact ⟨_, rfl, _, _, _, [], _, [], hW', trodAll_mk1 (shut_bool Try.underlying4 _), hA2, rfl, bel.frame _, fun h => by cases h⟩

theorem over : Rows.fnExactInsertReadingRow.holds Try.pinned (OpenSpec.ofChange Rows.fnExactInsertReadingSpec) :=
  OpenClaim.holds_of_wide 8 Try.f8 rfl rfl rfl rfl rfl rfl rfl ⟨rfl, rfl, rfl, rfl, rfl⟩ rfl rfl rfl rfl rfl (by kernel_rfl) Try.func8 (by kernel_rfl)
    (of_decide_eq_true (by kernel_rfl)) (by unfold Func.isWrapper; first | (rw [if_pos (by decide +kernel)]; kernel_rfl) | (rw [if_neg (by decide +kernel)]; exact ⟨rfl, rfl⟩))
    (fun os started H enc _ => lifted os started H enc)

theorem proved : Rows.FnExactInsertReadingSaid := over
#print axioms proved
end Go.Proofs.Ytmcbeaihjdnelaa.fnExactInsertReading
