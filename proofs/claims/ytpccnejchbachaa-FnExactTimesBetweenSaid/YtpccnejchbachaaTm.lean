/- A number of ticks of a sensor. No condition. -/
import Derived.Test.YtpccnejchbachaaTl
namespace Go.Proofs.Ytpccnejchbachaa
open Go Go.RowKit
set_option linter.unusedVariables false

theorem hi_sensor : Try.prog.inits.idxOf? 40 = none := by kernel_rfl

theorem sen_bad {cells : Value} {b : Bool} {w : World} (k : Calls Try.prog 40 #[cells] w fun e w' => e = .returned (.bool b) ∧ Below w.heap.size w w') (c : Calls Try.prog 40 #[cells] w fun e w' => e = .returned (.bool false) ∧ True) : b = false := by
  have hv := one_value (a := .bool b) (b := .bool false) (Q := fun w' => Below w.heap.size w w') (R := fun _ => True) k c hi_sensor
  injection hv

theorem sen_ev {v : Value} {ins : List NV} (w : World) (h : Sen v ins) (hb : sensB ins = true) : ∃ r0 r1 r2 r3 r4 r5 : Nat, ∃ ev d : Int, v = .agg #[.float .f32 r0, .float .f32 r1, .float .f32 r2, .float .f32 r3, .float .f32 r4, .float .f32 r5, .int .i64 ev, .int .i64 d] ∧ ev = (ins.getD 6 (.i 0)).gi ∧ 1 ≤ ev ∧ ev ≤ 1000000 := by
  have k := c_ValidSensor v ins w h
  generalize sensB ins = sb at hb k
  obtain ⟨r0, r1, r2, r3, r4, r5, ev, d, rfl, _⟩ := h.cells
  obtain ⟨cs, e, hm⟩ := h
  have e : cs = #[.float .f32 r0, .float .f32 r1, .float .f32 r2, .float .f32 r3, .float .f32 r4, .float .f32 r5, .int .i64 ev, .int .i64 d] := by injection e with e; exact e.symm
  subst e
  refine ⟨r0, r1, r2, r3, r4, r5, ev, d, rfl, sen_at6 hm rfl, ?_⟩
  by_cases hc : 1 ≤ ev ∧ ev ≤ 1000000
  · exact hc
  · rw [sen_bad k (c_badSensor r0 r1 r2 r3 r4 r5 ev d w hc)] at hb
    cases hb
end Go.Proofs.Ytpccnejchbachaa
