/- A sensor that is valid has a number of ticks from 1 to 1000000. No condition. -/
import Derived.Test.YtpccnejchbachaaLk
import Derived.Test.YtpccnejchbachaaB3
import Derived.Test.YtpccnejchbachaaGv
namespace Go.Proofs.Ytpccnejchbachaa
open Go Go.RowKit
set_option linter.unusedVariables false
set_option linter.unusedSimpArgs false

/-- Two contracts on one call tell one value. -/
theorem one_value {P : Program} {f : FuncId} {args : Array Value} {w : World} {a b : Value} {Q R : World → Prop} (h : Calls P f args w fun e w' => e = .returned a ∧ Q w') (k : Calls P f args w fun e w' => e = .returned b ∧ R w') (hi : P.inits.idxOf? f = none) : a = b := by
  obtain ⟨n, x, u, hn, hx⟩ := Calls.done (R := fun v w' => v = a ∧ Q w') (h.mono fun e w' he => by rw [he.1]; exact ⟨rfl, he.2⟩) hi
  obtain ⟨m, y, v, hm, hy⟩ := Calls.done (R := fun v w' => v = b ∧ R w') (k.mono fun e w' he => by rw [he.1]; exact ⟨rfl, he.2⟩) hi
  have e := runN_ended hn m
  rw [Nat.add_comm, runN_ended hm n] at e
  injection e with e1 _
  injection e1 with e2
  rw [← hx.1, ← hy.1, e2]

set_option maxRecDepth 100000 in
set_option maxHeartbeats 1000000 in
theorem c_badSensor (r0 r1 r2 r3 r4 r5 : Nat) (ev d : Int) (w : World) (h : ¬ (1 ≤ ev ∧ ev ≤ 1000000)) :
    Calls Try.prog 40 #[.agg #[.float .f32 r0, .float .f32 r1, .float .f32 r2, .float .f32 r3, .float .f32 r4, .float .f32 r5, .int .i64 ev, .int .i64 d]] w fun e w' => e = .returned (.bool false) ∧ True := by
  have k1 := Lib.hid fun W => c_implIsFiniteVec r0 r1 r2 W
  have k2 := Lib.hid fun W => c_implIsFiniteVec r3 r4 r5 W
  have hbox := heap_alloc_new w (.cells #[.float .f32 r0, .float .f32 r1, .float .f32 r2, .float .f32 r3, .float .f32 r4, .float .f32 r5, .int .i64 ev, .int .i64 d] 31)
  have HB := Lib.hid fun W (hb : Stays (w.alloc (.cells #[.float .f32 r0, .float .f32 r1, .float .f32 r2, .float .f32 r3, .float .f32 r4, .float .f32 r5, .int .i64 ev, .int .i64 d] 31)) W) => And.intro (And.intro (row_of hb hbox 0) (And.intro (row_of hb hbox 1) (row_of hb hbox 2))) (And.intro (And.intro (row_of hb hbox 3) (And.intro (row_of hb hbox 4) (row_of hb hbox 5))) (And.intro (row_of hb hbox 6) (row_of hb hbox 7)))
  clear hbox
  go_enter Try.func40, Try.ntmps40
  go_wp2_with fail
  refine (k1.out _).mono ?_
  rintro e w1 ⟨v1, rfl, hv1, hw1⟩
  replace hv1 : v1 = .bool (finV r0 r1 r2) := hv1
  subst hv1
  obtain ⟨⟨a0, a1, a2⟩, ⟨a3, a4, a5⟩, a6, a7⟩ := HB.out _ hw1
  replace hw1 := Lib.hid hw1
  cases h1 : finV r0 r1 r2 with
  | false => go_wp2; go_ret; exact ⟨rfl, trivial⟩
  | true =>
    clear h1
    go_wp2_with fail
    refine (k2.out _).mono ?_
    rintro e w2 ⟨v2, rfl, hv2, hw2⟩
    replace hv2 : v2 = .bool (finV r3 r4 r5) := hv2
    subst hv2
    clear a0 a1 a2 a3 a4 a5 a6 a7
    obtain ⟨⟨a0, a1, a2⟩, ⟨a3, a4, a5⟩, a6, a7⟩ := HB.out _ (hw1.out.trans hw2)
    replace hw2 := Lib.hid hw2
    cases h2 : finV r3 r4 r5 with
    | false => go_wp2; go_ret; exact ⟨rfl, trivial⟩
    | true =>
      clear h2
      cases z0 : (FloatKind.f32.format.order r0 0 == some Ordering.eq)
      · cases z1 : (FloatKind.f32.format.order r1 0 == some Ordering.eq)
        · cases z2 : (FloatKind.f32.format.order r2 0 == some Ordering.eq)
          · by_cases e1 : 1 ≤ ev
            · have e2 : ¬ ev ≤ 1000000 := fun e => h ⟨e1, e⟩
              clear h
              go_wp2
              all_goals (go_ret; first | exact ⟨rfl, trivial⟩ | exact rfl)
            · clear h
              go_wp2
              all_goals (go_ret; first | exact ⟨rfl, trivial⟩ | exact rfl)
          · clear h; go_wp2; go_ret; exact ⟨rfl, trivial⟩
        · clear h; go_wp2; go_ret; exact ⟨rfl, trivial⟩
      · clear h; go_wp2; go_ret; exact ⟨rfl, trivial⟩

end Go.Proofs.Ytpccnejchbachaa
