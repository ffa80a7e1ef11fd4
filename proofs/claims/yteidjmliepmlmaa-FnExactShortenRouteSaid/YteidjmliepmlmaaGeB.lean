/- Spots of grids: what is asked of a list of spots; the cost of a spot, as the document says it. No condition. -/
import Derived.Test.YteidjmliepmlmaaGeA
namespace Go.Proofs.Yteidjmliepmlmaa
open Go Go.RowKit
set_option linter.unusedVariables false
set_option linter.unusedSimpArgs false

/-- A spot as a value. -/
def IsSpot (v : Value) (x y : Int) : Prop := v = .agg #[.int .i16 x, .int .i16 y]

def askC (a b : Int) (n : Nat) (x y : Int) : Int := if gridB a b n then (if hasB a b x y then 0 else 2) else 1

set_option maxRecDepth 100000 in
set_option maxHeartbeats 1000000 in
theorem c_asked1 (p g : Nat) (a b x y : Int) (A : Option Addr) (c n : Nat) (w : World) (hg : w.heap[p]? = some (.cells #[.int .i64 a, .int .i64 b, .slice A n c] 28 (0, 0))) (hn : n ≤ 1048576) (hx : In16 x) (hy : In16 y)
    (hs : ∀ w1, Stays w w1 → w1.cell? ⟨g, 0, none⟩ = some (.int .i16 x) ∧ w1.cell? ⟨g, 1, none⟩ = some (.int .i16 y)) :
    Calls Try.prog 46 #[.pointer (some ⟨p, 0, none⟩), .slice (some ⟨g, 0, none⟩) 1 1] w fun e w' => e = .returned (.int .i64 (askC a b n x y)) ∧ Stays w w' := by
  have k0 := c_l07Ok p a b A c n w hg hn
  have HG := grid_at hg
  have HS := Lib.hid hs
  unfold askC
  cases hgb : gridB a b n with
  | false =>
    rw [hgb] at k0
    replace k0 := Lib.hid k0
    clear hg HG hs
    go_enter Try.func46, Try.ntmps46
    go_wp2_with (go_at_call 58; refine k0.out.mono ?_; rintro e w1 ⟨rfl, hw1⟩)
    go_ret
    exact ⟨rfl, hw1⟩
  | true =>
    obtain ⟨ha, hb, hne⟩ := gridB_iff.1 hgb
    rw [hgb] at k0
    have k1 := fun W (h : Stays w W) => c_l07Spot p a b x y A c n W (HG.on h) ha hb hx hy
    generalize hasB a b x y = q at k1 ⊢
    replace k0 := Lib.hid k0
    replace k1 := Lib.hid k1
    clear hg HG hs ha hb hne hgb hx hy
    cases q
    all_goals
      go_enter Try.func46, Try.ntmps46
      go_wp2_with fail
      refine k0.out.mono ?_
      rintro e w1 ⟨rfl, hw1⟩
      replace hw1 := Lib.hid (show Stays w w1 from hw1)
      obtain ⟨q0, q1⟩ := HS.out w1 hw1.out
      go_wp2
      refine wp_loop_rounds 2 ?_
      rw [rounds_succ]
      go_wp2_with fail
      refine (k1.out w1 hw1.out).mono ?_
      rintro e w2 ⟨rfl, hw2⟩
      replace hw2 := Lib.hid (hw1.out.trans hw2)
      go_wp2
      try rw [rounds_succ]
      try go_wp2
      go_ret
      exact ⟨rfl, hw2.out⟩

def costV (a b : Int) (xs : List Int) (x y : Int) : Int := if gridB a b xs.length && hasB a b x y then xs.getD (y * a + x).toNat 0 else 0

end Go.Proofs.Yteidjmliepmlmaa
