/- The base table of the seat. No condition. -/
import Derived.Test.YteidjmliepmlmaaOb
import Derived.Test.YteidjmliepmlmaaTb
namespace Go.Proofs.Yteidjmliepmlmaa
open Go Go.RowKit

def otb : OTab := [oneB 94 1 .f32,
  oneB 75 1 .f32,
  oneF 98 2 .f32,
  oneF 81 2 .f32,
  oneF 95 3 .f32,
  oneF 99 4 .f64,
  oneF 102 5 .f64,
  { f := 104, sym := 0, args := [], res := .p (.one .b), ext := 2 },
  { f := 84, sym := 0, args := [.one (.f .f64)], res := .p (.one .b), same := true }]
def baseΦ : Syms := symsOf baseSyms
theorem base_of {f : Nat → Nat → List NV → NV} (h : ∀ s j l, s < 10 → f s j l = baseSyms s j l) : Base (symsOf f) := fun s j l hs hj => by
  unfold symsOf
  rw [show (s * 64 + j) / 64 = s by omega, show (s * 64 + j) % 64 = j by omega]
  exact h s j l hs
theorem otb_ok {Φ : Syms} (H : Base Φ) : ∀ e ∈ otb, OpqOK Try.prog Φ e := by
  intro e he
  simp only [otb, List.mem_cons, List.not_mem_nil, or_false] at he
  rcases he with rfl | rfl | rfl | rfl | rfl | rfl | rfl | rfl | rfl
  · exact o_l01Finite H
  · exact o_isFinite H
  · exact o_l01Root H
  · exact o_rootOf H
  · exact o_sizeOf H
  · exact o_Sqrt H
  · exact o_Abs H
  · exact o_frombits64 H
  · exact o_sameFloat H
theorem baseΦ_ok : Base baseΦ := base_of fun _ _ _ _ => rfl
end Go.Proofs.Yteidjmliepmlmaa
