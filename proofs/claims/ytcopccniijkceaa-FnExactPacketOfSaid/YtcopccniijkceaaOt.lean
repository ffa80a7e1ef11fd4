/- The base table of the seat. No condition. -/
import Derived.Test.YtcopccniijkceaaOb
import Derived.Test.YtcopccniijkceaaTb
namespace Go.Proofs.Ytcopccniijkceaa
open Go Go.RowKit

def otb : OTab := [oneB 127 1 .f32,
  oneB 54 1 .f32,
  oneF 118 2 .f32,
  oneF 169 2 .f32,
  oneF 101 3 .f32,
  oneF 147 4 .f64,
  oneF 138 5 .f64,
  oneF 84 8 .f64,
  { f := 186, sym := 0, args := [], res := .p (.one .b), ext := 1 },
  { f := 162, sym := 0, args := [], res := .p (.one .b), ext := 2 },
  { f := 144, sym := 6, args := [.one (.f .f32), .one (.f .f32)], res := .p (.one .b) },
  { f := 192, sym := 7, args := [.one (.f .f32)], res := .p (.one (.i .u32)) },
  { f := 56, sym := 0, args := [.one (.f .f64)], res := .p (.one .b), same := true }]
def baseΦ : Syms := symsOf baseSyms
theorem base_of {f : Nat → Nat → List NV → NV} (h : ∀ s j l, s < 10 → f s j l = baseSyms s j l) : Base (symsOf f) := fun s j l hs hj => by
  unfold symsOf
  rw [show (s * 64 + j) / 64 = s by omega, show (s * 64 + j) % 64 = j by omega]
  exact h s j l hs
theorem otb_ok {Φ : Syms} (H : Base Φ) : ∀ e ∈ otb, OpqOK Try.prog Φ e := by
  intro e he
  simp only [otb, List.mem_cons, List.not_mem_nil, or_false] at he
  rcases he with rfl | rfl | rfl | rfl | rfl | rfl | rfl | rfl | rfl | rfl | rfl | rfl | rfl
  · exact o_l01Finite H
  · exact o_isFinite H
  · exact o_l01Root H
  · exact o_rootOf H
  · exact o_sizeOf H
  · exact o_Sqrt H
  · exact o_Abs H
  · exact o_Floor H
  · exact o_frombits32 H
  · exact o_frombits64 H
  · exact o_l01Same H
  · exact o_numberBits H
  · exact o_sameFloat H
theorem baseΦ_ok : Base baseΦ := base_of fun _ _ _ _ => rfl
end Go.Proofs.Ytcopccniijkceaa
