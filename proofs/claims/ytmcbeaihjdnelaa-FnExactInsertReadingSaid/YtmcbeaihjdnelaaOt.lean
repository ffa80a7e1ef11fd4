/- The base table of the seat. No condition. -/
import Derived.Test.YtmcbeaihjdnelaaOb
import Derived.Test.YtmcbeaihjdnelaaTb
namespace Go.Proofs.Ytmcbeaihjdnelaa
open Go Go.RowKit

def otb : OTab := [oneB 109 1 .f32,
  oneB 128 1 .f32,
  oneF 136 3 .f32,
  oneF 140 5 .f64,
  { f := 142, sym := 0, args := [], res := .p (.one .b), ext := 2 },
  { f := 110, sym := 6, args := [.one (.f .f32), .one (.f .f32)], res := .p (.one .b) },
  { f := 32, sym := 0, args := [.one (.f .f64)], res := .p (.one .b), same := true }]
def baseΦ : Syms := symsOf baseSyms
theorem base_of {f : Nat → Nat → List NV → NV} (h : ∀ s j l, s < 10 → f s j l = baseSyms s j l) : Base (symsOf f) := fun s j l hs hj => by
  unfold symsOf
  rw [show (s * 64 + j) / 64 = s by omega, show (s * 64 + j) % 64 = j by omega]
  exact h s j l hs
theorem otb_ok {Φ : Syms} (H : Base Φ) : ∀ e ∈ otb, OpqOK Try.prog Φ e := by
  intro e he
  simp only [otb, List.mem_cons, List.not_mem_nil, or_false] at he
  rcases he with rfl | rfl | rfl | rfl | rfl | rfl | rfl
  · exact o_l01Finite H
  · exact o_isFinite H
  · exact o_sizeOf H
  · exact o_Abs H
  · exact o_frombits64 H
  · exact o_l01Same H
  · exact o_sameFloat H
theorem baseΦ_ok : Base baseΦ := base_of fun _ _ _ _ => rfl
end Go.Proofs.Ytmcbeaihjdnelaa
