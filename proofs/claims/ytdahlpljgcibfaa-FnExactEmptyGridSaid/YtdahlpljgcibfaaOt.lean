/- The base table of the seat. No condition. -/
import Derived.Test.YtdahlpljgcibfaaOb
import Derived.Test.YtdahlpljgcibfaaTb
namespace Go.Proofs.Ytdahlpljgcibfaa
open Go Go.RowKit

def otb : OTab := []
def baseΦ : Syms := symsOf baseSyms
theorem base_of {f : Nat → Nat → List NV → NV} (h : ∀ s j l, s < 10 → f s j l = baseSyms s j l) : Base (symsOf f) := fun s j l hs hj => by
  unfold symsOf
  rw [show (s * 64 + j) / 64 = s by omega, show (s * 64 + j) % 64 = j by omega]
  exact h s j l hs
theorem otb_ok {Φ : Syms} (_ : Base Φ) : ∀ e ∈ otb, OpqOK Try.prog Φ e := by
  intro e he
  cases he
theorem baseΦ_ok : Base baseΦ := base_of fun _ _ _ _ => rfl
end Go.Proofs.Ytdahlpljgcibfaa
