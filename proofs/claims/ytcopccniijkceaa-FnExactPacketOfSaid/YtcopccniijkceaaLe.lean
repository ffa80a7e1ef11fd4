/- The law on valid feeds, by the functions' contracts. No condition. -/
import Derived.Test.YtcopccniijkceaaLd
namespace Go.Proofs.Ytcopccniijkceaa
open Go Go.RowKit
set_option linter.unusedVariables false

theorem Feed.more {w : World} {B B' : Nat} {A : Option Addr} {rs : List Rd} (h : Feed w B A rs) (hB : B ≤ B') : Feed w B' A rs := fun i r hr => by
  obtain ⟨ad, e, hlt, h⟩ := h i r hr
  exact ⟨ad, e, by omega, h⟩

end Go.Proofs.Ytcopccniijkceaa
