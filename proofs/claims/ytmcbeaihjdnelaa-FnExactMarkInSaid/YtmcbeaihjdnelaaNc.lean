/- Maps: the law on valid ones. No condition. -/
import Derived.Test.YtmcbeaihjdnelaaNb
import Derived.Deep.RegionHeld
namespace Go.Proofs.Ytmcbeaihjdnelaa
open Go Go.RowKit
set_option linter.unusedVariables false
set_option linter.unusedSimpArgs false

end Go.Proofs.Ytmcbeaihjdnelaa
