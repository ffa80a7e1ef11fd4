/- What the body-less functions of package math give, in this translation. No condition. -/
import Derived.Test.YtdahlpljgcibfaaRows
import Derived.Test.YtdahlpljgcibfaaFw
namespace Go.Proofs.Ytdahlpljgcibfaa
open Go Go.RowKit
set_option linter.unusedVariables false

end Go.Proofs.Ytdahlpljgcibfaa
