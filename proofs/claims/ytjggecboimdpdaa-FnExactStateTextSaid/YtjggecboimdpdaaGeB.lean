/- Spots of grids: what is asked of a list of spots; the cost of a spot, as the document says it. No condition. -/
import Derived.Test.YtjggecboimdpdaaGeA
namespace Go.Proofs.Ytjggecboimdpdaa
open Go Go.RowKit
set_option linter.unusedVariables false
set_option linter.unusedSimpArgs false

/-- A spot as a value. -/
def IsSpot (v : Value) (x y : Int) : Prop := v = .agg #[.int .i16 x, .int .i16 y]

def askC (a b : Int) (n : Nat) (x y : Int) : Int := if gridB a b n then (if hasB a b x y then 0 else 2) else 1

def costV (a b : Int) (xs : List Int) (x y : Int) : Int := if gridB a b xs.length && hasB a b x y then xs.getD (y * a + x).toNat 0 else 0

end Go.Proofs.Ytjggecboimdpdaa
