/- The contract of spec.SumGamble. Conditions: rows that read as lists. -/
import Derived.Test.YtfdgelikmhaagaaGe
namespace Go.Proofs.Ytfdgelikmhaagaa
open Go.RowKit
set_option linter.unusedVariables false

end Go.Proofs.Ytfdgelikmhaagaa
