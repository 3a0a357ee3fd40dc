/- Contracts on the program's walk over measures: leastMeasure, layNext. Conditions: at most four worlds, at most 36 grains. -/
import Derived.Test.YtnkgnhnggjoglaaMe
import Derived.Test.YtnkgnhnggjoglaaNc
namespace Go.Proofs.Ytnkgnhnggjoglaa
open Go.RowKit
set_option linter.unusedVariables false

end Go.Proofs.Ytnkgnhnggjoglaa
