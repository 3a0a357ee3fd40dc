/- The contract of spec.SumGamble. Conditions: rows that read as lists. -/
import Derived.Test.YtdgaakdlnihejaaGe
namespace Go.Proofs.Ytdgaakdlnihejaa
open Go.RowKit
set_option linter.unusedVariables false

end Go.Proofs.Ytdgaakdlnihejaa
