/- The program's phrases of two parts. Conditions: texts of at most a million bytes. (gen_xpd.py) -/
import Derived.Test.YtfdlfgokoponmaaXpd
namespace Go.Proofs.Ytfdlfgokoponmaa
open Go.RowKit
set_option linter.unusedVariables false
set_option linter.unusedSimpArgs false

end Go.Proofs.Ytfdlfgokoponmaa
