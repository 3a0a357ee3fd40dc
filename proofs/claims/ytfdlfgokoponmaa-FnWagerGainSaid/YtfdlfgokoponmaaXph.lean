/- The program's machine of marks, runMarks, at phrases. Conditions: rows that read as lists of marks. (gen_xpg.py) -/
import Derived.Test.YtfdlfgokoponmaaXpg
import Derived.OwnWalk
namespace Go.Proofs.Ytfdlfgokoponmaa
open Go.RowKit
set_option linter.unusedVariables false
set_option linter.unusedSimpArgs false

end Go.Proofs.Ytfdlfgokoponmaa
