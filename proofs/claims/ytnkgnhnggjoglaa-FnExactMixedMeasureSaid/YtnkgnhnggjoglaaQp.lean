/- A row of quotes that came in reads as a list. Conditions: what the form tells of an argument. -/
import Derived.Test.YtnkgnhnggjoglaaQd
import Derived.Deep.SlicePairs
import Derived.Lib.SmallJoins
namespace Go.Proofs.Ytnkgnhnggjoglaa
open Go.RowKit Go.Deep
set_option linter.unusedVariables false

def intIn : Value → Int
  | .int _ n => n
  | _ => 0

end Go.Proofs.Ytnkgnhnggjoglaa
