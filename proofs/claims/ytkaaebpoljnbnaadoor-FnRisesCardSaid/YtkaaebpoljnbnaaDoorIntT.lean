/- A copy of a slice of ints: its contract. -/
import Derived.Test.YtkaaebpoljnbnaaDoorIntI
import Derived.Test.YtkaaebpoljnbnaaDoorChecked
import Derived.Deep.QuietTactic
import Derived.BigQuiet
import Derived.Deep.RegionHeld3
namespace Go.Proofs.YtkaaebpoljnbnaaDoor
open Go.ChangeShapes Go.WideShapes Go.ChangeAt Go.RowKit
set_option linter.unusedVariables false

end Go.Proofs.YtkaaebpoljnbnaaDoor
