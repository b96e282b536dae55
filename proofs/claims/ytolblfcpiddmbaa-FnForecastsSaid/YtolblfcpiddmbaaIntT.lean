/- A copy of a slice of ints: its contract. -/
import Derived.Test.YtolblfcpiddmbaaIntI
import Derived.Test.YtolblfcpiddmbaaChecked
import Derived.Deep.QuietTactic
import Derived.BigQuiet
import Derived.Deep.RegionHeld3
namespace Go.Proofs.Ytolblfcpiddmbaa
open Go.ChangeShapes Go.WideShapes Go.ChangeAt Go.RowKit
set_option linter.unusedVariables false

end Go.Proofs.Ytolblfcpiddmbaa
