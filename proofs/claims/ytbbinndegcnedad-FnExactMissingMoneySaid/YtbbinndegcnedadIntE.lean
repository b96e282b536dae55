/- The laws' comparison of slices of ints. -/
import Derived.Test.YtbbinndegcnedadIntR
import Derived.Test.YtbbinndegcnedadChecked
import Derived.Deep.QuietTactic
import Derived.BigQuiet
import Derived.Deep.RegionHeld3
namespace Go.Proofs.Ytbbinndegcnedad
open Go.ChangeShapes Go.WideShapes Go.ChangeAt Go.RowKit
set_option linter.unusedVariables false

end Go.Proofs.Ytbbinndegcnedad
