/- The laws' comparison of slices of ints. -/
import Derived.Test.YtgjbbidcpmglbaaIntR
import Derived.Test.YtgjbbidcpmglbaaChecked
import Derived.Deep.QuietTactic
import Derived.BigQuiet
import Derived.Deep.RegionHeld3
namespace Go.Proofs.Ytgjbbidcpmglbaa
open Go.ChangeShapes Go.WideShapes Go.ChangeAt Go.RowKit
set_option linter.unusedVariables false

end Go.Proofs.Ytgjbbidcpmglbaa
