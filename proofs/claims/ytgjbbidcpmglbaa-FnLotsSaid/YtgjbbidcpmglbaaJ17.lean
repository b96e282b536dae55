/- Chapter 17: Reached: the model. -/
import Derived.Test.YtgjbbidcpmglbaaR17
import Derived.Test.YtgjbbidcpmglbaaBWays
import Derived.Test.YtgjbbidcpmglbaaApp
namespace Go.Proofs.Ytgjbbidcpmglbaa
open Go.ChangeShapes Go.WideShapes Go.ChangeAt Go.RowKit
set_option linter.unusedVariables false
set_option linter.unusedSimpArgs false
set_option maxHeartbeats 2000000

end Go.Proofs.Ytgjbbidcpmglbaa
