/- A slice of ints of the call's own, in one block: its marking. -/
import Derived.Test.YtgjbbidcpmglbaaOwnI
namespace Go.Proofs.Ytgjbbidcpmglbaa
open Go.ChangeShapes Go.WideShapes Go.ChangeAt Go.RowKit
set_option linter.unusedVariables false
set_option linter.unusedSimpArgs false
end Go.Proofs.Ytgjbbidcpmglbaa
