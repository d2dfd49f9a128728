/- The walk of spliced. -/
import Derived.Test.YtffkppnicejkeaaW8
import Derived.StillTailTactics
namespace Go.Proofs.Ytffkppnicejkeaa
open Go.RowKit
set_option linter.unusedVariables false

end Go.Proofs.Ytffkppnicejkeaa
