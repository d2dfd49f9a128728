/- The walk of spliced. -/
import Derived.Test.YtjookicpmjmdhaaW8
import Derived.StillTailTactics
namespace Go.Proofs.Ytjookicpmjmdhaa
open Go.RowKit
set_option linter.unusedVariables false

end Go.Proofs.Ytjookicpmjmdhaa
