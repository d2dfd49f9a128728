/- The walk of spliced. -/
import Derived.Test.YtbipdfeikmchcaaW8
import Derived.StillTailTactics
namespace Go.Proofs.Ytbipdfeikmchcaa
open Go.RowKit
set_option linter.unusedVariables false

end Go.Proofs.Ytbipdfeikmchcaa
