/- The walk of spliced. -/
import Derived.Test.YtlfbnnpchpjjbaaW8
import Derived.StillTailTactics
namespace Go.Proofs.Ytlfbnnpchpjjbaa
open Go.RowKit
set_option linter.unusedVariables false

end Go.Proofs.Ytlfbnnpchpjjbaa
