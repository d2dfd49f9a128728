/- A node that came in, opened. -/
import Derived.Test.YtjookicpmjmdhaaN2
import Derived.Test.YtjookicpmjmdhaaOpen
namespace Go.Proofs.Ytjookicpmjmdhaa
open Go.ChangeShapes Go.WideShapes Go.ChangeAt Go.RowKit Go.Deep

end Go.Proofs.Ytjookicpmjmdhaa
