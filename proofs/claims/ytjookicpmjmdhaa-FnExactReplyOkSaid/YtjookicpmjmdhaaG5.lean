/- Lists of pairs as a kind of the laws' values: the same four contracts. -/
import Derived.Test.YtjookicpmjmdhaaG4
namespace Go.Proofs.Ytjookicpmjmdhaa
open Go.RowKit

end Go.Proofs.Ytjookicpmjmdhaa
