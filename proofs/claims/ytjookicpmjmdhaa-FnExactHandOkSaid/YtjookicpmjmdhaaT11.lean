/- The walk of the model's LowerOf. -/
import Derived.Test.YtjookicpmjmdhaaG4
namespace Go.Proofs.Ytjookicpmjmdhaa
open Go.RowKit

def lowerB (x y : Nd) : Bool := nodeOk x && (nodeOk y && (decide (x.lv = y.lv) && (decide (0 ≤ x.hi) && (decide (y.ps.length = 0) || decide (x.hi ≤ kAt y.ps 0)))))

end Go.Proofs.Ytjookicpmjmdhaa
