/- Lists of nodes counted; the walks of the laws' szNodeS and szTree. -/
import Derived.Test.YtjookicpmjmdhaaE06
namespace Go.Proofs.Ytjookicpmjmdhaa
open Go.RowKit

def leftI (L m : Nat) : Int := if m ≤ L then (L : Int) - m else -1

end Go.Proofs.Ytjookicpmjmdhaa
