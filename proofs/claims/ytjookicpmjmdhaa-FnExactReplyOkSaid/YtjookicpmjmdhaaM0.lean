/- What the model's Halves answers, as plain functions. -/
import Derived.Test.YtjookicpmjmdhaaN2
import Derived.Test.YtjookicpmjmdhaaW14
namespace Go.Proofs.Ytjookicpmjmdhaa
open Go.RowKit

/-! ### Chapter 6 -/

def guardH (x : Nd) (k v at_ : Int) : Bool := nodeOk x && (decide (x.ps.length = 4) && (rightB k v && (!hitB x.ps k && (inside x k && numB at_))))
def upN (x : Nd) (k v : Int) : Nd := ⟨x.lv, (insL x.ps k v).drop 3, x.hi, x.ri, 0⟩
def loN (x : Nd) (k v at_ : Int) : Nd := ⟨x.lv, (insL x.ps k v).take 3, kAt (insL x.ps k v) 3, at_, x.ow⟩
def halfB (x : Nd) (k v at_ : Int) : Bool := guardH x k v at_ && (nodeOk (loN x k v at_) && nodeOk (upN x k v))
def zeroN : Nd := ⟨0, [], 0, 0, 0⟩
def loH (x : Nd) (k v at_ : Int) : Nd := if halfB x k v at_ then loN x k v at_ else zeroN
def upH (x : Nd) (k v at_ : Int) : Nd := if halfB x k v at_ then upN x k v else zeroN
end Go.Proofs.Ytjookicpmjmdhaa
