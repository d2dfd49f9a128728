/- A list of pairs that came in, opened: what the form reads as data is what the walks read as cells. -/
import Derived.Test.YtjookicpmjmdhaaW5
import Derived.ProofKit
import Derived.OpenShut
import Derived.ChangeOld
import Derived.Deep.SlicePairs
namespace Go.Proofs.Ytjookicpmjmdhaa
open Go.ChangeShapes Go.WideShapes Go.ChangeAt Go.RowKit Go.Deep

set_option maxRecDepth 100000 in
theorem own : ownKnob Try.prog.godebug = none := by kernel_rfl
set_option maxRecDepth 100000 in
theorem laidOut : laidOutB Try.prog = true := by kernel_rfl
set_option maxRecDepth 100000 in
theorem int_cells : Try.prog.cellsOf 2 = 1 := by kernel_rfl

/-- Both numbers of a pair fit their kind. -/
def Fits (zs : List Pr) : Prop := ∀ i, i < zs.length → (Lit.int .i64 (kAt zs i)).wf = true ∧ (Lit.int .i64 (vAt zs i)).wf = true

end Go.Proofs.Ytjookicpmjmdhaa
