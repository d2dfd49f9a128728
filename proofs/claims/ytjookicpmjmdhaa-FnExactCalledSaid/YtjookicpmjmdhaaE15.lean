/- The walks of the code's own NodeOk, Within and KidFor: the small ones. -/
import Derived.Test.YtjookicpmjmdhaaE05
import Derived.Shelf.Abstract
namespace Go.Proofs.Ytjookicpmjmdhaa
open Go.RowKit

theorem inum_is (x : Int) (w : World) :
    Calls Try.prog 72 #[.int .i64 x] w fun e w' => e = .returned (.bool (numB x)) ∧ w = w' := by
  by_cases h1 : 0 ≤ x
  · have g1 : decide (0 ≤ x) = true := by simpa using h1
    go_enter Try.func72, Try.ntmps72
    go_wp2
    go_ret
    exact ⟨ret_bool (by unfold numB inB; rw [Bool.eq_iff_iff]; simp; omega), rfl⟩
  · have g1 : decide (0 ≤ x) = false := by simpa using h1
    go_enter Try.func72, Try.ntmps72
    go_wp2
    go_ret
    exact ⟨ret_bool (by unfold numB inB; symm; simp; omega), rfl⟩

end Go.Proofs.Ytjookicpmjmdhaa
