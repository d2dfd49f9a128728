/- The walks of slices.Grow from nil, slices.Concat over three lists, and spliced. -/
import Derived.Test.YtjookicpmjmdhaaW7
import Derived.Lib.AppendZerosOnto
namespace Go.Proofs.Ytjookicpmjmdhaa
open Go.RowKit

def GrownNil (w : World) (e : Ending) (w' : World) : Prop := ∃ v, e = .returned v ∧ w'.ownsRow w.heap.size 86 2 v 0 (PL []) ∧ Below w.heap.size w w'

/-- The first k lists' lengths, summed; the first k lists, one behind the other. -/
def sumTo (n : Nat → Nat) : Nat → Nat
  | 0 => 0
  | k + 1 => sumTo n k + n k
def catTo (Z : Nat → List Pr) : Nat → List Pr
  | 0 => []
  | k + 1 => catTo Z k ++ Z k
theorem sumTo_mono (n : Nat → Nat) : ∀ (m k : Nat), k ≤ m → sumTo n k ≤ sumTo n m := by
  intro m
  induction m with
  | zero => intro k hk; have : k = 0 := by omega
            subst this; exact Nat.le_refl _
  | succ m ih =>
    intro k hk
    rcases Nat.lt_or_ge m k with h | h
    · have : k = m + 1 := by omega
      subst this; exact Nat.le_refl _
    · exact Nat.le_trans (ih k h) (Nat.le_add_right _ _)
theorem catTo_length (n : Nat → Nat) (Z : Nat → List Pr) (m : Nat) (h : ∀ i, i < m → (Z i).length = n i) : ∀ k, k ≤ m → (catTo Z k).length = sumTo n k := by
  intro k
  induction k with
  | zero => intro _; rfl
  | succ k ih => intro hk; simp [catTo, sumTo, ih (by omega), h k (by omega)]

end Go.Proofs.Ytjookicpmjmdhaa
