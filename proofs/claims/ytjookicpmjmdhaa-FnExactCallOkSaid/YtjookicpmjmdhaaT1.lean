/- Lists of nodes counted; the walks of the laws' szNodeS and szTree. -/
import Derived.Test.YtjookicpmjmdhaaG2
namespace Go.Proofs.Ytjookicpmjmdhaa
open Go.RowKit

/-- How many pairs the first k nodes hold. -/
def psTo (xs : List Nd) : Nat → Nat
  | 0 => 0
  | k + 1 => psTo xs k + (ndAt xs k).ps.length
theorem psTo_mono (xs : List Nd) : ∀ (m k : Nat), k ≤ m → psTo xs k ≤ psTo xs m := by
  intro m
  induction m with
  | zero => intro k hk; obtain rfl : k = 0 := by omega
            exact Nat.le_refl _
  | succ m ih =>
    intro k hk
    rcases Nat.lt_or_ge m k with h | h
    · obtain rfl : k = m + 1 := by omega
      exact Nat.le_refl _
    · exact Nat.le_trans (ih k h) (Nat.le_add_right _ _)
/-- What the laws count of a list of nodes. -/
def szs (xs : List Nd) : Nat := xs.length + psTo xs xs.length
theorem szs_len {xs : List Nd} (h : szs xs ≤ 1048576) : xs.length ≤ 1048576 := by unfold szs at h; omega
theorem szs_ps {xs : List Nd} (h : szs xs ≤ 1048576) (i : Nat) (hi : i < xs.length) : (ndAt xs i).ps.length ≤ 1048576 := by
  have := psTo_mono xs xs.length (i + 1) hi
  unfold szs at h
  simp only [psTo] at this
  omega
/-- What is left of L when m is taken off. -/
def leftI (L m : Nat) : Int := if m ≤ L then (L : Int) - m else -1

end Go.Proofs.Ytjookicpmjmdhaa
