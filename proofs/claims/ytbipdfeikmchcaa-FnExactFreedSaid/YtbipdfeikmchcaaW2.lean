/- The walks of the loops that only read: where a key stands, whether a list is of right pairs. -/
import Derived.Test.YtbipdfeikmchcaaW1
import Derived.Test.YtbipdfeikmchcaaLst
namespace Go.Proofs.Ytbipdfeikmchcaa
open Go.RowKit


/-- The first place at which the key stands; the length, where none. -/
def atKey (zs : List Pr) (key : Int) : Nat := zs.findIdx (fun p => p.1 == key)
def whereI (zs : List Pr) (key : Int) : Int := if atKey zs key < zs.length then (atKey zs key : Int) else -1
theorem atKey_of (zs : List Pr) (key : Int) (k : Nat) (hk : k < zs.length) (h : kAt zs k = key) (hn : ∀ j, j < k → kAt zs j ≠ key) : atKey zs key = k := by
  unfold atKey
  rw [List.findIdx_eq hk]
  refine ⟨by rw [kAt_eq _ _ hk] at h; simpa using h, fun j hj => ?_⟩
  have := hn j hj
  rw [kAt_eq _ _ (by omega)] at this
  simpa using this
theorem atKey_none (zs : List Pr) (key : Int) (hn : ∀ j, j < zs.length → kAt zs j ≠ key) : atKey zs key = zs.length := by
  unfold atKey
  rw [List.findIdx_eq_length]
  intro x hx
  obtain ⟨i, hi, rfl⟩ := List.getElem_of_mem hx
  have := hn i hi
  rw [kAt_eq _ _ hi] at this
  simpa using this

end Go.Proofs.Ytbipdfeikmchcaa
