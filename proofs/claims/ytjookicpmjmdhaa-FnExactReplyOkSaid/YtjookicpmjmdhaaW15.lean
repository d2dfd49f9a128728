/- The walks of markPairS and heldPairS: a list's own cells are written over, and read back. -/
import Derived.Test.YtjookicpmjmdhaaW14
namespace Go.Proofs.Ytjookicpmjmdhaa
open Go.RowKit

/-- j marks, the rest as it was. -/
def markTo (zs : List Pr) (k : Nat) (j : Nat) : List Pr := ((List.range j).map fun i : Nat => ((k : Int) + 2 * (i : Int), (k : Int) + 2 * (i : Int) + 1)) ++ zs.drop j
theorem markTo_length (zs : List Pr) (k j : Nat) (hj : j ≤ zs.length) : (markTo zs k j).length = zs.length := by simp [markTo]; omega
theorem markTo_next (zs : List Pr) (k j : Nat) (hj : j < zs.length) : (markTo zs k j).set j ((k : Int) + 2 * (j : Int), (k : Int) + 2 * (j : Int) + 1) = markTo zs k (j + 1) := by
  unfold markTo
  rw [List.drop_eq_getElem_cons hj, List.set_append_right _ _ (by simp)]
  simp only [List.length_map, List.length_range, Nat.sub_self, List.set_cons_zero, List.range_succ, List.map_append, List.map_cons, List.map_nil, List.append_assoc, List.singleton_append]
theorem markTo_fst (zs : List Pr) (k j i : Nat) (hi : i < j) : kAt (markTo zs k j) i = (k : Int) + 2 * (i : Int) := by
  unfold kAt markTo
  rw [List.getD_eq_getElem?_getD, List.getElem?_append_left (by simpa using hi)]
  simp [hi]
theorem markTo_snd (zs : List Pr) (k j i : Nat) (hi : i < j) : vAt (markTo zs k j) i = (k : Int) + 2 * (i : Int) + 1 := by
  unfold vAt markTo
  rw [List.getD_eq_getElem?_getD, List.getElem?_append_left (by simpa using hi)]
  simp [hi]

theorem grown_trans {a b c : World} {row : Option Nat} (h : a.grownBy b row) (k : b.grownBy c row) : a.grownBy c row :=
  ⟨k.os.trans h.os, k.tape.trans h.tape, k.output.trans h.output, Nat.le_trans h.size k.size, fun i hi hr => (k.block i (Nat.lt_of_lt_of_le hi h.size) hr).trans (h.block i hi hr)⟩

end Go.Proofs.Ytjookicpmjmdhaa
