/- The walks of the model's l1Cut and Cut. -/
import Derived.Test.YtokkpbjldchjpaaW13
namespace Go.Proofs.Ytokkpbjldchjpaa
open Go.RowKit

/-- What of the first j pairs has another key. -/
def leftTo (zs : List Pr) (key : Int) (j : Nat) : List Pr := (zs.take j).filter (fun p => !(p.1 == key))
theorem leftTo_keep (zs : List Pr) (key : Int) (j : Nat) (hj : j < zs.length) (h : kAt zs j ≠ key) : leftTo zs key (j + 1) = leftTo zs key j ++ [(kAt zs j, vAt zs j)] := by
  unfold leftTo
  rw [List.take_succ_eq_append_getElem hj, List.filter_append]
  rw [kAt_eq _ _ hj] at h
  rw [kAt_eq _ _ hj, vAt_eq _ _ hj]
  simp [h]
theorem leftTo_drop (zs : List Pr) (key : Int) (j : Nat) (hj : j < zs.length) (h : kAt zs j = key) : leftTo zs key (j + 1) = leftTo zs key j := by
  unfold leftTo
  rw [List.take_succ_eq_append_getElem hj, List.filter_append]
  rw [kAt_eq _ _ hj] at h
  simp [h]
theorem leftTo_le (zs : List Pr) (key : Int) (j : Nat) : (leftTo zs key j).length ≤ j := by
  unfold leftTo
  exact Nat.le_trans (List.length_filter_le _ _) (by rw [List.length_take]; omega)

theorem leftTo_miss (zs : List Pr) (key : Int) (hp : pOk zs = true) (hh : hitB zs key = false) : leftTo zs key zs.length = zs := by
  have hw := where_miss zs key hp hh
  have hall : ∀ j, j < zs.length → kAt zs j ≠ key := by
    intro j hj he
    have h1 : atKey zs key < zs.length := by
      unfold atKey
      rw [List.findIdx_lt_length]
      exact ⟨zs[j], List.getElem_mem hj, by rw [kAt_eq _ _ hj] at he; simpa using he⟩
    unfold whereI at hw
    rw [if_pos h1] at hw
    omega
  unfold leftTo
  rw [List.take_length, List.filter_eq_self]
  intro p hpm
  obtain ⟨i, hi, rfl⟩ := List.getElem_of_mem hpm
  have := hall i hi
  rw [kAt_eq _ _ hi] at this
  simpa using this
theorem leftTo_hit (zs : List Pr) (key : Int) (hp : pOk zs = true) (hh : hitB zs key = true) : leftTo zs key zs.length = zs.take (geIx zs key) ++ zs.drop (geIx zs key + 1) := by
  have hr := pOk_rise hp
  unfold hitB at hh
  simp only [Bool.and_eq_true, decide_eq_true_eq, beq_iff_eq] at hh
  obtain ⟨hg, he⟩ := hh
  have e : zs = zs.take (geIx zs key) ++ (zs[geIx zs key]'hg :: zs.drop (geIx zs key + 1)) := by
    rw [← List.drop_eq_getElem_cons hg, List.take_append_drop]
  have f1 : (zs.take (geIx zs key)).filter (fun p => !(p.1 == key)) = zs.take (geIx zs key) := by
    rw [List.filter_eq_self]
    intro p hpm
    obtain ⟨i, hi, rfl⟩ := List.getElem_of_mem hpm
    rw [List.length_take] at hi
    have := geIx_lt zs key i (by omega)
    rw [kAt_eq _ _ (by omega)] at this
    rw [List.getElem_take]
    simp; omega
  have f2 : (zs.drop (geIx zs key + 1)).filter (fun p => !(p.1 == key)) = zs.drop (geIx zs key + 1) := by
    rw [List.filter_eq_self]
    intro p hpm
    obtain ⟨i, hi, rfl⟩ := List.getElem_of_mem hpm
    rw [List.length_drop] at hi
    have := rise_lt hr (geIx zs key + 1 + i) (geIx zs key) (by omega) (by omega)
    rw [kAt_eq _ (geIx zs key + 1 + i) (by omega)] at this
    rw [List.getElem_drop]
    simp; omega
  unfold leftTo
  rw [List.take_length]
  conv => lhs; rw [e]
  rw [List.filter_append, List.filter_cons, f1, f2]
  rw [kAt_eq _ _ hg] at he
  simp [he]

end Go.Proofs.Ytokkpbjldchjpaa
