/- The walk of the code's own look at a list: rising keys, right pairs. -/
import Derived.Test.YtjookicpmjmdhaaW3
namespace Go.Proofs.Ytjookicpmjmdhaa
open Go.RowKit

def riseTo (zs : List Pr) (k : Nat) : Prop := ∀ j, j < k → 0 < j → kAt zs (j - 1) < kAt zs j
def risesB (zs : List Pr) : Bool := (List.range zs.length).all fun j => j == 0 || decide (kAt zs (j - 1) < kAt zs j)

theorem risesB_true {zs : List Pr} (h : riseTo zs zs.length) : risesB zs = true := by
  unfold risesB
  simp only [List.all_eq_true, List.mem_range, Bool.or_eq_true, beq_iff_eq, decide_eq_true_eq]
  intro j hj
  rcases Nat.eq_zero_or_pos j with h0 | h0
  · exact .inl h0
  · exact .inr (h j hj h0)
theorem risesB_iff (zs : List Pr) : risesB zs = true ↔ riseTo zs zs.length := by
  refine ⟨fun h => ?_, risesB_true⟩
  unfold risesB at h
  simp only [List.all_eq_true, List.mem_range, Bool.or_eq_true, beq_iff_eq, decide_eq_true_eq] at h
  intro j hj h0
  rcases h j hj with h' | h'
  · omega
  · exact h'
theorem risesB_false {zs : List Pr} (h : ∃ j, j < zs.length ∧ 0 < j ∧ ¬ kAt zs (j - 1) < kAt zs j) : risesB zs = false := by
  obtain ⟨j, h1, h2, h3⟩ := h
  cases e : risesB zs with
  | false => rfl
  | true => exact absurd ((risesB_iff zs).1 e j h1 h2) h3
theorem riseTo_snoc {zs : List Pr} {k : Nat} (h : riseTo zs k) (hl : kAt zs (k - 1) < kAt zs k) : riseTo zs (k + 1) := by
  intro j hj h0
  rcases Nat.lt_or_ge j k with h' | h'
  · exact h j h' h0
  · obtain rfl : j = k := by omega
    exact hl

def rightTo (zs : List Pr) (k : Nat) : Prop := ∀ j, j < k → rightB (kAt zs j) (vAt zs j) = true
theorem rightTo_snoc {zs : List Pr} {k : Nat} (h : rightTo zs k) (hr : rightB (kAt zs k) (vAt zs k) = true) : rightTo zs (k + 1) := by
  intro j hj
  rcases Nat.lt_or_ge j k with h' | h'
  · exact h j h'
  · obtain rfl : j = k := by omega
    exact hr
theorem pOk_of (zs : List Pr) (h : rightTo zs zs.length) (hl : zs.length ≤ 40) : risesB zs = pOk zs := by
  rw [Bool.eq_iff_iff, pOk_iff, risesB_iff]
  exact ⟨fun hr => ⟨fun j hj => ⟨h j hj, hr j hj⟩, hl⟩, fun hh j hj => (hh.1 j hj).2⟩

end Go.Proofs.Ytjookicpmjmdhaa
