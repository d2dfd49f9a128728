/- The first place of a list that a test accepts: what slices.IndexFunc and slices.ContainsFunc answer. Plain facts. -/
import Derived.Test.YtbipdfeikmchcaaT5
namespace Go.Proofs.Ytbipdfeikmchcaa
open Go.RowKit

section
variable {α : Type}
/-- The first place at which q holds, or -1. -/
def ixOf (q : α → Bool) (zs : List α) : Int := if zs.findIdx q < zs.length then (zs.findIdx q : Int) else -1
theorem ixOf_at (q : α → Bool) (d : α) (zs : List α) (k : Nat) (hk : k < zs.length) (h : q (zs.getD k d) = true) (hn : ∀ j, j < k → q (zs.getD j d) = false) : ixOf q zs = k := by
  have e : zs.findIdx q = k := by
    rw [List.findIdx_eq hk]
    refine ⟨by simpa [hk] using h, fun j hj => ?_⟩
    have := hn j hj
    have hj' : j < zs.length := by omega
    simpa [hj'] using this
  unfold ixOf
  rw [e, if_pos hk]
theorem ixOf_none (q : α → Bool) (d : α) (zs : List α) (hn : ∀ j, j < zs.length → q (zs.getD j d) = false) : ixOf q zs = -1 := by
  have e : zs.findIdx q = zs.length := by
    rw [List.findIdx_eq_length]
    intro p hp
    obtain ⟨j, hj, rfl⟩ := List.getElem_of_mem hp
    have := hn j hj
    simpa [hj] using this
  unfold ixOf
  rw [e, if_neg (by omega)]
theorem ixOf_any (q : α → Bool) (zs : List α) : decide (0 ≤ ixOf q zs) = zs.any q := by
  unfold ixOf
  by_cases h : zs.findIdx q < zs.length
  · rw [if_pos h]
    have := List.findIdx_lt_length.1 h
    rw [List.any_eq_true.2 this]
    simp
  · rw [if_neg h]
    have h2 : zs.any q = false := by
      rw [List.any_eq_false]
      intro p hp hq
      exact h (List.findIdx_lt_length.2 ⟨p, hp, hq⟩)
    rw [h2]
    simp
end

theorem ixNd_at (q : Nd → Bool) (xs : List Nd) (k : Nat) (hk : k < xs.length) (h : q (ndAt xs k) = true) (hn : ∀ j, j < k → q (ndAt xs j) = false) : ixOf q xs = k := ixOf_at q _ xs k hk h hn
theorem ixNd_none (q : Nd → Bool) (xs : List Nd) (hn : ∀ j, j < xs.length → q (ndAt xs j) = false) : ixOf q xs = -1 := ixOf_none q _ xs hn

/-- What lacksKid answers, of a tree of n nodes. -/
def lackB (n : Nat) (p : Pr) : Bool := !hasB n p.2
/-- What a tree's refuses answers. -/
def refT (n : Nat) (x : Nd) : Bool := !nodeOk x || ((x.ri != -1) && !hasB n x.ri) || (decide (0 < x.lv) && x.ps.any (lackB n))

theorem refT_good (n : Nat) (x : Nd) : (!refT n x) = ndGood n x := by
  unfold refT ndGood
  by_cases h : nodeOk x = true
  · rw [h]
    have hr : -1 ≤ x.ri := by
      have := h
      unfold nodeOk at this
      simp only [Bool.and_eq_true, Bool.or_eq_true, decide_eq_true_eq] at this
      unfold numB inB at this
      simp only [decide_eq_true_eq] at this
      grind
    have e1 : ((x.ri != -1) && !hasB n x.ri) = !decide (x.ri < (n : Int)) := by
      unfold hasB inB
      rw [Bool.eq_iff_iff]
      simp
      omega
    have e2 : (decide (0 < x.lv) && x.ps.any (lackB n)) = !(decide (x.lv ≤ 0) || (List.range x.ps.length).all (fun j => hasB n (vAt x.ps j))) := by
      have e3 : x.ps.any (lackB n) = !(List.range x.ps.length).all (fun j => hasB n (vAt x.ps j)) := by
        rw [Bool.eq_iff_iff]
        unfold lackB
        simp only [List.any_eq_true, Bool.not_eq_true', List.all_eq_false, List.mem_range, Bool.not_eq_true]
        refine ⟨fun ⟨p, hp, hq⟩ => ?_, fun ⟨j, hj, hq⟩ => ?_⟩
        · obtain ⟨j, hj, rfl⟩ := List.getElem_of_mem hp
          exact ⟨j, hj, by rw [vAt_eq _ _ hj]; exact hq⟩
        · exact ⟨x.ps[j], List.getElem_mem hj, by rw [vAt_eq _ _ hj] at hq; exact hq⟩
      rw [e3]
      by_cases hl : 0 < x.lv
      · rw [decide_eq_true hl, decide_eq_false (by omega : ¬ x.lv ≤ 0)]; simp
      · rw [decide_eq_false hl, decide_eq_true (by omega : x.lv ≤ 0)]; simp
    rw [e1, e2]
    simp
  · simp only [Bool.not_eq_true] at h
    rw [h]; simp

/-- What the code's ok answers of a tree. -/
def okT (r : Int) (xs : List Nd) : Bool := decide (xs.length ≤ 40) && (hasB xs.length r && !xs.any (refT xs.length))
theorem okT_eq (r : Int) (xs : List Nd) : okT r xs = treeOk r xs := by
  have e : (!xs.any (refT xs.length)) = (List.range xs.length).all (fun i => ndGood xs.length (ndAt xs i)) := by
    rw [Bool.eq_iff_iff]
    simp only [Bool.not_eq_true', List.any_eq_false, List.all_eq_true, List.mem_range, Bool.not_eq_true]
    refine ⟨fun h i hi => ?_, fun h x hx => ?_⟩
    · rw [ndAt_eq _ _ hi, ← refT_good, h _ (List.getElem_mem hi)]; rfl
    · obtain ⟨i, hi, rfl⟩ := List.getElem_of_mem hx
      have := h i hi
      rw [ndAt_eq _ _ hi, ← refT_good] at this
      simpa using this
  unfold okT treeOk
  rw [e]
  by_cases h1 : hasB xs.length r = true
  · have h2 : 1 ≤ xs.length := by
      unfold hasB inB at h1
      simp at h1
      omega
    rw [h1, decide_eq_true h2]
    simp
  · simp only [Bool.not_eq_true] at h1
    rw [h1]; simp
end Go.Proofs.Ytbipdfeikmchcaa
