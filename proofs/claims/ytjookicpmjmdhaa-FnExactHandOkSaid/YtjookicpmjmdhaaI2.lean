/- The walks of the code's own NodeOk, Within and KidFor: the small ones. -/
import Derived.Test.YtjookicpmjmdhaaN3
import Derived.Shelf.Abstract
namespace Go.Proofs.Ytjookicpmjmdhaa
open Go.RowKit

theorem inum_is (x : Int) (w : World) :
    Calls Try.prog 72 #[.int .i64 x] w fun e w' => e = .returned (.bool (numB x)) ∧ w = w' := by
  by_cases h1 : 0 ≤ x
  · have g1 : decide (0 ≤ x) = true := by simpa using h1
    go_enter Try.func72, Try.ntmps72
    go_wp2
    go_ret
    exact ⟨ret_bool (by unfold numB inB; rw [Bool.eq_iff_iff]; simp; omega), rfl⟩
  · have g1 : decide (0 ≤ x) = false := by simpa using h1
    go_enter Try.func72, Try.ntmps72
    go_wp2
    go_ret
    exact ⟨ret_bool (by unfold numB inB; symm; simp; omega), rfl⟩

/-- What linkOk answers. -/
def linkB (x : Nd) : Bool := if x.hi = -1 then decide (x.ri = -1) else inB x.hi 1 100 && numB x.ri
/-- What refuses answers. -/
def refB (x : Nd) (p : Pr) : Bool := !inside x p.1 || (decide (0 < x.lv) && !numB p.2)
/-- The first place that is refused, or -1. -/
def refIx (x : Nd) (zs : List Pr) : Int := if zs.findIdx (refB x) < zs.length then (zs.findIdx (refB x) : Int) else -1
theorem refIx_of (x : Nd) (zs : List Pr) (k : Nat) (hk : k < zs.length) (h : refB x (kAt zs k, vAt zs k) = true) (hn : ∀ j, j < k → refB x (kAt zs j, vAt zs j) = false) : refIx x zs = k := by
  have e : zs.findIdx (refB x) = k := by
    rw [List.findIdx_eq hk]
    refine ⟨?_, fun j hj => ?_⟩
    · rw [kAt_eq _ _ hk, vAt_eq _ _ hk] at h; exact h
    · have := hn j hj
      rw [kAt_eq _ _ (by omega), vAt_eq _ _ (by omega)] at this
      simpa using this
  unfold refIx
  rw [e, if_pos hk]
theorem refIx_none (x : Nd) (zs : List Pr) (hn : ∀ j, j < zs.length → refB x (kAt zs j, vAt zs j) = false) : refIx x zs = -1 := by
  have e : zs.findIdx (refB x) = zs.length := by
    rw [List.findIdx_eq_length]
    intro p hp
    obtain ⟨j, hj, rfl⟩ := List.getElem_of_mem hp
    have := hn j hj
    rw [kAt_eq _ _ hj, vAt_eq _ _ hj] at this
    exact this
  unfold refIx
  rw [e, if_neg (by omega)]
theorem refIx_any (x : Nd) (zs : List Pr) : decide (0 ≤ refIx x zs) = zs.any (refB x) := by
  unfold refIx
  by_cases h : zs.findIdx (refB x) < zs.length
  · rw [if_pos h]
    have := List.findIdx_lt_length.1 h
    rw [List.any_eq_true.2 this]
    simp
  · rw [if_neg h]
    have h2 : zs.any (refB x) = false := by
      rw [List.any_eq_false]
      intro p hp hq
      exact h (List.findIdx_lt_length.2 ⟨p, hp, hq⟩)
    rw [h2]
    simp

end Go.Proofs.Ytjookicpmjmdhaa
