/- What is put is there, what is cut is not, all else is as it was: the plain facts; and the law FnPairs, walked. -/
import Derived.Test.YtjlbnbmniejidaaD6
namespace Go.Proofs.Ytjlbnbmniejidaa
open Go.RowKit

theorem ins_lt (zs : List Pr) (g : Nat) (p : Pr) (j : Nat) (hg : g ≤ zs.length) (hj : j < g) : kAt (zs.take g ++ [p] ++ zs.drop g) j = kAt zs j ∧ vAt (zs.take g ++ [p] ++ zs.drop g) j = vAt zs j := by
  have e : (zs.take g ++ [p] ++ zs.drop g)[j]? = zs[j]? := by
    rw [List.append_assoc, List.getElem?_append_left (by rw [List.length_take]; omega), List.getElem?_take_of_lt hj]
  simp only [kAt, vAt, List.getD_eq_getElem?_getD, e, and_self]
theorem ins_eq (zs : List Pr) (g : Nat) (p : Pr) (hg : g ≤ zs.length) : kAt (zs.take g ++ [p] ++ zs.drop g) g = p.1 ∧ vAt (zs.take g ++ [p] ++ zs.drop g) g = p.2 := by
  have hl : (zs.take g).length = g := by rw [List.length_take]; omega
  have e : (zs.take g ++ [p] ++ zs.drop g)[g]? = some p := by
    rw [List.append_assoc, List.getElem?_append_right (by omega), hl, Nat.sub_self]
    rfl
  simp only [kAt, vAt, List.getD_eq_getElem?_getD, e, Option.getD_some, and_self]
theorem ins_gt (zs : List Pr) (g : Nat) (p : Pr) (j : Nat) (hg : g ≤ zs.length) (hj : g < j) : kAt (zs.take g ++ [p] ++ zs.drop g) j = kAt zs (j - 1) ∧ vAt (zs.take g ++ [p] ++ zs.drop g) j = vAt zs (j - 1) := by
  have hl : (zs.take g ++ [p]).length = g + 1 := by rw [List.length_append, List.length_take]; simp; omega
  have e : (zs.take g ++ [p] ++ zs.drop g)[j]? = zs[j - 1]? := by
    rw [List.getElem?_append_right (by omega), hl, List.getElem?_drop]
    congr 1; omega
  simp only [kAt, vAt, List.getD_eq_getElem?_getD, e, and_self]

theorem put_back (zs : List Pr) (k v : Int) (h : putB zs k v = true) :
    pOk (putL zs k v) = true ∧ valN (putL zs k v) k = v ∧ valB (putL zs k v) k = true ∧ cutL (putL zs k v) k = zs ∧ cutB (putL zs k v) k = true := by
  unfold putB at h
  simp only [Bool.and_eq_true, Bool.not_eq_true', decide_eq_false_iff_not] at h
  obtain ⟨⟨⟨hp, hr⟩, hh⟩, hf⟩ := h
  have hle := geIx_le zs k
  have hlt := geIx_lt zs k
  have hat := geIx_at zs k
  obtain ⟨hok, h40⟩ := (pOk_iff zs).1 hp
  have e : putL zs k v = zs.take (geIx zs k) ++ [(k, v)] ++ zs.drop (geIx zs k) := by unfold putL; simp [hp, hr, hh, hf]
  have hne : geIx zs k < zs.length → kAt zs (geIx zs k) ≠ k := fun hg he => by
    unfold hitB at hh; simp [hg, he] at hh
  rw [e]
  generalize geIx zs k = g at *
  have hlen : (zs.take g ++ [(k, v)] ++ zs.drop g).length = zs.length + 1 := by simp; omega
  have i1 := ins_lt zs g (k, v)
  have i2 := ins_eq zs g (k, v) hle
  have i3 := ins_gt zs g (k, v)
  have hgx : geIx (zs.take g ++ [(k, v)] ++ zs.drop g) k = g := geIx_of _ _ g (by omega) (by rw [i2.1]; exact Int.le_refl _) (fun j hj => by rw [(i1 j hle hj).1]; exact hlt j hj)
  have hX : pOk (zs.take g ++ [(k, v)] ++ zs.drop g) = true := by
    rw [pOk_iff, hlen]
    refine ⟨fun j hj => ?_, by omega⟩
    rcases Nat.lt_trichotomy j g with h1 | h1 | h1
    · obtain ⟨a, b⟩ := i1 j hle h1
      rw [a, b]
      refine ⟨(hok j (by omega)).1, fun h0 => ?_⟩
      rw [(i1 (j - 1) hle (by omega)).1]
      exact (hok j (by omega)).2 h0
    · subst h1
      rw [i2.1, i2.2]
      refine ⟨hr, fun h0 => ?_⟩
      rw [(i1 (j - 1) hle (by omega)).1]
      exact hlt _ (by omega)
    · obtain ⟨a, b⟩ := i3 j hle h1
      rw [a, b]
      refine ⟨(hok (j - 1) (by omega)).1, fun h0 => ?_⟩
      by_cases h2 : j - 1 = g
      · rw [h2, i2.1]
        have h3 := hat (by omega)
        have h4 := hne (by omega)
        omega
      · rw [(i3 (j - 1) hle (by omega)).1]
        exact (hok (j - 1) (by omega)).2 (by omega)
  generalize hXd : zs.take g ++ [(k, v)] ++ zs.drop g = X at *
  have hhit : hitB X k = true := by unfold hitB; rw [hgx, i2.1]; simp; omega
  refine ⟨hX, ?_, ?_, ?_, ?_⟩
  · unfold valN; rw [hX, hhit, hgx]; simpa using i2.2
  · unfold valB; rw [hX, hhit]; rfl
  · unfold cutL
    rw [if_pos hX, if_pos hhit, hgx, ← hXd]
    have hl : (zs.take g).length = g := by rw [List.length_take]; omega
    rw [List.append_assoc, List.take_left' hl, ← List.append_assoc, List.drop_left' (by simp; omega), List.take_append_drop]
  · unfold cutB; rw [hX, hhit]; rfl
end Go.Proofs.Ytjlbnbmniejidaa
