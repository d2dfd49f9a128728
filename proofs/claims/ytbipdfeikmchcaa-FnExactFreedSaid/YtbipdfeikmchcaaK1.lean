/- What a map of latches holds, and what is collected of it: plain facts. -/
import Derived.Test.YtbipdfeikmchcaaT9
import Derived.Maps.RangeWalk
import Derived.Maps.OwnSet
import Derived.Sort.OwnSortedInts
namespace Go.Proofs.Ytbipdfeikmchcaa
open Go.RowKit

abbrev DU := DataW Unit
/-- A map that holds o at the keys at which o is not 0. -/
structure Keeps (D : DU) (o : Int → Int) : Prop where
  map : Maps.IsMap D
  look : ∀ x, D.atKey (.int .i64 x) (.lit (.int .i64 0)) = .lit (.int .i64 (o x))
  has : ∀ x, Maps.has D (.int .i64 x) = decide (o x ≠ 0)
/-- o with v at x. -/
def upd (o : Int → Int) (x v : Int) : Int → Int := fun y => if y = x then v else o y
theorem key_ne {x y : Int} (h : y ≠ x) : (Lit.int .i64 y) ≠ Lit.int .i64 x := fun e => by cases e; exact h rfl
theorem Keeps.empty : Keeps (.map []) (fun _ => 0) := ⟨Maps.isMap_empty, fun _ => rfl, fun _ => rfl⟩
theorem Keeps.put {D : DU} {o : Int → Int} (h : Keeps D o) (x v : Int) (hv : v ≠ 0) : Keeps (D.put (.int .i64 x) (.lit (.int .i64 v))) (upd o x v) where
  map := h.map.put _ _
  look := fun y => by
    unfold upd
    by_cases e : y = x
    · subst e
      rw [if_pos rfl, Maps.atKey_put_same (k := .int .i64 y) h.map trivial]
    · rw [if_neg e, Maps.atKey_put_other (key_ne e)]
      exact h.look y
  has := fun y => by
    unfold upd
    by_cases e : y = x
    · subst e
      rw [if_pos rfl, Maps.has_put_same (k := .int .i64 y) h.map trivial]
      simpa using hv
    · rw [if_neg e, Maps.has_put_other (key_ne e)]
      exact h.has y
theorem Keeps.del {D : DU} {o : Int → Int} (h : Keeps D o) (x : Int) : Keeps (D.del (.int .i64 x)) (upd o x 0) where
  map := h.map.del _
  look := fun y => by
    unfold upd
    by_cases e : y = x
    · subst e
      rw [if_pos rfl, Maps.atKey_del_same]
    · rw [if_neg e, Maps.atKey_del_other (key_ne e)]
      exact h.look y
  has := fun y => by
    unfold upd
    by_cases e : y = x
    · subst e
      rw [if_pos rfl, Maps.has_del_same]
      simp
    · rw [if_neg e, Maps.has_del_other (key_ne e)]
      exact h.has y
theorem Keeps.at {D : DU} {o : Int → Int} (h : Keeps D o) {x c : Int} (hc : D.atKey (.int .i64 x) (.lit (.int .i64 0)) = .lit (.int .i64 c)) : o x = c := by
  rw [h.look x] at hc
  simpa using hc
theorem Keeps.same {D : DU} {o o' : Int → Int} (h : Keeps D o) (e : ∀ x, o' x = o x) : Keeps D o' := by
  have : o' = o := funext e
  rw [this]; exact h

/-- Who has hold of the first k nodes. -/
def ownTo (xs : List Nd) (k : Nat) (x : Int) : Int := if 0 ≤ x ∧ x < k then (ndAt xs x.toNat).ow else 0
theorem ownTo_zero (xs : List Nd) : ∀ x, ownTo xs 0 x = 0 := fun x => by unfold ownTo; rw [if_neg (by omega)]
theorem ownTo_skip (xs : List Nd) (k : Nat) (h : (ndAt xs k).ow = 0) : ∀ x, ownTo xs (k + 1) x = ownTo xs k x := fun x => by
  unfold ownTo
  by_cases e : x = k
  · subst e
    rw [if_pos (by omega), if_neg (by omega)]
    simpa using h
  · by_cases h1 : 0 ≤ x ∧ x < k
    · rw [if_pos h1, if_pos (by omega)]
    · rw [if_neg h1, if_neg (by omega)]
theorem ownTo_next (xs : List Nd) (k : Nat) : ∀ x, ownTo xs (k + 1) x = upd (ownTo xs k) k (ndAt xs k).ow x := fun x => by
  unfold upd ownTo
  by_cases e : x = k
  · subst e
    rw [if_pos (by omega), if_pos rfl]
    simp
  · rw [if_neg e]
    by_cases h1 : 0 ≤ x ∧ x < k
    · have h2 : 0 ≤ x ∧ x < ((k + 1 : Nat) : Int) := by omega
      simp only [h1, h2, and_self, if_true]
    · have h2 : ¬ (0 ≤ x ∧ x < ((k + 1 : Nat) : Int)) := by omega
      simp only [h1, h2, if_false]
theorem ownTo_out (xs : List Nd) (n : Nat) (x : Int) (h : hasB n x = false) : ownTo xs n x = 0 := by
  unfold ownTo
  rw [if_neg]
  intro hc
  have : hasB n x = true := (hasB_iff n x).2 hc
  rw [h] at this; cases this
theorem ownTo_in (xs : List Nd) (n : Nat) (x : Int) (h : hasB n x = true) : ownTo xs n x = (ndAt xs x.toNat).ow := by
  unfold ownTo
  rw [if_pos ((hasB_iff n x).1 h)]

/-- The numbers collected so far, in whatever order they came. -/
structure Got (D : DU) (left : Lit → Bool) (o : Int → Int) (t : Int) (ss : List Int) : Prop where
  once : ss.Nodup
  mem : ∀ x, x ∈ ss ↔ (o x = t ∧ o x ≠ 0 ∧ left (.int .i64 x) = false)
theorem Got.start {D : DU} {o : Int → Int} (h : Keeps D o) (t : Int) : Got D (Maps.has D) o t [] :=
  ⟨List.nodup_nil, fun x => by rw [h.has x]; simp⟩
theorem sameKey_self (x : Int) : (Lit.int .i64 x).sameKey (.int .i64 x) = true := by simp [Lit.sameKey]
theorem Got.yes {D : DU} {left : Lit → Bool} {o : Int → Int} {t x : Int} {ss : List Int} (h : Got D left o t ss) (hl : left (.int .i64 x) = true) (hx : o x ≠ 0) (he : o x = t) :
    Got D (fun z => left z && !z.sameKey (.int .i64 x)) o t (ss ++ [x]) where
  once := by
    rw [List.nodup_append]
    refine ⟨h.once, by simp, fun a ha b hb => ?_⟩
    simp only [List.mem_cons, List.not_mem_nil, or_false] at hb
    subst hb
    intro e
    subst e
    have := ((h.mem a).1 ha).2.2
    rw [hl] at this; cases this
  mem := fun y => by
    rw [List.mem_append, h.mem y]
    by_cases e : y = x
    · subst e
      simp [he, sameKey_self, he ▸ hx]
    · rw [Maps.sameKey_ne (key_ne e)]
      simp [e]
theorem Got.no {D : DU} {left : Lit → Bool} {o : Int → Int} {t x : Int} {ss : List Int} (h : Got D left o t ss) (he : o x ≠ t) :
    Got D (fun z => left z && !z.sameKey (.int .i64 x)) o t ss where
  once := h.once
  mem := fun y => by
    rw [h.mem y]
    by_cases e : y = x
    · subst e
      simp [he]
    · rw [Maps.sameKey_ne (key_ne e)]
      simp

theorem heldTo_sorted (xs : List Nd) (t : Int) (n : Nat) : (heldTo xs t n).Pairwise (fun a b => a < b) := by
  unfold heldTo
  rw [List.pairwise_map]
  refine List.Pairwise.filter _ ?_
  exact List.pairwise_lt_range.imp (fun h => by omega)
theorem heldTo_mem (xs : List Nd) (t : Int) (n : Nat) (ht : t ≠ 0) (x : Int) : x ∈ heldTo xs t n ↔ (ownTo xs n x = t ∧ ownTo xs n x ≠ 0) := by
  unfold heldTo ownTo
  simp only [List.mem_map, List.mem_filter, List.mem_range, beq_iff_eq]
  constructor
  · rintro ⟨i, ⟨hi, he⟩, rfl⟩
    rw [if_pos (by omega)]
    simp only [Int.toNat_natCast]
    exact ⟨he, by rw [he]; exact ht⟩
  · intro ⟨h1, h2⟩
    by_cases hc : 0 ≤ x ∧ x < n
    · rw [if_pos hc] at h1
      exact ⟨x.toNat, ⟨by omega, h1⟩, by omega⟩
    · rw [if_neg hc] at h2
      exact absurd rfl h2
/-- What was collected, in order, is what is asked for. -/
theorem Got.sorted {D : DU} {left : Lit → Bool} {xs : List Nd} {n : Nat} {t : Int} {ss : List Int} (h : Got D left (ownTo xs n) t ss) (ht : t ≠ 0) (hl : ∀ kl, left kl = false) :
    ss.mergeSort (fun x y => decide (x ≤ y)) = heldTo xs t n := by
  have hp : ss.Perm (heldTo xs t n) := by
    rw [List.perm_ext_iff_of_nodup h.once ((heldTo_sorted xs t n).imp (fun h => by omega))]
    intro a
    rw [h.mem a, heldTo_mem xs t n ht a, hl]
    simp
  have hs : (heldTo xs t n).Pairwise (fun a b => decide (a ≤ b) = true) := (heldTo_sorted xs t n).imp (fun h => by simp; omega)
  have h1 := List.mergeSort_of_pairwise hs
  rw [← h1]
  have hps : (ss.mergeSort fun x y => decide (x ≤ y)).Perm ((heldTo xs t n).mergeSort fun x y => decide (x ≤ y)) := (List.mergeSort_perm _ _).trans (hp.trans (List.mergeSort_perm _ _).symm)
  refine hps.eq_of_pairwise (le := fun a b => decide (a ≤ b)) ?_ ?_ ?_
  · intro a b _ _ h1 h2
    simp at h1 h2
    omega
  · exact List.pairwise_mergeSort (fun a b c h1 h2 => by simp at *; omega) (fun a b => by simp; omega) _
  · exact List.pairwise_mergeSort (fun a b c h1 h2 => by simp at *; omega) (fun a b => by simp; omega) _
end Go.Proofs.Ytbipdfeikmchcaa
