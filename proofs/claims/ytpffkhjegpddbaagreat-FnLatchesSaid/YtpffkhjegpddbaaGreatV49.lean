/- What a latch that was taken means: it is not to be had twice, not to be let go by another; let go, all is as it was; one more is held. No program in sight. -/
import Derived.Test.YtpffkhjegpddbaaGreatV10
import Derived.Test.YtpffkhjegpddbaaGreatV08
import Derived.Maps.RangeWalk
import Derived.Maps.OwnSet
import Derived.Sort.OwnSortedInts
import Derived.Test.YtpffkhjegpddbaaGreatV07
import Derived.Test.YtpffkhjegpddbaaGreatV04
import Derived.Shelf.Abstract
open Go.Value renaming int → jI, slice → jS
open Go.IntKind renaming i64 → jZ
namespace Go.Proofs.YtpffkhjegpddbaaGreat
open Go.RowKit

theorem ndAt_set_same (xs : List Nd) (a : Nat) (y : Nd) (h : a < xs.length) : ndAt (xs.set a y) a = y := by
 unfold ndAt
 rw [List.getD_eq_getElem?_getD, List.getElem?_set_self h]
 rfl
theorem ndAt_set_other (xs : List Nd) (a b : Nat) (y : Nd) (h : a ≠ b) : ndAt (xs.set a y) b = ndAt xs b := by
 unfold ndAt
 rw [List.getD_eq_getElem?_getD, List.getD_eq_getElem?_getD, List.getElem?_set_ne h]
theorem nodeOk_ow {x : Nd} {o : Int} (h : nodeOk x = true) (ho : 0 ≤ o ∧ o ≤ 6) : nodeOk ⟨x.lv, x.ps, x.hi, x.ri, o⟩ = true := by
 unfold nodeOk at h ⊢
 have : inB o 0 6 = true := by unfold inB; simp; omega
 simp only [Bool.and_eq_true] at h ⊢
 exact ⟨⟨⟨h.1.1.1, h.1.1.2⟩, this⟩, h.2⟩
theorem treeOk_ow {r : Int} {xs : List Nd} (h : treeOk r xs = true) (a : Nat) (ha : a < xs.length) (o : Int) (ho : 0 ≤ o ∧ o ≤ 6) : treeOk r (xs.set a ⟨(ndAt xs a).lv, (ndAt xs a).ps, (ndAt xs a).hi, (ndAt xs a).ri, o⟩) = true := by
 rw [treeOk_iff] at h ⊢
 obtain ⟨h1, h2, h3, h4⟩ := h
 rw [List.length_set]
 refine ⟨h1, h2, h3, fun i hi => ?_⟩
 by_cases e : a = i
 · subst e
   rw [ndAt_set_same _ _ _ ha]
   have := h4 a ha
   unfold ndGood at this ⊢
   simp only [Bool.and_eq_true] at this ⊢
   refine ⟨⟨nodeOk_ow this.1.1 ho, ?_⟩, ?_⟩
   · exact this.1.2
   · exact this.2
 · rw [ndAt_set_other _ _ _ _ e]
   exact h4 i hi
theorem heldTo_set (xs : List Nd) (a : Nat) (y : Nd) (o : Int) (ha : a < xs.length) (hy : y.ow = o) (hx : (ndAt xs a).ow ≠ o) : ∀ k, (heldTo (xs.set a y) o k).length = (heldTo xs o k).length + (if a < k then 1 else 0) := by
 intro k
 induction k with
 | zero => simp [heldTo]
 | succ k ih =>
   by_cases e : a = k
   · subst e
     rw [heldTo_yes _ _ _ (by rw [ndAt_set_same _ _ _ ha]; exact hy), heldTo_no _ _ _ hx, List.length_append, ih]
     simp
   · have hs : ndAt (xs.set a y) k = ndAt xs k := ndAt_set_other _ _ _ _ e
     have hk : (if a < k + 1 then 1 else 0) = (if a < k then 1 else 0) := by
       by_cases h1 : a < k
       · rw [if_pos h1, if_pos (by omega)]
       · rw [if_neg h1, if_neg (by omega)]
     by_cases h : (ndAt xs k).ow = o
     · rw [heldTo_yes _ _ _ (by rw [hs]; exact h), heldTo_yes _ _ _ h, List.length_append, List.length_append, ih, hk]
       simp only [List.length_singleton]
       omega
     · rw [heldTo_no _ _ _ (by rw [hs]; exact h), heldTo_no _ _ _ h, ih, hk]
theorem latch_facts {r : Int} {xs : List Nd} {x task : Int} (h : latchedB r xs x task = true) : latchedR r xs x task = r ∧ (latchedX r xs x task).length = xs.length ∧ latchedB r (latchedX r xs x task) x task = false ∧
   freedB r (latchedX r xs x task) x ((task + 1) % 6) = false ∧ freedB r (latchedX r xs x task) x task = true ∧ freedR r (latchedX r xs x task) x task = r ∧ freedX r (latchedX r xs x task) x task = xs ∧
   (heldT r (latchedX r xs x task) task).length = (heldT r xs task).length + 1 := by
 have h0 := h
 unfold latchedB at h0
 simp only [Bool.and_eq_true, decide_eq_true_eq] at h0
 obtain ⟨⟨h1, h2⟩, h3, h4⟩ := h0
 have hx := (hasB_iff _ _).1 h3
 have ht : 0 ≤ task ∧ task ≤ 5 := by unfold inB at h2; simpa using h2
 have ha : x.toNat < xs.length := by omega
 have e0 : latchedX r xs x task = xs.set x.toNat ⟨(ndAt xs x.toNat).lv, (ndAt xs x.toNat).ps, (ndAt xs x.toNat).hi, (ndAt xs x.toNat).ri, task + 1⟩ := by
   unfold latchedX
   rw [h1, h2, h3]
   simp [h4]
 have eR : latchedR r xs x task = r := by unfold latchedR; rw [h1, h2]; rfl
 rw [e0, eR]
 generalize hy : (⟨(ndAt xs x.toNat).lv, (ndAt xs x.toNat).ps, (ndAt xs x.toNat).hi, (ndAt xs x.toNat).ri, task + 1⟩ : Nd) = y
 have hyo : y.ow = task + 1 := by rw [← hy]
 have k1 : treeOk r (xs.set x.toNat y) = true := by rw [← hy]; exact treeOk_ow h1 _ ha _ (by omega)
 have k2 : (xs.set x.toNat y).length = xs.length := List.length_set
 have k3 : ndAt (xs.set x.toNat y) x.toNat = y := ndAt_set_same _ _ _ ha
 have k4 : inB ((task + 1) % 6) 0 5 = true := by unfold inB; simp; omega
 refine ⟨rfl, k2, ?_, ?_, ?_, ?_, ?_, ?_⟩
 · unfold latchedB
   rw [k1, h2, k2, h3, k3, hyo]
   simp; omega
 · unfold freedB
   rw [k1, k4, k2, h3, k3, hyo]
   simp; omega
 · unfold freedB
   rw [k1, h2, k2, h3, k3, hyo]
   simp
 · unfold freedR
   rw [k1, h2]; rfl
 · unfold freedX
   rw [k1, h2, k2, h3, k3, hyo]
   simp only [Bool.and_self, decide_true, if_true]
   rw [List.set_set, ← hy]
   apply List.ext_getElem?
   intro i
   by_cases e : x.toNat = i
   · subst e
     rw [List.getElem?_set_self ha]
     have e2 : xs[x.toNat]? = some (ndAt xs x.toNat) := by
       unfold ndAt
       rw [List.getD_eq_getElem?_getD, List.getElem?_eq_getElem ha]; rfl
     rw [e2]
     congr 1
     generalize ndAt xs x.toNat = z at h4 ⊢
     cases z
     simp only at h4
     simp [h4]
   · rw [List.getElem?_set_ne e]
 · unfold heldT
   rw [k1, h2, h1, k2]
   simp only [Bool.and_self, if_true]
   rw [heldTo_set xs x.toNat y (task + 1) ha hyo (by omega), if_pos ha]
end Go.Proofs.YtpffkhjegpddbaaGreat
namespace Go.Proofs.YtpffkhjegpddbaaGreat
open Go.RowKit

abbrev DU := DataW Unit
structure Keeps (D : DU) (o : Int → Int) : Prop where
 map : Maps.IsMap D
 look : ∀ x, D.atKey (.int .i64 x) (.lit (.int .i64 0)) = .lit (.int .i64 (o x))
 has : ∀ x, Maps.has D (.int .i64 x) = decide (o x ≠ 0)
def upd (o : Int → Int) (x v : Int) : Int → Int := fun y => if y = x then v else o y
theorem key_ne {x y : Int} (h : y ≠ x) : (Lit.int .i64 y) ≠ Lit.int .i64 x := fun e => by cases e; exact h rfl
theorem Keeps.empty : Keeps (.map []) (fun _ => 0) := ⟨Maps.isMap_empty, fun _ => rfl, fun _ => rfl⟩
theorem Keeps.put {D : DU} {o : Int → Int} (h : Keeps D o) (x v : Int) (hv : v ≠ 0) : Keeps (D.put (.int .i64 x) (.lit (.int .i64 v))) (upd o x v) where
 map := h.map.put _ _
 look := fun y => by
   unfold upd
   by_cases e : y = x
   · subst e
     rw [if_pos rfl, Maps.atKey_put_same (k := .int .i64 y) h.map trivial]
   · rw [if_neg e, Maps.atKey_put_other (key_ne e)]
     exact h.look y
 has := fun y => by
   unfold upd
   by_cases e : y = x
   · subst e
     rw [if_pos rfl, Maps.has_put_same (k := .int .i64 y) h.map trivial]
     simpa using hv
   · rw [if_neg e, Maps.has_put_other (key_ne e)]
     exact h.has y
theorem Keeps.del {D : DU} {o : Int → Int} (h : Keeps D o) (x : Int) : Keeps (D.del (.int .i64 x)) (upd o x 0) where
 map := h.map.del _
 look := fun y => by
   unfold upd
   by_cases e : y = x
   · subst e
     rw [if_pos rfl, Maps.atKey_del_same]
   · rw [if_neg e, Maps.atKey_del_other (key_ne e)]
     exact h.look y
 has := fun y => by
   unfold upd
   by_cases e : y = x
   · subst e
     rw [if_pos rfl, Maps.has_del_same]
     simp
   · rw [if_neg e, Maps.has_del_other (key_ne e)]
     exact h.has y
theorem Keeps.at {D : DU} {o : Int → Int} (h : Keeps D o) {x c : Int} (hc : D.atKey (.int .i64 x) (.lit (.int .i64 0)) = .lit (.int .i64 c)) : o x = c := by
 rw [h.look x] at hc
 simpa using hc
theorem Keeps.same {D : DU} {o o' : Int → Int} (h : Keeps D o) (e : ∀ x, o' x = o x) : Keeps D o' := by
 have : o' = o := funext e
 rw [this]; exact h

def ownTo (xs : List Nd) (k : Nat) (x : Int) : Int := if 0 ≤ x ∧ x < k then (ndAt xs x.toNat).ow else 0
theorem ownTo_zero (xs : List Nd) : ∀ x, ownTo xs 0 x = 0 := fun x => by unfold ownTo; rw [if_neg (by omega)]
theorem ownTo_skip (xs : List Nd) (k : Nat) (h : (ndAt xs k).ow = 0) : ∀ x, ownTo xs (k + 1) x = ownTo xs k x := fun x => by
 unfold ownTo
 by_cases e : x = k
 · subst e
   rw [if_pos (by omega), if_neg (by omega)]
   simpa using h
 · by_cases h1 : 0 ≤ x ∧ x < k
   · rw [if_pos h1, if_pos (by omega)]
   · rw [if_neg h1, if_neg (by omega)]
theorem ownTo_next (xs : List Nd) (k : Nat) : ∀ x, ownTo xs (k + 1) x = upd (ownTo xs k) k (ndAt xs k).ow x := fun x => by
 unfold upd ownTo
 by_cases e : x = k
 · subst e
   rw [if_pos (by omega), if_pos rfl]
   simp
 · rw [if_neg e]
   by_cases h1 : 0 ≤ x ∧ x < k
   · have h2 : 0 ≤ x ∧ x < ((k + 1 : Nat) : Int) := by omega
     simp only [h1, h2, and_self, if_true]
   · have h2 : ¬ (0 ≤ x ∧ x < ((k + 1 : Nat) : Int)) := by omega
     simp only [h1, h2, if_false]
theorem ownTo_out (xs : List Nd) (n : Nat) (x : Int) (h : hasB n x = false) : ownTo xs n x = 0 := by
 unfold ownTo
 rw [if_neg]
 intro hc
 have : hasB n x = true := (hasB_iff n x).2 hc
 rw [h] at this; cases this
theorem ownTo_in (xs : List Nd) (n : Nat) (x : Int) (h : hasB n x = true) : ownTo xs n x = (ndAt xs x.toNat).ow := by
 unfold ownTo
 rw [if_pos ((hasB_iff n x).1 h)]

structure Got (D : DU) (left : Lit → Bool) (o : Int → Int) (t : Int) (ss : List Int) : Prop where
 once : ss.Nodup
 mem : ∀ x, x ∈ ss ↔ (o x = t ∧ o x ≠ 0 ∧ left (.int .i64 x) = false)
theorem Got.start {D : DU} {o : Int → Int} (h : Keeps D o) (t : Int) : Got D (Maps.has D) o t [] :=
 ⟨List.nodup_nil, fun x => by rw [h.has x]; simp⟩
theorem sameKey_self (x : Int) : (Lit.int .i64 x).sameKey (.int .i64 x) = true := by simp [Lit.sameKey]
theorem Got.yes {D : DU} {left : Lit → Bool} {o : Int → Int} {t x : Int} {ss : List Int} (h : Got D left o t ss) (hl : left (.int .i64 x) = true) (hx : o x ≠ 0) (he : o x = t) :
   Got D (fun z => left z && !z.sameKey (.int .i64 x)) o t (ss ++ [x]) where
 once := by
   rw [List.nodup_append]
   refine ⟨h.once, by simp, fun a ha b hb => ?_⟩
   simp only [List.mem_cons, List.not_mem_nil, or_false] at hb
   subst hb
   intro e
   subst e
   have := ((h.mem a).1 ha).2.2
   rw [hl] at this; cases this
 mem := fun y => by
   rw [List.mem_append, h.mem y]
   by_cases e : y = x
   · subst e
     simp [he, sameKey_self, he ▸ hx]
   · rw [Maps.sameKey_ne (key_ne e)]
     simp [e]
theorem Got.no {D : DU} {left : Lit → Bool} {o : Int → Int} {t x : Int} {ss : List Int} (h : Got D left o t ss) (he : o x ≠ t) :
   Got D (fun z => left z && !z.sameKey (.int .i64 x)) o t ss where
 once := h.once
 mem := fun y => by
   rw [h.mem y]
   by_cases e : y = x
   · subst e
     simp [he]
   · rw [Maps.sameKey_ne (key_ne e)]
     simp

theorem heldTo_sorted (xs : List Nd) (t : Int) (n : Nat) : (heldTo xs t n).Pairwise (fun a b => a < b) := by
 unfold heldTo
 rw [List.pairwise_map]
 refine List.Pairwise.filter _ ?_
 exact List.pairwise_lt_range.imp (fun h => by omega)
theorem heldTo_mem (xs : List Nd) (t : Int) (n : Nat) (ht : t ≠ 0) (x : Int) : x ∈ heldTo xs t n ↔ (ownTo xs n x = t ∧ ownTo xs n x ≠ 0) := by
 unfold heldTo ownTo
 simp only [List.mem_map, List.mem_filter, List.mem_range, beq_iff_eq]
 constructor
 · rintro ⟨i, ⟨hi, he⟩, rfl⟩
   rw [if_pos (by omega)]
   simp only [Int.toNat_natCast]
   exact ⟨he, by rw [he]; exact ht⟩
 · intro ⟨h1, h2⟩
   by_cases hc : 0 ≤ x ∧ x < n
   · rw [if_pos hc] at h1
     exact ⟨x.toNat, ⟨by omega, h1⟩, by omega⟩
   · rw [if_neg hc] at h2
     exact absurd rfl h2
theorem Got.sorted {D : DU} {left : Lit → Bool} {xs : List Nd} {n : Nat} {t : Int} {ss : List Int} (h : Got D left (ownTo xs n) t ss) (ht : t ≠ 0) (hl : ∀ kl, left kl = false) :
   ss.mergeSort (fun x y => decide (x ≤ y)) = heldTo xs t n := by
 have hp : ss.Perm (heldTo xs t n) := by
   rw [List.perm_ext_iff_of_nodup h.once ((heldTo_sorted xs t n).imp (fun h => by omega))]
   intro a
   rw [h.mem a, heldTo_mem xs t n ht a, hl]
   simp
 have hs : (heldTo xs t n).Pairwise (fun a b => decide (a ≤ b) = true) := (heldTo_sorted xs t n).imp (fun h => by simp; omega)
 have h1 := List.mergeSort_of_pairwise hs
 rw [← h1]
 have hps : (ss.mergeSort fun x y => decide (x ≤ y)).Perm ((heldTo xs t n).mergeSort fun x y => decide (x ≤ y)) := (List.mergeSort_perm _ _).trans (hp.trans (List.mergeSort_perm _ _).symm)
 refine hps.eq_of_pairwise (le := fun a b => decide (a ≤ b)) ?_ ?_ ?_
 · intro a b _ _ h1 h2
   simp at h1 h2
   omega
 · exact List.pairwise_mergeSort (fun a b c h1 h2 => by simp at *; omega) (fun a b => by simp; omega) _
 · exact List.pairwise_mergeSort (fun a b c h1 h2 => by simp at *; omega) (fun a b => by simp; omega) _
end Go.Proofs.YtpffkhjegpddbaaGreat
namespace Go.Proofs.YtpffkhjegpddbaaGreat
open Go.RowKit

section
variable {α : Type}
def ixOf (q : α → Bool) (zs : List α) : Int := if zs.findIdx q < zs.length then (zs.findIdx q : Int) else -1
theorem ixOf_at (q : α → Bool) (d : α) (zs : List α) (k : Nat) (hk : k < zs.length) (h : q (zs.getD k d) = true) (hn : ∀ j, j < k → q (zs.getD j d) = false) : ixOf q zs = k := by
 have e : zs.findIdx q = k := by
   rw [List.findIdx_eq hk]
   refine ⟨by simpa [hk] using h, fun j hj => ?_⟩
   have := hn j hj
   have hj' : j < zs.length := by omega
   simpa [hj'] using this
 unfold ixOf
 rw [e, if_pos hk]
theorem ixOf_none (q : α → Bool) (d : α) (zs : List α) (hn : ∀ j, j < zs.length → q (zs.getD j d) = false) : ixOf q zs = -1 := by
 have e : zs.findIdx q = zs.length := by
   rw [List.findIdx_eq_length]
   intro p hp
   obtain ⟨j, hj, rfl⟩ := List.getElem_of_mem hp
   have := hn j hj
   simpa [hj] using this
 unfold ixOf
 rw [e, if_neg (by omega)]
theorem ixOf_any (q : α → Bool) (zs : List α) : decide (0 ≤ ixOf q zs) = zs.any q := by
 unfold ixOf
 by_cases h : zs.findIdx q < zs.length
 · rw [if_pos h]
   have := List.findIdx_lt_length.1 h
   rw [List.any_eq_true.2 this]
   simp
 · rw [if_neg h]
   have h2 : zs.any q = false := by
     rw [List.any_eq_false]
     intro p hp hq
     exact h (List.findIdx_lt_length.2 ⟨p, hp, hq⟩)
   rw [h2]
   simp
end

theorem ixNd_at (q : Nd → Bool) (xs : List Nd) (k : Nat) (hk : k < xs.length) (h : q (ndAt xs k) = true) (hn : ∀ j, j < k → q (ndAt xs j) = false) : ixOf q xs = k := ixOf_at q _ xs k hk h hn
theorem ixNd_none (q : Nd → Bool) (xs : List Nd) (hn : ∀ j, j < xs.length → q (ndAt xs j) = false) : ixOf q xs = -1 := ixOf_none q _ xs hn

def lackB (n : Nat) (p : Pr) : Bool := !hasB n p.2
def refT (n : Nat) (x : Nd) : Bool := !nodeOk x || ((x.ri != -1) && !hasB n x.ri) || (decide (0 < x.lv) && x.ps.any (lackB n))

theorem refT_good (n : Nat) (x : Nd) : (!refT n x) = ndGood n x := by
 unfold refT ndGood
 by_cases h : nodeOk x = true
 · rw [h]
   have hr : -1 ≤ x.ri := by
     have := h
     unfold nodeOk at this
     simp only [Bool.and_eq_true, Bool.or_eq_true, decide_eq_true_eq] at this
     unfold numB inB at this
     simp only [decide_eq_true_eq] at this
     grind
   have e1 : ((x.ri != -1) && !hasB n x.ri) = !decide (x.ri < (n : Int)) := by
     unfold hasB inB
     rw [Bool.eq_iff_iff]
     simp
     omega
   have e2 : (decide (0 < x.lv) && x.ps.any (lackB n)) = !(decide (x.lv ≤ 0) || (List.range x.ps.length).all (fun j => hasB n (vAt x.ps j))) := by
     have e3 : x.ps.any (lackB n) = !(List.range x.ps.length).all (fun j => hasB n (vAt x.ps j)) := by
       rw [Bool.eq_iff_iff]
       unfold lackB
       simp only [List.any_eq_true, Bool.not_eq_true', List.all_eq_false, List.mem_range, Bool.not_eq_true]
       refine ⟨fun ⟨p, hp, hq⟩ => ?_, fun ⟨j, hj, hq⟩ => ?_⟩
       · obtain ⟨j, hj, rfl⟩ := List.getElem_of_mem hp
         exact ⟨j, hj, by rw [vAt_eq _ _ hj]; exact hq⟩
       · exact ⟨x.ps[j], List.getElem_mem hj, by rw [vAt_eq _ _ hj] at hq; exact hq⟩
     rw [e3]
     by_cases hl : 0 < x.lv
     · rw [decide_eq_true hl, decide_eq_false (by omega : ¬ x.lv ≤ 0)]; simp
     · rw [decide_eq_false hl, decide_eq_true (by omega : x.lv ≤ 0)]; simp
   rw [e1, e2]
   simp
 · simp only [Bool.not_eq_true] at h
   rw [h]; simp

def okT (r : Int) (xs : List Nd) : Bool := decide (xs.length ≤ 40) && (hasB xs.length r && !xs.any (refT xs.length))
theorem okT_eq (r : Int) (xs : List Nd) : okT r xs = treeOk r xs := by
 have e : (!xs.any (refT xs.length)) = (List.range xs.length).all (fun i => ndGood xs.length (ndAt xs i)) := by
   rw [Bool.eq_iff_iff]
   simp only [Bool.not_eq_true', List.any_eq_false, List.all_eq_true, List.mem_range, Bool.not_eq_true]
   refine ⟨fun h i hi => ?_, fun h x hx => ?_⟩
   · rw [ndAt_eq _ _ hi, ← refT_good, h _ (List.getElem_mem hi)]; rfl
   · obtain ⟨i, hi, rfl⟩ := List.getElem_of_mem hx
     have := h i hi
     rw [ndAt_eq _ _ hi, ← refT_good] at this
     simpa using this
 unfold okT treeOk
 rw [e]
 by_cases h1 : hasB xs.length r = true
 · have h2 : 1 ≤ xs.length := by
     unfold hasB inB at h1
     simp at h1
     omega
   rw [h1, decide_eq_true h2]
   simp
 · simp only [Bool.not_eq_true] at h1
   rw [h1]; simp
end Go.Proofs.YtpffkhjegpddbaaGreat
namespace Go.Proofs.YtpffkhjegpddbaaGreat
open Go.RowKit

theorem inum_is (x : Int) (w : World) :
   Calls Tryz.prog 101 #[.int .i64 x] w fun e w' => e = .returned (.bool (numB x)) ∧ w = w' := by
 by_cases h1 : 0 ≤ x
 · have g1 : decide (0 ≤ x) = true := by simpa using h1
   go_enter Tryz.func101, Tryz.ntmps101
   go_wp2
   go_ret
   exact ⟨ret_bool (by unfold numB inB; rw [Bool.eq_iff_iff]; simp; omega), rfl⟩
 · have g1 : decide (0 ≤ x) = false := by simpa using h1
   go_enter Tryz.func101, Tryz.ntmps101
   go_wp2
   go_ret
   exact ⟨ret_bool (by unfold numB inB; symm; simp; omega), rfl⟩

theorem iReach_any (x : Nd) (key : Int) (A : Option Addr) (n c : Nat) (w : World) :
   Calls Tryz.prog 104 #[ndV x A n c, .int .i64 key] w fun e w' => e = .returned (.bool (inside x key)) ∧ Below w.heap.size w w' := by
 obtain ⟨lv, zs, hi, ri, ow⟩ := x
 unfold ndV inside
 simp only
 by_cases h : hi = -1
 · have hb : (hi == -1) = true := by simpa using h
   have H := Lib.hid h
   clear h
   go_enter Tryz.func104, Tryz.ntmps104
   go_wp2
   go_ret
   exact ⟨ret_bool (by simp [H.out]), (Below.refl _ _).alloc (Nat.le_refl _) _⟩
 · have hb : (hi == -1) = false := by simpa using h
   have H := Lib.hid h
   clear h
   go_enter Tryz.func104, Tryz.ntmps104
   go_wp2
   go_ret
   exact ⟨ret_bool (by simp [H.out]), (Below.refl _ _).alloc (Nat.le_refl _) _⟩

def linkB (x : Nd) : Bool := if x.hi = -1 then decide (x.ri = -1) else inB x.hi 1 100 && numB x.ri
theorem iLink_any (x : Nd) (A : Option Addr) (n c : Nat) (w : World) :
   Calls Tryz.prog 84 #[ndV x A n c] w fun e w' => e = .returned (.bool (linkB x)) ∧ Below w.heap.size w w' := by
 obtain ⟨lv, zs, hi, ri, ow⟩ := x
 unfold ndV linkB
 simp only
 by_cases h : hi = -1
 · have hb : (hi == -1) = true := by simpa using h
   have H := Lib.hid h
   clear h
   go_enter Tryz.func84, Tryz.ntmps84
   go_wp2
   go_ret
   exact ⟨ret_bool (by rw [Bool.eq_iff_iff]; simp), (Below.refl _ _).alloc (Nat.le_refl _) _⟩
 · have hb : (hi == -1) = false := by simpa using h
   rw [if_neg h]
   clear h
   have nk := inum_is ri
   by_cases h1 : 1 ≤ hi
   · have g1 : decide (1 ≤ hi) = true := by simpa using h1
     by_cases h2 : hi ≤ 100
     · have g2 : decide (hi ≤ 100) = true := by simpa using h2
       have e1 : inB hi 1 100 = true := by unfold inB; simp; omega
       rw [e1]
       generalize numB ri = b at *
       clear h1 h2 e1
       go_enter Tryz.func84, Tryz.ntmps84
       go_wp2_with fail
       refine (nk _).mono ?_
       rintro e w1 ⟨rfl, rfl⟩
       go_wp2
       go_ret
       exact ⟨ret_bool (by simp), (Below.refl _ _).alloc (Nat.le_refl _) _⟩
     · have g2 : decide (hi ≤ 100) = false := by simpa using h2
       have e1 : inB hi 1 100 = false := by unfold inB; simp; omega
       rw [e1]
       clear h1 h2 e1 nk
       go_enter Tryz.func84, Tryz.ntmps84
       go_wp2
       go_ret
       exact ⟨ret_bool (by simp), (Below.refl _ _).alloc (Nat.le_refl _) _⟩
   · have g1 : decide (1 ≤ hi) = false := by simpa using h1
     have e1 : inB hi 1 100 = false := by unfold inB; simp; omega
     rw [e1]
     clear h1 e1 nk
     go_enter Tryz.func84, Tryz.ntmps84
     go_wp2
     go_ret
     exact ⟨ret_bool (by simp), (Below.refl _ _).alloc (Nat.le_refl _) _⟩

def refB (x : Nd) (p : Pr) : Bool := !inside x p.1 || (decide (0 < x.lv) && !numB p.2)
theorem iRef_any (x : Nd) (p : Pr) (A : Option Addr) (n c : Nat) (w : World) :
   Calls Tryz.prog 86 #[ndV x A n c, .agg #[.int .i64 p.1, .int .i64 p.2]] w fun e w' => e = .returned (.bool (refB x p)) ∧ Below w.heap.size w w' := by
 obtain ⟨k, v⟩ := p
 have nk := inum_is v
 have rk := fun w => iReach_any x k A n c w
 obtain ⟨lv, zs, hi, ri, ow⟩ := x
 unfold ndV refB at *
 simp only at *
 generalize numB v = nb at *
 generalize inside ⟨lv, zs, hi, ri, ow⟩ k = ib at *
 have NK := Lib.hid nk
 have RK := Lib.hid rk
 clear nk rk
 have a0 := (Below.refl w.heap.size w).alloc (Nat.le_refl _) (.cells #[.int .i64 lv, jS A n c, .int .i64 hi, .int .i64 ri, .int .i64 ow] 53)
 have B0 := Lib.hid (a0.alloc a0.size (.cells #[.int .i64 k, .int .i64 v] 68))
 clear a0
 go_enter Tryz.func86, Tryz.ntmps86
 go_wp2_with fail
 refine (RK.out _).mono ?_
 rintro e w1 ⟨rfl, b1⟩
 have d0 : w1.cell? ⟨w.heap.size, 0, none⟩ = some (.int .i64 lv) := (b1.cell (by simp; omega)).trans (by simp)
 have d1 : w1.cell? ⟨w.heap.size + 1, 1, none⟩ = some (.int .i64 v) := (b1.cell (by simp)).trans (by simp)
 have B1 := Lib.hid (B0.out.trans (b1.mono (by simp; omega)))
 clear b1
 cases ib
 · go_wp2
   go_ret
   exact ⟨rfl, B1.out⟩
 · by_cases hl : 0 < lv
   · have hl2 : decide (0 < lv) = true := by simpa using hl
     go_wp2_with fail
     refine (NK.out _).mono ?_
     rintro e w2 ⟨rfl, rfl⟩
     go_wp2
     go_ret
     exact ⟨ret_bool (by rw [hl2]; simp), B1.out⟩
   · have hl2 : decide (0 < lv) = false := by simpa using hl
     go_wp2
     go_ret
     exact ⟨ret_bool (by rw [hl2]; simp), B1.out⟩

def refIx (x : Nd) (zs : List Pr) : Int := if zs.findIdx (refB x) < zs.length then (zs.findIdx (refB x) : Int) else -1
theorem refIx_of (x : Nd) (zs : List Pr) (k : Nat) (hk : k < zs.length) (h : refB x (kAt zs k, vAt zs k) = true) (hn : ∀ j, j < k → refB x (kAt zs j, vAt zs j) = false) : refIx x zs = k := by
 have e : zs.findIdx (refB x) = k := by
   rw [List.findIdx_eq hk]
   refine ⟨?_, fun j hj => ?_⟩
   · rw [kAt_eq _ _ hk, vAt_eq _ _ hk] at h; exact h
   · have := hn j hj
     rw [kAt_eq _ _ (by omega), vAt_eq _ _ (by omega)] at this
     simpa using this
 unfold refIx
 rw [e, if_pos hk]
theorem refIx_none (x : Nd) (zs : List Pr) (hn : ∀ j, j < zs.length → refB x (kAt zs j, vAt zs j) = false) : refIx x zs = -1 := by
 have e : zs.findIdx (refB x) = zs.length := by
   rw [List.findIdx_eq_length]
   intro p hp
   obtain ⟨j, hj, rfl⟩ := List.getElem_of_mem hp
   have := hn j hj
   rw [kAt_eq _ _ hj, vAt_eq _ _ hj] at this
   exact this
 unfold refIx
 rw [e, if_neg (by omega)]
theorem refIx_any (x : Nd) (zs : List Pr) : decide (0 ≤ refIx x zs) = zs.any (refB x) := by
 unfold refIx
 by_cases h : zs.findIdx (refB x) < zs.length
 · rw [if_pos h]
   have := List.findIdx_lt_length.1 h
   rw [List.any_eq_true.2 this]
   simp
 · rw [if_neg h]
   have h2 : zs.any (refB x) = false := by
     rw [List.any_eq_false]
     intro p hp hq
     exact h (List.findIdx_lt_length.2 ⟨p, hp, hq⟩)
   rw [h2]
   simp

theorem iIdxF_any (x : Nd) (A' : Option Addr) (n' c' : Nat) (A : Option Addr) (n c : Nat) (zs : List Pr) (w : World) (h : RP w w.heap.size A n zs) (hn : n ≤ 1048576) :
   Calls Tryz.prog 87 #[jS A n c, .func (.func 86) #[ndV x A' n' c'] #[]] w fun e w' => e = .returned (.int .i64 (refIx x zs)) ∧ Below w.heap.size w w' := by
 have HL := Lib.hid h.1
 have HH := Lib.hid h
 clear h
 have RK := Lib.hid (fun (p : Pr) w => iRef_any x p A' n' c' w)
 have eg : ∀ args w, (callFunc 86 args).run Tryz.prog w = .ok (.enter 86 args) w := enters_of Tryz.func86 (by kernel_rfl) rfl
 generalize ndV x A' n' c' = xv at *
 go_enter Tryz.func87, Tryz.ntmps87
 go_wp2
 go_loopw [8] (fun i wr => ∃ k : Nat, i = .int .i64 k ∧ k ≤ n ∧ Hid (∀ j, j < k → refB x (kAt zs j, vAt zs j) = false) ∧ Hid (Below w.heap.size w wr)) (fun i _ => n - (intOf i).toNat)
 case atStart => exact ⟨0, rfl, by omega, Lib.hid (by intro j hj; omega), Lib.hid (Below.refl _ _)⟩
 case round =>
   obtain ⟨k, rfl, hk, ho, hbw⟩ := hrel
   by_cases hlt : k < n
   · obtain ⟨b, off, rfl, hb, hc⟩ := HH.out.2 (by omega)
     have c1 := (hbw.out.cell (p := ⟨b, off + k * 2, none⟩) hb).trans (hc k hlt).1
     have c2 := (hbw.out.cell (p := ⟨b, off + k * 2 + 1, none⟩) hb).trans (hc k hlt).2
     clear hc
     have rk := RK.out (kAt zs k, vAt zs k) wr
     simp only at rk
     have hz : Hid (refIx x zs = -1 ∨ True) := Lib.hid (.inr trivial)
     have F1 : Hid (refB x (kAt zs k, vAt zs k) = true → refIx x zs = k) := Lib.hid fun h => refIx_of x zs k (by have := HL.out; omega) h ho.out
     have F2 : Hid (refB x (kAt zs k, vAt zs k) = false → ∀ j, j < k + 1 → refB x (kAt zs j, vAt zs j) = false) := Lib.hid fun h j hj => by
       rcases Nat.lt_or_ge j k with h' | h'
       · exact ho.out j h'
       · obtain rfl : j = k := by omega
         exact h
     generalize hq : refB x (kAt zs k, vAt zs k) = q at rk F1 F2
     clear hq hz
     cases q
     · go_wp2_with (go_at_fn 86; refine rk.mono ?_; rintro e w2 ⟨rfl, b2⟩)
       go_roundw
       case rel => exact ⟨k + 1, by go_num, by omega, Lib.hid (F2.out (by trivial)), Lib.hid (hbw.out.trans (b2.mono hbw.out.size))⟩
       case measure => simp [intOf]; omega
     · go_wp2_with (go_at_fn 86; refine rk.mono ?_; rintro e w2 ⟨rfl, b2⟩)
       go_ret
       exact ⟨ret_int (F1.out (by trivial)).symm, hbw.out.trans (b2.mono hbw.out.size)⟩
   · go_wp2
     go_ret
     have hz : zs.length = n := HL.out
     exact ⟨ret_int (refIx_none x zs (fun j hj => ho.out j (by omega))).symm, hbw.out⟩
end Go.Proofs.YtpffkhjegpddbaaGreat
