/- A region that draws its order: one obligation an operation, whatever the order; the frame as a letter. -/
import Derived.Test.YtjookicpmjmdhaaE19
import Derived.Test.YtjookicpmjmdhaaE20
import Derived.BigCall
import Derived.Shelf.Abstract
namespace Go.Proofs.Ytjookicpmjmdhaa
open Go.RowKit

def updB (D : Nat → Bool) (i : Nat) : Nat → Bool := fun j => if j = i then true else D j
def updW (V : Nat → Value) (i : Nat) (v : Value) : Nat → Value := fun j => if j = i then v else V j
def putD (V : Nat → Value) (D : Nat → Bool) : List Oper → Nat → Act → Act
  | [], _, a => a
  | o :: r, i, a => putD V D r (i + 1) (if D i then a.put o.dst (V i) else a)
def putF (V : Nat → Value) : List Oper → Nat → Act → Act
  | [], _, a => a
  | o :: r, i, a => putF V r (i + 1) (a.put o.dst (V i))
theorem putD_all (V : Nat → Value) (l : List Oper) (i : Nat) (a : Act) : putD V (fun _ => true) l i a = putF V l i a := by
  induction l generalizing i a with
  | nil => rfl
  | cons o r ih => simp [putD, putF, ih]
theorem putD_none (V : Nat → Value) (D : Nat → Bool) (l : List Oper) (i : Nat) (a : Act) (h : ∀ j, j < l.length → D (i + j) = false) : putD V D l i a = a := by
  induction l generalizing i a with
  | nil => rfl
  | cons o r ih =>
    have h0 := h 0 (by simp)
    simp only [Nat.add_zero] at h0
    simp only [putD, h0, Bool.false_eq_true, if_false]
    exact ih (i + 1) a (fun j hj => by have := h (j + 1) (by simp; omega); rwa [show i + (j + 1) = i + 1 + j from by omega] at this)
def noDst (l : List Oper) (t : Tmp) : Bool := l.all fun o => o.dst != some t
def dstsOk (n : Nat) : List Oper → Bool
  | [] => true
  | o :: r => (match o.dst with | some t => decide (t < n) && noDst r t | none => true) && dstsOk n r
theorem put_size (a : Act) (d : Option Tmp) (v : Value) : (a.put d v).tmps.size = a.tmps.size := by cases d <;> simp [Act.put]
theorem eval_put_other (a : Act) (d : Option Tmp) (v : Value) (t : Tmp) (h : d ≠ some t) : (a.put d v).eval (.tmp t) = a.eval (.tmp t) := by
  cases d with
  | none => rfl
  | some s =>
    have hne : s ≠ t := fun e => h (by rw [e])
    simp only [Act.put, Act.eval, Array.getD_eq_getD_getElem?]
    rw [Array.getElem?_setIfInBounds_ne hne]
theorem eval_put_same (a : Act) (v : Value) (t : Tmp) (h : t < a.tmps.size) : (a.put (some t) v).eval (.tmp t) = v := by
  simp [Act.put, Act.eval, h]
theorem putD_other (V : Nat → Value) (D : Nat → Bool) (l : List Oper) (i : Nat) (a : Act) (t : Tmp) (h : noDst l t = true) : (putD V D l i a).eval (.tmp t) = a.eval (.tmp t) := by
  induction l generalizing i a with
  | nil => rfl
  | cons o r ih =>
    simp only [noDst, List.all_cons, Bool.and_eq_true, bne_iff_ne, ne_eq] at h
    simp only [putD]
    rw [ih _ _ (by simp only [noDst]; exact h.2)]
    split
    · exact eval_put_other _ _ _ _ h.1
    · rfl
theorem putD_at (V : Nat → Value) (D : Nat → Bool) (l : List Oper) (n i : Nat) (a : Act) (ha : a.tmps.size = n) (hd : dstsOk n l = true) (j : Nat) (o : Oper) (t : Tmp) (hj : l[j]? = some o) (ho : o.dst = some t) (hD : D (i + j) = true) : (putD V D l i a).eval (.tmp t) = V (i + j) := by
  induction l generalizing i a j with
  | nil => simp at hj
  | cons p r ih =>
    simp only [dstsOk, Bool.and_eq_true] at hd
    cases j with
    | zero =>
      simp only [List.getElem?_cons_zero, Option.some.injEq] at hj
      subst hj
      rw [ho] at hd
      simp only [Bool.and_eq_true, decide_eq_true_eq] at hd
      simp only [Nat.add_zero] at hD ⊢
      simp only [putD, hD, if_true, ho]
      rw [putD_other _ _ _ _ _ _ hd.1.2]
      exact eval_put_same _ _ _ (by rw [ha]; exact hd.1.1)
    | succ j =>
      simp only [List.getElem?_cons_succ] at hj
      have := ih (i + 1) (if D i then a.put p.dst (V i) else a) (by split <;> simp [put_size, ha]) hd.2 j hj (by rwa [show i + 1 + j = i + (j + 1) from by omega])
      rwa [show i + 1 + j = i + (j + 1) from by omega] at this
theorem put_comm (a : Act) (d e : Option Tmp) (u v : Value) (h : ∀ t, d = some t → e ≠ some t) : (a.put d u).put e v = (a.put e v).put d u := by
  cases d with
  | none => rfl
  | some s =>
    cases e with
    | none => rfl
    | some t =>
      have hne : s ≠ t := fun he => h s rfl (by rw [he])
      simp only [Act.put]
      rw [Array.setIfInBounds_comm _ _ hne]
theorem putD_put (V : Nat → Value) (D : Nat → Bool) (l : List Oper) (i : Nat) (a : Act) (d : Option Tmp) (v : Value) (h : ∀ t, d = some t → noDst l t = true) : (putD V D l i a).put d v = putD V D l i (a.put d v) := by
  induction l generalizing i a with
  | nil => rfl
  | cons o r ih =>
    have h2 : ∀ t, d = some t → noDst r t = true := fun t ht => by have := h t ht; simp only [noDst, List.all_cons, Bool.and_eq_true] at this ⊢; exact this.2
    simp only [putD]
    rw [ih _ _ h2]
    congr 1
    split
    · refine put_comm _ _ _ _ _ (fun t ho hd => ?_)
      have := h t hd
      simp only [noDst, List.all_cons, Bool.and_eq_true, bne_iff_ne, ne_eq] at this
      exact this.1 ho
    · rfl
theorem putD_same (V V' : Nat → Value) (D D' : Nat → Bool) (l : List Oper) (i : Nat) (a : Act) (h : ∀ j, i ≤ j → D' j = D j ∧ V' j = V j) : putD V' D' l i a = putD V D l i a := by
  induction l generalizing i a with
  | nil => rfl
  | cons o r ih =>
    simp only [putD]
    rw [(h i (Nat.le_refl _)).1, (h i (Nat.le_refl _)).2]
    exact ih _ _ (fun j hj => h j (by omega))
theorem putD_step (V : Nat → Value) (D : Nat → Bool) (l : List Oper) (n i : Nat) (a : Act) (hd : dstsOk n l = true) (j : Nat) (o : Oper) (hj : l[j]? = some o) (hD : D (i + j) = false) (v : Value) : (putD V D l i a).put o.dst v = putD (updW V (i + j) v) (updB D (i + j)) l i a := by
  induction l generalizing i a j with
  | nil => simp at hj
  | cons p r ih =>
    simp only [dstsOk, Bool.and_eq_true] at hd
    cases j with
    | zero =>
      simp only [List.getElem?_cons_zero, Option.some.injEq] at hj
      subst hj
      simp only [Nat.add_zero] at hD ⊢
      simp only [putD, hD, Bool.false_eq_true, if_false]
      rw [putD_put _ _ _ _ _ _ _ (fun t ht => by rw [ht] at hd; simp only [Bool.and_eq_true] at hd; exact hd.1.2)]
      have e1 : updB D i i = true := by simp [updB]
      have e2 : updW V i v i = v := by simp [updW]
      rw [e1, e2]
      simp only [if_true]
      exact (putD_same _ _ _ _ _ _ _ (fun k hk => ⟨by simp [updB, show k ≠ i by omega], by simp [updW, show k ≠ i by omega]⟩)).symm
    | succ j =>
      simp only [List.getElem?_cons_succ] at hj
      have e1 : updB D (i + (j + 1)) i = D i := by simp [updB]
      have e2 : updW V (i + (j + 1)) v i = V i := by simp [updW]
      simp only [putD]
      rw [e1, e2]
      have := ih (i + 1) (if D i then a.put p.dst (V i) else a) hd.2 j hj (by rwa [show i + 1 + j = i + (j + 1) from by omega])
      rwa [show i + 1 + j = i + (j + 1) from by omega] at this

structure Evs (l : List Oper) (a0 : Act) (D : Nat → Bool) (V : Nat → Value) (a : Act) : Prop where
  old : ∀ t, noDst l t = true → a.eval (.tmp t) = a0.eval (.tmp t)
  new : ∀ j o t, l[j]? = some o → o.dst = some t → D j = true → a.eval (.tmp t) = V j

theorem wp_region_ev {P : Program} {id : Nat} {Q : Exit → Act → World → Prop} {a0 : Act} {w : World} (hm : P.follows .mixedOrders = true) (l : List Oper) (hlt : afterLt l.toArray = true)
    (hun : l.all (fun o => o.guard.isNone) = true) (n : Nat) (hn : a0.tmps.size = n) (hd : dstsOk n l = true) (I : (Nat → Bool) → (Nat → Value) → World → Prop)
    (h0 : ∀ D, (∀ i, i < l.length → D i = false) → I D (fun _ => undef) w.drew)
    (hs : ∀ (i : Nat) (o : Oper) (D : Nat → Bool) (V : Nat → Value) (w' : World) (a : Act), l[i]? = some o → I D V w' → D i = false → (∀ e ∈ o.after, Region.binds .any e = true → D e.on = true) → Evs l a0 D V a →
      o.wp P a w' (fun a' w'' => ∃ v, a' = a.put o.dst v ∧ I (updB D i) (updW V i v) w'') Q)
    (he : ∀ V w', I (fun _ => true) V w' → Q .normal (putF V l 0 a0) w') : (Code.region id l.toArray true).wp P Q a0 w := by
  refine wp_region_inv (ops := l.toArray) hm hlt (fun L a w' => ∃ V, a = putD V (fun j => L.getD j true) l 0 a0 ∧ I (fun j => L.getD j true) V w') ?_ ?_ ?_
  · refine ⟨fun _ => undef, ?_, h0 _ (fun i hi => by simp [hi])⟩
    rw [putD_none]
    intro j hj
    simp [hj]
  · rintro L a w' i o hL ⟨V, rfl, hI⟩ ho hLi haf
    have ho' : l[i]? = some o := by simpa using ho
    have hi : i < L.size := by rw [hL]; exact (Array.getElem?_eq_some_iff.1 ho).1
    have hg : o.guard = none := by
      have := (List.all_eq_true.1 hun) o (List.mem_of_getElem? ho')
      simpa using this
    have hw : Region.wanted o (yielded l.toArray (putD V (fun j => L.getD j true) l 0 a0).tmps) = true := by simp [Region.wanted, hg]
    rw [if_pos hw]
    have hLD : (fun j => (L.setIfInBounds i true).getD j true) = updB (fun j => L.getD j true) i := by
      funext j
      unfold updB
      by_cases e : j = i
      · subst e; simp [hi]
      · rw [if_neg e]
        simp only [Array.getD_eq_getD_getElem?]
        rw [Array.getElem?_setIfInBounds_ne (by omega)]
    refine Oper.wp_mono (fun a' w'' h => ?_) (hs i o (fun j => L.getD j true) V w' _ ho' hI hLi (fun e he hb => by
      have := haf e he hb
      by_cases hes : e.on < L.size
      · simpa [hes] using this
      · simp [hes]) ⟨fun t ht => putD_other _ _ _ _ _ _ ht, fun j o' t hj hot hD => by
        have := putD_at V (fun j => L.getD j true) l n 0 a0 hn hd j o' t hj hot (by simpa using hD)
        simpa using this⟩)
    obtain ⟨v, rfl, hI'⟩ := h
    refine ⟨updW V i v, ?_, ?_⟩
    · rw [hLD]
      have := putD_step V (fun j => L.getD j true) l n 0 a0 hd i o ho' (by simpa using hLi) v
      simpa using this
    · rw [hLD]; exact hI'
  · rintro a w' ⟨V, rfl, hI⟩
    have e : (fun j => (Array.replicate l.toArray.size true).getD j true) = fun _ => true := by
      funext j
      by_cases hj : j < l.length <;> simp [hj]
    rw [e] at hI ⊢
    rw [putD_all]
    exact he V w' hI
theorem nof {b : Bool} {p : Prop} (h : b = false) (h2 : b = true) : p := by rw [h] at h2; cases h2
theorem nofb {a b : Bool} (h : b = false) (o : a = true → b = true) : a = false := by
  cases a
  · rfl
  · rw [o rfl] at h; cases h
theorem inj_ {α : Type} {x y : α} (h : some x = some y) : x = y := Option.some.inj h
theorem aft_ {o : Oper} {D : Nat → Bool} (haf : ∀ e ∈ o.after, Region.binds .any e = true → D e.on = true) (q : Nat) (h : (o.after.toList.any fun e => e.on == q && Region.binds .any e) = true) : D q = true := by
  obtain ⟨e, he, h2⟩ := List.any_eq_true.1 h
  simp only [Bool.and_eq_true, beq_iff_eq] at h2
  have := haf e (by simpa using he) h2.2
  rwa [h2.1] at this
theorem Evs.at_ {l : List Oper} {a0 a : Act} {D : Nat → Bool} {V : Nat → Value} (hev : Evs l a0 D V a) (j : Nat) (t : Tmp) {o : Oper} (hj : l[j]? = some o) (ho : o.dst = some t) {v : Value} (h : D j = true) (f : D j = true → V j = v) : a.eval (.tmp t) = v := (hev.new j o t hj ho h).trans (f h)
theorem gs_ {α : Type} {a : α} {l : List α} {i : Nat} : (a :: l)[i + 1]? = l[i]? := List.getElem?_cons_succ
theorem gz_ {α : Type} {a : α} {l : List α} : (a :: l)[0]? = some a := List.getElem?_cons_zero
end Go.Proofs.Ytjookicpmjmdhaa
