/- A region that draws its order, by an invariant: one obligation an operation, whatever the order. No program in sight. -/
import Derived.Orders
import Derived.Still
import Derived.Test.YtokkpbjldchjpaaSp
import Derived.BigCall
import Derived.Shelf.Abstract
import Derived.Great.BuildSlice
import Derived.Deep.AppendLies
namespace Go.Proofs.Ytokkpbjldchjpaa

variable {P : Program} {ops : Array Oper}

/-- Each operation waits for earlier ones alone. -/
def afterLt (ops : Array Oper) : Bool := (List.range ops.size).all fun i => ((ops[i]?).map fun o => o.after.all fun e => !Region.binds .any e || decide (e.on < i)).getD true

theorem all_true {L : Array Bool} {n : Nat} (hn : L.size = n) (h : ∀ i, i < n → L.getD i true = true) : L = Array.replicate n true := by
  apply Array.ext
  · simp [hn]
  · intro i h1 h2
    have := h i (by omega)
    simp only [Array.getElem_replicate]
    simpa [h1] using this

theorem ready_nil {L : Array Bool} (hlt : afterLt ops = true) (hL : L.size = ops.size) (h : Region.ready .any ops L = []) : ∀ i, i < ops.size → L.getD i true = true := by
  intro i
  induction i using Nat.strongRecOn with
  | ind i ih =>
    intro hi
    rcases hq : L.getD i true with _ | _
    · exfalso
      have hmem : i ∈ Region.ready .any ops L := by
        refine mem_ready.2 ⟨hq, ops[i], by simp [hi], fun e he hbd => ?_⟩
        have hall : (((ops[i]?).map fun o => o.after.all fun e => !Region.binds .any e || decide (e.on < i)).getD true) = true := by
          unfold afterLt at hlt
          exact (List.all_eq_true.1 hlt) i (List.mem_range.2 hi)
        simp [hi] at hall
        have he' : e.on < i := by
          obtain ⟨j, hj, rfl⟩ := Array.getElem_of_mem he
          have := hall j hj
          rw [hbd] at this
          simpa using this
        have := ih e.on he' (by omega)
        have hs : e.on < L.size := by omega
        simpa [hs] using this
      rw [h] at hmem
      cases hmem
    · rfl

theorem wpAny_inv {Q : Exit → Act → World → Prop} (hlt : afterLt ops = true) (I : Array Bool → Act → World → Prop)
    (hs : ∀ L a w i o, L.size = ops.size → I L a w → ops[i]? = some o → L.getD i true = false → (∀ e ∈ o.after, Region.binds .any e = true → L.getD e.on false = true) →
      if Region.wanted o (yielded ops a.tmps) = true then o.wp P a w (I (L.setIfInBounds i true)) Q else I (L.setIfInBounds i true) (a.put o.dst undef) w)
    (he : ∀ a w, I (Array.replicate ops.size true) a w → Q .normal a w) :
    ∀ (fuel : Nat) (L : Array Bool) (a : Act) (w : World), L.size = ops.size → L.toList.count false ≤ fuel → I L a w → wpAny P .any ops Q fuel L a w := by
  intro fuel
  induction fuel with
  | zero =>
    intro L a w hL hc hI
    have hall : ∀ i, i < ops.size → L.getD i true = true := by
      intro i hi
      rcases hq : L.getD i true with _ | _
      · exfalso
        have hi' : i < L.size := by omega
        have hm : false ∈ L.toList := by
          have : L[i] = false := by simpa [hi'] using hq
          rw [← this]
          simp
        have := List.count_pos_iff.2 hm
        omega
      · rfl
    have e := all_true hL hall
    subst e
    refine ⟨?_, he _ _ hI⟩
    apply List.eq_nil_iff_forall_not_mem.2
    intro i hi
    have h1 := (mem_ready.1 hi).1
    by_cases hsz : i < ops.size <;> simp [hsz] at h1
  | succ fuel ih =>
    intro L a w hL hc hI
    refine ⟨fun h => ?_, fun i hi => ?_⟩
    · have e := all_true hL (ready_nil hlt hL h)
      subst e
      exact he _ _ hI
    · obtain ⟨h1, o, ho, hafter⟩ := mem_ready.1 hi
      have hi' : i < ops.size := (Array.getElem?_eq_some_iff.1 ho).1
      have hL' : (L.setIfInBounds i true).size = ops.size := by simp [hL]
      have hc' : (L.setIfInBounds i true).toList.count false ≤ fuel := by
        have hil : i < L.toList.length := by simp; omega
        have hv : L.toList[i] = false := by
          have : i < L.size := by omega
          simpa [this] using h1
        rw [Array.toList_setIfInBounds, List.count_set hil, hv]
        have hpos : 0 < L.toList.count false := List.count_pos_iff.2 (by rw [← hv]; exact List.getElem_mem hil)
        rw [if_pos (by rfl), if_neg (by decide)]
        omega
      have step := hs L a w i o hL hI ho h1 hafter
      unfold wpOp
      simp only [ho]
      by_cases hw : Region.wanted o (yielded ops a.tmps) = true
      · rw [if_pos hw] at step ⊢
        exact .inl (Oper.wp_mono (fun a w h => ih _ a w hL' hc' h) step)
      · rw [if_neg hw] at step ⊢
        exact ih _ _ _ hL' hc' step

/-- **A region that draws its order, by an invariant over what has come up already.** -/
theorem wp_region_inv {id : Nat} {Q : Exit → Act → World → Prop} {a : Act} {w : World} (hm : P.follows .mixedOrders = true) (hlt : afterLt ops = true) (I : Array Bool → Act → World → Prop)
    (h0 : I (Array.replicate ops.size false) a { w with drawn := w.drawn + 1 })
    (hs : ∀ L a w i o, L.size = ops.size → I L a w → ops[i]? = some o → L.getD i true = false → (∀ e ∈ o.after, Region.binds .any e = true → L.getD e.on false = true) →
      if Region.wanted o (yielded ops a.tmps) = true then o.wp P a w (I (L.setIfInBounds i true)) Q else I (L.setIfInBounds i true) (a.put o.dst undef) w)
    (he : ∀ a w, I (Array.replicate ops.size true) a w → Q .normal a w) : (Code.region id ops true).wp P Q a w :=
  wp_region_any hm (wpAny_inv hlt I hs he ops.size _ _ _ (by simp) (by have := List.count_le_length (a := false) (l := (Array.replicate ops.size false).toList); simp only [Array.toList_replicate, List.length_replicate] at this ⊢; exact this) h0)
end Go.Proofs.Ytokkpbjldchjpaa

namespace Go.Proofs.Ytokkpbjldchjpaa
open Go.RowKit

def updB (D : Nat → Bool) (i : Nat) : Nat → Bool := fun j => if j = i then true else D j
def updW (V : Nat → Value) (i : Nat) (v : Value) : Nat → Value := fun j => if j = i then v else V j
/-- The frame with the values of what is done. -/
def putD (V : Nat → Value) (D : Nat → Bool) : List Oper → Nat → Act → Act
  | [], _, a => a
  | o :: r, i, a => putD V D r (i + 1) (if D i then a.put o.dst (V i) else a)
/-- .. of all. -/
def putF (V : Nat → Value) : List Oper → Nat → Act → Act
  | [], _, a => a
  | o :: r, i, a => putF V r (i + 1) (a.put o.dst (V i))
theorem putD_all (V : Nat → Value) (l : List Oper) (i : Nat) (a : Act) : putD V (fun _ => true) l i a = putF V l i a := by
  induction l generalizing i a with
  | nil => rfl
  | cons o r ih => simp [putD, putF, ih]
theorem putD_none (V : Nat → Value) (D : Nat → Bool) (l : List Oper) (i : Nat) (a : Act) (h : ∀ j, j < l.length → D (i + j) = false) : putD V D l i a = a := by
  induction l generalizing i a with
  | nil => rfl
  | cons o r ih =>
    have h0 := h 0 (by simp)
    simp only [Nat.add_zero] at h0
    simp only [putD, h0, Bool.false_eq_true, if_false]
    exact ih (i + 1) a (fun j hj => by have := h (j + 1) (by simp; omega); rwa [show i + (j + 1) = i + 1 + j from by omega] at this)
def noDst (l : List Oper) (t : Tmp) : Bool := l.all fun o => o.dst != some t
/-- No slot is written twice, each lies in the frame. -/
def dstsOk (n : Nat) : List Oper → Bool
  | [] => true
  | o :: r => (match o.dst with | some t => decide (t < n) && noDst r t | none => true) && dstsOk n r
theorem put_size (a : Act) (d : Option Tmp) (v : Value) : (a.put d v).tmps.size = a.tmps.size := by cases d <;> simp [Act.put]
theorem eval_put_other (a : Act) (d : Option Tmp) (v : Value) (t : Tmp) (h : d ≠ some t) : (a.put d v).eval (.tmp t) = a.eval (.tmp t) := by
  cases d with
  | none => rfl
  | some s =>
    have hne : s ≠ t := fun e => h (by rw [e])
    simp only [Act.put, Act.eval, Array.getD_eq_getD_getElem?]
    rw [Array.getElem?_setIfInBounds_ne hne]
theorem eval_put_same (a : Act) (v : Value) (t : Tmp) (h : t < a.tmps.size) : (a.put (some t) v).eval (.tmp t) = v := by
  simp [Act.put, Act.eval, h]
theorem putD_other (V : Nat → Value) (D : Nat → Bool) (l : List Oper) (i : Nat) (a : Act) (t : Tmp) (h : noDst l t = true) : (putD V D l i a).eval (.tmp t) = a.eval (.tmp t) := by
  induction l generalizing i a with
  | nil => rfl
  | cons o r ih =>
    simp only [noDst, List.all_cons, Bool.and_eq_true, bne_iff_ne, ne_eq] at h
    simp only [putD]
    rw [ih _ _ (by simp only [noDst]; exact h.2)]
    split
    · exact eval_put_other _ _ _ _ h.1
    · rfl
theorem putD_at (V : Nat → Value) (D : Nat → Bool) (l : List Oper) (n i : Nat) (a : Act) (ha : a.tmps.size = n) (hd : dstsOk n l = true) (j : Nat) (o : Oper) (t : Tmp) (hj : l[j]? = some o) (ho : o.dst = some t) (hD : D (i + j) = true) : (putD V D l i a).eval (.tmp t) = V (i + j) := by
  induction l generalizing i a j with
  | nil => simp at hj
  | cons p r ih =>
    simp only [dstsOk, Bool.and_eq_true] at hd
    cases j with
    | zero =>
      simp only [List.getElem?_cons_zero, Option.some.injEq] at hj
      subst hj
      rw [ho] at hd
      simp only [Bool.and_eq_true, decide_eq_true_eq] at hd
      simp only [Nat.add_zero] at hD ⊢
      simp only [putD, hD, if_true, ho]
      rw [putD_other _ _ _ _ _ _ hd.1.2]
      exact eval_put_same _ _ _ (by rw [ha]; exact hd.1.1)
    | succ j =>
      simp only [List.getElem?_cons_succ] at hj
      have := ih (i + 1) (if D i then a.put p.dst (V i) else a) (by split <;> simp [put_size, ha]) hd.2 j hj (by rwa [show i + 1 + j = i + (j + 1) from by omega])
      rwa [show i + 1 + j = i + (j + 1) from by omega] at this
theorem put_comm (a : Act) (d e : Option Tmp) (u v : Value) (h : ∀ t, d = some t → e ≠ some t) : (a.put d u).put e v = (a.put e v).put d u := by
  cases d with
  | none => rfl
  | some s =>
    cases e with
    | none => rfl
    | some t =>
      have hne : s ≠ t := fun he => h s rfl (by rw [he])
      simp only [Act.put]
      rw [Array.setIfInBounds_comm _ _ hne]
theorem putD_put (V : Nat → Value) (D : Nat → Bool) (l : List Oper) (i : Nat) (a : Act) (d : Option Tmp) (v : Value) (h : ∀ t, d = some t → noDst l t = true) : (putD V D l i a).put d v = putD V D l i (a.put d v) := by
  induction l generalizing i a with
  | nil => rfl
  | cons o r ih =>
    have h2 : ∀ t, d = some t → noDst r t = true := fun t ht => by have := h t ht; simp only [noDst, List.all_cons, Bool.and_eq_true] at this ⊢; exact this.2
    simp only [putD]
    rw [ih _ _ h2]
    congr 1
    split
    · refine put_comm _ _ _ _ _ (fun t ho hd => ?_)
      have := h t hd
      simp only [noDst, List.all_cons, Bool.and_eq_true, bne_iff_ne, ne_eq] at this
      exact this.1 ho
    · rfl
theorem putD_same (V V' : Nat → Value) (D D' : Nat → Bool) (l : List Oper) (i : Nat) (a : Act) (h : ∀ j, i ≤ j → D' j = D j ∧ V' j = V j) : putD V' D' l i a = putD V D l i a := by
  induction l generalizing i a with
  | nil => rfl
  | cons o r ih =>
    simp only [putD]
    rw [(h i (Nat.le_refl _)).1, (h i (Nat.le_refl _)).2]
    exact ih _ _ (fun j hj => h j (by omega))
/-- One operation more. -/
theorem putD_step (V : Nat → Value) (D : Nat → Bool) (l : List Oper) (n i : Nat) (a : Act) (hd : dstsOk n l = true) (j : Nat) (o : Oper) (hj : l[j]? = some o) (hD : D (i + j) = false) (v : Value) : (putD V D l i a).put o.dst v = putD (updW V (i + j) v) (updB D (i + j)) l i a := by
  induction l generalizing i a j with
  | nil => simp at hj
  | cons p r ih =>
    simp only [dstsOk, Bool.and_eq_true] at hd
    cases j with
    | zero =>
      simp only [List.getElem?_cons_zero, Option.some.injEq] at hj
      subst hj
      simp only [Nat.add_zero] at hD ⊢
      simp only [putD, hD, Bool.false_eq_true, if_false]
      rw [putD_put _ _ _ _ _ _ _ (fun t ht => by rw [ht] at hd; simp only [Bool.and_eq_true] at hd; exact hd.1.2)]
      have e1 : updB D i i = true := by simp [updB]
      have e2 : updW V i v i = v := by simp [updW]
      rw [e1, e2]
      simp only [if_true]
      exact (putD_same _ _ _ _ _ _ _ (fun k hk => ⟨by simp [updB, show k ≠ i by omega], by simp [updW, show k ≠ i by omega]⟩)).symm
    | succ j =>
      simp only [List.getElem?_cons_succ] at hj
      have e1 : updB D (i + (j + 1)) i = D i := by simp [updB]
      have e2 : updW V (i + (j + 1)) v i = V i := by simp [updW]
      simp only [putD]
      rw [e1, e2]
      have := ih (i + 1) (if D i then a.put p.dst (V i) else a) hd.2 j hj (by rwa [show i + 1 + j = i + (j + 1) from by omega])
      rwa [show i + 1 + j = i + (j + 1) from by omega] at this

/-- What the operands are, whatever the order so far. -/
structure Evs (l : List Oper) (a0 : Act) (D : Nat → Bool) (V : Nat → Value) (a : Act) : Prop where
  old : ∀ t, noDst l t = true → a.eval (.tmp t) = a0.eval (.tmp t)
  new : ∀ j o t, l[j]? = some o → o.dst = some t → D j = true → a.eval (.tmp t) = V j

theorem wp_region_ev {P : Program} {id : Nat} {Q : Exit → Act → World → Prop} {a0 : Act} {w : World} (hm : P.follows .mixedOrders = true) (l : List Oper) (hlt : afterLt l.toArray = true)
    (hun : l.all (fun o => o.guard.isNone) = true) (n : Nat) (hn : a0.tmps.size = n) (hd : dstsOk n l = true) (I : (Nat → Bool) → (Nat → Value) → World → Prop)
    (h0 : ∀ D, (∀ i, i < l.length → D i = false) → I D (fun _ => undef) w.drew)
    (hs : ∀ (i : Nat) (o : Oper) (D : Nat → Bool) (V : Nat → Value) (w' : World) (a : Act), l[i]? = some o → I D V w' → D i = false → (∀ e ∈ o.after, Region.binds .any e = true → D e.on = true) → Evs l a0 D V a →
      o.wp P a w' (fun a' w'' => ∃ v, a' = a.put o.dst v ∧ I (updB D i) (updW V i v) w'') Q)
    (he : ∀ V w', I (fun _ => true) V w' → Q .normal (putF V l 0 a0) w') : (Code.region id l.toArray true).wp P Q a0 w := by
  refine wp_region_inv (ops := l.toArray) hm hlt (fun L a w' => ∃ V, a = putD V (fun j => L.getD j true) l 0 a0 ∧ I (fun j => L.getD j true) V w') ?_ ?_ ?_
  · refine ⟨fun _ => undef, ?_, h0 _ (fun i hi => by simp [hi])⟩
    rw [putD_none]
    intro j hj
    simp [hj]
  · rintro L a w' i o hL ⟨V, rfl, hI⟩ ho hLi haf
    have ho' : l[i]? = some o := by simpa using ho
    have hi : i < L.size := by rw [hL]; exact (Array.getElem?_eq_some_iff.1 ho).1
    have hg : o.guard = none := by
      have := (List.all_eq_true.1 hun) o (List.mem_of_getElem? ho')
      simpa using this
    have hw : Region.wanted o (yielded l.toArray (putD V (fun j => L.getD j true) l 0 a0).tmps) = true := by simp [Region.wanted, hg]
    rw [if_pos hw]
    have hLD : (fun j => (L.setIfInBounds i true).getD j true) = updB (fun j => L.getD j true) i := by
      funext j
      unfold updB
      by_cases e : j = i
      · subst e; simp [hi]
      · rw [if_neg e]
        simp only [Array.getD_eq_getD_getElem?]
        rw [Array.getElem?_setIfInBounds_ne (by omega)]
    refine Oper.wp_mono (fun a' w'' h => ?_) (hs i o (fun j => L.getD j true) V w' _ ho' hI hLi (fun e he hb => by
      have := haf e he hb
      by_cases hes : e.on < L.size
      · simpa [hes] using this
      · simp [hes]) ⟨fun t ht => putD_other _ _ _ _ _ _ ht, fun j o' t hj hot hD => by
        have := putD_at V (fun j => L.getD j true) l n 0 a0 hn hd j o' t hj hot (by simpa using hD)
        simpa using this⟩)
    obtain ⟨v, rfl, hI'⟩ := h
    refine ⟨updW V i v, ?_, ?_⟩
    · rw [hLD]
      have := putD_step V (fun j => L.getD j true) l n 0 a0 hd i o ho' (by simpa using hLi) v
      simpa using this
    · rw [hLD]; exact hI'
  · rintro a w' ⟨V, rfl, hI⟩
    have e : (fun j => (Array.replicate l.toArray.size true).getD j true) = fun _ => true := by
      funext j
      by_cases hj : j < l.length <;> simp [hj]
    rw [e] at hI ⊢
    rw [putD_all]
    exact he V w' hI
end Go.Proofs.Ytokkpbjldchjpaa

namespace Go.Proofs.Ytokkpbjldchjpaa
open Go.RowKit

/-- Under a flag. -/
def cnd (b : Bool) (I J : Item) : Item := if b then J else I
/-- Nothing yet. -/
def em : Item := ⟨fun _ => False, fun _ => True, fun _ _ _ _ => trivial⟩
theorem cnd_f {b : Bool} (h : b = false) (I J : Item) : cnd b I J = I := by rw [h]; rfl
theorem cnd_t {b : Bool} (h : b = true) (I J : Item) : cnd b I J = J := by rw [h]; rfl

theorem eval_const (a : Act) (v : Value) : a.eval (.const v) = v := rfl

section
variable {P : Program} {X : FP} {w0 w : World} {L : List Item} {o : Oper} {a : Act} {K : Act → World → Prop} {Q : Exit → Act → World → Prop}
theorem op_val {v : Value} (hrun : (execOp a.eval o).run P w = .ok (.value v) w) (hK : K (a.put o.dst v) w) : o.wp P a w K Q := by
  unfold Oper.wp
  rw [hrun]
  exact hK
theorem op_move {x : Operand} (ho : o.op = .move x ∨ o.op = .assign x) {v : Value} (hx : a.eval x = v) (hK : K (a.put o.dst v) w) : o.wp P a w K Q := by
  subst hx
  refine op_val ?_ hK
  rcases ho with ho | ho <;> simp [execOp, ho]
theorem op_get (ty : TypeId) (x : Operand) (ho : o.op = .load ty x) (h : Sep X w0 L w) (i : Nat) {g : Nat} {C : Array Value} {t : TypeId} (e : L[i]? = some (bx g C t)) (j : Nat) (hx : a.eval x = .pointer (some ⟨g, j, none⟩))
    (hu : ∀ w, (isAgg ty).run P w = .ok false w) (v : Value) (hv : C[j]? = some v) (hK : K (a.put o.dst v) w) : o.wp P a w K Q := by
  have hc : w.cell? ⟨g, j, none⟩ = some v := by rw [cell_of_row _ _ j _ _ _ (h.get i e)]; exact hv
  unfold Oper.wp execOp
  simp only [ho, hx, Instr.loadAt, Instr.sureAddr, loadVar, Sem.run_bind, Sem.run_pure, Result.andThen_ok, hu, Bool.false_eq_true, if_false, run_load, hc]
  exact hK
theorem op_getK (ty : TypeId) (x : Operand) (ho : o.op = .load ty x) (h : Sep X w0 L w) (i : Nat) {g : Nat} {C : Array Value} {t : TypeId} (e : L[i]? = some (bx g C t)) (j : Nat) (hx : a.eval x = .pointer (some ⟨g, j, none⟩))
    (hu : ∀ w, (isAgg ty).run P w = .ok true w) (vs : List Value) (hv : (C.toList.drop j).take vs.length = vs) (hi : (P.info? ty).map (·.size) = some vs.length) (hK : K (a.put o.dst (.agg vs.toArray)) w) : o.wp P a w K Q := by
  have hgx := h.get i e
  have hc : ∀ k v, vs[k]? = some v → w.cell? ((⟨g, j, none⟩ : Addr).add k) = some v := fun k v hk => by
    have hadd : (⟨g, j, none⟩ : Addr).add k = ⟨g, j + k, none⟩ := by unfold Addr.add; split <;> simp_all
    have hkl : k < vs.length := (List.getElem?_eq_some_iff.1 hk).1
    rw [hadd, cell_of_row _ _ (j + k) _ _ _ hgx]
    rw [← hv, List.getElem?_take_of_lt hkl, List.getElem?_drop] at hk
    simpa using hk
  have hl := run_loadCells_list (P := P) w ⟨g, j, none⟩ vs hc
  unfold Oper.wp execOp
  cases hq : P.info? ty with
  | none => rw [hq] at hi; cases hi
  | some q =>
    have hs : q.size = vs.length := by rw [hq] at hi; simpa using hi
    have hsz : ∀ w, (sizeOf ty).run P w = .ok vs.length w := fun w => by simp [sizeOf, typeInfo, hq, hs]
    simp only [ho, hx, Instr.loadAt, Instr.sureAddr, loadVar, Sem.run_bind, Sem.run_pure, Result.andThen_ok, hu, if_true, hsz, hl]
    exact hK
theorem op_put (ty : TypeId) (x y : Operand) (ho : o.op = .store ty x y) (h : Sep X w0 L w) (i : Nat) {g : Nat} {C : Array Value} {t : TypeId} (e : L[i]? = some (bx g C t)) (j : Nat) (hx : a.eval x = .pointer (some ⟨g, j, none⟩))
    (v : Value) (hy : a.eval y = v) (vs : List Value) (hvs : v.cells.toList = vs) (h1 : vs.all (·.oneCell') = true) (hi : (P.info? ty).map (·.size) = some vs.length) (hj : j + vs.length ≤ C.size)
    (C' : Array Value) (hC : (C.toList.take j ++ vs ++ C.toList.drop (j + vs.length)).toArray = C')
    (hK : ∀ w', Sep X w0 (L.set i (bx g C' t)) w' → K (a.put o.dst undef) w') : o.wp P a w K Q := by
  have hgx := h.get i e
  have hst := run_storeCells_at (P := P) g j t vs 0 C w hgx (by omega) (fun u hu => (List.all_eq_true.1 h1) u hu)
  simp only [Nat.add_zero] at hst
  rw [hC] at hst
  unfold Oper.wp execOp
  cases hq : P.info? ty with
  | none => rw [hq] at hi; cases hi
  | some q =>
    have hs : v.cells.size = q.size := by
      rw [hq] at hi
      have h2 : q.size = vs.length := by simpa using hi
      rw [h2, ← hvs]; simp
    have hsz : ∀ w, (sizeOf ty).run P w = .ok v.cells.size w := fun w => by simp [sizeOf, typeInfo, hq, hs]
    simp only [ho, hx, hy, Instr.storeAt, Instr.sureAddr, storeVar, Sem.run_bind, Sem.run_pure, Result.andThen_ok, hsz, hvs, hst, ne_eq, not_true_eq_false, if_false]
    exact hK _ (h.row i e C')
theorem op_bx (t : TypeId) (x : Operand) (ho : o.op = .box t x) (h : Sep X w0 L w) (C : Array Value) (hx : a.eval x = .agg C)
    (hK : ∀ g w', Sep X w0 (bx g C t :: L) w' → K (a.put o.dst (.pointer (some ⟨g, 0, none⟩))) w') : o.wp P a w K Q := by
  unfold Oper.wp execOp
  simp only [ho, hx, Sem.run_bind, Instr.box, newVar, newRow, run_newObj_alloc, Sem.run_pure, Result.andThen_ok]
  exact hK _ _ (h.alloc _ _)
theorem op_nx (t : TypeId) (ho : o.op = .alloc t) (h : Sep X w0 L w) (C : Array Value) (hz : ∀ w, (zeroValue t).run P w = .ok (.agg C) w)
    (hK : ∀ g w', Sep X w0 (bx g C t :: L) w' → K (a.put o.dst (.pointer (some ⟨g, 0, none⟩))) w') : o.wp P a w K Q := by
  unfold Oper.wp execOp
  simp only [ho, Sem.run_bind, Instr.alloc, hz, newVar, newRow, run_newObj_alloc, Sem.run_pure, Result.andThen_ok]
  exact hK _ _ (h.alloc _ _)
/-- A box of noughts, at a place that waits for it. -/
theorem op_nxAt (t : TypeId) (ho : o.op = .alloc t) (h : Sep X w0 L w) (i : Nat) (e : L[i]? = some em) (C : Array Value) (hz : ∀ w, (zeroValue t).run P w = .ok (.agg C) w)
    (hK : ∀ g w', Sep X w0 (L.set i (bx g C t)) w' → K (a.put o.dst (.pointer (some ⟨g, 0, none⟩))) w') : o.wp P a w K Q := by
  unfold Oper.wp execOp
  simp only [ho, Sem.run_bind, Instr.alloc, hz, newVar, newRow, run_newObj_alloc, Sem.run_pure, Result.andThen_ok]
  exact hK _ _ (h.turn i e (Only.of_below ((Below.refl _ _).alloc (Nat.le_refl _) _)) _ (heap_alloc_new _ _) (fun k hk => by
    have hk : k = w.heap.size := hk
    subst hk
    exact ⟨.inr (Nat.le_refl _), by simp⟩))
theorem Sep.drew (h : Sep X w0 L w) : Sep X w0 L w.drew := h.call ((Below.refl _ _).drew)
/-- Places for what is to come. -/
theorem Sep.ems (h : Sep X w0 L w) (n : Nat) : Sep X w0 (L ++ List.replicate n em) w := by
  refine ⟨h.only, fun i hi => ?_, fun i hi k hk => ?_, List.pairwise_append.2 ⟨h.apart, ?_, fun a _ b hb k _ hk => ?_⟩⟩
  · rcases List.mem_append.1 hi with hi | hi
    · exact h.holds i hi
    · obtain ⟨_, rfl⟩ := List.mem_replicate.1 hi
      exact trivial
  · rcases List.mem_append.1 hi with hi | hi
    · exact h.fresh i hi k hk
    · obtain ⟨_, rfl⟩ := List.mem_replicate.1 hi
      exact absurd hk id
  · rw [List.pairwise_replicate]
    exact .inr (fun k hk => absurd hk id)
  · obtain ⟨_, rfl⟩ := List.mem_replicate.1 hb
    exact absurd hk id
theorem op_call (f : FuncId) (xs : Array Operand) (ats : Array TypeId) (ho : o.op = .call { callee := .value (.func f), args := xs, argTypes := ats }) (hen : ∀ args w, (callFunc f args).run P w = .ok (.enter f args) w)
    (args : Array Value) (hargs : xs.map a.eval = args) {R : Ending → World → Prop} (hc : Calls P f args w R) (hK : ∀ e w', R e w' → ∃ v, e = .returned v ∧ K (a.put o.dst v) w') : o.wp P a w K Q := by
  subst hargs
  have e : execOp a.eval o = callFunc f (#[] ++ xs.map a.eval ++ #[]) := by
    cases o
    simp only at ho
    subst ho
    rfl
  unfold Oper.wp
  rw [e, hen]
  simp only [Oper.upon_enter]
  refine (show Calls P f (#[] ++ xs.map a.eval ++ #[]) w R by simpa using hc).mono fun e w' he => ?_
  obtain ⟨v, rfl, hk⟩ := hK e w' he
  exact hk
/-- A whole box is loaded. -/
theorem run_box (ty : TypeId) (h : Sep X w0 L w) (i : Nat) {g : Nat} {C : Array Value} {t : TypeId} (e : L[i]? = some (bx g C t)) (hu : ∀ w, (isAgg ty).run P w = .ok true w) (hi : (P.info? ty).map (·.size) = some C.size) :
    (loadVar ty ⟨g, 0, none⟩).run P w = .ok (.agg C) w := by
  have hgx := h.get i e
  have hc : ∀ k v, C.toList[k]? = some v → w.cell? ((⟨g, 0, none⟩ : Addr).add k) = some v := fun k v hk => by
    have hadd : (⟨g, 0, none⟩ : Addr).add k = ⟨g, k, none⟩ := by unfold Addr.add; split <;> simp_all
    rw [hadd, cell_of_row _ _ k _ _ _ hgx]
    simpa using hk
  have hl := run_loadCells_list (P := P) w ⟨g, 0, none⟩ C.toList hc
  cases hq : P.info? ty with
  | none => rw [hq] at hi; cases hi
  | some q =>
    have hs : q.size = C.toList.length := by rw [hq] at hi; simpa using hi
    have hsz : ∀ w, (sizeOf ty).run P w = .ok C.toList.length w := fun w => by simp [sizeOf, typeInfo, hq, hs]
    simp only [loadVar, Sem.run_bind, Sem.run_pure, Result.andThen_ok, hu, if_true, hsz, hl]
theorem op_row (ty : TypeId) (x : Operand) (ho : o.op = .load ty x) (h : Sep X w0 L w) (i : Nat) {g : Nat} {C : Array Value} {t : TypeId} (e : L[i]? = some (bx g C t)) (hx : a.eval x = .pointer (some ⟨g, 0, none⟩))
    (hu : ∀ w, (isAgg ty).run P w = .ok true w) (hi : (P.info? ty).map (·.size) = some C.size) (hK : K (a.put o.dst (.agg C)) w) : o.wp P a w K Q := by
  unfold Oper.wp execOp
  simp only [ho, hx, Instr.loadAt, Instr.sureAddr, Sem.run_bind, Sem.run_pure, Result.andThen_ok, run_box ty h i e hu hi]
  exact hK
/-- One cell is stored. -/
theorem op_put1 (ty : TypeId) (x y : Operand) (ho : o.op = .store ty x y) (h : Sep X w0 L w) (i : Nat) {g : Nat} {C : Array Value} {t : TypeId} (e : L[i]? = some (bx g C t)) (j : Nat) (hx : a.eval x = .pointer (some ⟨g, j, none⟩))
    (v : Value) (hy : a.eval y = v) (h1 : v.oneCell' = true) (hi : (P.info? ty).map (·.size) = some 1) (hj : j < C.size)
    (hK : ∀ w', Sep X w0 (L.set i (bx g (C.setIfInBounds j v) t)) w' → K (a.put o.dst undef) w') : o.wp P a w K Q := by
  refine op_put ty x y ho h i e j hx v hy [v] ?_ (by simp [h1]) hi (by simpa using (show j + 1 ≤ C.size from hj)) (C.setIfInBounds j v) ?_ hK
  · cases v <;> first | rfl | (simp [Value.oneCell'] at h1)
  · apply Array.ext'
    simp only [Array.toList_setIfInBounds, List.length_cons, List.length_nil]
    rw [List.set_eq_take_append_cons_drop, if_pos (by simpa using hj)]
    simp
/-- A whole box is stored. -/
theorem op_putR (ty : TypeId) (x y : Operand) (ho : o.op = .store ty x y) (h : Sep X w0 L w) (i : Nat) {g : Nat} {C : Array Value} {t : TypeId} (e : L[i]? = some (bx g C t)) (hx : a.eval x = .pointer (some ⟨g, 0, none⟩))
    (C' : Array Value) (hy : a.eval y = .agg C') (h1 : C'.toList.all (·.oneCell') = true) (hi : (P.info? ty).map (·.size) = some C'.size) (hj : C'.size = C.size)
    (hK : ∀ w', Sep X w0 (L.set i (bx g C' t)) w' → K (a.put o.dst undef) w') : o.wp P a w K Q := by
  refine op_put ty x y ho h i e 0 hx (.agg C') hy C'.toList rfl h1 (by simpa using hi) (by simp [hj]) C' ?_ hK
  apply Array.ext'
  simp [hj]
theorem wpList_op {ops : Array Oper} {rest : List Oper} (hw : Region.wanted o (yielded ops a.tmps) = true) (h : o.wp P a w (fun a' w' => wpList P ops Q rest a' w') Q) : wpList P ops Q (o :: rest) a w := by
  unfold wpList
  rw [if_pos hw]
  exact .inl h

theorem results_ccs {fn : Func} {p q u : Tmp} {t1 t2 : TypeId} (hf : fn.results = #[.cell p t1, .cell q t2, .tmp u]) (tmps : Array Value) (h : Sep X w0 L w) (i j : Nat) {g1 g2 : Nat} {C1 C2 : Array Value} {T1 T2 : TypeId}
    (e1 : L[i]? = some (bx g1 C1 T1)) (e2 : L[j]? = some (bx g2 C2 T2)) (hp : tmps.getD p undef = .pointer (some ⟨g1, 0, none⟩)) (hq : tmps.getD q undef = .pointer (some ⟨g2, 0, none⟩))
    (hu1 : ∀ w, (isAgg t1).run P w = .ok true w) (hu2 : ∀ w, (isAgg t2).run P w = .ok true w) (hi1 : (P.info? t1).map (·.size) = some C1.size) (hi2 : (P.info? t2).map (·.size) = some C2.size) :
    (results fn tmps).run P w = .ok (.tuple #[.agg C1, .agg C2, tmps.getD u undef]) w := by
  have hp' : tmps[p]?.getD undef = .pointer (some ⟨g1, 0, none⟩) := by simpa using hp
  have hq' : tmps[q]?.getD undef = .pointer (some ⟨g2, 0, none⟩) := by simpa using hq
  simp [results, hf, hp', hq', asAddr, run_box t1 h i e1 hu1 hi1, run_box t2 h j e2 hu2 hi2]
theorem results_c {fn : Func} {p : Tmp} {t1 : TypeId} (hf : fn.results = #[.cell p t1]) (tmps : Array Value) (h : Sep X w0 L w) (i : Nat) {g1 : Nat} {C1 : Array Value} {T1 : TypeId}
    (e1 : L[i]? = some (bx g1 C1 T1)) (hp : tmps.getD p undef = .pointer (some ⟨g1, 0, none⟩)) (hu1 : ∀ w, (isAgg t1).run P w = .ok true w) (hi1 : (P.info? t1).map (·.size) = some C1.size) :
    (results fn tmps).run P w = .ok (.agg C1) w := by
  have hp' : tmps[p]?.getD undef = .pointer (some ⟨g1, 0, none⟩) := by simpa using hp
  simp [results, hf, hp', asAddr, run_box t1 h i e1 hu1 hi1]
theorem results_cs {fn : Func} {p u : Tmp} {t1 : TypeId} (hf : fn.results = #[.cell p t1, .tmp u]) (tmps : Array Value) (h : Sep X w0 L w) (i : Nat) {g1 : Nat} {C1 : Array Value} {T1 : TypeId}
    (e1 : L[i]? = some (bx g1 C1 T1)) (hp : tmps.getD p undef = .pointer (some ⟨g1, 0, none⟩)) (hu1 : ∀ w, (isAgg t1).run P w = .ok true w) (hi1 : (P.info? t1).map (·.size) = some C1.size) :
    (results fn tmps).run P w = .ok (.tuple #[.agg C1, tmps.getD u undef]) w := by
  have hp' : tmps[p]?.getD undef = .pointer (some ⟨g1, 0, none⟩) := by simpa using hp
  simp [results, hf, hp', asAddr, run_box t1 h i e1 hu1 hi1]
theorem results_cc {fn : Func} {p q : Tmp} {t1 t2 : TypeId} (hf : fn.results = #[.cell p t1, .cell q t2]) (tmps : Array Value) (h : Sep X w0 L w) (i j : Nat) {g1 g2 : Nat} {C1 C2 : Array Value} {T1 T2 : TypeId}
    (e1 : L[i]? = some (bx g1 C1 T1)) (e2 : L[j]? = some (bx g2 C2 T2)) (hp : tmps.getD p undef = .pointer (some ⟨g1, 0, none⟩)) (hq : tmps.getD q undef = .pointer (some ⟨g2, 0, none⟩))
    (hu1 : ∀ w, (isAgg t1).run P w = .ok true w) (hu2 : ∀ w, (isAgg t2).run P w = .ok true w) (hi1 : (P.info? t1).map (·.size) = some C1.size) (hi2 : (P.info? t2).map (·.size) = some C2.size) :
    (results fn tmps).run P w = .ok (.tuple #[.agg C1, .agg C2]) w := by
  have hp' : tmps[p]?.getD undef = .pointer (some ⟨g1, 0, none⟩) := by simpa using hp
  have hq' : tmps[q]?.getD undef = .pointer (some ⟨g2, 0, none⟩) := by simpa using hq
  simp [results, hf, hp', hq', asAddr, run_box t1 h i e1 hu1 hi1, run_box t2 h j e2 hu2 hi2]
end
end Go.Proofs.Ytokkpbjldchjpaa

namespace Go.Proofs.Ytokkpbjldchjpaa
open Go.RowKit
section
variable {P : Program} {X : FP} {w0 w w' : World} {L : List Item} {o : Oper} {a : Act} {K : Act → World → Prop} {Q : Exit → Act → World → Prop} {I0 I1 I2 I3 I4 I5 I6 I7 : Item}
theorem op_putR_0 (ty : TypeId) (x y : Operand) (ho : o.op = .store ty x y) {g : Nat} {C : Array Value} {t : TypeId} (h : Hid (Sep X w0 (bx g C t :: L) w)) (hx : a.eval x = .pointer (some ⟨g, 0, none⟩))
    (C' : Array Value) (hy : a.eval y = .agg C') (h1 : C'.toList.all (·.oneCell') = true) (hi : (P.info? ty).map (·.size) = some C'.size) (hj : C'.size = C.size)
    (hK : ∀ w', Hid (Sep X w0 (bx g C' t :: L) w') → K (a.put o.dst undef) w') : o.wp P a w K Q := op_putR ty x y ho h.out 0 rfl hx C' hy h1 hi hj (fun w' h' => hK w' (Lib.hid h'))
theorem op_put1_0 (ty : TypeId) (x y : Operand) (ho : o.op = .store ty x y) {g : Nat} {C : Array Value} {t : TypeId} (h : Hid (Sep X w0 (bx g C t :: L) w)) (j : Nat) (hx : a.eval x = .pointer (some ⟨g, j, none⟩))
    (v : Value) (hy : a.eval y = v) (h1 : v.oneCell' = true) (hi : (P.info? ty).map (·.size) = some 1) (hj : j < C.size)
    (hK : ∀ w', Hid (Sep X w0 (bx g (C.setIfInBounds j v) t :: L) w') → K (a.put o.dst undef) w') : o.wp P a w K Q := op_put1 ty x y ho h.out 0 rfl j hx v hy h1 hi hj (fun w' h' => hK w' (Lib.hid h'))
theorem Sep.turn_0 {I J : Item} (h : Sep X w0 (I :: L) w) (o : Only I.F w w') (p : J.P w') (f : ∀ k, J.F k → (I.F k ∨ w.heap.size ≤ k) ∧ k < w'.heap.size) : Sep X w0 (J :: L) w' := h.turn 0 rfl o J p f
theorem op_putR_1 (ty : TypeId) (x y : Operand) (ho : o.op = .store ty x y) {g : Nat} {C : Array Value} {t : TypeId} (h : Hid (Sep X w0 (I0 :: bx g C t :: L) w)) (hx : a.eval x = .pointer (some ⟨g, 0, none⟩))
    (C' : Array Value) (hy : a.eval y = .agg C') (h1 : C'.toList.all (·.oneCell') = true) (hi : (P.info? ty).map (·.size) = some C'.size) (hj : C'.size = C.size)
    (hK : ∀ w', Hid (Sep X w0 (I0 :: bx g C' t :: L) w') → K (a.put o.dst undef) w') : o.wp P a w K Q := op_putR ty x y ho h.out 1 rfl hx C' hy h1 hi hj (fun w' h' => hK w' (Lib.hid h'))
theorem op_put1_1 (ty : TypeId) (x y : Operand) (ho : o.op = .store ty x y) {g : Nat} {C : Array Value} {t : TypeId} (h : Hid (Sep X w0 (I0 :: bx g C t :: L) w)) (j : Nat) (hx : a.eval x = .pointer (some ⟨g, j, none⟩))
    (v : Value) (hy : a.eval y = v) (h1 : v.oneCell' = true) (hi : (P.info? ty).map (·.size) = some 1) (hj : j < C.size)
    (hK : ∀ w', Hid (Sep X w0 (I0 :: bx g (C.setIfInBounds j v) t :: L) w') → K (a.put o.dst undef) w') : o.wp P a w K Q := op_put1 ty x y ho h.out 1 rfl j hx v hy h1 hi hj (fun w' h' => hK w' (Lib.hid h'))
theorem Sep.turn_1 {I J : Item} (h : Sep X w0 (I0 :: I :: L) w) (o : Only I.F w w') (p : J.P w') (f : ∀ k, J.F k → (I.F k ∨ w.heap.size ≤ k) ∧ k < w'.heap.size) : Sep X w0 (I0 :: J :: L) w' := h.turn 1 rfl o J p f
theorem op_putR_2 (ty : TypeId) (x y : Operand) (ho : o.op = .store ty x y) {g : Nat} {C : Array Value} {t : TypeId} (h : Hid (Sep X w0 (I0 :: I1 :: bx g C t :: L) w)) (hx : a.eval x = .pointer (some ⟨g, 0, none⟩))
    (C' : Array Value) (hy : a.eval y = .agg C') (h1 : C'.toList.all (·.oneCell') = true) (hi : (P.info? ty).map (·.size) = some C'.size) (hj : C'.size = C.size)
    (hK : ∀ w', Hid (Sep X w0 (I0 :: I1 :: bx g C' t :: L) w') → K (a.put o.dst undef) w') : o.wp P a w K Q := op_putR ty x y ho h.out 2 rfl hx C' hy h1 hi hj (fun w' h' => hK w' (Lib.hid h'))
theorem op_put1_2 (ty : TypeId) (x y : Operand) (ho : o.op = .store ty x y) {g : Nat} {C : Array Value} {t : TypeId} (h : Hid (Sep X w0 (I0 :: I1 :: bx g C t :: L) w)) (j : Nat) (hx : a.eval x = .pointer (some ⟨g, j, none⟩))
    (v : Value) (hy : a.eval y = v) (h1 : v.oneCell' = true) (hi : (P.info? ty).map (·.size) = some 1) (hj : j < C.size)
    (hK : ∀ w', Hid (Sep X w0 (I0 :: I1 :: bx g (C.setIfInBounds j v) t :: L) w') → K (a.put o.dst undef) w') : o.wp P a w K Q := op_put1 ty x y ho h.out 2 rfl j hx v hy h1 hi hj (fun w' h' => hK w' (Lib.hid h'))
theorem Sep.turn_2 {I J : Item} (h : Sep X w0 (I0 :: I1 :: I :: L) w) (o : Only I.F w w') (p : J.P w') (f : ∀ k, J.F k → (I.F k ∨ w.heap.size ≤ k) ∧ k < w'.heap.size) : Sep X w0 (I0 :: I1 :: J :: L) w' := h.turn 2 rfl o J p f
theorem op_putR_3 (ty : TypeId) (x y : Operand) (ho : o.op = .store ty x y) {g : Nat} {C : Array Value} {t : TypeId} (h : Hid (Sep X w0 (I0 :: I1 :: I2 :: bx g C t :: L) w)) (hx : a.eval x = .pointer (some ⟨g, 0, none⟩))
    (C' : Array Value) (hy : a.eval y = .agg C') (h1 : C'.toList.all (·.oneCell') = true) (hi : (P.info? ty).map (·.size) = some C'.size) (hj : C'.size = C.size)
    (hK : ∀ w', Hid (Sep X w0 (I0 :: I1 :: I2 :: bx g C' t :: L) w') → K (a.put o.dst undef) w') : o.wp P a w K Q := op_putR ty x y ho h.out 3 rfl hx C' hy h1 hi hj (fun w' h' => hK w' (Lib.hid h'))
theorem op_put1_3 (ty : TypeId) (x y : Operand) (ho : o.op = .store ty x y) {g : Nat} {C : Array Value} {t : TypeId} (h : Hid (Sep X w0 (I0 :: I1 :: I2 :: bx g C t :: L) w)) (j : Nat) (hx : a.eval x = .pointer (some ⟨g, j, none⟩))
    (v : Value) (hy : a.eval y = v) (h1 : v.oneCell' = true) (hi : (P.info? ty).map (·.size) = some 1) (hj : j < C.size)
    (hK : ∀ w', Hid (Sep X w0 (I0 :: I1 :: I2 :: bx g (C.setIfInBounds j v) t :: L) w') → K (a.put o.dst undef) w') : o.wp P a w K Q := op_put1 ty x y ho h.out 3 rfl j hx v hy h1 hi hj (fun w' h' => hK w' (Lib.hid h'))
theorem Sep.turn_3 {I J : Item} (h : Sep X w0 (I0 :: I1 :: I2 :: I :: L) w) (o : Only I.F w w') (p : J.P w') (f : ∀ k, J.F k → (I.F k ∨ w.heap.size ≤ k) ∧ k < w'.heap.size) : Sep X w0 (I0 :: I1 :: I2 :: J :: L) w' := h.turn 3 rfl o J p f
theorem op_putR_4 (ty : TypeId) (x y : Operand) (ho : o.op = .store ty x y) {g : Nat} {C : Array Value} {t : TypeId} (h : Hid (Sep X w0 (I0 :: I1 :: I2 :: I3 :: bx g C t :: L) w)) (hx : a.eval x = .pointer (some ⟨g, 0, none⟩))
    (C' : Array Value) (hy : a.eval y = .agg C') (h1 : C'.toList.all (·.oneCell') = true) (hi : (P.info? ty).map (·.size) = some C'.size) (hj : C'.size = C.size)
    (hK : ∀ w', Hid (Sep X w0 (I0 :: I1 :: I2 :: I3 :: bx g C' t :: L) w') → K (a.put o.dst undef) w') : o.wp P a w K Q := op_putR ty x y ho h.out 4 rfl hx C' hy h1 hi hj (fun w' h' => hK w' (Lib.hid h'))
theorem op_put1_4 (ty : TypeId) (x y : Operand) (ho : o.op = .store ty x y) {g : Nat} {C : Array Value} {t : TypeId} (h : Hid (Sep X w0 (I0 :: I1 :: I2 :: I3 :: bx g C t :: L) w)) (j : Nat) (hx : a.eval x = .pointer (some ⟨g, j, none⟩))
    (v : Value) (hy : a.eval y = v) (h1 : v.oneCell' = true) (hi : (P.info? ty).map (·.size) = some 1) (hj : j < C.size)
    (hK : ∀ w', Hid (Sep X w0 (I0 :: I1 :: I2 :: I3 :: bx g (C.setIfInBounds j v) t :: L) w') → K (a.put o.dst undef) w') : o.wp P a w K Q := op_put1 ty x y ho h.out 4 rfl j hx v hy h1 hi hj (fun w' h' => hK w' (Lib.hid h'))
theorem Sep.turn_4 {I J : Item} (h : Sep X w0 (I0 :: I1 :: I2 :: I3 :: I :: L) w) (o : Only I.F w w') (p : J.P w') (f : ∀ k, J.F k → (I.F k ∨ w.heap.size ≤ k) ∧ k < w'.heap.size) : Sep X w0 (I0 :: I1 :: I2 :: I3 :: J :: L) w' := h.turn 4 rfl o J p f
theorem op_putR_5 (ty : TypeId) (x y : Operand) (ho : o.op = .store ty x y) {g : Nat} {C : Array Value} {t : TypeId} (h : Hid (Sep X w0 (I0 :: I1 :: I2 :: I3 :: I4 :: bx g C t :: L) w)) (hx : a.eval x = .pointer (some ⟨g, 0, none⟩))
    (C' : Array Value) (hy : a.eval y = .agg C') (h1 : C'.toList.all (·.oneCell') = true) (hi : (P.info? ty).map (·.size) = some C'.size) (hj : C'.size = C.size)
    (hK : ∀ w', Hid (Sep X w0 (I0 :: I1 :: I2 :: I3 :: I4 :: bx g C' t :: L) w') → K (a.put o.dst undef) w') : o.wp P a w K Q := op_putR ty x y ho h.out 5 rfl hx C' hy h1 hi hj (fun w' h' => hK w' (Lib.hid h'))
theorem op_put1_5 (ty : TypeId) (x y : Operand) (ho : o.op = .store ty x y) {g : Nat} {C : Array Value} {t : TypeId} (h : Hid (Sep X w0 (I0 :: I1 :: I2 :: I3 :: I4 :: bx g C t :: L) w)) (j : Nat) (hx : a.eval x = .pointer (some ⟨g, j, none⟩))
    (v : Value) (hy : a.eval y = v) (h1 : v.oneCell' = true) (hi : (P.info? ty).map (·.size) = some 1) (hj : j < C.size)
    (hK : ∀ w', Hid (Sep X w0 (I0 :: I1 :: I2 :: I3 :: I4 :: bx g (C.setIfInBounds j v) t :: L) w') → K (a.put o.dst undef) w') : o.wp P a w K Q := op_put1 ty x y ho h.out 5 rfl j hx v hy h1 hi hj (fun w' h' => hK w' (Lib.hid h'))
theorem Sep.turn_5 {I J : Item} (h : Sep X w0 (I0 :: I1 :: I2 :: I3 :: I4 :: I :: L) w) (o : Only I.F w w') (p : J.P w') (f : ∀ k, J.F k → (I.F k ∨ w.heap.size ≤ k) ∧ k < w'.heap.size) : Sep X w0 (I0 :: I1 :: I2 :: I3 :: I4 :: J :: L) w' := h.turn 5 rfl o J p f
theorem op_putR_6 (ty : TypeId) (x y : Operand) (ho : o.op = .store ty x y) {g : Nat} {C : Array Value} {t : TypeId} (h : Hid (Sep X w0 (I0 :: I1 :: I2 :: I3 :: I4 :: I5 :: bx g C t :: L) w)) (hx : a.eval x = .pointer (some ⟨g, 0, none⟩))
    (C' : Array Value) (hy : a.eval y = .agg C') (h1 : C'.toList.all (·.oneCell') = true) (hi : (P.info? ty).map (·.size) = some C'.size) (hj : C'.size = C.size)
    (hK : ∀ w', Hid (Sep X w0 (I0 :: I1 :: I2 :: I3 :: I4 :: I5 :: bx g C' t :: L) w') → K (a.put o.dst undef) w') : o.wp P a w K Q := op_putR ty x y ho h.out 6 rfl hx C' hy h1 hi hj (fun w' h' => hK w' (Lib.hid h'))
theorem op_put1_6 (ty : TypeId) (x y : Operand) (ho : o.op = .store ty x y) {g : Nat} {C : Array Value} {t : TypeId} (h : Hid (Sep X w0 (I0 :: I1 :: I2 :: I3 :: I4 :: I5 :: bx g C t :: L) w)) (j : Nat) (hx : a.eval x = .pointer (some ⟨g, j, none⟩))
    (v : Value) (hy : a.eval y = v) (h1 : v.oneCell' = true) (hi : (P.info? ty).map (·.size) = some 1) (hj : j < C.size)
    (hK : ∀ w', Hid (Sep X w0 (I0 :: I1 :: I2 :: I3 :: I4 :: I5 :: bx g (C.setIfInBounds j v) t :: L) w') → K (a.put o.dst undef) w') : o.wp P a w K Q := op_put1 ty x y ho h.out 6 rfl j hx v hy h1 hi hj (fun w' h' => hK w' (Lib.hid h'))
theorem Sep.turn_6 {I J : Item} (h : Sep X w0 (I0 :: I1 :: I2 :: I3 :: I4 :: I5 :: I :: L) w) (o : Only I.F w w') (p : J.P w') (f : ∀ k, J.F k → (I.F k ∨ w.heap.size ≤ k) ∧ k < w'.heap.size) : Sep X w0 (I0 :: I1 :: I2 :: I3 :: I4 :: I5 :: J :: L) w' := h.turn 6 rfl o J p f
theorem op_putR_7 (ty : TypeId) (x y : Operand) (ho : o.op = .store ty x y) {g : Nat} {C : Array Value} {t : TypeId} (h : Hid (Sep X w0 (I0 :: I1 :: I2 :: I3 :: I4 :: I5 :: I6 :: bx g C t :: L) w)) (hx : a.eval x = .pointer (some ⟨g, 0, none⟩))
    (C' : Array Value) (hy : a.eval y = .agg C') (h1 : C'.toList.all (·.oneCell') = true) (hi : (P.info? ty).map (·.size) = some C'.size) (hj : C'.size = C.size)
    (hK : ∀ w', Hid (Sep X w0 (I0 :: I1 :: I2 :: I3 :: I4 :: I5 :: I6 :: bx g C' t :: L) w') → K (a.put o.dst undef) w') : o.wp P a w K Q := op_putR ty x y ho h.out 7 rfl hx C' hy h1 hi hj (fun w' h' => hK w' (Lib.hid h'))
theorem op_put1_7 (ty : TypeId) (x y : Operand) (ho : o.op = .store ty x y) {g : Nat} {C : Array Value} {t : TypeId} (h : Hid (Sep X w0 (I0 :: I1 :: I2 :: I3 :: I4 :: I5 :: I6 :: bx g C t :: L) w)) (j : Nat) (hx : a.eval x = .pointer (some ⟨g, j, none⟩))
    (v : Value) (hy : a.eval y = v) (h1 : v.oneCell' = true) (hi : (P.info? ty).map (·.size) = some 1) (hj : j < C.size)
    (hK : ∀ w', Hid (Sep X w0 (I0 :: I1 :: I2 :: I3 :: I4 :: I5 :: I6 :: bx g (C.setIfInBounds j v) t :: L) w') → K (a.put o.dst undef) w') : o.wp P a w K Q := op_put1 ty x y ho h.out 7 rfl j hx v hy h1 hi hj (fun w' h' => hK w' (Lib.hid h'))
theorem Sep.turn_7 {I J : Item} (h : Sep X w0 (I0 :: I1 :: I2 :: I3 :: I4 :: I5 :: I6 :: I :: L) w) (o : Only I.F w w') (p : J.P w') (f : ∀ k, J.F k → (I.F k ∨ w.heap.size ≤ k) ∧ k < w'.heap.size) : Sep X w0 (I0 :: I1 :: I2 :: I3 :: I4 :: I5 :: I6 :: J :: L) w' := h.turn 7 rfl o J p f
end
end Go.Proofs.Ytokkpbjldchjpaa

namespace Go.Proofs.Ytokkpbjldchjpaa
open Go.RowKit

section
variable {X : FP} {w0 w : World} {L : List Item} {o : Oper} {a : Act} {K : Act → World → Prop} {Q : Exit → Act → World → Prop}
/-- The place of an element of a slice. -/
theorem op_idx (t : TypeId) (s x : Operand) (ho : o.op = .indexAddr t s x) (e : TypeId) (sz : Nat) (ht : Try.prog.underlying t = some (.slice e)) (hi : ∀ w, (sizeOf e).run Try.prog w = .ok sz w) {b off n c k : Nat} (hs : a.eval s = .slice (some ⟨b, off, none⟩) n c) (hx : a.eval x = .int .i64 k) (hk : k < n)
    (hK : K (a.put o.dst (.pointer (some ⟨b, off + k * sz, none⟩))) w) : o.wp Try.prog a w K Q := by
  refine op_val ?_ hK
  have hk' : (0 : Int) ≤ k ∧ (k : Int) < n := by omega
  have aa : (⟨b, off, none⟩ : Addr).add (k * sz) = ⟨b, off + k * sz, none⟩ := by unfold Addr.add; split <;> simp_all
  generalize a.eval = E at hs hx ⊢
  simp [execOp, ho, hs, hx, Instr.indexAt, asIntOf, run_underlying ht, hi, hk', hk, aa, Result.andThen]
/-- A cell is loaded, wherever it lies. -/
theorem op_cell (ty : TypeId) (x : Operand) (ho : o.op = .load ty x) {p : Addr} (hx : a.eval x = .pointer (some p)) (hu : ∀ w, (isAgg ty).run Try.prog w = .ok false w) {v : Value} (hc : w.cell? p = some v) (hK : K (a.put o.dst v) w) : o.wp Try.prog a w K Q := by
  unfold Oper.wp execOp
  simp only [ho, hx, Instr.loadAt, Instr.sureAddr, loadVar, Sem.run_bind, Sem.run_pure, Result.andThen_ok, hu, Bool.false_eq_true, if_false, run_load, hc]
  exact hK
/-- The place of a field. -/
theorem op_field (t : TypeId) (x : Operand) (k : Nat) (ho : o.op = .fieldAddr t x k) {v u : Value} (hx : a.eval x = v) (hr : (Instr.fieldAt t v k).run Try.prog w = .ok u w) (hK : K (a.put o.dst u) w) : o.wp Try.prog a w K Q := by
  refine op_val ?_ hK
  subst hx
  simp only [execOp, ho, Sem.run_bind, hr, Result.andThen_ok, Sem.run_pure]
/-- A struct out of its parts. -/
theorem op_build (t : TypeId) (parts : Array (Nat × Operand)) (ho : o.op = .build t parts) (pl : List (Nat × Value)) (hpl : (parts.map fun (i, x) => (i, a.eval x)).toList = pl) (C : Array Value) (hb : Try.prog.built t pl = some C) (hK : K (a.put o.dst (.agg C)) w) : o.wp Try.prog a w K Q := by
  subst hpl
  refine wp_build t parts ho (by rw [hb]; rfl) ?_
  rw [hb]
  exact hK
/-- not. -/
theorem op_not (t : TypeId) (x : Operand) (ho : o.op = .unOp .not t x) {b : Bool} (hx : a.eval x = .bool b) (hK : K (a.put o.dst (.bool (!b))) w) : o.wp Try.prog a w K Q := by
  refine op_val ?_ hK
  generalize a.eval = E at hx ⊢
  simp [execOp, ho, hx, Op.unary]
theorem op_extract (x : Operand) (k : Nat) (ho : o.op = .extract x k) {vs : Array Value} (hx : a.eval x = .tuple vs) {v : Value} (hv : vs[k]? = some v) (hK : K (a.put o.dst v) w) : o.wp Try.prog a w K Q := by
  refine op_val ?_ hK
  generalize a.eval = E at hx ⊢
  simp [execOp, ho, hx, Instr.extract, hv]
end
theorem Sep.gainAt2 {X : FP} {w0 w w' : World} {L : List Item} (h : Sep X w0 L w) (b : Below w.heap.size w w') (i j : Nat) (_hij : i ≠ j) (e : L[i]? = some em) (e' : L[j]? = some em) (I J : Item) (p : I.P w') (q : J.P w')
    (f : ∀ k, I.F k → w.heap.size ≤ k ∧ k < w'.heap.size) (g : ∀ k, J.F k → w.heap.size ≤ k ∧ k < w'.heap.size) (ap : Apart I.F J.F) : Sep X w0 ((L.set i I).set j J) w' := by
  have hi : i < L.length := (List.getElem?_eq_some_iff.1 e).1
  have hj : j < L.length := (List.getElem?_eq_some_iff.1 e').1
  have hget : ∀ q (hq : q < ((L.set i I).set j J).length), ((L.set i I).set j J)[q] = if j = q then J else if i = q then I else L[q]'(by simpa using hq) := fun q hq => by
    rw [List.getElem_set]
    split
    · rfl
    · rw [List.getElem_set]
  have hp := List.pairwise_iff_getElem.1 h.apart
  have hz := h.size
  have hs := b.size
  have hfr : ∀ q (hq : q < L.length) k, L[q].F k → (X k ∨ w0.heap.size ≤ k) ∧ k < w.heap.size := fun q hq k hk => h.fresh _ (List.getElem_mem hq) k hk
  refine ⟨h.only.trans (Only.of_below b), fun z hz => ?_, fun z hz k hk => ?_, ?_⟩
  · obtain ⟨a, ha, rfl⟩ := List.getElem_of_mem hz
    rw [hget]
    split
    · exact q
    · split
      · exact p
      · exact Item.keep _ _ _ (h.holds _ (List.getElem_mem _)) (fun k _ hk => b.block k hk)
  · obtain ⟨a, ha, rfl⟩ := List.getElem_of_mem hz
    rw [hget] at hk
    split at hk
    · have := g k hk; exact ⟨.inr (by omega), this.2⟩
    · split at hk
      · have := f k hk; exact ⟨.inr (by omega), this.2⟩
      · have := hfr _ _ k hk; exact ⟨this.1, by omega⟩
  · rw [List.pairwise_iff_getElem]
    intro a c ha hc hac
    have la : a < L.length := by simpa using ha
    have lc : c < L.length := by simpa using hc
    rw [hget, hget]
    split
    · split
      · omega
      · split
        · exact ap.symm
        · exact fun k hk hk2 => by have := g k hk; have := hfr c lc k hk2; omega
    · split
      · split
        · exact ap
        · split
          · omega
          · exact fun k hk hk2 => by have := f k hk; have := hfr c lc k hk2; omega
      · split
        · exact fun k hk hk2 => by have := g k hk2; have := hfr a la k hk; omega
        · split
          · exact fun k hk hk2 => by have := f k hk2; have := hfr a la k hk; omega
          · exact hp a c la lc hac
/-- A list of the call's own, written over. -/
theorem Sep.marked {X : FP} {w0 w w' : World} {L : List Item} {α : Type} [Enc α] (h : Sep X w0 L w) (i : Nat) {v : Value} {xs ys : List α} {F : FP} (e : L[i]? = some (ow v xs F)) (o : Only F w w') (p : OwnS w' v ys F) : Sep X w0 (L.set i (ow v ys F)) w' :=
  h.turn i e o _ p (fun k hk => ⟨.inl hk, by have := (h.fresh _ (List.mem_of_getElem? e) k hk).2; have := o.size; omega⟩)
end Go.Proofs.Ytokkpbjldchjpaa
