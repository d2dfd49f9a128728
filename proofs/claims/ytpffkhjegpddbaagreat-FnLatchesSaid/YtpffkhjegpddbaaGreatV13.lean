/- A region that draws its order, by an invariant: one obligation an operation, whatever the order. No program in sight. -/
import Derived.Orders
import Derived.Still
import Derived.Test.YtpffkhjegpddbaaGreatV12
import Derived.BigCall
import Derived.Shelf.Abstract
open Go.Value renaming int → jI, slice → jS
open Go.IntKind renaming i64 → jZ
namespace Go.Proofs.YtpffkhjegpddbaaGreat

variable {P : Program} {ops : Array Oper}

def afterLt (ops : Array Oper) : Bool := (List.range ops.size).all fun i => ((ops[i]?).map fun o => o.after.all fun e => !Region.binds .any e || decide (e.on < i)).getD true

theorem all_true {L : Array Bool} {n : Nat} (hn : L.size = n) (h : ∀ i, i < n → L.getD i true = true) : L = Array.replicate n true := by
 apply Array.ext
 · simp [hn]
 · intro i h1 h2
   have := h i (by omega)
   simp only [Array.getElem_replicate]
   simpa [h1] using this

theorem ready_nil {L : Array Bool} (hlt : afterLt ops = true) (hL : L.size = ops.size) (h : Region.ready .any ops L = []) : ∀ i, i < ops.size → L.getD i true = true := by
 intro i
 induction i using Nat.strongRecOn with
 | ind i ih =>
   intro hi
   rcases hq : L.getD i true with _ | _
   · exfalso
     have hmem : i ∈ Region.ready .any ops L := by
       refine mem_ready.2 ⟨hq, ops[i], by simp [hi], fun e he hbd => ?_⟩
       have hall : (((ops[i]?).map fun o => o.after.all fun e => !Region.binds .any e || decide (e.on < i)).getD true) = true := by
         unfold afterLt at hlt
         exact (List.all_eq_true.1 hlt) i (List.mem_range.2 hi)
       simp [hi] at hall
       have he' : e.on < i := by
         obtain ⟨j, hj, rfl⟩ := Array.getElem_of_mem he
         have := hall j hj
         rw [hbd] at this
         simpa using this
       have := ih e.on he' (by omega)
       have hs : e.on < L.size := by omega
       simpa [hs] using this
     rw [h] at hmem
     cases hmem
   · rfl

theorem wpAny_inv {Q : Exit → Act → World → Prop} (hlt : afterLt ops = true) (I : Array Bool → Act → World → Prop)
   (hs : ∀ L a w i o, L.size = ops.size → I L a w → ops[i]? = some o → L.getD i true = false → (∀ e ∈ o.after, Region.binds .any e = true → L.getD e.on false = true) →
     if Region.wanted o (yielded ops a.tmps) = true then o.wp P a w (I (L.setIfInBounds i true)) Q else I (L.setIfInBounds i true) (a.put o.dst undef) w)
   (he : ∀ a w, I (Array.replicate ops.size true) a w → Q .normal a w) :
   ∀ (fuel : Nat) (L : Array Bool) (a : Act) (w : World), L.size = ops.size → L.toList.count false ≤ fuel → I L a w → wpAny P .any ops Q fuel L a w := by
 intro fuel
 induction fuel with
 | zero =>
   intro L a w hL hc hI
   have hall : ∀ i, i < ops.size → L.getD i true = true := by
     intro i hi
     rcases hq : L.getD i true with _ | _
     · exfalso
       have hi' : i < L.size := by omega
       have hm : false ∈ L.toList := by
         have : L[i] = false := by simpa [hi'] using hq
         rw [← this]
         simp
       have := List.count_pos_iff.2 hm
       omega
     · rfl
   have e := all_true hL hall
   subst e
   refine ⟨?_, he _ _ hI⟩
   apply List.eq_nil_iff_forall_not_mem.2
   intro i hi
   have h1 := (mem_ready.1 hi).1
   by_cases hsz : i < ops.size <;> simp [hsz] at h1
 | succ fuel ih =>
   intro L a w hL hc hI
   refine ⟨fun h => ?_, fun i hi => ?_⟩
   · have e := all_true hL (ready_nil hlt hL h)
     subst e
     exact he _ _ hI
   · obtain ⟨h1, o, ho, hafter⟩ := mem_ready.1 hi
     have hi' : i < ops.size := (Array.getElem?_eq_some_iff.1 ho).1
     have hL' : (L.setIfInBounds i true).size = ops.size := by simp [hL]
     have hc' : (L.setIfInBounds i true).toList.count false ≤ fuel := by
       have hil : i < L.toList.length := by simp; omega
       have hv : L.toList[i] = false := by
         have : i < L.size := by omega
         simpa [this] using h1
       rw [Array.toList_setIfInBounds, List.count_set hil, hv]
       have hpos : 0 < L.toList.count false := List.count_pos_iff.2 (by rw [← hv]; exact List.getElem_mem hil)
       rw [if_pos (by rfl), if_neg (by decide)]
       omega
     have step := hs L a w i o hL hI ho h1 hafter
     unfold wpOp
     simp only [ho]
     by_cases hw : Region.wanted o (yielded ops a.tmps) = true
     · rw [if_pos hw] at step ⊢
       exact .inl (Oper.wp_mono (fun a w h => ih _ a w hL' hc' h) step)
     · rw [if_neg hw] at step ⊢
       exact ih _ _ _ hL' hc' step

theorem wp_region_inv {id : Nat} {Q : Exit → Act → World → Prop} {a : Act} {w : World} (hm : P.follows .mixedOrders = true) (hlt : afterLt ops = true) (I : Array Bool → Act → World → Prop)
   (h0 : I (Array.replicate ops.size false) a { w with drawn := w.drawn + 1 })
   (hs : ∀ L a w i o, L.size = ops.size → I L a w → ops[i]? = some o → L.getD i true = false → (∀ e ∈ o.after, Region.binds .any e = true → L.getD e.on false = true) →
     if Region.wanted o (yielded ops a.tmps) = true then o.wp P a w (I (L.setIfInBounds i true)) Q else I (L.setIfInBounds i true) (a.put o.dst undef) w)
   (he : ∀ a w, I (Array.replicate ops.size true) a w → Q .normal a w) : (Code.region id ops true).wp P Q a w :=
 wp_region_any hm (wpAny_inv hlt I hs he ops.size _ _ _ (by simp) (by have := List.count_le_length (a := false) (l := (Array.replicate ops.size false).toList); simp only [Array.toList_replicate, List.length_replicate] at this ⊢; exact this) h0)
end Go.Proofs.YtpffkhjegpddbaaGreat
namespace Go.Proofs.YtpffkhjegpddbaaGreat
open Go.RowKit

def updB (D : Nat → Bool) (i : Nat) : Nat → Bool := fun j => if j = i then true else D j
def updW (V : Nat → Value) (i : Nat) (v : Value) : Nat → Value := fun j => if j = i then v else V j
def putD (V : Nat → Value) (D : Nat → Bool) : List Oper → Nat → Act → Act
 | [], _, a => a
 | o :: r, i, a => putD V D r (i + 1) (if D i then a.put o.dst (V i) else a)
def putF (V : Nat → Value) : List Oper → Nat → Act → Act
 | [], _, a => a
 | o :: r, i, a => putF V r (i + 1) (a.put o.dst (V i))
theorem putD_all (V : Nat → Value) (l : List Oper) (i : Nat) (a : Act) : putD V (fun _ => true) l i a = putF V l i a := by
 induction l generalizing i a with
 | nil => rfl
 | cons o r ih => simp [putD, putF, ih]
theorem putD_none (V : Nat → Value) (D : Nat → Bool) (l : List Oper) (i : Nat) (a : Act) (h : ∀ j, j < l.length → D (i + j) = false) : putD V D l i a = a := by
 induction l generalizing i a with
 | nil => rfl
 | cons o r ih =>
   have h0 := h 0 (by simp)
   simp only [Nat.add_zero] at h0
   simp only [putD, h0, Bool.false_eq_true, if_false]
   exact ih (i + 1) a (fun j hj => by have := h (j + 1) (by simp; omega); rwa [show i + (j + 1) = i + 1 + j from by omega] at this)
def noDst (l : List Oper) (t : Tmp) : Bool := l.all fun o => o.dst != some t
def dstsOk (n : Nat) : List Oper → Bool
 | [] => true
 | o :: r => (match o.dst with | some t => decide (t < n) && noDst r t | none => true) && dstsOk n r
theorem put_size (a : Act) (d : Option Tmp) (v : Value) : (a.put d v).tmps.size = a.tmps.size := by cases d <;> simp [Act.put]
theorem eval_put_other (a : Act) (d : Option Tmp) (v : Value) (t : Tmp) (h : d ≠ some t) : (a.put d v).eval (.tmp t) = a.eval (.tmp t) := by
 cases d with
 | none => rfl
 | some s =>
   have hne : s ≠ t := fun e => h (by rw [e])
   simp only [Act.put, Act.eval, Array.getD_eq_getD_getElem?]
   rw [Array.getElem?_setIfInBounds_ne hne]
theorem eval_put_same (a : Act) (v : Value) (t : Tmp) (h : t < a.tmps.size) : (a.put (some t) v).eval (.tmp t) = v := by
 simp [Act.put, Act.eval, h]
theorem putD_other (V : Nat → Value) (D : Nat → Bool) (l : List Oper) (i : Nat) (a : Act) (t : Tmp) (h : noDst l t = true) : (putD V D l i a).eval (.tmp t) = a.eval (.tmp t) := by
 induction l generalizing i a with
 | nil => rfl
 | cons o r ih =>
   simp only [noDst, List.all_cons, Bool.and_eq_true, bne_iff_ne, ne_eq] at h
   simp only [putD]
   rw [ih _ _ (by simp only [noDst]; exact h.2)]
   split
   · exact eval_put_other _ _ _ _ h.1
   · rfl
theorem putD_at (V : Nat → Value) (D : Nat → Bool) (l : List Oper) (n i : Nat) (a : Act) (ha : a.tmps.size = n) (hd : dstsOk n l = true) (j : Nat) (o : Oper) (t : Tmp) (hj : l[j]? = some o) (ho : o.dst = some t) (hD : D (i + j) = true) : (putD V D l i a).eval (.tmp t) = V (i + j) := by
 induction l generalizing i a j with
 | nil => simp at hj
 | cons p r ih =>
   simp only [dstsOk, Bool.and_eq_true] at hd
   cases j with
   | zero =>
     simp only [List.getElem?_cons_zero, Option.some.injEq] at hj
     subst hj
     rw [ho] at hd
     simp only [Bool.and_eq_true, decide_eq_true_eq] at hd
     simp only [Nat.add_zero] at hD ⊢
     simp only [putD, hD, if_true, ho]
     rw [putD_other _ _ _ _ _ _ hd.1.2]
     exact eval_put_same _ _ _ (by rw [ha]; exact hd.1.1)
   | succ j =>
     simp only [List.getElem?_cons_succ] at hj
     have := ih (i + 1) (if D i then a.put p.dst (V i) else a) (by split <;> simp [put_size, ha]) hd.2 j hj (by rwa [show i + 1 + j = i + (j + 1) from by omega])
     rwa [show i + 1 + j = i + (j + 1) from by omega] at this
theorem put_comm (a : Act) (d e : Option Tmp) (u v : Value) (h : ∀ t, d = some t → e ≠ some t) : (a.put d u).put e v = (a.put e v).put d u := by
 cases d with
 | none => rfl
 | some s =>
   cases e with
   | none => rfl
   | some t =>
     have hne : s ≠ t := fun he => h s rfl (by rw [he])
     simp only [Act.put]
     rw [Array.setIfInBounds_comm _ _ hne]
theorem putD_put (V : Nat → Value) (D : Nat → Bool) (l : List Oper) (i : Nat) (a : Act) (d : Option Tmp) (v : Value) (h : ∀ t, d = some t → noDst l t = true) : (putD V D l i a).put d v = putD V D l i (a.put d v) := by
 induction l generalizing i a with
 | nil => rfl
 | cons o r ih =>
   have h2 : ∀ t, d = some t → noDst r t = true := fun t ht => by have := h t ht; simp only [noDst, List.all_cons, Bool.and_eq_true] at this ⊢; exact this.2
   simp only [putD]
   rw [ih _ _ h2]
   congr 1
   split
   · refine put_comm _ _ _ _ _ (fun t ho hd => ?_)
     have := h t hd
     simp only [noDst, List.all_cons, Bool.and_eq_true, bne_iff_ne, ne_eq] at this
     exact this.1 ho
   · rfl
theorem putD_same (V V' : Nat → Value) (D D' : Nat → Bool) (l : List Oper) (i : Nat) (a : Act) (h : ∀ j, i ≤ j → D' j = D j ∧ V' j = V j) : putD V' D' l i a = putD V D l i a := by
 induction l generalizing i a with
 | nil => rfl
 | cons o r ih =>
   simp only [putD]
   rw [(h i (Nat.le_refl _)).1, (h i (Nat.le_refl _)).2]
   exact ih _ _ (fun j hj => h j (by omega))
theorem putD_step (V : Nat → Value) (D : Nat → Bool) (l : List Oper) (n i : Nat) (a : Act) (hd : dstsOk n l = true) (j : Nat) (o : Oper) (hj : l[j]? = some o) (hD : D (i + j) = false) (v : Value) : (putD V D l i a).put o.dst v = putD (updW V (i + j) v) (updB D (i + j)) l i a := by
 induction l generalizing i a j with
 | nil => simp at hj
 | cons p r ih =>
   simp only [dstsOk, Bool.and_eq_true] at hd
   cases j with
   | zero =>
     simp only [List.getElem?_cons_zero, Option.some.injEq] at hj
     subst hj
     simp only [Nat.add_zero] at hD ⊢
     simp only [putD, hD, Bool.false_eq_true, if_false]
     rw [putD_put _ _ _ _ _ _ _ (fun t ht => by rw [ht] at hd; simp only [Bool.and_eq_true] at hd; exact hd.1.2)]
     have e1 : updB D i i = true := by simp [updB]
     have e2 : updW V i v i = v := by simp [updW]
     rw [e1, e2]
     simp only [if_true]
     exact (putD_same _ _ _ _ _ _ _ (fun k hk => ⟨by simp [updB, show k ≠ i by omega], by simp [updW, show k ≠ i by omega]⟩)).symm
   | succ j =>
     simp only [List.getElem?_cons_succ] at hj
     have e1 : updB D (i + (j + 1)) i = D i := by simp [updB]
     have e2 : updW V (i + (j + 1)) v i = V i := by simp [updW]
     simp only [putD]
     rw [e1, e2]
     have := ih (i + 1) (if D i then a.put p.dst (V i) else a) hd.2 j hj (by rwa [show i + 1 + j = i + (j + 1) from by omega])
     rwa [show i + 1 + j = i + (j + 1) from by omega] at this

structure Evs (l : List Oper) (a0 : Act) (D : Nat → Bool) (V : Nat → Value) (a : Act) : Prop where
 old : ∀ t, noDst l t = true → a.eval (.tmp t) = a0.eval (.tmp t)
 new : ∀ j o t, l[j]? = some o → o.dst = some t → D j = true → a.eval (.tmp t) = V j

theorem wp_region_ev {P : Program} {id : Nat} {Q : Exit → Act → World → Prop} {a0 : Act} {w : World} (hm : P.follows .mixedOrders = true) (l : List Oper) (hlt : afterLt l.toArray = true)
   (hun : l.all (fun o => o.guard.isNone) = true) (n : Nat) (hn : a0.tmps.size = n) (hd : dstsOk n l = true) (I : (Nat → Bool) → (Nat → Value) → World → Prop)
   (h0 : ∀ D, (∀ i, i < l.length → D i = false) → I D (fun _ => undef) w.drew)
   (hs : ∀ (i : Nat) (o : Oper) (D : Nat → Bool) (V : Nat → Value) (w' : World) (a : Act), l[i]? = some o → I D V w' → D i = false → (∀ e ∈ o.after, Region.binds .any e = true → D e.on = true) → Evs l a0 D V a →
     o.wp P a w' (fun a' w'' => ∃ v, a' = a.put o.dst v ∧ I (updB D i) (updW V i v) w'') Q)
   (he : ∀ V w', I (fun _ => true) V w' → Q .normal (putF V l 0 a0) w') : (Code.region id l.toArray true).wp P Q a0 w := by
 refine wp_region_inv (ops := l.toArray) hm hlt (fun L a w' => ∃ V, a = putD V (fun j => L.getD j true) l 0 a0 ∧ I (fun j => L.getD j true) V w') ?_ ?_ ?_
 · refine ⟨fun _ => undef, ?_, h0 _ (fun i hi => by simp [hi])⟩
   rw [putD_none]
   intro j hj
   simp [hj]
 · rintro L a w' i o hL ⟨V, rfl, hI⟩ ho hLi haf
   have ho' : l[i]? = some o := by simpa using ho
   have hi : i < L.size := by rw [hL]; exact (Array.getElem?_eq_some_iff.1 ho).1
   have hg : o.guard = none := by
     have := (List.all_eq_true.1 hun) o (List.mem_of_getElem? ho')
     simpa using this
   have hw : Region.wanted o (yielded l.toArray (putD V (fun j => L.getD j true) l 0 a0).tmps) = true := by simp [Region.wanted, hg]
   rw [if_pos hw]
   have hLD : (fun j => (L.setIfInBounds i true).getD j true) = updB (fun j => L.getD j true) i := by
     funext j
     unfold updB
     by_cases e : j = i
     · subst e; simp [hi]
     · rw [if_neg e]
       simp only [Array.getD_eq_getD_getElem?]
       rw [Array.getElem?_setIfInBounds_ne (by omega)]
   refine Oper.wp_mono (fun a' w'' h => ?_) (hs i o (fun j => L.getD j true) V w' _ ho' hI hLi (fun e he hb => by
     have := haf e he hb
     by_cases hes : e.on < L.size
     · simpa [hes] using this
     · simp [hes]) ⟨fun t ht => putD_other _ _ _ _ _ _ ht, fun j o' t hj hot hD => by
       have := putD_at V (fun j => L.getD j true) l n 0 a0 hn hd j o' t hj hot (by simpa using hD)
       simpa using this⟩)
   obtain ⟨v, rfl, hI'⟩ := h
   refine ⟨updW V i v, ?_, ?_⟩
   · rw [hLD]
     have := putD_step V (fun j => L.getD j true) l n 0 a0 hd i o ho' (by simpa using hLi) v
     simpa using this
   · rw [hLD]; exact hI'
 · rintro a w' ⟨V, rfl, hI⟩
   have e : (fun j => (Array.replicate l.toArray.size true).getD j true) = fun _ => true := by
     funext j
     by_cases hj : j < l.length <;> simp [hj]
   rw [e] at hI ⊢
   rw [putD_all]
   exact he V w' hI
theorem nof {b : Bool} {p : Prop} (h : b = false) (h2 : b = true) : p := by rw [h] at h2; cases h2
theorem nofb {a b : Bool} (h : b = false) (o : a = true → b = true) : a = false := by
 cases a
 · rfl
 · rw [o rfl] at h; cases h
theorem inj_ {α : Type} {x y : α} (h : some x = some y) : x = y := Option.some.inj h
theorem aft_ {o : Oper} {D : Nat → Bool} (haf : ∀ e ∈ o.after, Region.binds .any e = true → D e.on = true) (q : Nat) (h : (o.after.toList.any fun e => e.on == q && Region.binds .any e) = true) : D q = true := by
 obtain ⟨e, he, h2⟩ := List.any_eq_true.1 h
 simp only [Bool.and_eq_true, beq_iff_eq] at h2
 have := haf e (by simpa using he) h2.2
 rwa [h2.1] at this
theorem Evs.at_ {l : List Oper} {a0 a : Act} {D : Nat → Bool} {V : Nat → Value} (hev : Evs l a0 D V a) (j : Nat) (t : Tmp) {o : Oper} (hj : l[j]? = some o) (ho : o.dst = some t) {v : Value} (h : D j = true) (f : D j = true → V j = v) : a.eval (.tmp t) = v := (hev.new j o t hj ho h).trans (f h)
theorem gs_ {α : Type} {a : α} {l : List α} {i : Nat} : (a :: l)[i + 1]? = l[i]? := List.getElem?_cons_succ
theorem gz_ {α : Type} {a : α} {l : List α} : (a :: l)[0]? = some a := List.getElem?_cons_zero
theorem sa_ {α : Type} {l : List α} {i : Nat} {a : α} : l.toArray.setIfInBounds i a = (l.set i a).toArray := List.setIfInBounds_toArray _ _ _
theorem sb_ {α : Type} {b : α} {l : List α} {i : Nat} {a : α} : (b :: l).set (i + 1) a = b :: l.set i a := List.set_cons_succ
theorem sc_ {α : Type} {b : α} {l : List α} {a : α} : (b :: l).set 0 a = a :: l := List.set_cons_zero
end Go.Proofs.YtpffkhjegpddbaaGreat
namespace Go.Proofs.YtpffkhjegpddbaaGreat
open Go.RowKit

def cnd (b : Bool) (I J : Item) : Item := if b then J else I
def em : Item := ⟨fun _ => False, fun _ => True, fun _ _ _ _ => trivial⟩
theorem cnd_f {b : Bool} (h : b = false) (I J : Item) : cnd b I J = I := by rw [h]; rfl
theorem cnd_t {b : Bool} (h : b = true) (I J : Item) : cnd b I J = J := by rw [h]; rfl

theorem eval_const (a : Act) (v : Value) : a.eval (.const v) = v := rfl

section
variable {P : Program} {X : FP} {w0 w : World} {L : List Item} {o : Oper} {a : Act} {K : Act → World → Prop} {Q : Exit → Act → World → Prop}
theorem op_val {v : Value} (hrun : (execOp a.eval o).run P w = .ok (.value v) w) (hK : K (a.put o.dst v) w) : o.wp P a w K Q := by
 unfold Oper.wp
 rw [hrun]
 exact hK
theorem op_move {x : Operand} (ho : o.op = .move x ∨ o.op = .assign x) {v : Value} (hx : a.eval x = v) (hK : K (a.put o.dst v) w) : o.wp P a w K Q := by
 subst hx
 refine op_val ?_ hK
 rcases ho with ho | ho <;> simp [execOp, ho]
theorem op_get (ty : TypeId) (x : Operand) (ho : o.op = .load ty x) (h : Sep X w0 L w) (i : Nat) {g : Nat} {C : Array Value} {t : TypeId} (e : L[i]? = some (bx g C t)) (j : Nat) (hx : a.eval x = .pointer (some ⟨g, j, none⟩))
   (hu : ∀ w, (isAgg ty).run P w = .ok false w) (v : Value) (hv : C[j]? = some v) (hK : K (a.put o.dst v) w) : o.wp P a w K Q := by
 have hc : w.cell? ⟨g, j, none⟩ = some v := by rw [cell_of_row _ _ j _ _ _ (h.get i e)]; exact hv
 unfold Oper.wp execOp
 simp only [ho, hx, Instr.loadAt, Instr.sureAddr, loadVar, Sem.run_bind, Sem.run_pure, Result.andThen_ok, hu, Bool.false_eq_true, if_false, run_load, hc]
 exact hK
theorem op_getK (ty : TypeId) (x : Operand) (ho : o.op = .load ty x) (h : Sep X w0 L w) (i : Nat) {g : Nat} {C : Array Value} {t : TypeId} (e : L[i]? = some (bx g C t)) (j : Nat) (hx : a.eval x = .pointer (some ⟨g, j, none⟩))
   (hu : ∀ w, (isAgg ty).run P w = .ok true w) (vs : List Value) (hv : (C.toList.drop j).take vs.length = vs) (hi : (P.info? ty).map (·.size) = some vs.length) (hK : K (a.put o.dst (.agg vs.toArray)) w) : o.wp P a w K Q := by
 have hgx := h.get i e
 have hc : ∀ k v, vs[k]? = some v → w.cell? ((⟨g, j, none⟩ : Addr).add k) = some v := fun k v hk => by
   have hadd : (⟨g, j, none⟩ : Addr).add k = ⟨g, j + k, none⟩ := by unfold Addr.add; split <;> simp_all
   have hkl : k < vs.length := (List.getElem?_eq_some_iff.1 hk).1
   rw [hadd, cell_of_row _ _ (j + k) _ _ _ hgx]
   rw [← hv, List.getElem?_take_of_lt hkl, List.getElem?_drop] at hk
   simpa using hk
 have hl := run_loadCells_list (P := P) w ⟨g, j, none⟩ vs hc
 unfold Oper.wp execOp
 cases hq : P.info? ty with
 | none => rw [hq] at hi; cases hi
 | some q =>
   have hs : q.size = vs.length := by rw [hq] at hi; simpa using hi
   have hsz : ∀ w, (sizeOf ty).run P w = .ok vs.length w := fun w => by simp [sizeOf, typeInfo, hq, hs]
   simp only [ho, hx, Instr.loadAt, Instr.sureAddr, loadVar, Sem.run_bind, Sem.run_pure, Result.andThen_ok, hu, if_true, hsz, hl]
   exact hK
theorem op_put (ty : TypeId) (x y : Operand) (ho : o.op = .store ty x y) (h : Sep X w0 L w) (i : Nat) {g : Nat} {C : Array Value} {t : TypeId} (e : L[i]? = some (bx g C t)) (j : Nat) (hx : a.eval x = .pointer (some ⟨g, j, none⟩))
   (v : Value) (hy : a.eval y = v) (vs : List Value) (hvs : v.cells.toList = vs) (h1 : vs.all (·.oneCell') = true) (hi : (P.info? ty).map (·.size) = some vs.length) (hj : j + vs.length ≤ C.size)
   (C' : Array Value) (hC : (C.toList.take j ++ vs ++ C.toList.drop (j + vs.length)).toArray = C')
   (hK : ∀ w', Sep X w0 (L.set i (bx g C' t)) w' → K (a.put o.dst undef) w') : o.wp P a w K Q := by
 have hgx := h.get i e
 have hst := run_storeCells_at (P := P) g j t vs 0 C w hgx (by omega) (fun u hu => (List.all_eq_true.1 h1) u hu)
 simp only [Nat.add_zero] at hst
 rw [hC] at hst
 unfold Oper.wp execOp
 cases hq : P.info? ty with
 | none => rw [hq] at hi; cases hi
 | some q =>
   have hs : v.cells.size = q.size := by
     rw [hq] at hi
     have h2 : q.size = vs.length := by simpa using hi
     rw [h2, ← hvs]; simp
   have hsz : ∀ w, (sizeOf ty).run P w = .ok v.cells.size w := fun w => by simp [sizeOf, typeInfo, hq, hs]
   simp only [ho, hx, hy, Instr.storeAt, Instr.sureAddr, storeVar, Sem.run_bind, Sem.run_pure, Result.andThen_ok, hsz, hvs, hst, ne_eq, not_true_eq_false, if_false]
   exact hK _ (h.row i e C')
theorem op_bx (t : TypeId) (x : Operand) (ho : o.op = .box t x) (h : Sep X w0 L w) (C : Array Value) (hx : a.eval x = .agg C)
   (hK : ∀ g w', Sep X w0 (bx g C t :: L) w' → K (a.put o.dst (.pointer (some ⟨g, 0, none⟩))) w') : o.wp P a w K Q := by
 unfold Oper.wp execOp
 simp only [ho, hx, Sem.run_bind, Instr.box, newVar, newRow, run_newObj_alloc, Sem.run_pure, Result.andThen_ok]
 exact hK _ _ (h.alloc _ _)
theorem op_nx (t : TypeId) (ho : o.op = .alloc t) (h : Sep X w0 L w) (C : Array Value) (hz : ∀ w, (zeroValue t).run P w = .ok (.agg C) w)
   (hK : ∀ g w', Sep X w0 (bx g C t :: L) w' → K (a.put o.dst (.pointer (some ⟨g, 0, none⟩))) w') : o.wp P a w K Q := by
 unfold Oper.wp execOp
 simp only [ho, Sem.run_bind, Instr.alloc, hz, newVar, newRow, run_newObj_alloc, Sem.run_pure, Result.andThen_ok]
 exact hK _ _ (h.alloc _ _)
theorem op_nxAt (t : TypeId) (ho : o.op = .alloc t) (h : Sep X w0 L w) (i : Nat) (e : L[i]? = some em) (C : Array Value) (hz : ∀ w, (zeroValue t).run P w = .ok (.agg C) w)
   (hK : ∀ g w', Sep X w0 (L.set i (bx g C t)) w' → K (a.put o.dst (.pointer (some ⟨g, 0, none⟩))) w') : o.wp P a w K Q := by
 unfold Oper.wp execOp
 simp only [ho, Sem.run_bind, Instr.alloc, hz, newVar, newRow, run_newObj_alloc, Sem.run_pure, Result.andThen_ok]
 exact hK _ _ (h.turn i e (Only.of_below ((Below.refl _ _).alloc (Nat.le_refl _) _)) _ (heap_alloc_new _ _) (fun k hk => by
   have hk : k = w.heap.size := hk
   subst hk
   exact ⟨.inr (Nat.le_refl _), by simp⟩))
theorem Sep.drew (h : Sep X w0 L w) : Sep X w0 L w.drew := h.call ((Below.refl _ _).drew)
theorem Sep.ems (h : Sep X w0 L w) (n : Nat) : Sep X w0 (L ++ List.replicate n em) w := by
 refine ⟨h.only, fun i hi => ?_, fun i hi k hk => ?_, List.pairwise_append.2 ⟨h.apart, ?_, fun a _ b hb k _ hk => ?_⟩⟩
 · rcases List.mem_append.1 hi with hi | hi
   · exact h.holds i hi
   · obtain ⟨_, rfl⟩ := List.mem_replicate.1 hi
     exact trivial
 · rcases List.mem_append.1 hi with hi | hi
   · exact h.fresh i hi k hk
   · obtain ⟨_, rfl⟩ := List.mem_replicate.1 hi
     exact absurd hk id
 · rw [List.pairwise_replicate]
   exact .inr (fun k hk => absurd hk id)
 · obtain ⟨_, rfl⟩ := List.mem_replicate.1 hb
   exact absurd hk id
theorem op_call (f : FuncId) (xs : Array Operand) (ats : Array TypeId) (ho : o.op = .call { callee := .value (.func f), args := xs, argTypes := ats }) (hen : ∀ args w, (callFunc f args).run P w = .ok (.enter f args) w)
   (args : Array Value) (hargs : xs.map a.eval = args) {R : Ending → World → Prop} (hc : Calls P f args w R) (hK : ∀ e w', R e w' → ∃ v, e = .returned v ∧ K (a.put o.dst v) w') : o.wp P a w K Q := by
 subst hargs
 have e : execOp a.eval o = callFunc f (#[] ++ xs.map a.eval ++ #[]) := by
   cases o
   simp only at ho
   subst ho
   rfl
 unfold Oper.wp
 rw [e, hen]
 simp only [Oper.upon_enter]
 refine (show Calls P f (#[] ++ xs.map a.eval ++ #[]) w R by simpa using hc).mono fun e w' he => ?_
 obtain ⟨v, rfl, hk⟩ := hK e w' he
 exact hk
theorem run_box (ty : TypeId) (h : Sep X w0 L w) (i : Nat) {g : Nat} {C : Array Value} {t : TypeId} (e : L[i]? = some (bx g C t)) (hu : ∀ w, (isAgg ty).run P w = .ok true w) (hi : (P.info? ty).map (·.size) = some C.size) :
   (loadVar ty ⟨g, 0, none⟩).run P w = .ok (.agg C) w := by
 have hgx := h.get i e
 have hc : ∀ k v, C.toList[k]? = some v → w.cell? ((⟨g, 0, none⟩ : Addr).add k) = some v := fun k v hk => by
   have hadd : (⟨g, 0, none⟩ : Addr).add k = ⟨g, k, none⟩ := by unfold Addr.add; split <;> simp_all
   rw [hadd, cell_of_row _ _ k _ _ _ hgx]
   simpa using hk
 have hl := run_loadCells_list (P := P) w ⟨g, 0, none⟩ C.toList hc
 cases hq : P.info? ty with
 | none => rw [hq] at hi; cases hi
 | some q =>
   have hs : q.size = C.toList.length := by rw [hq] at hi; simpa using hi
   have hsz : ∀ w, (sizeOf ty).run P w = .ok C.toList.length w := fun w => by simp [sizeOf, typeInfo, hq, hs]
   simp only [loadVar, Sem.run_bind, Sem.run_pure, Result.andThen_ok, hu, if_true, hsz, hl]
theorem op_row (ty : TypeId) (x : Operand) (ho : o.op = .load ty x) (h : Sep X w0 L w) (i : Nat) {g : Nat} {C : Array Value} {t : TypeId} (e : L[i]? = some (bx g C t)) (hx : a.eval x = .pointer (some ⟨g, 0, none⟩))
   (hu : ∀ w, (isAgg ty).run P w = .ok true w) (hi : (P.info? ty).map (·.size) = some C.size) (hK : K (a.put o.dst (.agg C)) w) : o.wp P a w K Q := by
 unfold Oper.wp execOp
 simp only [ho, hx, Instr.loadAt, Instr.sureAddr, Sem.run_bind, Sem.run_pure, Result.andThen_ok, run_box ty h i e hu hi]
 exact hK
theorem op_put1 (ty : TypeId) (x y : Operand) (ho : o.op = .store ty x y) (h : Sep X w0 L w) (i : Nat) {g : Nat} {C : Array Value} {t : TypeId} (e : L[i]? = some (bx g C t)) (j : Nat) (hx : a.eval x = .pointer (some ⟨g, j, none⟩))
   (v : Value) (hy : a.eval y = v) (h1 : v.oneCell' = true) (hi : (P.info? ty).map (·.size) = some 1) (hj : j < C.size)
   (hK : ∀ w', Sep X w0 (L.set i (bx g (C.setIfInBounds j v) t)) w' → K (a.put o.dst undef) w') : o.wp P a w K Q := by
 refine op_put ty x y ho h i e j hx v hy [v] ?_ (by simp [h1]) hi (by simpa using (show j + 1 ≤ C.size from hj)) (C.setIfInBounds j v) ?_ hK
 · cases v <;> first | rfl | (simp [Value.oneCell'] at h1)
 · apply Array.ext'
   simp only [Array.toList_setIfInBounds, List.length_cons, List.length_nil]
   rw [List.set_eq_take_append_cons_drop, if_pos (by simpa using hj)]
   simp
theorem op_putR (ty : TypeId) (x y : Operand) (ho : o.op = .store ty x y) (h : Sep X w0 L w) (i : Nat) {g : Nat} {C : Array Value} {t : TypeId} (e : L[i]? = some (bx g C t)) (hx : a.eval x = .pointer (some ⟨g, 0, none⟩))
   (C' : Array Value) (hy : a.eval y = .agg C') (h1 : C'.toList.all (·.oneCell') = true) (hi : (P.info? ty).map (·.size) = some C'.size) (hj : C'.size = C.size)
   (hK : ∀ w', Sep X w0 (L.set i (bx g C' t)) w' → K (a.put o.dst undef) w') : o.wp P a w K Q := by
 refine op_put ty x y ho h i e 0 hx (.agg C') hy C'.toList rfl h1 (by simpa using hi) (by simp [hj]) C' ?_ hK
 apply Array.ext'
 simp [hj]
theorem wpList_op {ops : Array Oper} {rest : List Oper} (hw : Region.wanted o (yielded ops a.tmps) = true) (h : o.wp P a w (fun a' w' => wpList P ops Q rest a' w') Q) : wpList P ops Q (o :: rest) a w := by
 unfold wpList
 rw [if_pos hw]
 exact .inl h

theorem results_ccs {fn : Func} {p q u : Tmp} {t1 t2 : TypeId} (hf : fn.results = #[.cell p t1, .cell q t2, .tmp u]) (tmps : Array Value) (h : Sep X w0 L w) (i j : Nat) {g1 g2 : Nat} {C1 C2 : Array Value} {T1 T2 : TypeId}
   (e1 : L[i]? = some (bx g1 C1 T1)) (e2 : L[j]? = some (bx g2 C2 T2)) (hp : tmps.getD p undef = .pointer (some ⟨g1, 0, none⟩)) (hq : tmps.getD q undef = .pointer (some ⟨g2, 0, none⟩))
   (hu1 : ∀ w, (isAgg t1).run P w = .ok true w) (hu2 : ∀ w, (isAgg t2).run P w = .ok true w) (hi1 : (P.info? t1).map (·.size) = some C1.size) (hi2 : (P.info? t2).map (·.size) = some C2.size) :
   (results fn tmps).run P w = .ok (.tuple #[.agg C1, .agg C2, tmps.getD u undef]) w := by
 have hp' : tmps[p]?.getD undef = .pointer (some ⟨g1, 0, none⟩) := by simpa using hp
 have hq' : tmps[q]?.getD undef = .pointer (some ⟨g2, 0, none⟩) := by simpa using hq
 simp [results, hf, hp', hq', asAddr, run_box t1 h i e1 hu1 hi1, run_box t2 h j e2 hu2 hi2]
theorem results_c {fn : Func} {p : Tmp} {t1 : TypeId} (hf : fn.results = #[.cell p t1]) (tmps : Array Value) (h : Sep X w0 L w) (i : Nat) {g1 : Nat} {C1 : Array Value} {T1 : TypeId}
   (e1 : L[i]? = some (bx g1 C1 T1)) (hp : tmps.getD p undef = .pointer (some ⟨g1, 0, none⟩)) (hu1 : ∀ w, (isAgg t1).run P w = .ok true w) (hi1 : (P.info? t1).map (·.size) = some C1.size) :
   (results fn tmps).run P w = .ok (.agg C1) w := by
 have hp' : tmps[p]?.getD undef = .pointer (some ⟨g1, 0, none⟩) := by simpa using hp
 simp [results, hf, hp', asAddr, run_box t1 h i e1 hu1 hi1]
theorem results_cs {fn : Func} {p u : Tmp} {t1 : TypeId} (hf : fn.results = #[.cell p t1, .tmp u]) (tmps : Array Value) (h : Sep X w0 L w) (i : Nat) {g1 : Nat} {C1 : Array Value} {T1 : TypeId}
   (e1 : L[i]? = some (bx g1 C1 T1)) (hp : tmps.getD p undef = .pointer (some ⟨g1, 0, none⟩)) (hu1 : ∀ w, (isAgg t1).run P w = .ok true w) (hi1 : (P.info? t1).map (·.size) = some C1.size) :
   (results fn tmps).run P w = .ok (.tuple #[.agg C1, tmps.getD u undef]) w := by
 have hp' : tmps[p]?.getD undef = .pointer (some ⟨g1, 0, none⟩) := by simpa using hp
 simp [results, hf, hp', asAddr, run_box t1 h i e1 hu1 hi1]
theorem results_cc {fn : Func} {p q : Tmp} {t1 t2 : TypeId} (hf : fn.results = #[.cell p t1, .cell q t2]) (tmps : Array Value) (h : Sep X w0 L w) (i j : Nat) {g1 g2 : Nat} {C1 C2 : Array Value} {T1 T2 : TypeId}
   (e1 : L[i]? = some (bx g1 C1 T1)) (e2 : L[j]? = some (bx g2 C2 T2)) (hp : tmps.getD p undef = .pointer (some ⟨g1, 0, none⟩)) (hq : tmps.getD q undef = .pointer (some ⟨g2, 0, none⟩))
   (hu1 : ∀ w, (isAgg t1).run P w = .ok true w) (hu2 : ∀ w, (isAgg t2).run P w = .ok true w) (hi1 : (P.info? t1).map (·.size) = some C1.size) (hi2 : (P.info? t2).map (·.size) = some C2.size) :
   (results fn tmps).run P w = .ok (.tuple #[.agg C1, .agg C2]) w := by
 have hp' : tmps[p]?.getD undef = .pointer (some ⟨g1, 0, none⟩) := by simpa using hp
 have hq' : tmps[q]?.getD undef = .pointer (some ⟨g2, 0, none⟩) := by simpa using hq
 simp [results, hf, hp', hq', asAddr, run_box t1 h i e1 hu1 hi1, run_box t2 h j e2 hu2 hi2]
end
end Go.Proofs.YtpffkhjegpddbaaGreat
