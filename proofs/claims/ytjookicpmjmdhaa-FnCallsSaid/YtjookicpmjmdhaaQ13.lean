/- What a function holds while it runs: boxes and lists of its own, each apart from the others. -/
import Derived.Test.YtjookicpmjmdhaaQ06
import Derived.Laws.Tables
import Derived.Laws.CopyRow
import Derived.Laws.ResultCell
import Derived.Deep.WholeRow
import Derived.Orders
import Derived.Still
import Derived.BigCall
import Derived.Shelf.Abstract
open Go.Value renaming int → jI, slice → jS
open Go.IntKind renaming i64 → jZ
namespace Go.Proofs.Ytjookicpmjmdhaa
open Go.RowKit

structure Item where
 F : FP
 P : World → Prop
 keep : ∀ w w' : World, P w → (∀ k, F k → k < w.heap.size → w'.heap[k]? = w.heap[k]?) → P w'
def bx (g : Nat) (C : Array Value) (t : TypeId) : Item where
 F := fun k => k = g
 P := fun w => w.heap[g]? = some (.cells C t (0, 0))
 keep := fun _ _ h hk => (hk g rfl (Array.getElem?_eq_some_iff.1 h).1).trans h
def ow {α : Type} [Enc α] (v : Value) (xs : List α) (F : FP) : Item where
 F := F
 P := fun w => OwnS w v xs F
 keep := fun _ _ h hk => h.keep hk

structure Sep (X : FP) (w0 : World) (L : List Item) (w : World) : Prop where
 only : Only X w0 w
 holds : ∀ i ∈ L, i.P w
 fresh : ∀ i ∈ L, ∀ k, i.F k → (X k ∨ w0.heap.size ≤ k) ∧ k < w.heap.size
 apart : L.Pairwise fun i j => Apart i.F j.F
def noX : FP := fun _ => False

section
variable {X : FP} {w0 w w' : World} {L : List Item}
theorem Sep.start (X : FP) (w : World) : Sep X w [] w := ⟨Only.refl _ _, fun i h => by simp at h, fun i h => by simp at h, List.Pairwise.nil⟩
theorem Sep.size (h : Sep X w0 L w) : w0.heap.size ≤ w.heap.size := h.only.size
theorem Sep.below (h : Sep noX w0 L w) : Below w0.heap.size w0 w := ⟨h.only.os, h.only.tape, h.only.output, h.only.size, fun k hk => h.only.block k hk (fun hx => hx)⟩
theorem Sep.get (h : Sep X w0 L w) (i : Nat) {I : Item} (e : L[i]? = some I) : I.P w := h.holds _ (List.mem_of_getElem? e)
theorem Sep.call (h : Sep X w0 L w) (b : Below w.heap.size w w') : Sep X w0 L w' where
 only := h.only.trans (Only.of_below b)
 holds := fun i hi => i.keep _ _ (h.holds i hi) (fun k _ hk => b.block k hk)
 fresh := fun i hi k hk => by have h1 := h.fresh i hi k hk; have := b.size; exact ⟨h1.1, by omega⟩
 apart := h.apart
theorem Sep.gain (h : Sep X w0 L w) (b : Below w.heap.size w w') (I : Item) (p : I.P w') (f : ∀ k, I.F k → w.heap.size ≤ k ∧ k < w'.heap.size) : Sep X w0 (I :: L) w' where
 only := (h.call b).only
 holds := fun i hi => by
   rcases List.mem_cons.1 hi with rfl | hi
   · exact p
   · exact (h.call b).holds i hi
 fresh := fun i hi k hk => by
   rcases List.mem_cons.1 hi with rfl | hi
   · have := f k hk; have := h.size; exact ⟨.inr (by omega), by omega⟩
   · exact (h.call b).fresh i hi k hk
 apart := List.pairwise_cons.2 ⟨fun j hj k hk hk2 => by have := f k hk; have := (h.fresh j hj k hk2).2; omega, h.apart⟩
theorem Sep.gain2 (h : Sep X w0 L w) (b : Below w.heap.size w w') (I J : Item) (p : I.P w') (q : J.P w') (f : ∀ k, I.F k → w.heap.size ≤ k ∧ k < w'.heap.size) (g : ∀ k, J.F k → w.heap.size ≤ k ∧ k < w'.heap.size) (ap : Apart I.F J.F) : Sep X w0 (I :: J :: L) w' := by
 have h2 := h.gain b J q g
 refine ⟨h2.only, fun i hi => ?_, fun i hi k hk => ?_, List.pairwise_cons.2 ⟨fun j hj => ?_, h2.apart⟩⟩
 · rcases List.mem_cons.1 hi with rfl | hi
   · exact p
   · exact h2.holds i hi
 · rcases List.mem_cons.1 hi with rfl | hi
   · have := f k hk; have := h.size; exact ⟨.inr (by omega), by omega⟩
   · exact h2.fresh i hi k hk
 · rcases List.mem_cons.1 hj with rfl | hj
   · exact ap
   · exact fun k hk hk2 => by have := f k hk; have := (h.fresh j hj k hk2).2; omega
theorem Sep.alloc (h : Sep X w0 L w) (C : Array Value) (t : TypeId) : Sep X w0 (bx w.heap.size C t :: L) (w.alloc (.cells C t)) :=
 h.gain ((Below.refl _ _).alloc (Nat.le_refl _) _) _ (heap_alloc_new _ _) (fun k hk => by
   have hk : k = w.heap.size := hk
   subst hk
   exact ⟨Nat.le_refl _, by simp⟩)
theorem Sep.turn (h : Sep X w0 L w) (i : Nat) {I : Item} (e : L[i]? = some I) (o : Only I.F w w') (J : Item) (p : J.P w') (f : ∀ k, J.F k → (I.F k ∨ w.heap.size ≤ k) ∧ k < w'.heap.size) : Sep X w0 (L.set i J) w' := by
 have hi : i < L.length := (List.getElem?_eq_some_iff.1 e).1
 have he : L[i] = I := (List.getElem?_eq_some_iff.1 e).2
 have hIm : I ∈ L := List.mem_of_getElem? e
 have hap : ∀ j (hj : j < L.length), j ≠ i → Apart L[j].F I.F := fun j hj hne => by
   have hp := List.pairwise_iff_getElem.1 h.apart
   rcases Nat.lt_or_gt_of_ne hne with h' | h'
   · have := hp j i hj hi h'; rwa [he] at this
   · have := hp i j hi hj h'; rw [he] at this; exact this.symm
 have hget : ∀ j (hj : j < (L.set i J).length), (L.set i J)[j] = if i = j then J else L[j]'(by simpa using hj) := fun j hj => List.getElem_set _
 have hF : ∀ j (hj : j < L.length), j ≠ i → ∀ k, L[j].F k → ¬ I.F k := fun j hj hne k hk => hap j hj hne k hk
 refine ⟨?_, fun q hq => ?_, fun q hq k hk => ?_, ?_⟩
 · refine ⟨o.os.trans h.only.os, o.tape.trans h.only.tape, o.output.trans h.only.output, Nat.le_trans h.only.size o.size, fun k hk hx => ?_⟩
   rw [o.block k (by have := h.size; omega) (fun hI => ?_), h.only.block k hk hx]
   rcases (h.fresh I hIm k hI).1 with h1 | h1
   · exact hx h1
   · omega
 · obtain ⟨j, hj, rfl⟩ := List.getElem_of_mem hq
   rw [hget]
   split
   · exact p
   · exact (L[j]'(by simpa using hj)).keep _ _ (h.holds _ (List.getElem_mem _)) (fun k hk hlt => o.block k hlt (hF j _ (by omega) k hk))
 · obtain ⟨j, hj, rfl⟩ := List.getElem_of_mem hq
   rw [hget] at hk
   split at hk
   · have h1 := f k hk
     have h2 := h.size
     refine ⟨?_, h1.2⟩
     rcases h1.1 with h3 | h3
     · exact (h.fresh I hIm k h3).1
     · exact .inr (by omega)
   · have h1 := h.fresh _ (List.getElem_mem (l := L) (n := j) (by simpa using hj)) k hk
     have := o.size
     exact ⟨h1.1, by omega⟩
 · rw [List.pairwise_iff_getElem]
   intro a b ha hb hab
   rw [hget, hget]
   have hn : ∀ j (hj : j < L.length), j ≠ i → Apart L[j].F J.F := fun j hj hne k hk hk2 => by
     rcases (f k hk2).1 with h3 | h3
     · exact hF j hj hne k hk h3
     · have := (h.fresh _ (List.getElem_mem hj) k hk).2; omega
   have la : a < L.length := by simpa using ha
   have lb : b < L.length := by simpa using hb
   split
   · split
     · omega
     · exact (hn b lb (by omega)).symm
   · split
     · exact hn a la (by omega)
     · exact (List.pairwise_iff_getElem.1 h.apart) a b la lb hab
theorem only_row (w : World) (g : Nat) (cs : Array Value) : Only (fun k => k = g) w (w.setRow g cs) := ⟨rfl, rfl, rfl, by simp, fun k _ hn => setRow_other w g k cs hn⟩
theorem Sep.row (h : Sep X w0 L w) (i : Nat) {g : Nat} {C : Array Value} {t : TypeId} (e : L[i]? = some (bx g C t)) (C' : Array Value) : Sep X w0 (L.set i (bx g C' t)) (w.setRow g C') :=
 h.turn i e (only_row _ _ _) _ (setRow_heap _ _ _ _ _ _ (h.get i e)) (fun k hk => by
   have hk : k = g := hk
   subst hk
   refine ⟨.inl rfl, ?_⟩
   simp only [setRow_size]
   exact (Array.getElem?_eq_some_iff.1 (h.get i e)).1)
theorem Sep.rs {α : Type} [Enc α] (h : Sep noX w0 L w) {A : Option Addr} {n : Nat} {xs : List α} (hR : RS w0 w0.heap.size A n xs) : RS w w.heap.size A n xs := hR.on h.below
theorem Sep.own {α : Type} [Enc α] (h : Sep X w0 L w) (b : Below w.heap.size w w') {v : Value} {xs : List α} {F : FP} (o : OwnS w' v xs F) (f : Fresh F w w') : Sep X w0 (ow v xs F :: L) w' := h.gain b (ow v xs F) o f
theorem Sep.drop (h : Sep X w0 L w) {L' : List Item} (hs : L'.Sublist L) : Sep X w0 L' w := ⟨h.only, fun i hi => h.holds i (hs.subset hi), fun i hi => h.fresh i (hs.subset hi), h.apart.sublist hs⟩
theorem Sep.ends {α : Type} [Enc α] (h : Sep noX w0 L w) (i : Nat) {v : Value} {xs : List α} {F : FP} (e : L[i]? = some (ow v xs F)) : OwnS w v xs F ∧ Fresh F w0 w ∧ Below w0.heap.size w0 w :=
 ⟨h.get i e, fun k hk => by
   have h1 := h.fresh _ (List.mem_of_getElem? e) k hk
   rcases h1.1 with h2 | h2
   · exact absurd h2 id
   · exact ⟨h2, h1.2⟩, h.below⟩
theorem Sep.two (h : Sep X w0 L w) (i j : Nat) {I J : Item} (hij : i < j) (e : L[i]? = some I) (e' : L[j]? = some J) : Apart I.F J.F := by
 obtain ⟨h1, rfl⟩ := List.getElem?_eq_some_iff.1 e
 obtain ⟨h2, rfl⟩ := List.getElem?_eq_some_iff.1 e'
 exact (List.pairwise_iff_getElem.1 h.apart) i j h1 h2 hij
end

section
variable {P : Program} {X : FP} {w0 w : World} {L : List Item} {ops : Array Oper} {rest : List Oper} {o : Oper} {a : Act} {Q : Exit → Act → World → Prop}

end
theorem OwnS.rs {α : Type} [Enc α] {w : World} {A : Option Addr} {m c : Nat} {xs : List α} {F : FP} (h : OwnS w (jS A m c) xs F) (hl : xs.length = m) : RS w w.heap.size A m xs := by
 subst hl
 obtain ⟨A', c', e, hR, _⟩ := h.reads
 cases e
 exact hR
end Go.Proofs.Ytjookicpmjmdhaa
namespace Go.Proofs.Ytjookicpmjmdhaa

variable {P : Program} {ops : Array Oper}

def afterLt (ops : Array Oper) : Bool := (List.range ops.size).all fun i => ((ops[i]?).map fun o => o.after.all fun e => !Region.binds .any e || decide (e.on < i)).getD true

theorem all_true {L : Array Bool} {n : Nat} (hn : L.size = n) (h : ∀ i, i < n → L.getD i true = true) : L = Array.replicate n true := by
 apply Array.ext
 · simp [hn]
 · intro i h1 h2
   have := h i (by omega)
   simp only [Array.getElem_replicate]
   simpa [h1] using this

theorem ready_nil {L : Array Bool} (hlt : afterLt ops = true) (hL : L.size = ops.size) (h : Region.ready .any ops L = []) : ∀ i, i < ops.size → L.getD i true = true := by
 intro i
 induction i using Nat.strongRecOn with
 | ind i ih =>
   intro hi
   rcases hq : L.getD i true with _ | _
   · exfalso
     have hmem : i ∈ Region.ready .any ops L := by
       refine mem_ready.2 ⟨hq, ops[i], by simp [hi], fun e he hbd => ?_⟩
       have hall : (((ops[i]?).map fun o => o.after.all fun e => !Region.binds .any e || decide (e.on < i)).getD true) = true := by
         unfold afterLt at hlt
         exact (List.all_eq_true.1 hlt) i (List.mem_range.2 hi)
       simp [hi] at hall
       have he' : e.on < i := by
         obtain ⟨j, hj, rfl⟩ := Array.getElem_of_mem he
         have := hall j hj
         rw [hbd] at this
         simpa using this
       have := ih e.on he' (by omega)
       have hs : e.on < L.size := by omega
       simpa [hs] using this
     rw [h] at hmem
     cases hmem
   · rfl

theorem wpAny_inv {Q : Exit → Act → World → Prop} (hlt : afterLt ops = true) (I : Array Bool → Act → World → Prop)
   (hs : ∀ L a w i o, L.size = ops.size → I L a w → ops[i]? = some o → L.getD i true = false → (∀ e ∈ o.after, Region.binds .any e = true → L.getD e.on false = true) →
     if Region.wanted o (yielded ops a.tmps) = true then o.wp P a w (I (L.setIfInBounds i true)) Q else I (L.setIfInBounds i true) (a.put o.dst undef) w)
   (he : ∀ a w, I (Array.replicate ops.size true) a w → Q .normal a w) :
   ∀ (fuel : Nat) (L : Array Bool) (a : Act) (w : World), L.size = ops.size → L.toList.count false ≤ fuel → I L a w → wpAny P .any ops Q fuel L a w := by
 intro fuel
 induction fuel with
 | zero =>
   intro L a w hL hc hI
   have hall : ∀ i, i < ops.size → L.getD i true = true := by
     intro i hi
     rcases hq : L.getD i true with _ | _
     · exfalso
       have hi' : i < L.size := by omega
       have hm : false ∈ L.toList := by
         have : L[i] = false := by simpa [hi'] using hq
         rw [← this]
         simp
       have := List.count_pos_iff.2 hm
       omega
     · rfl
   have e := all_true hL hall
   subst e
   refine ⟨?_, he _ _ hI⟩
   apply List.eq_nil_iff_forall_not_mem.2
   intro i hi
   have h1 := (mem_ready.1 hi).1
   by_cases hsz : i < ops.size <;> simp [hsz] at h1
 | succ fuel ih =>
   intro L a w hL hc hI
   refine ⟨fun h => ?_, fun i hi => ?_⟩
   · have e := all_true hL (ready_nil hlt hL h)
     subst e
     exact he _ _ hI
   · obtain ⟨h1, o, ho, hafter⟩ := mem_ready.1 hi
     have hi' : i < ops.size := (Array.getElem?_eq_some_iff.1 ho).1
     have hL' : (L.setIfInBounds i true).size = ops.size := by simp [hL]
     have hc' : (L.setIfInBounds i true).toList.count false ≤ fuel := by
       have hil : i < L.toList.length := by simp; omega
       have hv : L.toList[i] = false := by
         have : i < L.size := by omega
         simpa [this] using h1
       rw [Array.toList_setIfInBounds, List.count_set hil, hv]
       have hpos : 0 < L.toList.count false := List.count_pos_iff.2 (by rw [← hv]; exact List.getElem_mem hil)
       rw [if_pos (by rfl), if_neg (by decide)]
       omega
     have step := hs L a w i o hL hI ho h1 hafter
     unfold wpOp
     simp only [ho]
     by_cases hw : Region.wanted o (yielded ops a.tmps) = true
     · rw [if_pos hw] at step ⊢
       exact .inl (Oper.wp_mono (fun a w h => ih _ a w hL' hc' h) step)
     · rw [if_neg hw] at step ⊢
       exact ih _ _ _ hL' hc' step

theorem wp_region_inv {id : Nat} {Q : Exit → Act → World → Prop} {a : Act} {w : World} (hm : P.follows .mixedOrders = true) (hlt : afterLt ops = true) (I : Array Bool → Act → World → Prop)
   (h0 : I (Array.replicate ops.size false) a { w with drawn := w.drawn + 1 })
   (hs : ∀ L a w i o, L.size = ops.size → I L a w → ops[i]? = some o → L.getD i true = false → (∀ e ∈ o.after, Region.binds .any e = true → L.getD e.on false = true) →
     if Region.wanted o (yielded ops a.tmps) = true then o.wp P a w (I (L.setIfInBounds i true)) Q else I (L.setIfInBounds i true) (a.put o.dst undef) w)
   (he : ∀ a w, I (Array.replicate ops.size true) a w → Q .normal a w) : (Code.region id ops true).wp P Q a w :=
 wp_region_any hm (wpAny_inv hlt I hs he ops.size _ _ _ (by simp) (by have := List.count_le_length (a := false) (l := (Array.replicate ops.size false).toList); simp only [Array.toList_replicate, List.length_replicate] at this ⊢; exact this) h0)
end Go.Proofs.Ytjookicpmjmdhaa
namespace Go.Proofs.Ytjookicpmjmdhaa
open Go.RowKit

def updB (D : Nat → Bool) (i : Nat) : Nat → Bool := fun j => if j = i then true else D j
def updW (V : Nat → Value) (i : Nat) (v : Value) : Nat → Value := fun j => if j = i then v else V j
def putD (V : Nat → Value) (D : Nat → Bool) : List Oper → Nat → Act → Act
 | [], _, a => a
 | o :: r, i, a => putD V D r (i + 1) (if D i then a.put o.dst (V i) else a)
def putF (V : Nat → Value) : List Oper → Nat → Act → Act
 | [], _, a => a
 | o :: r, i, a => putF V r (i + 1) (a.put o.dst (V i))
theorem putD_all (V : Nat → Value) (l : List Oper) (i : Nat) (a : Act) : putD V (fun _ => true) l i a = putF V l i a := by
 induction l generalizing i a with
 | nil => rfl
 | cons o r ih => simp [putD, putF, ih]
theorem putD_none (V : Nat → Value) (D : Nat → Bool) (l : List Oper) (i : Nat) (a : Act) (h : ∀ j, j < l.length → D (i + j) = false) : putD V D l i a = a := by
 induction l generalizing i a with
 | nil => rfl
 | cons o r ih =>
   have h0 := h 0 (by simp)
   simp only [Nat.add_zero] at h0
   simp only [putD, h0, Bool.false_eq_true, if_false]
   exact ih (i + 1) a (fun j hj => by have := h (j + 1) (by simp; omega); rwa [show i + (j + 1) = i + 1 + j from by omega] at this)
def noDst (l : List Oper) (t : Tmp) : Bool := l.all fun o => o.dst != some t
def dstsOk (n : Nat) : List Oper → Bool
 | [] => true
 | o :: r => (match o.dst with | some t => decide (t < n) && noDst r t | none => true) && dstsOk n r
theorem put_size (a : Act) (d : Option Tmp) (v : Value) : (a.put d v).tmps.size = a.tmps.size := by cases d <;> simp [Act.put]
theorem eval_put_other (a : Act) (d : Option Tmp) (v : Value) (t : Tmp) (h : d ≠ some t) : (a.put d v).eval (.tmp t) = a.eval (.tmp t) := by
 cases d with
 | none => rfl
 | some s =>
   have hne : s ≠ t := fun e => h (by rw [e])
   simp only [Act.put, Act.eval, Array.getD_eq_getD_getElem?]
   rw [Array.getElem?_setIfInBounds_ne hne]
theorem eval_put_same (a : Act) (v : Value) (t : Tmp) (h : t < a.tmps.size) : (a.put (some t) v).eval (.tmp t) = v := by
 simp [Act.put, Act.eval, h]
theorem putD_other (V : Nat → Value) (D : Nat → Bool) (l : List Oper) (i : Nat) (a : Act) (t : Tmp) (h : noDst l t = true) : (putD V D l i a).eval (.tmp t) = a.eval (.tmp t) := by
 induction l generalizing i a with
 | nil => rfl
 | cons o r ih =>
   simp only [noDst, List.all_cons, Bool.and_eq_true, bne_iff_ne, ne_eq] at h
   simp only [putD]
   rw [ih _ _ (by simp only [noDst]; exact h.2)]
   split
   · exact eval_put_other _ _ _ _ h.1
   · rfl
theorem putD_at (V : Nat → Value) (D : Nat → Bool) (l : List Oper) (n i : Nat) (a : Act) (ha : a.tmps.size = n) (hd : dstsOk n l = true) (j : Nat) (o : Oper) (t : Tmp) (hj : l[j]? = some o) (ho : o.dst = some t) (hD : D (i + j) = true) : (putD V D l i a).eval (.tmp t) = V (i + j) := by
 induction l generalizing i a j with
 | nil => simp at hj
 | cons p r ih =>
   simp only [dstsOk, Bool.and_eq_true] at hd
   cases j with
   | zero =>
     simp only [List.getElem?_cons_zero, Option.some.injEq] at hj
     subst hj
     rw [ho] at hd
     simp only [Bool.and_eq_true, decide_eq_true_eq] at hd
     simp only [Nat.add_zero] at hD ⊢
     simp only [putD, hD, if_true, ho]
     rw [putD_other _ _ _ _ _ _ hd.1.2]
     exact eval_put_same _ _ _ (by rw [ha]; exact hd.1.1)
   | succ j =>
     simp only [List.getElem?_cons_succ] at hj
     have := ih (i + 1) (if D i then a.put p.dst (V i) else a) (by split <;> simp [put_size, ha]) hd.2 j hj (by rwa [show i + 1 + j = i + (j + 1) from by omega])
     rwa [show i + 1 + j = i + (j + 1) from by omega] at this
theorem put_comm (a : Act) (d e : Option Tmp) (u v : Value) (h : ∀ t, d = some t → e ≠ some t) : (a.put d u).put e v = (a.put e v).put d u := by
 cases d with
 | none => rfl
 | some s =>
   cases e with
   | none => rfl
   | some t =>
     have hne : s ≠ t := fun he => h s rfl (by rw [he])
     simp only [Act.put]
     rw [Array.setIfInBounds_comm _ _ hne]
theorem putD_put (V : Nat → Value) (D : Nat → Bool) (l : List Oper) (i : Nat) (a : Act) (d : Option Tmp) (v : Value) (h : ∀ t, d = some t → noDst l t = true) : (putD V D l i a).put d v = putD V D l i (a.put d v) := by
 induction l generalizing i a with
 | nil => rfl
 | cons o r ih =>
   have h2 : ∀ t, d = some t → noDst r t = true := fun t ht => by have := h t ht; simp only [noDst, List.all_cons, Bool.and_eq_true] at this ⊢; exact this.2
   simp only [putD]
   rw [ih _ _ h2]
   congr 1
   split
   · refine put_comm _ _ _ _ _ (fun t ho hd => ?_)
     have := h t hd
     simp only [noDst, List.all_cons, Bool.and_eq_true, bne_iff_ne, ne_eq] at this
     exact this.1 ho
   · rfl
theorem putD_same (V V' : Nat → Value) (D D' : Nat → Bool) (l : List Oper) (i : Nat) (a : Act) (h : ∀ j, i ≤ j → D' j = D j ∧ V' j = V j) : putD V' D' l i a = putD V D l i a := by
 induction l generalizing i a with
 | nil => rfl
 | cons o r ih =>
   simp only [putD]
   rw [(h i (Nat.le_refl _)).1, (h i (Nat.le_refl _)).2]
   exact ih _ _ (fun j hj => h j (by omega))
theorem putD_step (V : Nat → Value) (D : Nat → Bool) (l : List Oper) (n i : Nat) (a : Act) (hd : dstsOk n l = true) (j : Nat) (o : Oper) (hj : l[j]? = some o) (hD : D (i + j) = false) (v : Value) : (putD V D l i a).put o.dst v = putD (updW V (i + j) v) (updB D (i + j)) l i a := by
 induction l generalizing i a j with
 | nil => simp at hj
 | cons p r ih =>
   simp only [dstsOk, Bool.and_eq_true] at hd
   cases j with
   | zero =>
     simp only [List.getElem?_cons_zero, Option.some.injEq] at hj
     subst hj
     simp only [Nat.add_zero] at hD ⊢
     simp only [putD, hD, Bool.false_eq_true, if_false]
     rw [putD_put _ _ _ _ _ _ _ (fun t ht => by rw [ht] at hd; simp only [Bool.and_eq_true] at hd; exact hd.1.2)]
     have e1 : updB D i i = true := by simp [updB]
     have e2 : updW V i v i = v := by simp [updW]
     rw [e1, e2]
     simp only [if_true]
     exact (putD_same _ _ _ _ _ _ _ (fun k hk => ⟨by simp [updB, show k ≠ i by omega], by simp [updW, show k ≠ i by omega]⟩)).symm
   | succ j =>
     simp only [List.getElem?_cons_succ] at hj
     have e1 : updB D (i + (j + 1)) i = D i := by simp [updB]
     have e2 : updW V (i + (j + 1)) v i = V i := by simp [updW]
     simp only [putD]
     rw [e1, e2]
     have := ih (i + 1) (if D i then a.put p.dst (V i) else a) hd.2 j hj (by rwa [show i + 1 + j = i + (j + 1) from by omega])
     rwa [show i + 1 + j = i + (j + 1) from by omega] at this

structure Evs (l : List Oper) (a0 : Act) (D : Nat → Bool) (V : Nat → Value) (a : Act) : Prop where
 old : ∀ t, noDst l t = true → a.eval (.tmp t) = a0.eval (.tmp t)
 new : ∀ j o t, l[j]? = some o → o.dst = some t → D j = true → a.eval (.tmp t) = V j

theorem wp_region_ev {P : Program} {id : Nat} {Q : Exit → Act → World → Prop} {a0 : Act} {w : World} (hm : P.follows .mixedOrders = true) (l : List Oper) (hlt : afterLt l.toArray = true)
   (hun : l.all (fun o => o.guard.isNone) = true) (n : Nat) (hn : a0.tmps.size = n) (hd : dstsOk n l = true) (I : (Nat → Bool) → (Nat → Value) → World → Prop)
   (h0 : ∀ D, (∀ i, i < l.length → D i = false) → I D (fun _ => undef) w.drew)
   (hs : ∀ (i : Nat) (o : Oper) (D : Nat → Bool) (V : Nat → Value) (w' : World) (a : Act), l[i]? = some o → I D V w' → D i = false → (∀ e ∈ o.after, Region.binds .any e = true → D e.on = true) → Evs l a0 D V a →
     o.wp P a w' (fun a' w'' => ∃ v, a' = a.put o.dst v ∧ I (updB D i) (updW V i v) w'') Q)
   (he : ∀ V w', I (fun _ => true) V w' → Q .normal (putF V l 0 a0) w') : (Code.region id l.toArray true).wp P Q a0 w := by
 refine wp_region_inv (ops := l.toArray) hm hlt (fun L a w' => ∃ V, a = putD V (fun j => L.getD j true) l 0 a0 ∧ I (fun j => L.getD j true) V w') ?_ ?_ ?_
 · refine ⟨fun _ => undef, ?_, h0 _ (fun i hi => by simp [hi])⟩
   rw [putD_none]
   intro j hj
   simp [hj]
 · rintro L a w' i o hL ⟨V, rfl, hI⟩ ho hLi haf
   have ho' : l[i]? = some o := by simpa using ho
   have hi : i < L.size := by rw [hL]; exact (Array.getElem?_eq_some_iff.1 ho).1
   have hg : o.guard = none := by
     have := (List.all_eq_true.1 hun) o (List.mem_of_getElem? ho')
     simpa using this
   have hw : Region.wanted o (yielded l.toArray (putD V (fun j => L.getD j true) l 0 a0).tmps) = true := by simp [Region.wanted, hg]
   rw [if_pos hw]
   have hLD : (fun j => (L.setIfInBounds i true).getD j true) = updB (fun j => L.getD j true) i := by
     funext j
     unfold updB
     by_cases e : j = i
     · subst e; simp [hi]
     · rw [if_neg e]
       simp only [Array.getD_eq_getD_getElem?]
       rw [Array.getElem?_setIfInBounds_ne (by omega)]
   refine Oper.wp_mono (fun a' w'' h => ?_) (hs i o (fun j => L.getD j true) V w' _ ho' hI hLi (fun e he hb => by
     have := haf e he hb
     by_cases hes : e.on < L.size
     · simpa [hes] using this
     · simp [hes]) ⟨fun t ht => putD_other _ _ _ _ _ _ ht, fun j o' t hj hot hD => by
       have := putD_at V (fun j => L.getD j true) l n 0 a0 hn hd j o' t hj hot (by simpa using hD)
       simpa using this⟩)
   obtain ⟨v, rfl, hI'⟩ := h
   refine ⟨updW V i v, ?_, ?_⟩
   · rw [hLD]
     have := putD_step V (fun j => L.getD j true) l n 0 a0 hd i o ho' (by simpa using hLi) v
     simpa using this
   · rw [hLD]; exact hI'
 · rintro a w' ⟨V, rfl, hI⟩
   have e : (fun j => (Array.replicate l.toArray.size true).getD j true) = fun _ => true := by
     funext j
     by_cases hj : j < l.length <;> simp [hj]
   rw [e] at hI ⊢
   rw [putD_all]
   exact he V w' hI
theorem nof {b : Bool} {p : Prop} (h : b = false) (h2 : b = true) : p := by rw [h] at h2; cases h2
theorem nofb {a b : Bool} (h : b = false) (o : a = true → b = true) : a = false := by
 cases a
 · rfl
 · rw [o rfl] at h; cases h
theorem inj_ {α : Type} {x y : α} (h : some x = some y) : x = y := Option.some.inj h
theorem aft_ {o : Oper} {D : Nat → Bool} (haf : ∀ e ∈ o.after, Region.binds .any e = true → D e.on = true) (q : Nat) (h : (o.after.toList.any fun e => e.on == q && Region.binds .any e) = true) : D q = true := by
 obtain ⟨e, he, h2⟩ := List.any_eq_true.1 h
 simp only [Bool.and_eq_true, beq_iff_eq] at h2
 have := haf e (by simpa using he) h2.2
 rwa [h2.1] at this
theorem Evs.at_ {l : List Oper} {a0 a : Act} {D : Nat → Bool} {V : Nat → Value} (hev : Evs l a0 D V a) (j : Nat) (t : Tmp) {o : Oper} (hj : l[j]? = some o) (ho : o.dst = some t) {v : Value} (h : D j = true) (f : D j = true → V j = v) : a.eval (.tmp t) = v := (hev.new j o t hj ho h).trans (f h)
theorem gs_ {α : Type} {a : α} {l : List α} {i : Nat} : (a :: l)[i + 1]? = l[i]? := List.getElem?_cons_succ
theorem gz_ {α : Type} {a : α} {l : List α} : (a :: l)[0]? = some a := List.getElem?_cons_zero
theorem sa_ {α : Type} {l : List α} {i : Nat} {a : α} : l.toArray.setIfInBounds i a = (l.set i a).toArray := List.setIfInBounds_toArray _ _ _
theorem sb_ {α : Type} {b : α} {l : List α} {i : Nat} {a : α} : (b :: l).set (i + 1) a = b :: l.set i a := List.set_cons_succ
theorem sc_ {α : Type} {b : α} {l : List α} {a : α} : (b :: l).set 0 a = a :: l := List.set_cons_zero
end Go.Proofs.Ytjookicpmjmdhaa
