/- What a function holds while it runs: boxes and lists of its own, each apart from the others. -/
import Derived.Test.YtokkpbjldchjpaaG4
import Derived.Laws.Tables
import Derived.Laws.CopyRow
import Derived.Laws.ResultCell
import Derived.Deep.WholeRow
namespace Go.Proofs.Ytokkpbjldchjpaa
open Go.RowKit

structure Item where
  F : FP
  P : World → Prop
  keep : ∀ w w' : World, P w → (∀ k, F k → k < w.heap.size → w'.heap[k]? = w.heap[k]?) → P w'
/-- A box: block g holds these cells. -/
def bx (g : Nat) (C : Array Value) (t : TypeId) : Item where
  F := fun k => k = g
  P := fun w => w.heap[g]? = some (.cells C t (0, 0))
  keep := fun _ _ h hk => (hk g rfl (Array.getElem?_eq_some_iff.1 h).1).trans h
/-- A list of the call's own. -/
def ow {α : Type} [Enc α] (v : Value) (xs : List α) (F : FP) : Item where
  F := F
  P := fun w => OwnS w v xs F
  keep := fun _ _ h hk => h.keep hk

/-- The blocks that may be turned of those that were there. -/
structure Sep (X : FP) (w0 : World) (L : List Item) (w : World) : Prop where
  only : Only X w0 w
  holds : ∀ i ∈ L, i.P w
  fresh : ∀ i ∈ L, ∀ k, i.F k → (X k ∨ w0.heap.size ≤ k) ∧ k < w.heap.size
  apart : L.Pairwise fun i j => Apart i.F j.F
def noX : FP := fun _ => False

section
variable {X : FP} {w0 w w' : World} {L : List Item}
theorem Sep.start (X : FP) (w : World) : Sep X w [] w := ⟨Only.refl _ _, fun i h => by simp at h, fun i h => by simp at h, List.Pairwise.nil⟩
theorem Sep.size (h : Sep X w0 L w) : w0.heap.size ≤ w.heap.size := h.only.size
theorem Sep.below (h : Sep noX w0 L w) : Below w0.heap.size w0 w := ⟨h.only.os, h.only.tape, h.only.output, h.only.size, fun k hk => h.only.block k hk (fun hx => hx)⟩
theorem Sep.get (h : Sep X w0 L w) (i : Nat) {I : Item} (e : L[i]? = some I) : I.P w := h.holds _ (List.mem_of_getElem? e)
theorem Sep.call (h : Sep X w0 L w) (b : Below w.heap.size w w') : Sep X w0 L w' where
  only := h.only.trans (Only.of_below b)
  holds := fun i hi => i.keep _ _ (h.holds i hi) (fun k _ hk => b.block k hk)
  fresh := fun i hi k hk => by have h1 := h.fresh i hi k hk; have := b.size; exact ⟨h1.1, by omega⟩
  apart := h.apart
/-- What a call made comes to it. -/
theorem Sep.gain (h : Sep X w0 L w) (b : Below w.heap.size w w') (I : Item) (p : I.P w') (f : ∀ k, I.F k → w.heap.size ≤ k ∧ k < w'.heap.size) : Sep X w0 (I :: L) w' where
  only := (h.call b).only
  holds := fun i hi => by
    rcases List.mem_cons.1 hi with rfl | hi
    · exact p
    · exact (h.call b).holds i hi
  fresh := fun i hi k hk => by
    rcases List.mem_cons.1 hi with rfl | hi
    · have := f k hk; have := h.size; exact ⟨.inr (by omega), by omega⟩
    · exact (h.call b).fresh i hi k hk
  apart := List.pairwise_cons.2 ⟨fun j hj k hk hk2 => by have := f k hk; have := (h.fresh j hj k hk2).2; omega, h.apart⟩
theorem Sep.gain2 (h : Sep X w0 L w) (b : Below w.heap.size w w') (I J : Item) (p : I.P w') (q : J.P w') (f : ∀ k, I.F k → w.heap.size ≤ k ∧ k < w'.heap.size) (g : ∀ k, J.F k → w.heap.size ≤ k ∧ k < w'.heap.size) (ap : Apart I.F J.F) : Sep X w0 (I :: J :: L) w' := by
  have h2 := h.gain b J q g
  refine ⟨h2.only, fun i hi => ?_, fun i hi k hk => ?_, List.pairwise_cons.2 ⟨fun j hj => ?_, h2.apart⟩⟩
  · rcases List.mem_cons.1 hi with rfl | hi
    · exact p
    · exact h2.holds i hi
  · rcases List.mem_cons.1 hi with rfl | hi
    · have := f k hk; have := h.size; exact ⟨.inr (by omega), by omega⟩
    · exact h2.fresh i hi k hk
  · rcases List.mem_cons.1 hj with rfl | hj
    · exact ap
    · exact fun k hk hk2 => by have := f k hk; have := (h.fresh j hj k hk2).2; omega
theorem Sep.alloc (h : Sep X w0 L w) (C : Array Value) (t : TypeId) : Sep X w0 (bx w.heap.size C t :: L) (w.alloc (.cells C t)) :=
  h.gain ((Below.refl _ _).alloc (Nat.le_refl _) _) _ (heap_alloc_new _ _) (fun k hk => by
    have hk : k = w.heap.size := hk
    subst hk
    exact ⟨Nat.le_refl _, by simp⟩)
/-- One of them is turned. -/
theorem Sep.turn (h : Sep X w0 L w) (i : Nat) {I : Item} (e : L[i]? = some I) (o : Only I.F w w') (J : Item) (p : J.P w') (f : ∀ k, J.F k → (I.F k ∨ w.heap.size ≤ k) ∧ k < w'.heap.size) : Sep X w0 (L.set i J) w' := by
  have hi : i < L.length := (List.getElem?_eq_some_iff.1 e).1
  have he : L[i] = I := (List.getElem?_eq_some_iff.1 e).2
  have hIm : I ∈ L := List.mem_of_getElem? e
  have hap : ∀ j (hj : j < L.length), j ≠ i → Apart L[j].F I.F := fun j hj hne => by
    have hp := List.pairwise_iff_getElem.1 h.apart
    rcases Nat.lt_or_gt_of_ne hne with h' | h'
    · have := hp j i hj hi h'; rwa [he] at this
    · have := hp i j hi hj h'; rw [he] at this; exact this.symm
  have hget : ∀ j (hj : j < (L.set i J).length), (L.set i J)[j] = if i = j then J else L[j]'(by simpa using hj) := fun j hj => List.getElem_set _
  have hF : ∀ j (hj : j < L.length), j ≠ i → ∀ k, L[j].F k → ¬ I.F k := fun j hj hne k hk => hap j hj hne k hk
  refine ⟨?_, fun q hq => ?_, fun q hq k hk => ?_, ?_⟩
  · refine ⟨o.os.trans h.only.os, o.tape.trans h.only.tape, o.output.trans h.only.output, Nat.le_trans h.only.size o.size, fun k hk hx => ?_⟩
    rw [o.block k (by have := h.size; omega) (fun hI => ?_), h.only.block k hk hx]
    rcases (h.fresh I hIm k hI).1 with h1 | h1
    · exact hx h1
    · omega
  · obtain ⟨j, hj, rfl⟩ := List.getElem_of_mem hq
    rw [hget]
    split
    · exact p
    · exact (L[j]'(by simpa using hj)).keep _ _ (h.holds _ (List.getElem_mem _)) (fun k hk hlt => o.block k hlt (hF j _ (by omega) k hk))
  · obtain ⟨j, hj, rfl⟩ := List.getElem_of_mem hq
    rw [hget] at hk
    split at hk
    · have h1 := f k hk
      have h2 := h.size
      refine ⟨?_, h1.2⟩
      rcases h1.1 with h3 | h3
      · exact (h.fresh I hIm k h3).1
      · exact .inr (by omega)
    · have h1 := h.fresh _ (List.getElem_mem (l := L) (n := j) (by simpa using hj)) k hk
      have := o.size
      exact ⟨h1.1, by omega⟩
  · rw [List.pairwise_iff_getElem]
    intro a b ha hb hab
    rw [hget, hget]
    have hn : ∀ j (hj : j < L.length), j ≠ i → Apart L[j].F J.F := fun j hj hne k hk hk2 => by
      rcases (f k hk2).1 with h3 | h3
      · exact hF j hj hne k hk h3
      · have := (h.fresh _ (List.getElem_mem hj) k hk).2; omega
    have la : a < L.length := by simpa using ha
    have lb : b < L.length := by simpa using hb
    split
    · split
      · omega
      · exact (hn b lb (by omega)).symm
    · split
      · exact hn a la (by omega)
      · exact (List.pairwise_iff_getElem.1 h.apart) a b la lb hab
theorem only_row (w : World) (g : Nat) (cs : Array Value) : Only (fun k => k = g) w (w.setRow g cs) := ⟨rfl, rfl, rfl, by simp, fun k _ hn => setRow_other w g k cs hn⟩
theorem Sep.row (h : Sep X w0 L w) (i : Nat) {g : Nat} {C : Array Value} {t : TypeId} (e : L[i]? = some (bx g C t)) (C' : Array Value) : Sep X w0 (L.set i (bx g C' t)) (w.setRow g C') :=
  h.turn i e (only_row _ _ _) _ (setRow_heap _ _ _ _ _ _ (h.get i e)) (fun k hk => by
    have hk : k = g := hk
    subst hk
    refine ⟨.inl rfl, ?_⟩
    simp only [setRow_size]
    exact (Array.getElem?_eq_some_iff.1 (h.get i e)).1)
theorem Sep.rs {α : Type} [Enc α] (h : Sep noX w0 L w) {A : Option Addr} {n : Nat} {xs : List α} (hR : RS w0 w0.heap.size A n xs) : RS w w.heap.size A n xs := hR.on h.below
theorem Sep.own {α : Type} [Enc α] (h : Sep X w0 L w) (b : Below w.heap.size w w') {v : Value} {xs : List α} {F : FP} (o : OwnS w' v xs F) (f : Fresh F w w') : Sep X w0 (ow v xs F :: L) w' := h.gain b (ow v xs F) o f
theorem Sep.drop (h : Sep X w0 L w) {L' : List Item} (hs : L'.Sublist L) : Sep X w0 L' w := ⟨h.only, fun i hi => h.holds i (hs.subset hi), fun i hi => h.fresh i (hs.subset hi), h.apart.sublist hs⟩
/-- At the end: what is handed back. -/
theorem Sep.ends {α : Type} [Enc α] (h : Sep noX w0 L w) (i : Nat) {v : Value} {xs : List α} {F : FP} (e : L[i]? = some (ow v xs F)) : OwnS w v xs F ∧ Fresh F w0 w ∧ Below w0.heap.size w0 w :=
  ⟨h.get i e, fun k hk => by
    have h1 := h.fresh _ (List.mem_of_getElem? e) k hk
    rcases h1.1 with h2 | h2
    · exact absurd h2 id
    · exact ⟨h2, h1.2⟩, h.below⟩
theorem Sep.two (h : Sep X w0 L w) (i j : Nat) {I J : Item} (hij : i < j) (e : L[i]? = some I) (e' : L[j]? = some J) : Apart I.F J.F := by
  obtain ⟨h1, rfl⟩ := List.getElem?_eq_some_iff.1 e
  obtain ⟨h2, rfl⟩ := List.getElem?_eq_some_iff.1 e'
  exact (List.pairwise_iff_getElem.1 h.apart) i j h1 h2 hij
end

/-! ### At the operations -/
section
variable {P : Program} {X : FP} {w0 w : World} {L : List Item} {ops : Array Oper} {rest : List Oper} {o : Oper} {a : Act} {Q : Exit → Act → World → Prop}

/-- One cell of a box is loaded. -/
theorem wpList_get (hg : o.guard = none) (ty : TypeId) (x : Operand) (ho : o.op = .load ty x) (h : Hid (Sep X w0 L w)) (i : Nat) {g : Nat} {C : Array Value} {t : TypeId} (e : L[i]? = some (bx g C t)) (j : Nat) (hx : a.eval x = .pointer (some ⟨g, j, none⟩))
    (hu : ∀ w, (isAgg ty).run P w = .ok false w) (v : Value) (hv : C[j]? = some v) (hK : wpList P ops Q rest (a.put o.dst v) w) : wpList P ops Q (o :: rest) a w := by
  refine wpList_plain hg fun K hK' => ?_
  have hc : w.cell? ⟨g, j, none⟩ = some v := by rw [cell_of_row _ _ j _ _ _ (h.out.get i e)]; exact hv
  unfold Oper.wp execOp
  simp only [ho, hx, Instr.loadAt, Instr.sureAddr, loadVar, Sem.run_bind, Sem.run_pure, Result.andThen_ok, hu, Bool.false_eq_true, if_false, run_load, hc]
  exact hK' _ _ hK
/-- Some cells of a box, one behind the other, are loaded as one value. -/
theorem wpList_getK (hg : o.guard = none) (ty : TypeId) (x : Operand) (ho : o.op = .load ty x) (h : Hid (Sep X w0 L w)) (i : Nat) {g : Nat} {C : Array Value} {t : TypeId} (e : L[i]? = some (bx g C t)) (j : Nat) (hx : a.eval x = .pointer (some ⟨g, j, none⟩))
    (hu : ∀ w, (isAgg ty).run P w = .ok true w) (vs : List Value) (hv : (C.toList.drop j).take vs.length = vs) (hi : (P.info? ty).map (·.size) = some vs.length) (hK : wpList P ops Q rest (a.put o.dst (.agg vs.toArray)) w) : wpList P ops Q (o :: rest) a w := by
  refine wpList_plain hg fun K hK' => ?_
  have hgx := h.out.get i e
  have hc : ∀ k v, vs[k]? = some v → w.cell? ((⟨g, j, none⟩ : Addr).add k) = some v := fun k v hk => by
    have hadd : (⟨g, j, none⟩ : Addr).add k = ⟨g, j + k, none⟩ := by unfold Addr.add; split <;> simp_all
    have hkl : k < vs.length := (List.getElem?_eq_some_iff.1 hk).1
    rw [hadd, cell_of_row _ _ (j + k) _ _ _ hgx]
    rw [← hv, List.getElem?_take_of_lt hkl, List.getElem?_drop] at hk
    simpa using hk
  have hl := run_loadCells_list (P := P) w ⟨g, j, none⟩ vs hc
  unfold Oper.wp execOp
  cases hq : P.info? ty with
  | none => rw [hq] at hi; cases hi
  | some q =>
    have hs : q.size = vs.length := by rw [hq] at hi; simpa using hi
    have hsz : ∀ w, (sizeOf ty).run P w = .ok vs.length w := fun w => by simp [sizeOf, typeInfo, hq, hs]
    simp only [ho, hx, Instr.loadAt, Instr.sureAddr, loadVar, Sem.run_bind, Sem.run_pure, Result.andThen_ok, hu, if_true, hsz, hl]
    exact hK' _ _ hK
/-- A value is stored into some cells of a box. -/
theorem wpList_put (hg : o.guard = none) (ty : TypeId) (x y : Operand) (ho : o.op = .store ty x y) (h : Hid (Sep X w0 L w)) (i : Nat) {g : Nat} {C : Array Value} {t : TypeId} (e : L[i]? = some (bx g C t)) (j : Nat) (hx : a.eval x = .pointer (some ⟨g, j, none⟩))
    (v : Value) (hy : a.eval y = v) (vs : List Value) (hvs : v.cells.toList = vs) (h1 : vs.all (·.oneCell') = true) (hi : (P.info? ty).map (·.size) = some vs.length) (hj : j + vs.length ≤ C.size)
    (C' : Array Value) (hC : (C.toList.take j ++ vs ++ C.toList.drop (j + vs.length)).toArray = C') (L' : List Item) (hL : L.set i (bx g C' t) = L')
    (hK : ∀ w', Hid (Sep X w0 L' w') → wpList P ops Q rest (a.put o.dst undef) w') : wpList P ops Q (o :: rest) a w := by
  subst hL
  refine wpList_plain hg fun K hK' => ?_
  have hgx := h.out.get i e
  have hst := run_storeCells_at (P := P) g j t vs 0 C w hgx (by omega) (fun u hu => (List.all_eq_true.1 h1) u hu)
  simp only [Nat.add_zero] at hst
  rw [hC] at hst
  unfold Oper.wp execOp
  cases hq : P.info? ty with
  | none => rw [hq] at hi; cases hi
  | some q =>
    have hs : v.cells.size = q.size := by
      rw [hq] at hi
      have h2 : q.size = vs.length := by simpa using hi
      rw [h2, ← hvs]; simp
    have hsz : ∀ w, (sizeOf ty).run P w = .ok v.cells.size w := fun w => by simp [sizeOf, typeInfo, hq, hs]
    simp only [ho, hx, hy, Instr.storeAt, Instr.sureAddr, storeVar, Sem.run_bind, Sem.run_pure, Result.andThen_ok, hsz, hvs, hst, ne_eq, not_true_eq_false, if_false]
    exact hK' _ _ (hK _ (Lib.hid (h.out.row i e C')))
/-- A box for a value. -/
theorem wpList_bx (hg : o.guard = none) (t : TypeId) (x : Operand) (ho : o.op = .box t x) (h : Hid (Sep X w0 L w)) (v : Value) (hx : a.eval x = v) (C : Array Value) (hC : v.cells = C)
    (hK : ∀ w', Hid (Sep X w0 (bx w.heap.size C t :: L) w') → wpList P ops Q rest (a.put o.dst (.pointer (some ⟨w.heap.size, 0, none⟩))) w') : wpList P ops Q (o :: rest) a w := by
  subst hC
  refine wpList_plain hg fun K hK' => ?_
  unfold Oper.wp execOp
  simp only [ho, hx, Sem.run_bind, Instr.box, newVar, newRow, run_newObj_alloc, Sem.run_pure, Result.andThen_ok]
  exact hK' _ _ (hK _ (Lib.hid (h.out.alloc _ _)))
/-- A box of noughts. -/
theorem wpList_nx (hg : o.guard = none) (t : TypeId) (ho : o.op = .alloc t) (h : Hid (Sep X w0 L w)) (v : Value) (hz : ∀ w, (zeroValue t).run P w = .ok v w) (C : Array Value) (hC : v.cells = C)
    (hK : ∀ w', Hid (Sep X w0 (bx w.heap.size C t :: L) w') → wpList P ops Q rest (a.put o.dst (.pointer (some ⟨w.heap.size, 0, none⟩))) w') : wpList P ops Q (o :: rest) a w := by
  subst hC
  refine wpList_plain hg fun K hK' => ?_
  unfold Oper.wp execOp
  simp only [ho, Sem.run_bind, Instr.alloc, hz, newVar, newRow, run_newObj_alloc, Sem.run_pure, Result.andThen_ok]
  exact hK' _ _ (hK _ (Lib.hid (h.out.alloc _ _)))
end
theorem OwnS.rs {α : Type} [Enc α] {w : World} {A : Option Addr} {m c : Nat} {xs : List α} {F : FP} (h : OwnS w (.slice A m c) xs F) (hl : xs.length = m) : RS w w.heap.size A m xs := by
  subst hl
  obtain ⟨A', c', e, hR, _⟩ := h.reads
  cases e
  exact hR
/-- The front of an own list is one. -/
theorem OwnS.frontE {α : Type} [E : Enc α] {w : World} {g n c m : Nat} {xs : List α} {F : FP} (h : OwnS w (.slice (some ⟨g, 0, none⟩) n c) xs F) (hm : m ≤ n) : OwnS w (.slice (some ⟨g, 0, none⟩) m c) (xs.take m) F := by
  obtain ⟨A', c', hv, _, _⟩ := h.form
  have hn : n = xs.length := by
    simp only [Value.slice.injEq] at hv
    exact hv.2.1
  obtain ⟨css, f, h1, h2, h3, h4, h5, h6⟩ := h
  have hl := OwnS.css_len h2 h3
  have hlen : (xs.take m).length = m := by rw [List.length_take]; omega
  have hfl : (css.take m).flatten = css.flatten.take (m * E.sz) := by
    have e : css = css.take m ++ css.drop m := (List.take_append_drop m css).symm
    have e2 : (css.take m).flatten.length = m * E.sz := by
      rw [flat_len (s := E.sz) (fun x hx => hl x (List.mem_of_mem_take hx)), List.length_take]
      congr 1; omega
    conv => rhs; rw [e, List.flatten_append]
    rw [← e2, List.take_left]
  refine ⟨css.take m, f, ?_, by rw [List.length_take, List.length_take, h2], fun i hi => ?_, fun i hi => h4 i (by omega), fun i j hi hj => h5 i j (by omega) (by omega), h6⟩
  · rw [hlen]
    rcases h1 with ⟨e1, h9 | ⟨g', cap, cur, hv, hb, hg, k1, k2, k3, k4⟩⟩
    · exact absurd h9.1 (by simp)
    · cases hv
      refine ⟨?_, .inr ⟨g, c, cur, rfl, hb, hg, by omega, k2, k3, ?_⟩⟩
      · rw [hfl, List.length_take, e1]
        have : m * E.sz ≤ xs.length * E.sz := Nat.mul_le_mul_right _ (by omega)
        omega
      · rw [hfl, ← k4, List.take_take]
        congr 1
        have : m * E.sz ≤ xs.length * E.sz := Nat.mul_le_mul_right _ (by omega)
        omega
  · rw [hlen] at hi
    have e3 : (css.take m).getD i [] = css.getD i [] := by simp only [List.getD_eq_getElem?_getD]; rw [List.getElem?_take_of_lt hi]
    have e4 : (xs.take m).getD i E.dflt = xs.getD i E.dflt := by simp only [List.getD_eq_getElem?_getD]; rw [List.getElem?_take_of_lt hi]
    rw [e3, e4]
    exact h3 i (by omega)
end Go.Proofs.Ytokkpbjldchjpaa
