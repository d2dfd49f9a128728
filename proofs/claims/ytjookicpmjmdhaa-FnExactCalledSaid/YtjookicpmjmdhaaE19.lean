/- What a function holds while it runs: boxes and lists of its own, each apart from the others. -/
import Derived.Test.YtjookicpmjmdhaaE10
import Derived.Laws.Tables
import Derived.Laws.CopyRow
import Derived.Laws.ResultCell
import Derived.Deep.WholeRow
namespace Go.Proofs.Ytjookicpmjmdhaa
open Go.RowKit

structure Item where
  F : FP
  P : World → Prop
  keep : ∀ w w' : World, P w → (∀ k, F k → k < w.heap.size → w'.heap[k]? = w.heap[k]?) → P w'
def bx (g : Nat) (C : Array Value) (t : TypeId) : Item where
  F := fun k => k = g
  P := fun w => w.heap[g]? = some (.cells C t (0, 0))
  keep := fun _ _ h hk => (hk g rfl (Array.getElem?_eq_some_iff.1 h).1).trans h
def ow {α : Type} [Enc α] (v : Value) (xs : List α) (F : FP) : Item where
  F := F
  P := fun w => OwnS w v xs F
  keep := fun _ _ h hk => h.keep hk

structure Sep (X : FP) (w0 : World) (L : List Item) (w : World) : Prop where
  only : Only X w0 w
  holds : ∀ i ∈ L, i.P w
  fresh : ∀ i ∈ L, ∀ k, i.F k → (X k ∨ w0.heap.size ≤ k) ∧ k < w.heap.size
  apart : L.Pairwise fun i j => Apart i.F j.F
def noX : FP := fun _ => False

section
variable {X : FP} {w0 w w' : World} {L : List Item}
theorem Sep.start (X : FP) (w : World) : Sep X w [] w := ⟨Only.refl _ _, fun i h => by simp at h, fun i h => by simp at h, List.Pairwise.nil⟩
theorem Sep.size (h : Sep X w0 L w) : w0.heap.size ≤ w.heap.size := h.only.size
theorem Sep.below (h : Sep noX w0 L w) : Below w0.heap.size w0 w := ⟨h.only.os, h.only.tape, h.only.output, h.only.size, fun k hk => h.only.block k hk (fun hx => hx)⟩
theorem Sep.get (h : Sep X w0 L w) (i : Nat) {I : Item} (e : L[i]? = some I) : I.P w := h.holds _ (List.mem_of_getElem? e)
theorem Sep.call (h : Sep X w0 L w) (b : Below w.heap.size w w') : Sep X w0 L w' where
  only := h.only.trans (Only.of_below b)
  holds := fun i hi => i.keep _ _ (h.holds i hi) (fun k _ hk => b.block k hk)
  fresh := fun i hi k hk => by have h1 := h.fresh i hi k hk; have := b.size; exact ⟨h1.1, by omega⟩
  apart := h.apart
theorem Sep.gain (h : Sep X w0 L w) (b : Below w.heap.size w w') (I : Item) (p : I.P w') (f : ∀ k, I.F k → w.heap.size ≤ k ∧ k < w'.heap.size) : Sep X w0 (I :: L) w' where
  only := (h.call b).only
  holds := fun i hi => by
    rcases List.mem_cons.1 hi with rfl | hi
    · exact p
    · exact (h.call b).holds i hi
  fresh := fun i hi k hk => by
    rcases List.mem_cons.1 hi with rfl | hi
    · have := f k hk; have := h.size; exact ⟨.inr (by omega), by omega⟩
    · exact (h.call b).fresh i hi k hk
  apart := List.pairwise_cons.2 ⟨fun j hj k hk hk2 => by have := f k hk; have := (h.fresh j hj k hk2).2; omega, h.apart⟩
theorem Sep.alloc (h : Sep X w0 L w) (C : Array Value) (t : TypeId) : Sep X w0 (bx w.heap.size C t :: L) (w.alloc (.cells C t)) :=
  h.gain ((Below.refl _ _).alloc (Nat.le_refl _) _) _ (heap_alloc_new _ _) (fun k hk => by
    have hk : k = w.heap.size := hk
    subst hk
    exact ⟨Nat.le_refl _, by simp⟩)
theorem Sep.turn (h : Sep X w0 L w) (i : Nat) {I : Item} (e : L[i]? = some I) (o : Only I.F w w') (J : Item) (p : J.P w') (f : ∀ k, J.F k → (I.F k ∨ w.heap.size ≤ k) ∧ k < w'.heap.size) : Sep X w0 (L.set i J) w' := by
  have hi : i < L.length := (List.getElem?_eq_some_iff.1 e).1
  have he : L[i] = I := (List.getElem?_eq_some_iff.1 e).2
  have hIm : I ∈ L := List.mem_of_getElem? e
  have hap : ∀ j (hj : j < L.length), j ≠ i → Apart L[j].F I.F := fun j hj hne => by
    have hp := List.pairwise_iff_getElem.1 h.apart
    rcases Nat.lt_or_gt_of_ne hne with h' | h'
    · have := hp j i hj hi h'; rwa [he] at this
    · have := hp i j hi hj h'; rw [he] at this; exact this.symm
  have hget : ∀ j (hj : j < (L.set i J).length), (L.set i J)[j] = if i = j then J else L[j]'(by simpa using hj) := fun j hj => List.getElem_set _
  have hF : ∀ j (hj : j < L.length), j ≠ i → ∀ k, L[j].F k → ¬ I.F k := fun j hj hne k hk => hap j hj hne k hk
  refine ⟨?_, fun q hq => ?_, fun q hq k hk => ?_, ?_⟩
  · refine ⟨o.os.trans h.only.os, o.tape.trans h.only.tape, o.output.trans h.only.output, Nat.le_trans h.only.size o.size, fun k hk hx => ?_⟩
    rw [o.block k (by have := h.size; omega) (fun hI => ?_), h.only.block k hk hx]
    rcases (h.fresh I hIm k hI).1 with h1 | h1
    · exact hx h1
    · omega
  · obtain ⟨j, hj, rfl⟩ := List.getElem_of_mem hq
    rw [hget]
    split
    · exact p
    · exact (L[j]'(by simpa using hj)).keep _ _ (h.holds _ (List.getElem_mem _)) (fun k hk hlt => o.block k hlt (hF j _ (by omega) k hk))
  · obtain ⟨j, hj, rfl⟩ := List.getElem_of_mem hq
    rw [hget] at hk
    split at hk
    · have h1 := f k hk
      have h2 := h.size
      refine ⟨?_, h1.2⟩
      rcases h1.1 with h3 | h3
      · exact (h.fresh I hIm k h3).1
      · exact .inr (by omega)
    · have h1 := h.fresh _ (List.getElem_mem (l := L) (n := j) (by simpa using hj)) k hk
      have := o.size
      exact ⟨h1.1, by omega⟩
  · rw [List.pairwise_iff_getElem]
    intro a b ha hb hab
    rw [hget, hget]
    have hn : ∀ j (hj : j < L.length), j ≠ i → Apart L[j].F J.F := fun j hj hne k hk hk2 => by
      rcases (f k hk2).1 with h3 | h3
      · exact hF j hj hne k hk h3
      · have := (h.fresh _ (List.getElem_mem hj) k hk).2; omega
    have la : a < L.length := by simpa using ha
    have lb : b < L.length := by simpa using hb
    split
    · split
      · omega
      · exact (hn b lb (by omega)).symm
    · split
      · exact hn a la (by omega)
      · exact (List.pairwise_iff_getElem.1 h.apart) a b la lb hab
theorem only_row (w : World) (g : Nat) (cs : Array Value) : Only (fun k => k = g) w (w.setRow g cs) := ⟨rfl, rfl, rfl, by simp, fun k _ hn => setRow_other w g k cs hn⟩
theorem Sep.row (h : Sep X w0 L w) (i : Nat) {g : Nat} {C : Array Value} {t : TypeId} (e : L[i]? = some (bx g C t)) (C' : Array Value) : Sep X w0 (L.set i (bx g C' t)) (w.setRow g C') :=
  h.turn i e (only_row _ _ _) _ (setRow_heap _ _ _ _ _ _ (h.get i e)) (fun k hk => by
    have hk : k = g := hk
    subst hk
    refine ⟨.inl rfl, ?_⟩
    simp only [setRow_size]
    exact (Array.getElem?_eq_some_iff.1 (h.get i e)).1)
theorem Sep.rs {α : Type} [Enc α] (h : Sep noX w0 L w) {A : Option Addr} {n : Nat} {xs : List α} (hR : RS w0 w0.heap.size A n xs) : RS w w.heap.size A n xs := hR.on h.below
theorem Sep.own {α : Type} [Enc α] (h : Sep X w0 L w) (b : Below w.heap.size w w') {v : Value} {xs : List α} {F : FP} (o : OwnS w' v xs F) (f : Fresh F w w') : Sep X w0 (ow v xs F :: L) w' := h.gain b (ow v xs F) o f
theorem Sep.drop (h : Sep X w0 L w) {L' : List Item} (hs : L'.Sublist L) : Sep X w0 L' w := ⟨h.only, fun i hi => h.holds i (hs.subset hi), fun i hi => h.fresh i (hs.subset hi), h.apart.sublist hs⟩
theorem Sep.two (h : Sep X w0 L w) (i j : Nat) {I J : Item} (hij : i < j) (e : L[i]? = some I) (e' : L[j]? = some J) : Apart I.F J.F := by
  obtain ⟨h1, rfl⟩ := List.getElem?_eq_some_iff.1 e
  obtain ⟨h2, rfl⟩ := List.getElem?_eq_some_iff.1 e'
  exact (List.pairwise_iff_getElem.1 h.apart) i j h1 h2 hij
end

section
variable {P : Program} {X : FP} {w0 w : World} {L : List Item} {ops : Array Oper} {rest : List Oper} {o : Oper} {a : Act} {Q : Exit → Act → World → Prop}

end
theorem OwnS.rs {α : Type} [Enc α] {w : World} {A : Option Addr} {m c : Nat} {xs : List α} {F : FP} (h : OwnS w (.slice A m c) xs F) (hl : xs.length = m) : RS w w.heap.size A m xs := by
  subst hl
  obtain ⟨A', c', e, hR, _⟩ := h.reads
  cases e
  exact hR
end Go.Proofs.Ytjookicpmjmdhaa
