/- A draw's cursor among what a function holds: handed in, or made by the call. -/
import Derived.Test.YtokkpbjldchjpaaZo
import Derived.Test.YtokkpbjldchjpaaD9
namespace Go.Proofs.Ytokkpbjldchjpaa
open Go.RowKit

/-- The cursor's block. -/
def cuI (g : Nat) (A : Option Addr) (n c : Nat) : Item where
  F := fun k => k = g
  P := fun w => ∃ (i : Nat) (h : Int), w.heap[g]? = some (.cells #[.slice A n c, .int .i64 i, .int .i64 h] 72 (0, 0)) ∧ i ≤ n
  keep := fun _ _ ⟨i, h, hg, hi⟩ hk => ⟨i, h, (hk g rfl (Array.getElem?_eq_some_iff.1 hg).1).trans hg, hi⟩
/-- The blocks that a draw may turn: the cursor's. -/
def cuX (g : Nat) : FP := fun k => k = g
section
variable {w0 w w' : World} {g n c : Nat} {A : Option Addr} {L : List Item}
theorem Sep.startCur (hC : Cur w0 g A n c) : Sep (cuX g) w0 [cuI g A n c] w0 where
  only := Only.refl _ _
  holds := fun i hi => by
    obtain rfl := List.mem_singleton.1 hi
    exact hC.1
  fresh := fun i hi k hk => by
    obtain rfl := List.mem_singleton.1 hi
    have hk : k = g := hk
    subst hk
    exact ⟨.inl rfl, hC.lt⟩
  apart := List.pairwise_singleton _ _
theorem Sep.cur (h : Sep (cuX g) w0 L w) (p : Nat) (e : L[p]? = some (cuI g A n c)) (hC : Cur w0 g A n c) : Cur w g A n c := by
  refine ⟨h.get p e, hC.2.1, fun h0 => ?_⟩
  obtain ⟨b, off, eA, hb, hc⟩ := hC.2.2 h0
  refine ⟨b, off, eA, hb, fun i hi => ?_⟩
  obtain ⟨x, hx, h1, h2⟩ := hc i hi
  refine ⟨x, ?_, h1, h2⟩
  rw [← hx]
  exact World.cell?_of_block (h.only.block b (by have := hC.lt; omega) (fun e9 => by have e9 : b = g := e9; omega))
theorem Sep.drawn (h : Sep (cuX g) w0 L w) (p : Nat) (e : L[p]? = some (cuI g A n c)) (hc : Cur w' g A n c) (hg : w.grownBy w' (some g)) : Sep (cuX g) w0 (L.set p (cuI g A n c)) w' := by
  refine h.turn p e (Only.of_grown hg (fun k hk => ?_)) (cuI g A n c) hc.1 (fun k hk => ⟨.inl hk, ?_⟩)
  · have h9 : g = k := by simpa using hk
    exact h9.symm
  · have hk : k = g := hk
    subst hk
    exact hc.lt
theorem Sep.grown (h : Sep (cuX g) w0 L w) : w0.grownBy w (some g) := by
  refine ⟨h.only.os, h.only.tape, h.only.output, h.only.size, fun k hk hn => h.only.block k hk (fun e => hn ?_)⟩
  have e : k = g := e
  rw [e]
end

theorem set_perm {α : Type} (I : α) : ∀ (L : List α) (q : Nat), q < L.length → (L.set q I).Perm (I :: L.eraseIdx q)
  | [], q, h => absurd h (by simp)
  | a :: L, 0, _ => by simp
  | a :: L, q + 1, h => by
    have ih := set_perm I L q (by simpa using h)
    simp only [List.set_cons_succ, List.eraseIdx_cons_succ]
    exact (ih.cons a).trans (List.Perm.swap _ _ _)

/-! ### The same, where the call may turn other blocks, or none -/
section
variable {X : FP} {w0 w w' : World} {g n c : Nat} {A : Option Addr} {L : List Item}
/-- One of them is told otherwise. -/
theorem Sep.recast (h : Sep X w0 L w) (i : Nat) {I : Item} (e : L[i]? = some I) (J : Item) (p : J.P w) (hF : ∀ k, J.F k → I.F k) : Sep X w0 (L.set i J) w :=
  h.turn i e (Only.refl _ _) J p (fun k hk => ⟨.inl (hF k hk), (h.fresh _ (List.mem_of_getElem? e) k (hF k hk)).2⟩)
theorem Sep.perm {L' : List Item} (h : Sep X w0 L w) (hp : L.Perm L') : Sep X w0 L' w :=
  ⟨h.only, fun i hi => h.holds i (hp.mem_iff.2 hi), fun i hi => h.fresh i (hp.mem_iff.2 hi), (hp.pairwise_iff (fun {_ _} h => h.symm)).1 h.apart⟩
/-- The bytes of a draw, at a block of the call's own. -/
theorem Sep.bys (h : Sep noX w0 L w) (p : Nat) {I : Item} (e : L[p]? = some I) (hI : I.F g) (hB : Bys w0 w0.heap.size A n) : Bys w g A n := fun h0 => by
  obtain ⟨b, off, eA, hb, hc⟩ := hB h0
  have hf := (h.fresh _ (List.mem_of_getElem? e) g hI).1
  have hg : w0.heap.size ≤ g := by
    rcases hf with h1 | h1
    · exact absurd h1 id
    · exact h1
  refine ⟨b, off, eA, by omega, fun i hi => ?_⟩
  obtain ⟨x, hx, h1, h2⟩ := hc i hi
  exact ⟨x, (h.below.cell (p := ⟨b, off + i, none⟩) hb).trans hx, h1, h2⟩
theorem Sep.curA (h : Sep noX w0 L w) (p : Nat) (e : L[p]? = some (cuI g A n c)) (hB : Bys w0 w0.heap.size A n) (hn : n ≤ 4096) : Cur w g A n c :=
  ⟨h.get p e, hn, h.bys p e rfl hB⟩
theorem Sep.newCur (h : Sep X w0 L w) (hc : Cur w' g A n c) (hs : w.heap.size ≤ g) (b : Below w.heap.size w w') : Sep X w0 (cuI g A n c :: L) w' :=
  h.gain b _ hc.1 (fun k hk => by
    have hk : k = g := hk
    subst hk
    exact ⟨hs, hc.lt⟩)
theorem Sep.drawnA (h : Sep X w0 L w) (p : Nat) (e : L[p]? = some (cuI g A n c)) (hc : Cur w' g A n c) (hg : w.grownBy w' (some g)) : Sep X w0 L w' := by
  have h2 := h.turn p e (Only.of_grown hg (fun k hk => by
    have h9 : g = k := by simpa using hk
    exact h9.symm)) (cuI g A n c) hc.1 (fun k hk => ⟨.inl hk, by
    have hk : k = g := hk
    subst hk
    exact hc.lt⟩)
  have hL : L.set p (cuI g A n c) = L := by
    apply List.ext_getElem?
    intro i
    by_cases hi : p = i
    · subst hi
      rw [List.getElem?_set_self (List.getElem?_eq_some_iff.1 e).1, e]
    · rw [List.getElem?_set_ne hi]
  rw [hL] at h2
  exact h2
/-- A call that moved the cursor and made one item. -/
theorem Sep.drawnGainA (h : Sep X w0 L w) (p : Nat) (e : L[p]? = some (cuI g A n c)) (hc : Cur w' g A n c) (hg : w.grownBy w' (some g)) (I : Item) (pI : I.P w') (f : ∀ k, I.F k → w.heap.size ≤ k ∧ k < w'.heap.size) : Sep X w0 (I :: L) w' := by
  have h2 := h.drawnA p e hc hg
  refine ⟨h2.only, fun i hi => ?_, fun i hi k hk => ?_, List.pairwise_cons.2 ⟨fun j hj => ?_, h2.apart⟩⟩
  · rcases List.mem_cons.1 hi with rfl | hi
    · exact pI
    · exact h2.holds i hi
  · rcases List.mem_cons.1 hi with rfl | hi
    · have := f k hk; have := h.size; exact ⟨.inr (by omega), by omega⟩
    · exact h2.fresh i hi k hk
  · exact fun k hk hk2 => by have := f k hk; have := (h.fresh j hj k hk2).2; omega
/-- A drawn node's list. -/
theorem Sep.drawnN (h : Sep X w0 L w) (p : Nat) (e : L[p]? = some (cuI g A n c)) {x : Nd} {A' : Option Addr} {c' : Nat} (ho : w'.ownsRow w.heap.size 28 2 (.slice A' x.ps.length c') x.ps.length (PL x.ps)) (hc : Cur w' g A n c) (hg : w.grownBy w' (some g)) :
    ∃ F : FP, Sep X w0 (ow (.slice A' x.ps.length c') x.ps F :: L) w' :=
  ⟨blkF (Value.slice A' x.ps.length c').ownBlock, h.drawnGainA p e hc hg _ (OwnS.of_pairs ho (F := blkF _) (fun k hk => hk)) (fun k hk => fresh_blk ho (Nat.le_refl _) k hk)⟩
/-- What came first is laid at a place. -/
theorem Sep.placed {I : Item} (h : Sep X w0 (I :: L) w) (q : Nat) (hq : q < L.length) : Sep X w0 (L.set q I) w :=
  (h.drop (L' := I :: L.eraseIdx q) (List.Sublist.cons_cons _ (List.eraseIdx_sublist _ _))).perm (set_perm I L q hq).symm
end
end Go.Proofs.Ytokkpbjldchjpaa
