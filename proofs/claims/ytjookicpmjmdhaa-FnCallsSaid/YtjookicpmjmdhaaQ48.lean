/- The walk of the model's l3DrawAny. (Made by genY31.py.) -/
import Derived.Test.YtjookicpmjmdhaaQ46
import Derived.Test.YtjookicpmjmdhaaQ47
open Go.Value renaming int → jI, slice → jS
open Go.IntKind renaming i64 → jZ
namespace Go.Proofs.Ytjookicpmjmdhaa
open Go.RowKit

theorem Sep.drawnGain {w0 w w' : World} {L : List Item} {g : Nat} {A : Option Addr} {n c : Nat} (h : Sep (cuX g) w0 L w) (p : Nat) (e : L[p]? = some (cuI g A n c)) (hc : Cur w' g A n c) (hg : w.grownBy w' (some g)) (I : Item) (pI : I.P w') (f : ∀ k, I.F k → w.heap.size ≤ k ∧ k < w'.heap.size) : Sep (cuX g) w0 (I :: L) w' := by
 have hL : L.set p (cuI g A n c) = L := by
   apply List.ext_getElem?
   intro i
   by_cases hi : p = i
   · subst hi
     rw [List.getElem?_set_self (List.getElem?_eq_some_iff.1 e).1, e]
   · rw [List.getElem?_set_ne hi]
 have h2 := h.drawn p e hc hg
 rw [hL] at h2
 refine ⟨h2.only, fun i hi => ?_, fun i hi k hk => ?_, List.pairwise_cons.2 ⟨fun j hj => ?_, h2.apart⟩⟩
 · rcases List.mem_cons.1 hi with rfl | hi
   · exact pI
   · exact h2.holds i hi
 · rcases List.mem_cons.1 hi with rfl | hi
   · have := f k hk; have := h.size; exact ⟨.inr (by omega), by omega⟩
   · exact h2.fresh i hi k hk
 · exact fun k hk hk2 => by have := f k hk; have := (h.fresh j hj k hk2).2; omega

def lenOf (v : Option Value) : Nat := match v with | some (.slice _ n _) => n | _ => 0
end Go.Proofs.Ytjookicpmjmdhaa
