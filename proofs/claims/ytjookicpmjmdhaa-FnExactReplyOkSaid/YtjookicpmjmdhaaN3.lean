/- The walks of szNode, toNode, eqNode. -/
import Derived.Test.YtjookicpmjmdhaaN2
namespace Go.Proofs.Ytjookicpmjmdhaa
open Go.RowKit

theorem own_base' {w : World} {base base' : Nat} {e : TypeId} {size n : Nat} {v : Value} {xs : List Value} (h : w.ownsRow base e size v n xs) (hb : base' ≤ base) : w.ownsRow base' e size v n xs := by
  rcases h with ⟨hl, h' | ⟨g, cap, cur, hv, hg, rest⟩⟩
  · exact ⟨hl, .inl h'⟩
  · exact ⟨hl, .inr ⟨g, cap, cur, hv, Nat.le_trans hb hg, rest⟩⟩

/-- What a call hands back that makes a node whose list is its own. -/
def GivesNd (w : World) (x : Nd) (n : Nat) (e : Ending) (w' : World) : Prop :=
  ∃ b, e = .returned (ndV x (some ⟨b, 0, none⟩) n n) ∧ w'.ownsRow w.heap.size 86 2 (.slice (some ⟨b, 0, none⟩) n n) n (PL x.ps) ∧ Below w.heap.size w w'

end Go.Proofs.Ytjookicpmjmdhaa
