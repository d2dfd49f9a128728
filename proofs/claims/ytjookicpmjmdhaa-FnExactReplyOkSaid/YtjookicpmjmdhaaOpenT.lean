/- A tree that came in, opened. -/
import Derived.Test.YtjookicpmjmdhaaG4
import Derived.Test.YtjookicpmjmdhaaOpenN
namespace Go.Proofs.Ytjookicpmjmdhaa
open Go.ChangeShapes Go.WideShapes Go.ChangeAt Go.RowKit Go.Deep

set_option maxRecDepth 100000 in
/-- A slice that came in has no more in it than it has room for. -/
theorem cap_of_cells {H : Type} {enc : TypeId × Value → H} {W : World} {t el : TypeId} {fuel : Nat} {A : Option Addr} {n c : Nat} {x : DataW H × List MemPlace} (ht : Try.prog.underlying t = some (.slice el))
    (hf : DataW.trod enc Try.prog W 0 (fun _ => true) true fuel t [.slice A n c] = some x) : n ≤ c ∧ c ≤ 9223372036854775807 := by
  rcases open_slice ht hf with ⟨hcs, _⟩ | ⟨a, len0, cap0, m, k, D, Pl, hcs, _, hl, hm, _⟩
  · simp at hcs
    omega
  · simp at hcs
    unfold maxLen at hm
    omega

instance : Inhabited Nd := ⟨⟨0, [], 0, 0, 0⟩⟩

set_option maxRecDepth 100000 in
theorem Addr.add_none (b o k : Nat) : (⟨b, o, none⟩ : Addr).add k = ⟨b, o + k, none⟩ := by unfold Addr.add; split <;> simp_all

end Go.Proofs.Ytjookicpmjmdhaa
