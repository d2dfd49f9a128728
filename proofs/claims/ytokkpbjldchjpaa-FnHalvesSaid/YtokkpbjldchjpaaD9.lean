/- The walks of DrawNodeOk and DrawWithin. -/
import Derived.Test.YtokkpbjldchjpaaD8
namespace Go.Proofs.Ytokkpbjldchjpaa
open Go.RowKit

/-- A node whose list, of at most 41 pairs, is the call's own. -/
def MadeN (w : World) (x : Nd) (A : Option Addr) (c : Nat) (w' : World) : Prop := w'.ownsRow w.heap.size 28 2 (.slice A x.ps.length c) x.ps.length (PL x.ps) ∧ x.ps.length ≤ 41 ∧ Below w.heap.size w w'

theorem bys_on {w w' : World} {A : Option Addr} {n : Nat} (h : Bys w w.heap.size A n) (hb : Below w.heap.size w w') : Bys w' w'.heap.size A n := fun h0 => by
  obtain ⟨b, off, e, hbl, hc⟩ := h h0
  refine ⟨b, off, e, Nat.lt_of_lt_of_le hbl hb.size, fun i hi => ?_⟩
  obtain ⟨x, hx, h1, h2⟩ := hc i hi
  exact ⟨x, (hb.cell hbl).trans hx, h1, h2⟩
/-- A row of five cells, read and free to be written. -/
theorem five {w : World} {b : Nat} {v0 v1 v2 v3 v4 : Value} {t : TypeId} (h : w.heap[b]? = some (.cells #[v0, v1, v2, v3, v4] t (0, 0))) :
    w.cell? ⟨b, 0, none⟩ = some v0 ∧ w.cell? ⟨b, 1, none⟩ = some v1 ∧ w.cell? ⟨b, 2, none⟩ = some v2 ∧ w.cell? ⟨b, 3, none⟩ = some v3 ∧ w.cell? ⟨b, 4, none⟩ = some v4 ∧ ∀ i, w.frozen? ⟨b, i, none⟩ = false :=
  ⟨by rw [cell_of_row w b 0 _ _ _ h]; rfl, by rw [cell_of_row w b 1 _ _ _ h]; rfl, by rw [cell_of_row w b 2 _ _ _ h]; rfl, by rw [cell_of_row w b 3 _ _ _ h]; rfl, by rw [cell_of_row w b 4 _ _ _ h]; rfl, fun i => frozen_of_row w b i _ _ h⟩

end Go.Proofs.Ytokkpbjldchjpaa
