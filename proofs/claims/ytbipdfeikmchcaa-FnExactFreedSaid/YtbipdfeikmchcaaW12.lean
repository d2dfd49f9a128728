/- The walk of the model's l1Put. -/
import Derived.Test.YtbipdfeikmchcaaW11
namespace Go.Proofs.Ytbipdfeikmchcaa
open Go.RowKit
set_option linter.unusedVariables false

/-- A list with a pair laid in at its place. -/
def insL (zs : List Pr) (k v : Int) : List Pr := zs.take (geIx zs k) ++ [(k, v)] ++ zs.drop (if hitB zs k = true then geIx zs k + 1 else geIx zs k)
/-- The world in which a pair has just been boxed. -/
def boxed (w : World) (k v : Int) : World := w.alloc (.cells #[.int .i64 k, .int .i64 v] 51)
theorem boxed_size (w : World) (k v : Int) : (boxed w k v).heap.size = w.heap.size + 1 := by simp [boxed]
theorem boxed_below (w : World) (k v : Int) : Below w.heap.size w (boxed w k v) := (Below.refl _ _).alloc (Nat.le_refl _) _
theorem boxed_fst (w : World) (k v : Int) : (boxed w k v).cell? ⟨w.heap.size, 0, none⟩ = some (.int .i64 k) := by simp [boxed]
theorem boxed_snd (w : World) (k v : Int) : (boxed w k v).cell? ⟨w.heap.size, 1, none⟩ = some (.int .i64 v) := by simp [boxed]
theorem own_gives {w w' : World} {base n : Nat} {v : Value} {zs : List Pr} (h : w'.ownsRow base 51 2 v n (PL zs)) (hb : w.heap.size ≤ base) (hw : Below w.heap.size w w') : Gives w zs (.returned v) w' := by
  have hl : n = zs.length := by have := h.1; rw [PL_length] at this; omega
  subst hl
  exact ⟨v, rfl, own_base h hb, hw⟩

end Go.Proofs.Ytbipdfeikmchcaa
