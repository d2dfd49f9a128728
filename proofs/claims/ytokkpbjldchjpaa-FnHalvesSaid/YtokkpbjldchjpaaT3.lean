/- The walks of eqInt64S, markInt64S, heldInt64S, markNodeS, heldNodeS, markTree, heldTree. -/
import Derived.Test.YtokkpbjldchjpaaT2
namespace Go.Proofs.Ytokkpbjldchjpaa
open Go.RowKit

/-! ### Numbers -/

def iAt (xs : List Int) (i : Nat) : Int := xs.getD i 0
theorem RS.ints {w : World} {B n : Nat} {A : Option Addr} {xs : List Int} (h : RS w B A n xs) (hn : 0 < n) :
    ∃ b off, A = some ⟨b, off, none⟩ ∧ b < B ∧ ∀ i, i < n → w.cell? ⟨b, off + i, none⟩ = some (.int .i64 (iAt xs i)) := by
  obtain ⟨b, off, e, hb, hc⟩ := h.2 hn
  refine ⟨b, off, e, hb, fun i hi => ?_⟩
  obtain ⟨cs, h1, h2⟩ := hc i hi
  have h1' : cs = [.int .i64 (xs.getD i 0)] := h1
  subst h1'
  have := h2 0 _ rfl
  rwa [show off + i * encInt.sz + 0 = off + i from by show off + i * 1 + 0 = off + i; omega] at this

theorem cntI (xs : List Int) : cntS xs = xs.length := by
  unfold cntS
  induction xs with
  | nil => rfl
  | cons x r ih =>
    simp only [List.map_cons, List.sum_cons, List.length_cons]
    rw [ih]
    show 1 + _ = _
    omega
theorem cntNd_take (xs : List Nd) (j : Nat) (hj : j < xs.length) : cntS (xs.take (j + 1)) = cntS (xs.take j) + (4 + 2 * (ndAt xs j).ps.length) := cntS_take xs j ⟨0, [], 0, 0, 0⟩ hj

end Go.Proofs.Ytokkpbjldchjpaa
