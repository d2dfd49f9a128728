/- Words for memory that the proofs of this seat share: worlds that only grew, slices that read as lists of cells. -/
import Derived.Below
import Derived.Laws.OwnMore
import Derived.Deep.AppendLies
import Derived.Deep.Draws
import Derived.Deep.QuietTactic
import Derived.BigQuiet
import Derived.Lib.Hide
import Derived.WalkKit
namespace Go.Proofs.Ytjookicpmjmdhaa
open Go.RowKit

def Later (W : World) : Type := { w : World // Below W.heap.size W w }
instance Later.inhab (W : World) : Nonempty (Later W) := ⟨⟨W, Below.refl _ _⟩⟩
def Later.wd {W : World} (s : Later W) : World := s.1
theorem Later.below {W : World} (s : Later W) : Below W.heap.size W s.wd := s.2
theorem Later.cell {W : World} (s : Later W) {p : Addr} (h : p.block < W.heap.size) : s.wd.cell? p = W.cell? p := s.2.cell h
theorem Later.of_cell {w wr : World} {p : Addr} {v : Value} (hc : w.cell? p = some v) (hb : Below w.heap.size w wr) (hp : p.block < w.heap.size) : ∀ s : Later wr, s.wd.cell? p = some v := fun s => by
  rw [s.cell (Nat.lt_of_lt_of_le hp hb.size), hb.cell hp, hc]
theorem Later.below_of {w wr : World} (hb : Below w.heap.size w wr) (s : Later wr) : Below w.heap.size w s.wd := hb.trans (s.2.mono hb.size)

theorem wp_region_later {P : Program} {id : Nat} {Q : Exit → Act → World → Prop} {a : Act} {W : World} {l : List Oper} (hm : P.follows .mixedOrders = true) (hB : Region.lexB .any l.toArray = true)
    (h : wpQuiet P l.toArray (fun w' => ∃ s : Later W, w' = s.wd) (fun a' => ∀ w', (∃ s : Later W, w' = s.wd) → Q .normal a' w') l a) : (Code.region id l.toArray true).wp P Q a W :=
  wp_region_quiet (C := fun w' => ∃ s : Later W, w' = s.wd) hm hB ⟨⟨_, (Below.refl _ W).drew⟩, rfl⟩ (by simpa using h)

end Go.Proofs.Ytjookicpmjmdhaa
