/- The walks of the code's Put and Cut. -/
import Derived.Test.YtjookicpmjmdhaaW9
namespace Go.Proofs.Ytjookicpmjmdhaa
open Go.RowKit
set_option linter.unusedVariables false

/-- What Put answers: the list, and whether there was none. -/
def putL (zs : List Pr) (k v : Int) : List Pr :=
  if pOk zs = true then
    if rightB k v = true then
      if hitB zs k = true then zs.take (geIx zs k) ++ [(k, v)] ++ zs.drop (geIx zs k + 1)
      else if zs.length = 40 then zs else zs.take (geIx zs k) ++ [(k, v)] ++ zs.drop (geIx zs k)
    else zs
  else []
def putB (zs : List Pr) (k v : Int) : Bool := pOk zs && rightB k v && !hitB zs k && !decide (zs.length = 40)
/-- What Cut answers: the list; and whether the key was there. -/
def cutL (zs : List Pr) (k : Int) : List Pr := if pOk zs = true then (if hitB zs k = true then zs.take (geIx zs k) ++ zs.drop (geIx zs k + 1) else zs) else []
def cutB (zs : List Pr) (k : Int) : Bool := pOk zs && hitB zs k

/-- A list of the call's own and a flag beside it. -/
def Gives2 (w : World) (zs : List Pr) (b : Bool) (e : Ending) (w' : World) : Prop := ∃ v, e = .returned (.tuple #[v, .bool b]) ∧ w'.ownsRow w.heap.size 86 2 v zs.length (PL zs) ∧ Below w.heap.size w w'
theorem Gives2.cast {w : World} {zs zs' : List Pr} {b b' : Bool} (h1 : zs = zs') (h2 : b = b') {e : Ending} {w' : World} (h : Gives2 w zs b e w') : Gives2 w zs' b' e w' := by subst h1; subst h2; exact h
theorem own_base {w : World} {base base' : Nat} {e : TypeId} {size n : Nat} {v : Value} {xs : List Value} (h : w.ownsRow base e size v n xs) (hb : base' ≤ base) : w.ownsRow base' e size v n xs := by
  rcases h with ⟨hl, h' | ⟨g, cap, cur, hv, hg, rest⟩⟩
  · exact ⟨hl, .inl h'⟩
  · exact ⟨hl, .inr ⟨g, cap, cur, hv, Nat.le_trans hb hg, rest⟩⟩
theorem one_row (w : World) (B : Nat) (k v : Int) : RP (w.alloc (.cells #[.int .i64 k, .int .i64 v] B)) (w.heap.size + 1) (some ⟨w.heap.size, 0, none⟩) 1 [(k, v)] :=
  ⟨rfl, fun _ => ⟨w.heap.size, 0, rfl, by omega, fun i hi => by
    obtain rfl : i = 0 := by omega
    simp [kAt, vAt]⟩⟩

end Go.Proofs.Ytjookicpmjmdhaa
