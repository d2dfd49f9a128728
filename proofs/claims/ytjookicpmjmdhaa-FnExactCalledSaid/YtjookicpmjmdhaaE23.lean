/- The laws of Ol, a place each. (Made by genOl2.py.) -/
import Derived.Test.YtjookicpmjmdhaaE22
import Derived.Great.BuildSlice
import Derived.Deep.AppendLies
namespace Go.Proofs.Ytjookicpmjmdhaa
open Go.RowKit
section
variable {P : Program} {X : FP} {w0 w w' : World} {L : List Item} {o : Oper} {a : Act} {K : Act → World → Prop} {Q : Exit → Act → World → Prop} {I0 I1 I2 I3 I4 I5 I6 I7 : Item}
theorem op_putR_0 (ty : TypeId) (x y : Operand) (ho : o.op = .store ty x y) {g : Nat} {C : Array Value} {t : TypeId} (h : Hid (Sep X w0 (bx g C t :: L) w)) (hx : a.eval x = .pointer (some ⟨g, 0, none⟩))
    (C' : Array Value) (hy : a.eval y = .agg C') (h1 : C'.toList.all (·.oneCell') = true) (hi : (P.info? ty).map (·.size) = some C'.size) (hj : C'.size = C.size)
    (hK : ∀ w', Hid (Sep X w0 (bx g C' t :: L) w') → K (a.put o.dst undef) w') : o.wp P a w K Q := op_putR ty x y ho h.out 0 rfl hx C' hy h1 hi hj (fun w' h' => hK w' (Lib.hid h'))
end
end Go.Proofs.Ytjookicpmjmdhaa
namespace Go.Proofs.Ytjookicpmjmdhaa
open Go.RowKit

section
variable {X : FP} {w0 w : World} {L : List Item} {o : Oper} {a : Act} {K : Act → World → Prop} {Q : Exit → Act → World → Prop}
theorem op_not (t : TypeId) (x : Operand) (ho : o.op = .unOp .not t x) {b : Bool} (hx : a.eval x = .bool b) (hK : K (a.put o.dst (.bool (!b))) w) : o.wp Try.prog a w K Q := by
  refine op_val ?_ hK
  generalize a.eval = E at hx ⊢
  simp [execOp, ho, hx, Op.unary]
theorem op_extract (x : Operand) (k : Nat) (ho : o.op = .extract x k) {vs : Array Value} (hx : a.eval x = .tuple vs) {v : Value} (hv : vs[k]? = some v) (hK : K (a.put o.dst v) w) : o.wp Try.prog a w K Q := by
  refine op_val ?_ hK
  generalize a.eval = E at hx ⊢
  simp [execOp, ho, hx, Instr.extract, hv]
end
theorem Sep.marked {X : FP} {w0 w w' : World} {L : List Item} {α : Type} [Enc α] (h : Sep X w0 L w) (i : Nat) {v : Value} {xs ys : List α} {F : FP} (e : L[i]? = some (ow v xs F)) (o : Only F w w') (p : OwnS w' v ys F) : Sep X w0 (L.set i (ow v ys F)) w' :=
  h.turn i e o _ p (fun k hk => ⟨.inl hk, by have := (h.fresh _ (List.mem_of_getElem? e) k hk).2; have := o.size; omega⟩)
end Go.Proofs.Ytjookicpmjmdhaa
