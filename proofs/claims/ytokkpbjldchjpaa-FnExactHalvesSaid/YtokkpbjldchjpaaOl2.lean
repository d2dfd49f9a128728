/- The laws of Ol, a place each. (Made by genOl2.py.) -/
import Derived.Test.YtokkpbjldchjpaaOl
namespace Go.Proofs.Ytokkpbjldchjpaa
open Go.RowKit
section
variable {P : Program} {X : FP} {w0 w w' : World} {L : List Item} {o : Oper} {a : Act} {K : Act → World → Prop} {Q : Exit → Act → World → Prop} {I0 I1 I2 I3 I4 I5 I6 I7 : Item}
theorem op_putR_0 (ty : TypeId) (x y : Operand) (ho : o.op = .store ty x y) {g : Nat} {C : Array Value} {t : TypeId} (h : Hid (Sep X w0 (bx g C t :: L) w)) (hx : a.eval x = .pointer (some ⟨g, 0, none⟩))
    (C' : Array Value) (hy : a.eval y = .agg C') (h1 : C'.toList.all (·.oneCell') = true) (hi : (P.info? ty).map (·.size) = some C'.size) (hj : C'.size = C.size)
    (hK : ∀ w', Hid (Sep X w0 (bx g C' t :: L) w') → K (a.put o.dst undef) w') : o.wp P a w K Q := op_putR ty x y ho h.out 0 rfl hx C' hy h1 hi hj (fun w' h' => hK w' (Lib.hid h'))
theorem op_put1_0 (ty : TypeId) (x y : Operand) (ho : o.op = .store ty x y) {g : Nat} {C : Array Value} {t : TypeId} (h : Hid (Sep X w0 (bx g C t :: L) w)) (j : Nat) (hx : a.eval x = .pointer (some ⟨g, j, none⟩))
    (v : Value) (hy : a.eval y = v) (h1 : v.oneCell' = true) (hi : (P.info? ty).map (·.size) = some 1) (hj : j < C.size)
    (hK : ∀ w', Hid (Sep X w0 (bx g (C.setIfInBounds j v) t :: L) w') → K (a.put o.dst undef) w') : o.wp P a w K Q := op_put1 ty x y ho h.out 0 rfl j hx v hy h1 hi hj (fun w' h' => hK w' (Lib.hid h'))
theorem Sep.turn_0 {I J : Item} (h : Sep X w0 (I :: L) w) (o : Only I.F w w') (p : J.P w') (f : ∀ k, J.F k → (I.F k ∨ w.heap.size ≤ k) ∧ k < w'.heap.size) : Sep X w0 (J :: L) w' := h.turn 0 rfl o J p f
theorem op_putR_1 (ty : TypeId) (x y : Operand) (ho : o.op = .store ty x y) {g : Nat} {C : Array Value} {t : TypeId} (h : Hid (Sep X w0 (I0 :: bx g C t :: L) w)) (hx : a.eval x = .pointer (some ⟨g, 0, none⟩))
    (C' : Array Value) (hy : a.eval y = .agg C') (h1 : C'.toList.all (·.oneCell') = true) (hi : (P.info? ty).map (·.size) = some C'.size) (hj : C'.size = C.size)
    (hK : ∀ w', Hid (Sep X w0 (I0 :: bx g C' t :: L) w') → K (a.put o.dst undef) w') : o.wp P a w K Q := op_putR ty x y ho h.out 1 rfl hx C' hy h1 hi hj (fun w' h' => hK w' (Lib.hid h'))
theorem op_put1_1 (ty : TypeId) (x y : Operand) (ho : o.op = .store ty x y) {g : Nat} {C : Array Value} {t : TypeId} (h : Hid (Sep X w0 (I0 :: bx g C t :: L) w)) (j : Nat) (hx : a.eval x = .pointer (some ⟨g, j, none⟩))
    (v : Value) (hy : a.eval y = v) (h1 : v.oneCell' = true) (hi : (P.info? ty).map (·.size) = some 1) (hj : j < C.size)
    (hK : ∀ w', Hid (Sep X w0 (I0 :: bx g (C.setIfInBounds j v) t :: L) w') → K (a.put o.dst undef) w') : o.wp P a w K Q := op_put1 ty x y ho h.out 1 rfl j hx v hy h1 hi hj (fun w' h' => hK w' (Lib.hid h'))
theorem Sep.turn_1 {I J : Item} (h : Sep X w0 (I0 :: I :: L) w) (o : Only I.F w w') (p : J.P w') (f : ∀ k, J.F k → (I.F k ∨ w.heap.size ≤ k) ∧ k < w'.heap.size) : Sep X w0 (I0 :: J :: L) w' := h.turn 1 rfl o J p f
theorem op_putR_2 (ty : TypeId) (x y : Operand) (ho : o.op = .store ty x y) {g : Nat} {C : Array Value} {t : TypeId} (h : Hid (Sep X w0 (I0 :: I1 :: bx g C t :: L) w)) (hx : a.eval x = .pointer (some ⟨g, 0, none⟩))
    (C' : Array Value) (hy : a.eval y = .agg C') (h1 : C'.toList.all (·.oneCell') = true) (hi : (P.info? ty).map (·.size) = some C'.size) (hj : C'.size = C.size)
    (hK : ∀ w', Hid (Sep X w0 (I0 :: I1 :: bx g C' t :: L) w') → K (a.put o.dst undef) w') : o.wp P a w K Q := op_putR ty x y ho h.out 2 rfl hx C' hy h1 hi hj (fun w' h' => hK w' (Lib.hid h'))
theorem op_put1_2 (ty : TypeId) (x y : Operand) (ho : o.op = .store ty x y) {g : Nat} {C : Array Value} {t : TypeId} (h : Hid (Sep X w0 (I0 :: I1 :: bx g C t :: L) w)) (j : Nat) (hx : a.eval x = .pointer (some ⟨g, j, none⟩))
    (v : Value) (hy : a.eval y = v) (h1 : v.oneCell' = true) (hi : (P.info? ty).map (·.size) = some 1) (hj : j < C.size)
    (hK : ∀ w', Hid (Sep X w0 (I0 :: I1 :: bx g (C.setIfInBounds j v) t :: L) w') → K (a.put o.dst undef) w') : o.wp P a w K Q := op_put1 ty x y ho h.out 2 rfl j hx v hy h1 hi hj (fun w' h' => hK w' (Lib.hid h'))
theorem Sep.turn_2 {I J : Item} (h : Sep X w0 (I0 :: I1 :: I :: L) w) (o : Only I.F w w') (p : J.P w') (f : ∀ k, J.F k → (I.F k ∨ w.heap.size ≤ k) ∧ k < w'.heap.size) : Sep X w0 (I0 :: I1 :: J :: L) w' := h.turn 2 rfl o J p f
theorem op_putR_3 (ty : TypeId) (x y : Operand) (ho : o.op = .store ty x y) {g : Nat} {C : Array Value} {t : TypeId} (h : Hid (Sep X w0 (I0 :: I1 :: I2 :: bx g C t :: L) w)) (hx : a.eval x = .pointer (some ⟨g, 0, none⟩))
    (C' : Array Value) (hy : a.eval y = .agg C') (h1 : C'.toList.all (·.oneCell') = true) (hi : (P.info? ty).map (·.size) = some C'.size) (hj : C'.size = C.size)
    (hK : ∀ w', Hid (Sep X w0 (I0 :: I1 :: I2 :: bx g C' t :: L) w') → K (a.put o.dst undef) w') : o.wp P a w K Q := op_putR ty x y ho h.out 3 rfl hx C' hy h1 hi hj (fun w' h' => hK w' (Lib.hid h'))
theorem op_put1_3 (ty : TypeId) (x y : Operand) (ho : o.op = .store ty x y) {g : Nat} {C : Array Value} {t : TypeId} (h : Hid (Sep X w0 (I0 :: I1 :: I2 :: bx g C t :: L) w)) (j : Nat) (hx : a.eval x = .pointer (some ⟨g, j, none⟩))
    (v : Value) (hy : a.eval y = v) (h1 : v.oneCell' = true) (hi : (P.info? ty).map (·.size) = some 1) (hj : j < C.size)
    (hK : ∀ w', Hid (Sep X w0 (I0 :: I1 :: I2 :: bx g (C.setIfInBounds j v) t :: L) w') → K (a.put o.dst undef) w') : o.wp P a w K Q := op_put1 ty x y ho h.out 3 rfl j hx v hy h1 hi hj (fun w' h' => hK w' (Lib.hid h'))
theorem Sep.turn_3 {I J : Item} (h : Sep X w0 (I0 :: I1 :: I2 :: I :: L) w) (o : Only I.F w w') (p : J.P w') (f : ∀ k, J.F k → (I.F k ∨ w.heap.size ≤ k) ∧ k < w'.heap.size) : Sep X w0 (I0 :: I1 :: I2 :: J :: L) w' := h.turn 3 rfl o J p f
theorem op_putR_4 (ty : TypeId) (x y : Operand) (ho : o.op = .store ty x y) {g : Nat} {C : Array Value} {t : TypeId} (h : Hid (Sep X w0 (I0 :: I1 :: I2 :: I3 :: bx g C t :: L) w)) (hx : a.eval x = .pointer (some ⟨g, 0, none⟩))
    (C' : Array Value) (hy : a.eval y = .agg C') (h1 : C'.toList.all (·.oneCell') = true) (hi : (P.info? ty).map (·.size) = some C'.size) (hj : C'.size = C.size)
    (hK : ∀ w', Hid (Sep X w0 (I0 :: I1 :: I2 :: I3 :: bx g C' t :: L) w') → K (a.put o.dst undef) w') : o.wp P a w K Q := op_putR ty x y ho h.out 4 rfl hx C' hy h1 hi hj (fun w' h' => hK w' (Lib.hid h'))
theorem op_put1_4 (ty : TypeId) (x y : Operand) (ho : o.op = .store ty x y) {g : Nat} {C : Array Value} {t : TypeId} (h : Hid (Sep X w0 (I0 :: I1 :: I2 :: I3 :: bx g C t :: L) w)) (j : Nat) (hx : a.eval x = .pointer (some ⟨g, j, none⟩))
    (v : Value) (hy : a.eval y = v) (h1 : v.oneCell' = true) (hi : (P.info? ty).map (·.size) = some 1) (hj : j < C.size)
    (hK : ∀ w', Hid (Sep X w0 (I0 :: I1 :: I2 :: I3 :: bx g (C.setIfInBounds j v) t :: L) w') → K (a.put o.dst undef) w') : o.wp P a w K Q := op_put1 ty x y ho h.out 4 rfl j hx v hy h1 hi hj (fun w' h' => hK w' (Lib.hid h'))
theorem Sep.turn_4 {I J : Item} (h : Sep X w0 (I0 :: I1 :: I2 :: I3 :: I :: L) w) (o : Only I.F w w') (p : J.P w') (f : ∀ k, J.F k → (I.F k ∨ w.heap.size ≤ k) ∧ k < w'.heap.size) : Sep X w0 (I0 :: I1 :: I2 :: I3 :: J :: L) w' := h.turn 4 rfl o J p f
theorem op_putR_5 (ty : TypeId) (x y : Operand) (ho : o.op = .store ty x y) {g : Nat} {C : Array Value} {t : TypeId} (h : Hid (Sep X w0 (I0 :: I1 :: I2 :: I3 :: I4 :: bx g C t :: L) w)) (hx : a.eval x = .pointer (some ⟨g, 0, none⟩))
    (C' : Array Value) (hy : a.eval y = .agg C') (h1 : C'.toList.all (·.oneCell') = true) (hi : (P.info? ty).map (·.size) = some C'.size) (hj : C'.size = C.size)
    (hK : ∀ w', Hid (Sep X w0 (I0 :: I1 :: I2 :: I3 :: I4 :: bx g C' t :: L) w') → K (a.put o.dst undef) w') : o.wp P a w K Q := op_putR ty x y ho h.out 5 rfl hx C' hy h1 hi hj (fun w' h' => hK w' (Lib.hid h'))
theorem op_put1_5 (ty : TypeId) (x y : Operand) (ho : o.op = .store ty x y) {g : Nat} {C : Array Value} {t : TypeId} (h : Hid (Sep X w0 (I0 :: I1 :: I2 :: I3 :: I4 :: bx g C t :: L) w)) (j : Nat) (hx : a.eval x = .pointer (some ⟨g, j, none⟩))
    (v : Value) (hy : a.eval y = v) (h1 : v.oneCell' = true) (hi : (P.info? ty).map (·.size) = some 1) (hj : j < C.size)
    (hK : ∀ w', Hid (Sep X w0 (I0 :: I1 :: I2 :: I3 :: I4 :: bx g (C.setIfInBounds j v) t :: L) w') → K (a.put o.dst undef) w') : o.wp P a w K Q := op_put1 ty x y ho h.out 5 rfl j hx v hy h1 hi hj (fun w' h' => hK w' (Lib.hid h'))
theorem Sep.turn_5 {I J : Item} (h : Sep X w0 (I0 :: I1 :: I2 :: I3 :: I4 :: I :: L) w) (o : Only I.F w w') (p : J.P w') (f : ∀ k, J.F k → (I.F k ∨ w.heap.size ≤ k) ∧ k < w'.heap.size) : Sep X w0 (I0 :: I1 :: I2 :: I3 :: I4 :: J :: L) w' := h.turn 5 rfl o J p f
theorem op_putR_6 (ty : TypeId) (x y : Operand) (ho : o.op = .store ty x y) {g : Nat} {C : Array Value} {t : TypeId} (h : Hid (Sep X w0 (I0 :: I1 :: I2 :: I3 :: I4 :: I5 :: bx g C t :: L) w)) (hx : a.eval x = .pointer (some ⟨g, 0, none⟩))
    (C' : Array Value) (hy : a.eval y = .agg C') (h1 : C'.toList.all (·.oneCell') = true) (hi : (P.info? ty).map (·.size) = some C'.size) (hj : C'.size = C.size)
    (hK : ∀ w', Hid (Sep X w0 (I0 :: I1 :: I2 :: I3 :: I4 :: I5 :: bx g C' t :: L) w') → K (a.put o.dst undef) w') : o.wp P a w K Q := op_putR ty x y ho h.out 6 rfl hx C' hy h1 hi hj (fun w' h' => hK w' (Lib.hid h'))
theorem op_put1_6 (ty : TypeId) (x y : Operand) (ho : o.op = .store ty x y) {g : Nat} {C : Array Value} {t : TypeId} (h : Hid (Sep X w0 (I0 :: I1 :: I2 :: I3 :: I4 :: I5 :: bx g C t :: L) w)) (j : Nat) (hx : a.eval x = .pointer (some ⟨g, j, none⟩))
    (v : Value) (hy : a.eval y = v) (h1 : v.oneCell' = true) (hi : (P.info? ty).map (·.size) = some 1) (hj : j < C.size)
    (hK : ∀ w', Hid (Sep X w0 (I0 :: I1 :: I2 :: I3 :: I4 :: I5 :: bx g (C.setIfInBounds j v) t :: L) w') → K (a.put o.dst undef) w') : o.wp P a w K Q := op_put1 ty x y ho h.out 6 rfl j hx v hy h1 hi hj (fun w' h' => hK w' (Lib.hid h'))
theorem Sep.turn_6 {I J : Item} (h : Sep X w0 (I0 :: I1 :: I2 :: I3 :: I4 :: I5 :: I :: L) w) (o : Only I.F w w') (p : J.P w') (f : ∀ k, J.F k → (I.F k ∨ w.heap.size ≤ k) ∧ k < w'.heap.size) : Sep X w0 (I0 :: I1 :: I2 :: I3 :: I4 :: I5 :: J :: L) w' := h.turn 6 rfl o J p f
theorem op_putR_7 (ty : TypeId) (x y : Operand) (ho : o.op = .store ty x y) {g : Nat} {C : Array Value} {t : TypeId} (h : Hid (Sep X w0 (I0 :: I1 :: I2 :: I3 :: I4 :: I5 :: I6 :: bx g C t :: L) w)) (hx : a.eval x = .pointer (some ⟨g, 0, none⟩))
    (C' : Array Value) (hy : a.eval y = .agg C') (h1 : C'.toList.all (·.oneCell') = true) (hi : (P.info? ty).map (·.size) = some C'.size) (hj : C'.size = C.size)
    (hK : ∀ w', Hid (Sep X w0 (I0 :: I1 :: I2 :: I3 :: I4 :: I5 :: I6 :: bx g C' t :: L) w') → K (a.put o.dst undef) w') : o.wp P a w K Q := op_putR ty x y ho h.out 7 rfl hx C' hy h1 hi hj (fun w' h' => hK w' (Lib.hid h'))
theorem op_put1_7 (ty : TypeId) (x y : Operand) (ho : o.op = .store ty x y) {g : Nat} {C : Array Value} {t : TypeId} (h : Hid (Sep X w0 (I0 :: I1 :: I2 :: I3 :: I4 :: I5 :: I6 :: bx g C t :: L) w)) (j : Nat) (hx : a.eval x = .pointer (some ⟨g, j, none⟩))
    (v : Value) (hy : a.eval y = v) (h1 : v.oneCell' = true) (hi : (P.info? ty).map (·.size) = some 1) (hj : j < C.size)
    (hK : ∀ w', Hid (Sep X w0 (I0 :: I1 :: I2 :: I3 :: I4 :: I5 :: I6 :: bx g (C.setIfInBounds j v) t :: L) w') → K (a.put o.dst undef) w') : o.wp P a w K Q := op_put1 ty x y ho h.out 7 rfl j hx v hy h1 hi hj (fun w' h' => hK w' (Lib.hid h'))
theorem Sep.turn_7 {I J : Item} (h : Sep X w0 (I0 :: I1 :: I2 :: I3 :: I4 :: I5 :: I6 :: I :: L) w) (o : Only I.F w w') (p : J.P w') (f : ∀ k, J.F k → (I.F k ∨ w.heap.size ≤ k) ∧ k < w'.heap.size) : Sep X w0 (I0 :: I1 :: I2 :: I3 :: I4 :: I5 :: I6 :: J :: L) w' := h.turn 7 rfl o J p f
end
end Go.Proofs.Ytokkpbjldchjpaa
