/- Laws at one operation: places, cells, fields, structs built. -/
import Derived.Test.YtokkpbjldchjpaaOl2
import Derived.Great.BuildSlice
import Derived.Deep.AppendLies
namespace Go.Proofs.Ytokkpbjldchjpaa
open Go.RowKit

section
variable {X : FP} {w0 w : World} {L : List Item} {o : Oper} {a : Act} {K : Act → World → Prop} {Q : Exit → Act → World → Prop}
/-- The place of an element of a slice. -/
theorem op_idx (t : TypeId) (s x : Operand) (ho : o.op = .indexAddr t s x) (e : TypeId) (sz : Nat) (ht : Try.prog.underlying t = some (.slice e)) (hi : ∀ w, (sizeOf e).run Try.prog w = .ok sz w) {b off n c k : Nat} (hs : a.eval s = .slice (some ⟨b, off, none⟩) n c) (hx : a.eval x = .int .i64 k) (hk : k < n)
    (hK : K (a.put o.dst (.pointer (some ⟨b, off + k * sz, none⟩))) w) : o.wp Try.prog a w K Q := by
  refine op_val ?_ hK
  have hk' : (0 : Int) ≤ k ∧ (k : Int) < n := by omega
  have aa : (⟨b, off, none⟩ : Addr).add (k * sz) = ⟨b, off + k * sz, none⟩ := by unfold Addr.add; split <;> simp_all
  generalize a.eval = E at hs hx ⊢
  simp [execOp, ho, hs, hx, Instr.indexAt, asIntOf, run_underlying ht, hi, hk', hk, aa, Result.andThen]
/-- A cell is loaded, wherever it lies. -/
theorem op_cell (ty : TypeId) (x : Operand) (ho : o.op = .load ty x) {p : Addr} (hx : a.eval x = .pointer (some p)) (hu : ∀ w, (isAgg ty).run Try.prog w = .ok false w) {v : Value} (hc : w.cell? p = some v) (hK : K (a.put o.dst v) w) : o.wp Try.prog a w K Q := by
  unfold Oper.wp execOp
  simp only [ho, hx, Instr.loadAt, Instr.sureAddr, loadVar, Sem.run_bind, Sem.run_pure, Result.andThen_ok, hu, Bool.false_eq_true, if_false, run_load, hc]
  exact hK
/-- The place of a field. -/
theorem op_field (t : TypeId) (x : Operand) (k : Nat) (ho : o.op = .fieldAddr t x k) {v u : Value} (hx : a.eval x = v) (hr : (Instr.fieldAt t v k).run Try.prog w = .ok u w) (hK : K (a.put o.dst u) w) : o.wp Try.prog a w K Q := by
  refine op_val ?_ hK
  subst hx
  simp only [execOp, ho, Sem.run_bind, hr, Result.andThen_ok, Sem.run_pure]
/-- A struct out of its parts. -/
theorem op_build (t : TypeId) (parts : Array (Nat × Operand)) (ho : o.op = .build t parts) (pl : List (Nat × Value)) (hpl : (parts.map fun (i, x) => (i, a.eval x)).toList = pl) (C : Array Value) (hb : Try.prog.built t pl = some C) (hK : K (a.put o.dst (.agg C)) w) : o.wp Try.prog a w K Q := by
  subst hpl
  refine wp_build t parts ho (by rw [hb]; rfl) ?_
  rw [hb]
  exact hK
/-- not. -/
theorem op_not (t : TypeId) (x : Operand) (ho : o.op = .unOp .not t x) {b : Bool} (hx : a.eval x = .bool b) (hK : K (a.put o.dst (.bool (!b))) w) : o.wp Try.prog a w K Q := by
  refine op_val ?_ hK
  generalize a.eval = E at hx ⊢
  simp [execOp, ho, hx, Op.unary]
theorem op_extract (x : Operand) (k : Nat) (ho : o.op = .extract x k) {vs : Array Value} (hx : a.eval x = .tuple vs) {v : Value} (hv : vs[k]? = some v) (hK : K (a.put o.dst v) w) : o.wp Try.prog a w K Q := by
  refine op_val ?_ hK
  generalize a.eval = E at hx ⊢
  simp [execOp, ho, hx, Instr.extract, hv]
end
theorem Sep.gainAt2 {X : FP} {w0 w w' : World} {L : List Item} (h : Sep X w0 L w) (b : Below w.heap.size w w') (i j : Nat) (_hij : i ≠ j) (e : L[i]? = some em) (e' : L[j]? = some em) (I J : Item) (p : I.P w') (q : J.P w')
    (f : ∀ k, I.F k → w.heap.size ≤ k ∧ k < w'.heap.size) (g : ∀ k, J.F k → w.heap.size ≤ k ∧ k < w'.heap.size) (ap : Apart I.F J.F) : Sep X w0 ((L.set i I).set j J) w' := by
  have hi : i < L.length := (List.getElem?_eq_some_iff.1 e).1
  have hj : j < L.length := (List.getElem?_eq_some_iff.1 e').1
  have hget : ∀ q (hq : q < ((L.set i I).set j J).length), ((L.set i I).set j J)[q] = if j = q then J else if i = q then I else L[q]'(by simpa using hq) := fun q hq => by
    rw [List.getElem_set]
    split
    · rfl
    · rw [List.getElem_set]
  have hp := List.pairwise_iff_getElem.1 h.apart
  have hz := h.size
  have hs := b.size
  have hfr : ∀ q (hq : q < L.length) k, L[q].F k → (X k ∨ w0.heap.size ≤ k) ∧ k < w.heap.size := fun q hq k hk => h.fresh _ (List.getElem_mem hq) k hk
  refine ⟨h.only.trans (Only.of_below b), fun z hz => ?_, fun z hz k hk => ?_, ?_⟩
  · obtain ⟨a, ha, rfl⟩ := List.getElem_of_mem hz
    rw [hget]
    split
    · exact q
    · split
      · exact p
      · exact Item.keep _ _ _ (h.holds _ (List.getElem_mem _)) (fun k _ hk => b.block k hk)
  · obtain ⟨a, ha, rfl⟩ := List.getElem_of_mem hz
    rw [hget] at hk
    split at hk
    · have := g k hk; exact ⟨.inr (by omega), this.2⟩
    · split at hk
      · have := f k hk; exact ⟨.inr (by omega), this.2⟩
      · have := hfr _ _ k hk; exact ⟨this.1, by omega⟩
  · rw [List.pairwise_iff_getElem]
    intro a c ha hc hac
    have la : a < L.length := by simpa using ha
    have lc : c < L.length := by simpa using hc
    rw [hget, hget]
    split
    · split
      · omega
      · split
        · exact ap.symm
        · exact fun k hk hk2 => by have := g k hk; have := hfr c lc k hk2; omega
    · split
      · split
        · exact ap
        · split
          · omega
          · exact fun k hk hk2 => by have := f k hk; have := hfr c lc k hk2; omega
      · split
        · exact fun k hk hk2 => by have := g k hk2; have := hfr a la k hk; omega
        · split
          · exact fun k hk hk2 => by have := f k hk2; have := hfr a la k hk; omega
          · exact hp a c la lc hac
/-- A list of the call's own, written over. -/
theorem Sep.marked {X : FP} {w0 w w' : World} {L : List Item} {α : Type} [Enc α] (h : Sep X w0 L w) (i : Nat) {v : Value} {xs ys : List α} {F : FP} (e : L[i]? = some (ow v xs F)) (o : Only F w w') (p : OwnS w' v ys F) : Sep X w0 (L.set i (ow v ys F)) w' :=
  h.turn i e o _ p (fun k hk => ⟨.inl hk, by have := (h.fresh _ (List.mem_of_getElem? e) k hk).2; have := o.size; omega⟩)
end Go.Proofs.Ytokkpbjldchjpaa
