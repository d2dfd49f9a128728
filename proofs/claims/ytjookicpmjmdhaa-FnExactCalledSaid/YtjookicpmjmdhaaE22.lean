/- The laws of Sp at an operation alone (for regions that draw their order). -/
import Derived.Test.YtjookicpmjmdhaaE21
namespace Go.Proofs.Ytjookicpmjmdhaa
open Go.RowKit

def cnd (b : Bool) (I J : Item) : Item := if b then J else I
def em : Item := ⟨fun _ => False, fun _ => True, fun _ _ _ _ => trivial⟩
theorem cnd_f {b : Bool} (h : b = false) (I J : Item) : cnd b I J = I := by rw [h]; rfl
theorem cnd_t {b : Bool} (h : b = true) (I J : Item) : cnd b I J = J := by rw [h]; rfl

section
variable {P : Program} {X : FP} {w0 w : World} {L : List Item} {o : Oper} {a : Act} {K : Act → World → Prop} {Q : Exit → Act → World → Prop}
theorem op_val {v : Value} (hrun : (execOp a.eval o).run P w = .ok (.value v) w) (hK : K (a.put o.dst v) w) : o.wp P a w K Q := by
  unfold Oper.wp
  rw [hrun]
  exact hK
theorem op_move {x : Operand} (ho : o.op = .move x ∨ o.op = .assign x) {v : Value} (hx : a.eval x = v) (hK : K (a.put o.dst v) w) : o.wp P a w K Q := by
  subst hx
  refine op_val ?_ hK
  rcases ho with ho | ho <;> simp [execOp, ho]
theorem op_put (ty : TypeId) (x y : Operand) (ho : o.op = .store ty x y) (h : Sep X w0 L w) (i : Nat) {g : Nat} {C : Array Value} {t : TypeId} (e : L[i]? = some (bx g C t)) (j : Nat) (hx : a.eval x = .pointer (some ⟨g, j, none⟩))
    (v : Value) (hy : a.eval y = v) (vs : List Value) (hvs : v.cells.toList = vs) (h1 : vs.all (·.oneCell') = true) (hi : (P.info? ty).map (·.size) = some vs.length) (hj : j + vs.length ≤ C.size)
    (C' : Array Value) (hC : (C.toList.take j ++ vs ++ C.toList.drop (j + vs.length)).toArray = C')
    (hK : ∀ w', Sep X w0 (L.set i (bx g C' t)) w' → K (a.put o.dst undef) w') : o.wp P a w K Q := by
  have hgx := h.get i e
  have hst := run_storeCells_at (P := P) g j t vs 0 C w hgx (by omega) (fun u hu => (List.all_eq_true.1 h1) u hu)
  simp only [Nat.add_zero] at hst
  rw [hC] at hst
  unfold Oper.wp execOp
  cases hq : P.info? ty with
  | none => rw [hq] at hi; cases hi
  | some q =>
    have hs : v.cells.size = q.size := by
      rw [hq] at hi
      have h2 : q.size = vs.length := by simpa using hi
      rw [h2, ← hvs]; simp
    have hsz : ∀ w, (sizeOf ty).run P w = .ok v.cells.size w := fun w => by simp [sizeOf, typeInfo, hq, hs]
    simp only [ho, hx, hy, Instr.storeAt, Instr.sureAddr, storeVar, Sem.run_bind, Sem.run_pure, Result.andThen_ok, hsz, hvs, hst, ne_eq, not_true_eq_false, if_false]
    exact hK _ (h.row i e C')
theorem op_bx (t : TypeId) (x : Operand) (ho : o.op = .box t x) (h : Sep X w0 L w) (C : Array Value) (hx : a.eval x = .agg C)
    (hK : ∀ g w', Sep X w0 (bx g C t :: L) w' → K (a.put o.dst (.pointer (some ⟨g, 0, none⟩))) w') : o.wp P a w K Q := by
  unfold Oper.wp execOp
  simp only [ho, hx, Sem.run_bind, Instr.box, newVar, newRow, run_newObj_alloc, Sem.run_pure, Result.andThen_ok]
  exact hK _ _ (h.alloc _ _)
theorem op_nx (t : TypeId) (ho : o.op = .alloc t) (h : Sep X w0 L w) (C : Array Value) (hz : ∀ w, (zeroValue t).run P w = .ok (.agg C) w)
    (hK : ∀ g w', Sep X w0 (bx g C t :: L) w' → K (a.put o.dst (.pointer (some ⟨g, 0, none⟩))) w') : o.wp P a w K Q := by
  unfold Oper.wp execOp
  simp only [ho, Sem.run_bind, Instr.alloc, hz, newVar, newRow, run_newObj_alloc, Sem.run_pure, Result.andThen_ok]
  exact hK _ _ (h.alloc _ _)
theorem op_nxAt (t : TypeId) (ho : o.op = .alloc t) (h : Sep X w0 L w) (i : Nat) (e : L[i]? = some em) (C : Array Value) (hz : ∀ w, (zeroValue t).run P w = .ok (.agg C) w)
    (hK : ∀ g w', Sep X w0 (L.set i (bx g C t)) w' → K (a.put o.dst (.pointer (some ⟨g, 0, none⟩))) w') : o.wp P a w K Q := by
  unfold Oper.wp execOp
  simp only [ho, Sem.run_bind, Instr.alloc, hz, newVar, newRow, run_newObj_alloc, Sem.run_pure, Result.andThen_ok]
  exact hK _ _ (h.turn i e (Only.of_below ((Below.refl _ _).alloc (Nat.le_refl _) _)) _ (heap_alloc_new _ _) (fun k hk => by
    have hk : k = w.heap.size := hk
    subst hk
    exact ⟨.inr (Nat.le_refl _), by simp⟩))
theorem Sep.drew (h : Sep X w0 L w) : Sep X w0 L w.drew := h.call ((Below.refl _ _).drew)
theorem Sep.ems (h : Sep X w0 L w) (n : Nat) : Sep X w0 (L ++ List.replicate n em) w := by
  refine ⟨h.only, fun i hi => ?_, fun i hi k hk => ?_, List.pairwise_append.2 ⟨h.apart, ?_, fun a _ b hb k _ hk => ?_⟩⟩
  · rcases List.mem_append.1 hi with hi | hi
    · exact h.holds i hi
    · obtain ⟨_, rfl⟩ := List.mem_replicate.1 hi
      exact trivial
  · rcases List.mem_append.1 hi with hi | hi
    · exact h.fresh i hi k hk
    · obtain ⟨_, rfl⟩ := List.mem_replicate.1 hi
      exact absurd hk id
  · rw [List.pairwise_replicate]
    exact .inr (fun k hk => absurd hk id)
  · obtain ⟨_, rfl⟩ := List.mem_replicate.1 hb
    exact absurd hk id
theorem op_call (f : FuncId) (xs : Array Operand) (ats : Array TypeId) (ho : o.op = .call { callee := .value (.func f), args := xs, argTypes := ats }) (hen : ∀ args w, (callFunc f args).run P w = .ok (.enter f args) w)
    (args : Array Value) (hargs : xs.map a.eval = args) {R : Ending → World → Prop} (hc : Calls P f args w R) (hK : ∀ e w', R e w' → ∃ v, e = .returned v ∧ K (a.put o.dst v) w') : o.wp P a w K Q := by
  subst hargs
  have e : execOp a.eval o = callFunc f (#[] ++ xs.map a.eval ++ #[]) := by
    cases o
    simp only at ho
    subst ho
    rfl
  unfold Oper.wp
  rw [e, hen]
  simp only [Oper.upon_enter]
  refine (show Calls P f (#[] ++ xs.map a.eval ++ #[]) w R by simpa using hc).mono fun e w' he => ?_
  obtain ⟨v, rfl, hk⟩ := hK e w' he
  exact hk
theorem run_box (ty : TypeId) (h : Sep X w0 L w) (i : Nat) {g : Nat} {C : Array Value} {t : TypeId} (e : L[i]? = some (bx g C t)) (hu : ∀ w, (isAgg ty).run P w = .ok true w) (hi : (P.info? ty).map (·.size) = some C.size) :
    (loadVar ty ⟨g, 0, none⟩).run P w = .ok (.agg C) w := by
  have hgx := h.get i e
  have hc : ∀ k v, C.toList[k]? = some v → w.cell? ((⟨g, 0, none⟩ : Addr).add k) = some v := fun k v hk => by
    have hadd : (⟨g, 0, none⟩ : Addr).add k = ⟨g, k, none⟩ := by unfold Addr.add; split <;> simp_all
    rw [hadd, cell_of_row _ _ k _ _ _ hgx]
    simpa using hk
  have hl := run_loadCells_list (P := P) w ⟨g, 0, none⟩ C.toList hc
  cases hq : P.info? ty with
  | none => rw [hq] at hi; cases hi
  | some q =>
    have hs : q.size = C.toList.length := by rw [hq] at hi; simpa using hi
    have hsz : ∀ w, (sizeOf ty).run P w = .ok C.toList.length w := fun w => by simp [sizeOf, typeInfo, hq, hs]
    simp only [loadVar, Sem.run_bind, Sem.run_pure, Result.andThen_ok, hu, if_true, hsz, hl]
theorem op_row (ty : TypeId) (x : Operand) (ho : o.op = .load ty x) (h : Sep X w0 L w) (i : Nat) {g : Nat} {C : Array Value} {t : TypeId} (e : L[i]? = some (bx g C t)) (hx : a.eval x = .pointer (some ⟨g, 0, none⟩))
    (hu : ∀ w, (isAgg ty).run P w = .ok true w) (hi : (P.info? ty).map (·.size) = some C.size) (hK : K (a.put o.dst (.agg C)) w) : o.wp P a w K Q := by
  unfold Oper.wp execOp
  simp only [ho, hx, Instr.loadAt, Instr.sureAddr, Sem.run_bind, Sem.run_pure, Result.andThen_ok, run_box ty h i e hu hi]
  exact hK
theorem op_putR (ty : TypeId) (x y : Operand) (ho : o.op = .store ty x y) (h : Sep X w0 L w) (i : Nat) {g : Nat} {C : Array Value} {t : TypeId} (e : L[i]? = some (bx g C t)) (hx : a.eval x = .pointer (some ⟨g, 0, none⟩))
    (C' : Array Value) (hy : a.eval y = .agg C') (h1 : C'.toList.all (·.oneCell') = true) (hi : (P.info? ty).map (·.size) = some C'.size) (hj : C'.size = C.size)
    (hK : ∀ w', Sep X w0 (L.set i (bx g C' t)) w' → K (a.put o.dst undef) w') : o.wp P a w K Q := by
  refine op_put ty x y ho h i e 0 hx (.agg C') hy C'.toList rfl h1 (by simpa using hi) (by simp [hj]) C' ?_ hK
  apply Array.ext'
  simp [hj]
theorem wpList_op {ops : Array Oper} {rest : List Oper} (hw : Region.wanted o (yielded ops a.tmps) = true) (h : o.wp P a w (fun a' w' => wpList P ops Q rest a' w') Q) : wpList P ops Q (o :: rest) a w := by
  unfold wpList
  rw [if_pos hw]
  exact .inl h

end
end Go.Proofs.Ytjookicpmjmdhaa
