/- The laws of Sp at an operation alone (for regions that draw their order). -/
import Derived.Test.YtjookicpmjmdhaaQ13
open Go.Value renaming int → jI, slice → jS
open Go.IntKind renaming i64 → jZ
namespace Go.Proofs.Ytjookicpmjmdhaa
open Go.RowKit

def cnd (b : Bool) (I J : Item) : Item := if b then J else I
def em : Item := ⟨fun _ => False, fun _ => True, fun _ _ _ _ => trivial⟩
theorem cnd_f {b : Bool} (h : b = false) (I J : Item) : cnd b I J = I := by rw [h]; rfl
theorem cnd_t {b : Bool} (h : b = true) (I J : Item) : cnd b I J = J := by rw [h]; rfl

theorem eval_const (a : Act) (v : Value) : a.eval (.const v) = v := rfl

section
variable {P : Program} {X : FP} {w0 w : World} {L : List Item} {o : Oper} {a : Act} {K : Act → World → Prop} {Q : Exit → Act → World → Prop}
theorem op_val {v : Value} (hrun : (execOp a.eval o).run P w = .ok (.value v) w) (hK : K (a.put o.dst v) w) : o.wp P a w K Q := by
 unfold Oper.wp
 rw [hrun]
 exact hK
theorem op_move {x : Operand} (ho : o.op = .move x ∨ o.op = .assign x) {v : Value} (hx : a.eval x = v) (hK : K (a.put o.dst v) w) : o.wp P a w K Q := by
 subst hx
 refine op_val ?_ hK
 rcases ho with ho | ho <;> simp [execOp, ho]
theorem op_get (ty : TypeId) (x : Operand) (ho : o.op = .load ty x) (h : Sep X w0 L w) (i : Nat) {g : Nat} {C : Array Value} {t : TypeId} (e : L[i]? = some (bx g C t)) (j : Nat) (hx : a.eval x = .pointer (some ⟨g, j, none⟩))
   (hu : ∀ w, (isAgg ty).run P w = .ok false w) (v : Value) (hv : C[j]? = some v) (hK : K (a.put o.dst v) w) : o.wp P a w K Q := by
 have hc : w.cell? ⟨g, j, none⟩ = some v := by rw [cell_of_row _ _ j _ _ _ (h.get i e)]; exact hv
 unfold Oper.wp execOp
 simp only [ho, hx, Instr.loadAt, Instr.sureAddr, loadVar, Sem.run_bind, Sem.run_pure, Result.andThen_ok, hu, Bool.false_eq_true, if_false, run_load, hc]
 exact hK
theorem op_getK (ty : TypeId) (x : Operand) (ho : o.op = .load ty x) (h : Sep X w0 L w) (i : Nat) {g : Nat} {C : Array Value} {t : TypeId} (e : L[i]? = some (bx g C t)) (j : Nat) (hx : a.eval x = .pointer (some ⟨g, j, none⟩))
   (hu : ∀ w, (isAgg ty).run P w = .ok true w) (vs : List Value) (hv : (C.toList.drop j).take vs.length = vs) (hi : (P.info? ty).map (·.size) = some vs.length) (hK : K (a.put o.dst (.agg vs.toArray)) w) : o.wp P a w K Q := by
 have hgx := h.get i e
 have hc : ∀ k v, vs[k]? = some v → w.cell? ((⟨g, j, none⟩ : Addr).add k) = some v := fun k v hk => by
   have hadd : (⟨g, j, none⟩ : Addr).add k = ⟨g, j + k, none⟩ := by unfold Addr.add; split <;> simp_all
   have hkl : k < vs.length := (List.getElem?_eq_some_iff.1 hk).1
   rw [hadd, cell_of_row _ _ (j + k) _ _ _ hgx]
   rw [← hv, List.getElem?_take_of_lt hkl, List.getElem?_drop] at hk
   simpa using hk
 have hl := run_loadCells_list (P := P) w ⟨g, j, none⟩ vs hc
 unfold Oper.wp execOp
 cases hq : P.info? ty with
 | none => rw [hq] at hi; cases hi
 | some q =>
   have hs : q.size = vs.length := by rw [hq] at hi; simpa using hi
   have hsz : ∀ w, (sizeOf ty).run P w = .ok vs.length w := fun w => by simp [sizeOf, typeInfo, hq, hs]
   simp only [ho, hx, Instr.loadAt, Instr.sureAddr, loadVar, Sem.run_bind, Sem.run_pure, Result.andThen_ok, hu, if_true, hsz, hl]
   exact hK
theorem op_put (ty : TypeId) (x y : Operand) (ho : o.op = .store ty x y) (h : Sep X w0 L w) (i : Nat) {g : Nat} {C : Array Value} {t : TypeId} (e : L[i]? = some (bx g C t)) (j : Nat) (hx : a.eval x = .pointer (some ⟨g, j, none⟩))
   (v : Value) (hy : a.eval y = v) (vs : List Value) (hvs : v.cells.toList = vs) (h1 : vs.all (·.oneCell') = true) (hi : (P.info? ty).map (·.size) = some vs.length) (hj : j + vs.length ≤ C.size)
   (C' : Array Value) (hC : (C.toList.take j ++ vs ++ C.toList.drop (j + vs.length)).toArray = C')
   (hK : ∀ w', Sep X w0 (L.set i (bx g C' t)) w' → K (a.put o.dst undef) w') : o.wp P a w K Q := by
 have hgx := h.get i e
 have hst := run_storeCells_at (P := P) g j t vs 0 C w hgx (by omega) (fun u hu => (List.all_eq_true.1 h1) u hu)
 simp only [Nat.add_zero] at hst
 rw [hC] at hst
 unfold Oper.wp execOp
 cases hq : P.info? ty with
 | none => rw [hq] at hi; cases hi
 | some q =>
   have hs : v.cells.size = q.size := by
     rw [hq] at hi
     have h2 : q.size = vs.length := by simpa using hi
     rw [h2, ← hvs]; simp
   have hsz : ∀ w, (sizeOf ty).run P w = .ok v.cells.size w := fun w => by simp [sizeOf, typeInfo, hq, hs]
   simp only [ho, hx, hy, Instr.storeAt, Instr.sureAddr, storeVar, Sem.run_bind, Sem.run_pure, Result.andThen_ok, hsz, hvs, hst, ne_eq, not_true_eq_false, if_false]
   exact hK _ (h.row i e C')
theorem op_bx (t : TypeId) (x : Operand) (ho : o.op = .box t x) (h : Sep X w0 L w) (C : Array Value) (hx : a.eval x = .agg C)
   (hK : ∀ g w', Sep X w0 (bx g C t :: L) w' → K (a.put o.dst (.pointer (some ⟨g, 0, none⟩))) w') : o.wp P a w K Q := by
 unfold Oper.wp execOp
 simp only [ho, hx, Sem.run_bind, Instr.box, newVar, newRow, run_newObj_alloc, Sem.run_pure, Result.andThen_ok]
 exact hK _ _ (h.alloc _ _)
theorem op_nx (t : TypeId) (ho : o.op = .alloc t) (h : Sep X w0 L w) (C : Array Value) (hz : ∀ w, (zeroValue t).run P w = .ok (.agg C) w)
   (hK : ∀ g w', Sep X w0 (bx g C t :: L) w' → K (a.put o.dst (.pointer (some ⟨g, 0, none⟩))) w') : o.wp P a w K Q := by
 unfold Oper.wp execOp
 simp only [ho, Sem.run_bind, Instr.alloc, hz, newVar, newRow, run_newObj_alloc, Sem.run_pure, Result.andThen_ok]
 exact hK _ _ (h.alloc _ _)
theorem op_nxAt (t : TypeId) (ho : o.op = .alloc t) (h : Sep X w0 L w) (i : Nat) (e : L[i]? = some em) (C : Array Value) (hz : ∀ w, (zeroValue t).run P w = .ok (.agg C) w)
   (hK : ∀ g w', Sep X w0 (L.set i (bx g C t)) w' → K (a.put o.dst (.pointer (some ⟨g, 0, none⟩))) w') : o.wp P a w K Q := by
 unfold Oper.wp execOp
 simp only [ho, Sem.run_bind, Instr.alloc, hz, newVar, newRow, run_newObj_alloc, Sem.run_pure, Result.andThen_ok]
 exact hK _ _ (h.turn i e (Only.of_below ((Below.refl _ _).alloc (Nat.le_refl _) _)) _ (heap_alloc_new _ _) (fun k hk => by
   have hk : k = w.heap.size := hk
   subst hk
   exact ⟨.inr (Nat.le_refl _), by simp⟩))
theorem Sep.drew (h : Sep X w0 L w) : Sep X w0 L w.drew := h.call ((Below.refl _ _).drew)
theorem Sep.ems (h : Sep X w0 L w) (n : Nat) : Sep X w0 (L ++ List.replicate n em) w := by
 refine ⟨h.only, fun i hi => ?_, fun i hi k hk => ?_, List.pairwise_append.2 ⟨h.apart, ?_, fun a _ b hb k _ hk => ?_⟩⟩
 · rcases List.mem_append.1 hi with hi | hi
   · exact h.holds i hi
   · obtain ⟨_, rfl⟩ := List.mem_replicate.1 hi
     exact trivial
 · rcases List.mem_append.1 hi with hi | hi
   · exact h.fresh i hi k hk
   · obtain ⟨_, rfl⟩ := List.mem_replicate.1 hi
     exact absurd hk id
 · rw [List.pairwise_replicate]
   exact .inr (fun k hk => absurd hk id)
 · obtain ⟨_, rfl⟩ := List.mem_replicate.1 hb
   exact absurd hk id
theorem op_call (f : FuncId) (xs : Array Operand) (ats : Array TypeId) (ho : o.op = .call { callee := .value (.func f), args := xs, argTypes := ats }) (hen : ∀ args w, (callFunc f args).run P w = .ok (.enter f args) w)
   (args : Array Value) (hargs : xs.map a.eval = args) {R : Ending → World → Prop} (hc : Calls P f args w R) (hK : ∀ e w', R e w' → ∃ v, e = .returned v ∧ K (a.put o.dst v) w') : o.wp P a w K Q := by
 subst hargs
 have e : execOp a.eval o = callFunc f (#[] ++ xs.map a.eval ++ #[]) := by
   cases o
   simp only at ho
   subst ho
   rfl
 unfold Oper.wp
 rw [e, hen]
 simp only [Oper.upon_enter]
 refine (show Calls P f (#[] ++ xs.map a.eval ++ #[]) w R by simpa using hc).mono fun e w' he => ?_
 obtain ⟨v, rfl, hk⟩ := hK e w' he
 exact hk
theorem run_box (ty : TypeId) (h : Sep X w0 L w) (i : Nat) {g : Nat} {C : Array Value} {t : TypeId} (e : L[i]? = some (bx g C t)) (hu : ∀ w, (isAgg ty).run P w = .ok true w) (hi : (P.info? ty).map (·.size) = some C.size) :
   (loadVar ty ⟨g, 0, none⟩).run P w = .ok (.agg C) w := by
 have hgx := h.get i e
 have hc : ∀ k v, C.toList[k]? = some v → w.cell? ((⟨g, 0, none⟩ : Addr).add k) = some v := fun k v hk => by
   have hadd : (⟨g, 0, none⟩ : Addr).add k = ⟨g, k, none⟩ := by unfold Addr.add; split <;> simp_all
   rw [hadd, cell_of_row _ _ k _ _ _ hgx]
   simpa using hk
 have hl := run_loadCells_list (P := P) w ⟨g, 0, none⟩ C.toList hc
 cases hq : P.info? ty with
 | none => rw [hq] at hi; cases hi
 | some q =>
   have hs : q.size = C.toList.length := by rw [hq] at hi; simpa using hi
   have hsz : ∀ w, (sizeOf ty).run P w = .ok C.toList.length w := fun w => by simp [sizeOf, typeInfo, hq, hs]
   simp only [loadVar, Sem.run_bind, Sem.run_pure, Result.andThen_ok, hu, if_true, hsz, hl]
theorem op_row (ty : TypeId) (x : Operand) (ho : o.op = .load ty x) (h : Sep X w0 L w) (i : Nat) {g : Nat} {C : Array Value} {t : TypeId} (e : L[i]? = some (bx g C t)) (hx : a.eval x = .pointer (some ⟨g, 0, none⟩))
   (hu : ∀ w, (isAgg ty).run P w = .ok true w) (hi : (P.info? ty).map (·.size) = some C.size) (hK : K (a.put o.dst (.agg C)) w) : o.wp P a w K Q := by
 unfold Oper.wp execOp
 simp only [ho, hx, Instr.loadAt, Instr.sureAddr, Sem.run_bind, Sem.run_pure, Result.andThen_ok, run_box ty h i e hu hi]
 exact hK
theorem op_put1 (ty : TypeId) (x y : Operand) (ho : o.op = .store ty x y) (h : Sep X w0 L w) (i : Nat) {g : Nat} {C : Array Value} {t : TypeId} (e : L[i]? = some (bx g C t)) (j : Nat) (hx : a.eval x = .pointer (some ⟨g, j, none⟩))
   (v : Value) (hy : a.eval y = v) (h1 : v.oneCell' = true) (hi : (P.info? ty).map (·.size) = some 1) (hj : j < C.size)
   (hK : ∀ w', Sep X w0 (L.set i (bx g (C.setIfInBounds j v) t)) w' → K (a.put o.dst undef) w') : o.wp P a w K Q := by
 refine op_put ty x y ho h i e j hx v hy [v] ?_ (by simp [h1]) hi (by simpa using (show j + 1 ≤ C.size from hj)) (C.setIfInBounds j v) ?_ hK
 · cases v <;> first | rfl | (simp [Value.oneCell'] at h1)
 · apply Array.ext'
   simp only [Array.toList_setIfInBounds, List.length_cons, List.length_nil]
   rw [List.set_eq_take_append_cons_drop, if_pos (by simpa using hj)]
   simp
theorem op_putR (ty : TypeId) (x y : Operand) (ho : o.op = .store ty x y) (h : Sep X w0 L w) (i : Nat) {g : Nat} {C : Array Value} {t : TypeId} (e : L[i]? = some (bx g C t)) (hx : a.eval x = .pointer (some ⟨g, 0, none⟩))
   (C' : Array Value) (hy : a.eval y = .agg C') (h1 : C'.toList.all (·.oneCell') = true) (hi : (P.info? ty).map (·.size) = some C'.size) (hj : C'.size = C.size)
   (hK : ∀ w', Sep X w0 (L.set i (bx g C' t)) w' → K (a.put o.dst undef) w') : o.wp P a w K Q := by
 refine op_put ty x y ho h i e 0 hx (.agg C') hy C'.toList rfl h1 (by simpa using hi) (by simp [hj]) C' ?_ hK
 apply Array.ext'
 simp [hj]
theorem wpList_op {ops : Array Oper} {rest : List Oper} (hw : Region.wanted o (yielded ops a.tmps) = true) (h : o.wp P a w (fun a' w' => wpList P ops Q rest a' w') Q) : wpList P ops Q (o :: rest) a w := by
 unfold wpList
 rw [if_pos hw]
 exact .inl h

theorem results_ccs {fn : Func} {p q u : Tmp} {t1 t2 : TypeId} (hf : fn.results = #[.cell p t1, .cell q t2, .tmp u]) (tmps : Array Value) (h : Sep X w0 L w) (i j : Nat) {g1 g2 : Nat} {C1 C2 : Array Value} {T1 T2 : TypeId}
   (e1 : L[i]? = some (bx g1 C1 T1)) (e2 : L[j]? = some (bx g2 C2 T2)) (hp : tmps.getD p undef = .pointer (some ⟨g1, 0, none⟩)) (hq : tmps.getD q undef = .pointer (some ⟨g2, 0, none⟩))
   (hu1 : ∀ w, (isAgg t1).run P w = .ok true w) (hu2 : ∀ w, (isAgg t2).run P w = .ok true w) (hi1 : (P.info? t1).map (·.size) = some C1.size) (hi2 : (P.info? t2).map (·.size) = some C2.size) :
   (results fn tmps).run P w = .ok (.tuple #[.agg C1, .agg C2, tmps.getD u undef]) w := by
 have hp' : tmps[p]?.getD undef = .pointer (some ⟨g1, 0, none⟩) := by simpa using hp
 have hq' : tmps[q]?.getD undef = .pointer (some ⟨g2, 0, none⟩) := by simpa using hq
 simp [results, hf, hp', hq', asAddr, run_box t1 h i e1 hu1 hi1, run_box t2 h j e2 hu2 hi2]
theorem results_c {fn : Func} {p : Tmp} {t1 : TypeId} (hf : fn.results = #[.cell p t1]) (tmps : Array Value) (h : Sep X w0 L w) (i : Nat) {g1 : Nat} {C1 : Array Value} {T1 : TypeId}
   (e1 : L[i]? = some (bx g1 C1 T1)) (hp : tmps.getD p undef = .pointer (some ⟨g1, 0, none⟩)) (hu1 : ∀ w, (isAgg t1).run P w = .ok true w) (hi1 : (P.info? t1).map (·.size) = some C1.size) :
   (results fn tmps).run P w = .ok (.agg C1) w := by
 have hp' : tmps[p]?.getD undef = .pointer (some ⟨g1, 0, none⟩) := by simpa using hp
 simp [results, hf, hp', asAddr, run_box t1 h i e1 hu1 hi1]
theorem results_cs {fn : Func} {p u : Tmp} {t1 : TypeId} (hf : fn.results = #[.cell p t1, .tmp u]) (tmps : Array Value) (h : Sep X w0 L w) (i : Nat) {g1 : Nat} {C1 : Array Value} {T1 : TypeId}
   (e1 : L[i]? = some (bx g1 C1 T1)) (hp : tmps.getD p undef = .pointer (some ⟨g1, 0, none⟩)) (hu1 : ∀ w, (isAgg t1).run P w = .ok true w) (hi1 : (P.info? t1).map (·.size) = some C1.size) :
   (results fn tmps).run P w = .ok (.tuple #[.agg C1, tmps.getD u undef]) w := by
 have hp' : tmps[p]?.getD undef = .pointer (some ⟨g1, 0, none⟩) := by simpa using hp
 simp [results, hf, hp', asAddr, run_box t1 h i e1 hu1 hi1]
theorem results_cc {fn : Func} {p q : Tmp} {t1 t2 : TypeId} (hf : fn.results = #[.cell p t1, .cell q t2]) (tmps : Array Value) (h : Sep X w0 L w) (i j : Nat) {g1 g2 : Nat} {C1 C2 : Array Value} {T1 T2 : TypeId}
   (e1 : L[i]? = some (bx g1 C1 T1)) (e2 : L[j]? = some (bx g2 C2 T2)) (hp : tmps.getD p undef = .pointer (some ⟨g1, 0, none⟩)) (hq : tmps.getD q undef = .pointer (some ⟨g2, 0, none⟩))
   (hu1 : ∀ w, (isAgg t1).run P w = .ok true w) (hu2 : ∀ w, (isAgg t2).run P w = .ok true w) (hi1 : (P.info? t1).map (·.size) = some C1.size) (hi2 : (P.info? t2).map (·.size) = some C2.size) :
   (results fn tmps).run P w = .ok (.tuple #[.agg C1, .agg C2]) w := by
 have hp' : tmps[p]?.getD undef = .pointer (some ⟨g1, 0, none⟩) := by simpa using hp
 have hq' : tmps[q]?.getD undef = .pointer (some ⟨g2, 0, none⟩) := by simpa using hq
 simp [results, hf, hp', hq', asAddr, run_box t1 h i e1 hu1 hi1, run_box t2 h j e2 hu2 hi2]
end
end Go.Proofs.Ytjookicpmjmdhaa
namespace Go.Proofs.Ytjookicpmjmdhaa
open Go.RowKit
section
variable {P : Program} {X : FP} {w0 w w' : World} {L : List Item} {o : Oper} {a : Act} {K : Act → World → Prop} {Q : Exit → Act → World → Prop} {I0 I1 I2 I3 I4 I5 I6 I7 : Item}
theorem op_putR_0 (ty : TypeId) (x y : Operand) (ho : o.op = .store ty x y) {g : Nat} {C : Array Value} {t : TypeId} (h : Hid (Sep X w0 (bx g C t :: L) w)) (hx : a.eval x = .pointer (some ⟨g, 0, none⟩))
   (C' : Array Value) (hy : a.eval y = .agg C') (h1 : C'.toList.all (·.oneCell') = true) (hi : (P.info? ty).map (·.size) = some C'.size) (hj : C'.size = C.size)
   (hK : ∀ w', Hid (Sep X w0 (bx g C' t :: L) w') → K (a.put o.dst undef) w') : o.wp P a w K Q := op_putR ty x y ho h.out 0 rfl hx C' hy h1 hi hj (fun w' h' => hK w' (Lib.hid h'))
theorem op_put1_0 (ty : TypeId) (x y : Operand) (ho : o.op = .store ty x y) {g : Nat} {C : Array Value} {t : TypeId} (h : Hid (Sep X w0 (bx g C t :: L) w)) (j : Nat) (hx : a.eval x = .pointer (some ⟨g, j, none⟩))
   (v : Value) (hy : a.eval y = v) (h1 : v.oneCell' = true) (hi : (P.info? ty).map (·.size) = some 1) (hj : j < C.size)
   (hK : ∀ w', Hid (Sep X w0 (bx g (C.setIfInBounds j v) t :: L) w') → K (a.put o.dst undef) w') : o.wp P a w K Q := op_put1 ty x y ho h.out 0 rfl j hx v hy h1 hi hj (fun w' h' => hK w' (Lib.hid h'))
theorem op_putR_1 (ty : TypeId) (x y : Operand) (ho : o.op = .store ty x y) {g : Nat} {C : Array Value} {t : TypeId} (h : Hid (Sep X w0 (I0 :: bx g C t :: L) w)) (hx : a.eval x = .pointer (some ⟨g, 0, none⟩))
   (C' : Array Value) (hy : a.eval y = .agg C') (h1 : C'.toList.all (·.oneCell') = true) (hi : (P.info? ty).map (·.size) = some C'.size) (hj : C'.size = C.size)
   (hK : ∀ w', Hid (Sep X w0 (I0 :: bx g C' t :: L) w') → K (a.put o.dst undef) w') : o.wp P a w K Q := op_putR ty x y ho h.out 1 rfl hx C' hy h1 hi hj (fun w' h' => hK w' (Lib.hid h'))
theorem op_put1_1 (ty : TypeId) (x y : Operand) (ho : o.op = .store ty x y) {g : Nat} {C : Array Value} {t : TypeId} (h : Hid (Sep X w0 (I0 :: bx g C t :: L) w)) (j : Nat) (hx : a.eval x = .pointer (some ⟨g, j, none⟩))
   (v : Value) (hy : a.eval y = v) (h1 : v.oneCell' = true) (hi : (P.info? ty).map (·.size) = some 1) (hj : j < C.size)
   (hK : ∀ w', Hid (Sep X w0 (I0 :: bx g (C.setIfInBounds j v) t :: L) w') → K (a.put o.dst undef) w') : o.wp P a w K Q := op_put1 ty x y ho h.out 1 rfl j hx v hy h1 hi hj (fun w' h' => hK w' (Lib.hid h'))
theorem op_putR_2 (ty : TypeId) (x y : Operand) (ho : o.op = .store ty x y) {g : Nat} {C : Array Value} {t : TypeId} (h : Hid (Sep X w0 (I0 :: I1 :: bx g C t :: L) w)) (hx : a.eval x = .pointer (some ⟨g, 0, none⟩))
   (C' : Array Value) (hy : a.eval y = .agg C') (h1 : C'.toList.all (·.oneCell') = true) (hi : (P.info? ty).map (·.size) = some C'.size) (hj : C'.size = C.size)
   (hK : ∀ w', Hid (Sep X w0 (I0 :: I1 :: bx g C' t :: L) w') → K (a.put o.dst undef) w') : o.wp P a w K Q := op_putR ty x y ho h.out 2 rfl hx C' hy h1 hi hj (fun w' h' => hK w' (Lib.hid h'))
theorem op_put1_2 (ty : TypeId) (x y : Operand) (ho : o.op = .store ty x y) {g : Nat} {C : Array Value} {t : TypeId} (h : Hid (Sep X w0 (I0 :: I1 :: bx g C t :: L) w)) (j : Nat) (hx : a.eval x = .pointer (some ⟨g, j, none⟩))
   (v : Value) (hy : a.eval y = v) (h1 : v.oneCell' = true) (hi : (P.info? ty).map (·.size) = some 1) (hj : j < C.size)
   (hK : ∀ w', Hid (Sep X w0 (I0 :: I1 :: bx g (C.setIfInBounds j v) t :: L) w') → K (a.put o.dst undef) w') : o.wp P a w K Q := op_put1 ty x y ho h.out 2 rfl j hx v hy h1 hi hj (fun w' h' => hK w' (Lib.hid h'))
theorem op_putR_3 (ty : TypeId) (x y : Operand) (ho : o.op = .store ty x y) {g : Nat} {C : Array Value} {t : TypeId} (h : Hid (Sep X w0 (I0 :: I1 :: I2 :: bx g C t :: L) w)) (hx : a.eval x = .pointer (some ⟨g, 0, none⟩))
   (C' : Array Value) (hy : a.eval y = .agg C') (h1 : C'.toList.all (·.oneCell') = true) (hi : (P.info? ty).map (·.size) = some C'.size) (hj : C'.size = C.size)
   (hK : ∀ w', Hid (Sep X w0 (I0 :: I1 :: I2 :: bx g C' t :: L) w') → K (a.put o.dst undef) w') : o.wp P a w K Q := op_putR ty x y ho h.out 3 rfl hx C' hy h1 hi hj (fun w' h' => hK w' (Lib.hid h'))
theorem op_put1_3 (ty : TypeId) (x y : Operand) (ho : o.op = .store ty x y) {g : Nat} {C : Array Value} {t : TypeId} (h : Hid (Sep X w0 (I0 :: I1 :: I2 :: bx g C t :: L) w)) (j : Nat) (hx : a.eval x = .pointer (some ⟨g, j, none⟩))
   (v : Value) (hy : a.eval y = v) (h1 : v.oneCell' = true) (hi : (P.info? ty).map (·.size) = some 1) (hj : j < C.size)
   (hK : ∀ w', Hid (Sep X w0 (I0 :: I1 :: I2 :: bx g (C.setIfInBounds j v) t :: L) w') → K (a.put o.dst undef) w') : o.wp P a w K Q := op_put1 ty x y ho h.out 3 rfl j hx v hy h1 hi hj (fun w' h' => hK w' (Lib.hid h'))
theorem op_putR_4 (ty : TypeId) (x y : Operand) (ho : o.op = .store ty x y) {g : Nat} {C : Array Value} {t : TypeId} (h : Hid (Sep X w0 (I0 :: I1 :: I2 :: I3 :: bx g C t :: L) w)) (hx : a.eval x = .pointer (some ⟨g, 0, none⟩))
   (C' : Array Value) (hy : a.eval y = .agg C') (h1 : C'.toList.all (·.oneCell') = true) (hi : (P.info? ty).map (·.size) = some C'.size) (hj : C'.size = C.size)
   (hK : ∀ w', Hid (Sep X w0 (I0 :: I1 :: I2 :: I3 :: bx g C' t :: L) w') → K (a.put o.dst undef) w') : o.wp P a w K Q := op_putR ty x y ho h.out 4 rfl hx C' hy h1 hi hj (fun w' h' => hK w' (Lib.hid h'))
theorem op_put1_4 (ty : TypeId) (x y : Operand) (ho : o.op = .store ty x y) {g : Nat} {C : Array Value} {t : TypeId} (h : Hid (Sep X w0 (I0 :: I1 :: I2 :: I3 :: bx g C t :: L) w)) (j : Nat) (hx : a.eval x = .pointer (some ⟨g, j, none⟩))
   (v : Value) (hy : a.eval y = v) (h1 : v.oneCell' = true) (hi : (P.info? ty).map (·.size) = some 1) (hj : j < C.size)
   (hK : ∀ w', Hid (Sep X w0 (I0 :: I1 :: I2 :: I3 :: bx g (C.setIfInBounds j v) t :: L) w') → K (a.put o.dst undef) w') : o.wp P a w K Q := op_put1 ty x y ho h.out 4 rfl j hx v hy h1 hi hj (fun w' h' => hK w' (Lib.hid h'))
theorem op_putR_5 (ty : TypeId) (x y : Operand) (ho : o.op = .store ty x y) {g : Nat} {C : Array Value} {t : TypeId} (h : Hid (Sep X w0 (I0 :: I1 :: I2 :: I3 :: I4 :: bx g C t :: L) w)) (hx : a.eval x = .pointer (some ⟨g, 0, none⟩))
   (C' : Array Value) (hy : a.eval y = .agg C') (h1 : C'.toList.all (·.oneCell') = true) (hi : (P.info? ty).map (·.size) = some C'.size) (hj : C'.size = C.size)
   (hK : ∀ w', Hid (Sep X w0 (I0 :: I1 :: I2 :: I3 :: I4 :: bx g C' t :: L) w') → K (a.put o.dst undef) w') : o.wp P a w K Q := op_putR ty x y ho h.out 5 rfl hx C' hy h1 hi hj (fun w' h' => hK w' (Lib.hid h'))
theorem op_put1_5 (ty : TypeId) (x y : Operand) (ho : o.op = .store ty x y) {g : Nat} {C : Array Value} {t : TypeId} (h : Hid (Sep X w0 (I0 :: I1 :: I2 :: I3 :: I4 :: bx g C t :: L) w)) (j : Nat) (hx : a.eval x = .pointer (some ⟨g, j, none⟩))
   (v : Value) (hy : a.eval y = v) (h1 : v.oneCell' = true) (hi : (P.info? ty).map (·.size) = some 1) (hj : j < C.size)
   (hK : ∀ w', Hid (Sep X w0 (I0 :: I1 :: I2 :: I3 :: I4 :: bx g (C.setIfInBounds j v) t :: L) w') → K (a.put o.dst undef) w') : o.wp P a w K Q := op_put1 ty x y ho h.out 5 rfl j hx v hy h1 hi hj (fun w' h' => hK w' (Lib.hid h'))
theorem op_putR_6 (ty : TypeId) (x y : Operand) (ho : o.op = .store ty x y) {g : Nat} {C : Array Value} {t : TypeId} (h : Hid (Sep X w0 (I0 :: I1 :: I2 :: I3 :: I4 :: I5 :: bx g C t :: L) w)) (hx : a.eval x = .pointer (some ⟨g, 0, none⟩))
   (C' : Array Value) (hy : a.eval y = .agg C') (h1 : C'.toList.all (·.oneCell') = true) (hi : (P.info? ty).map (·.size) = some C'.size) (hj : C'.size = C.size)
   (hK : ∀ w', Hid (Sep X w0 (I0 :: I1 :: I2 :: I3 :: I4 :: I5 :: bx g C' t :: L) w') → K (a.put o.dst undef) w') : o.wp P a w K Q := op_putR ty x y ho h.out 6 rfl hx C' hy h1 hi hj (fun w' h' => hK w' (Lib.hid h'))
theorem op_put1_6 (ty : TypeId) (x y : Operand) (ho : o.op = .store ty x y) {g : Nat} {C : Array Value} {t : TypeId} (h : Hid (Sep X w0 (I0 :: I1 :: I2 :: I3 :: I4 :: I5 :: bx g C t :: L) w)) (j : Nat) (hx : a.eval x = .pointer (some ⟨g, j, none⟩))
   (v : Value) (hy : a.eval y = v) (h1 : v.oneCell' = true) (hi : (P.info? ty).map (·.size) = some 1) (hj : j < C.size)
   (hK : ∀ w', Hid (Sep X w0 (I0 :: I1 :: I2 :: I3 :: I4 :: I5 :: bx g (C.setIfInBounds j v) t :: L) w') → K (a.put o.dst undef) w') : o.wp P a w K Q := op_put1 ty x y ho h.out 6 rfl j hx v hy h1 hi hj (fun w' h' => hK w' (Lib.hid h'))
theorem op_putR_7 (ty : TypeId) (x y : Operand) (ho : o.op = .store ty x y) {g : Nat} {C : Array Value} {t : TypeId} (h : Hid (Sep X w0 (I0 :: I1 :: I2 :: I3 :: I4 :: I5 :: I6 :: bx g C t :: L) w)) (hx : a.eval x = .pointer (some ⟨g, 0, none⟩))
   (C' : Array Value) (hy : a.eval y = .agg C') (h1 : C'.toList.all (·.oneCell') = true) (hi : (P.info? ty).map (·.size) = some C'.size) (hj : C'.size = C.size)
   (hK : ∀ w', Hid (Sep X w0 (I0 :: I1 :: I2 :: I3 :: I4 :: I5 :: I6 :: bx g C' t :: L) w') → K (a.put o.dst undef) w') : o.wp P a w K Q := op_putR ty x y ho h.out 7 rfl hx C' hy h1 hi hj (fun w' h' => hK w' (Lib.hid h'))
theorem op_put1_7 (ty : TypeId) (x y : Operand) (ho : o.op = .store ty x y) {g : Nat} {C : Array Value} {t : TypeId} (h : Hid (Sep X w0 (I0 :: I1 :: I2 :: I3 :: I4 :: I5 :: I6 :: bx g C t :: L) w)) (j : Nat) (hx : a.eval x = .pointer (some ⟨g, j, none⟩))
   (v : Value) (hy : a.eval y = v) (h1 : v.oneCell' = true) (hi : (P.info? ty).map (·.size) = some 1) (hj : j < C.size)
   (hK : ∀ w', Hid (Sep X w0 (I0 :: I1 :: I2 :: I3 :: I4 :: I5 :: I6 :: bx g (C.setIfInBounds j v) t :: L) w') → K (a.put o.dst undef) w') : o.wp P a w K Q := op_put1 ty x y ho h.out 7 rfl j hx v hy h1 hi hj (fun w' h' => hK w' (Lib.hid h'))
end
section
variable {P : Program} {X : FP} {w0 w : World} {L : List Item} {ops : Array Oper} {rest : List Oper} {o : Oper} {a : Act} {Q : Exit → Act → World → Prop}
theorem bx_ (t : TypeId) (h : Hid (Sep X w0 L w)) {x : Operand} {C : Array Value} (hw : Region.wanted o (yielded ops a.tmps) = true) (ho : o.op = .box t x) (hx : a.eval x = .agg C)
 (hK : ∀ g w', Hid (Sep X w0 (bx g C t :: L) w') → wpList P ops Q rest (a.put o.dst (.pointer (some ⟨g, 0, none⟩))) w') : wpList P ops Q (o :: rest) a w := wpList_op hw (op_bx t x ho h.out C hx fun g w' S => hK g w' (Lib.hid S))
theorem nx_ (t : TypeId) (h : Hid (Sep X w0 L w)) {C : Array Value} (hw : Region.wanted o (yielded ops a.tmps) = true) (ho : o.op = .alloc t) (hz : ∀ w, (zeroValue t).run P w = .ok (.agg C) w)
 (hK : ∀ g w', Hid (Sep X w0 (bx g C t :: L) w') → wpList P ops Q rest (a.put o.dst (.pointer (some ⟨g, 0, none⟩))) w') : wpList P ops Q (o :: rest) a w := wpList_op hw (op_nx t ho h.out C hz fun g w' S => hK g w' (Lib.hid S))
end
end Go.Proofs.Ytjookicpmjmdhaa
