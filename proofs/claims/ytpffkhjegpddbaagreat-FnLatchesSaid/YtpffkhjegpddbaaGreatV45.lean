/- More laws at one operation: a pointer that is asked whether it is nil, a sum, a cursor's bytes; three items at places that wait. -/
import Derived.Test.YtpffkhjegpddbaaGreatV26
import Derived.Test.YtpffkhjegpddbaaGreatV44
import Derived.Test.YtpffkhjegpddbaaGreatV25
open Go.Value renaming int → jI, slice → jS
open Go.IntKind renaming i64 → jZ
namespace Go.Proofs.YtpffkhjegpddbaaGreat
open Go.RowKit

theorem Sep.gainAt3 {X : FP} {w0 w w' : World} {L : List Item} (h : Sep X w0 L w) (b : Below w.heap.size w w') (i j k : Nat) (hij : i ≠ j) (hik : i ≠ k) (hjk : j ≠ k) (e : L[i]? = some em) (e' : L[j]? = some em) (e2 : L[k]? = some em) (I J M : Item) (p : I.P w') (q : J.P w') (r : M.P w') (f : ∀ k, I.F k → w.heap.size ≤ k ∧ k < w'.heap.size) (g : ∀ k, J.F k → w.heap.size ≤ k ∧ k < w'.heap.size) (m : ∀ k, M.F k → w.heap.size ≤ k ∧ k < w'.heap.size)
   (a1 : Apart I.F J.F) (a2 : Apart I.F M.F) (a3 : Apart J.F M.F) : Sep X w0 (((L.set i I).set j J).set k M) w' := by
 have h3 := h.gain3 b M I J r p q m f g a2.symm a3.symm a1
 have h4 : Sep X w0 (I :: J :: (L.set k M)) w' := by
   have := h3.toAt (k + 2) (by simpa using e2)
   simpa using this
 have h5 : Sep X w0 (J :: ((L.set k M).set i I)) w' := by
   have := h4.toAt (i + 1) (by simp only [List.getElem?_cons_succ]; rw [List.getElem?_set_ne (by omega)]; exact e)
   simpa using this
 have h6 := h5.toAt j (by rw [List.getElem?_set_ne (by omega), List.getElem?_set_ne (by omega)]; exact e')
 rw [show ((L.set i I).set j J).set k M = ((L.set k M).set i I).set j J by rw [List.set_comm _ _ hjk, List.set_comm _ _ hik]]
 exact h6
section
variable {P : Program} {w : World} {o : Oper} {a : Act} {K : Act → World → Prop} {Q : Exit → Act → World → Prop}
theorem op_nilC (x : Operand) (ho : o.op = .nilCheck x) {p : Addr} (hx : a.eval x = .pointer (some p)) (hK : K (a.put o.dst (.pointer (some p))) w) : o.wp P a w K Q := by
 refine op_val ?_ hK
 generalize a.eval = E at hx ⊢
 simp [execOp, ho, hx, go_sem]
theorem op_addII (t : TypeId) (x y : Operand) (ho : o.op = .binOp .add t x y t) (_ht : Tryz.prog.underlying t = some (.int .i64)) {p q r : Int} (hx : a.eval x = jI jZ p) (hy : a.eval y = jI jZ q) (hr : IntKind.i64.wrap (p + q) = r) (hK : K (a.put o.dst (jI jZ r)) w) : o.wp Tryz.prog a w K Q := by
 refine op_val ?_ hK
 generalize a.eval = E at hx hy ⊢
 subst hr
 simp [execOp, ho, hx, hy, go_sem]
end
end Go.Proofs.YtpffkhjegpddbaaGreat
namespace Go.Proofs.YtpffkhjegpddbaaGreat
open Go.RowKit

theorem from_any (g : Nat) (A : Option Addr) (n c : Nat) (lo hi : Int) (w0 : World) (hC : Cur w0 g A n c) :
   Calls Tryz.prog 18 #[.pointer (some ⟨g, 0, none⟩), jI jZ lo, jI jZ hi] w0 (Drawn g A n c (fun _ => True) w0) := by
 have HC := Lib.hid hC
 clear hC
 go_enter Tryz.func18, Tryz.ntmps18
 go_wp2_with fail
 refine (below_any g A n c _ _ HC.out).mono ?_
 rintro e w ⟨r9, rfl, _, hc9, hg9⟩
 have HC9 := Lib.hid hc9
 have HG9 := Lib.hid hg9
 clear hc9 hg9
 go_wp2_with fail
 go_ret
 exact ⟨_, rfl, trivial, HC9.out, HG9.out⟩
section
variable {X F : FP} {w0 w : World} {L : List Item} {o : Oper} {a : Act} {K : Act → World → Prop} {Q : Exit → Act → World → Prop}
theorem op_fld (t : TypeId) (x : Operand) (k : Nat) (ho : o.op = .field t x k) {v u : Value} (hx : a.eval x = v) (hr : (Instr.field t v k).run Tryz.prog w = .ok u w) (hK : K (a.put o.dst u) w) : o.wp Tryz.prog a w K Q := by
 refine op_val ?_ hK
 simp only [execOp, ho, hx, Sem.run_bind, hr, Result.andThen_ok, Sem.run_pure]
theorem op_ndPut1 (f : Nat) (ty : TypeId) (x y : Operand) (ho : o.op = .store ty x y) (h : Sep X w0 L w) {g n c k q : Nat} {xs : List Nd} (x' : Nd) (i : Nat) (e : L[i]? = some (ow (jS (some ⟨g, 0, none⟩) n c) xs F))
   (hps : x'.ps = (ndAt xs k).ps) (hk : k < n) (hx : a.eval x = .pointer (some ⟨g, q, none⟩)) (hq : q = k * 5 + f) (v : Value) (hy : a.eval y = v) (h1 : v.oneCell' = true) (hvc : v.cells.toList = [v]) (hi : (Tryz.prog.info? ty).map (·.size) = some 1) (hf : f + 1 ≤ 5)
   (hcs : ∀ u, [Value.int .i64 (ndAt xs k).lv, u, jI jZ (ndAt xs k).hi, jI jZ (ndAt xs k).ri, jI jZ (ndAt xs k).ow].take f ++ [v] ++ [Value.int .i64 (ndAt xs k).lv, u, jI jZ (ndAt xs k).hi, jI jZ (ndAt xs k).ri, jI jZ (ndAt xs k).ow].drop (f + 1) = [jI jZ x'.lv, u, jI jZ x'.hi, jI jZ x'.ri, jI jZ x'.ow])
   (hK : ∀ w', Sep X w0 (L.set i (ow (jS (some ⟨g, 0, none⟩) n c) (xs.set k x') F)) w' → K (a.put o.dst undef) w') : o.wp Tryz.prog a w K Q := by
 have hOw : OwnS w (jS (some ⟨g, 0, none⟩) n c) xs F := h.get i e
 have hlen : xs.length = n := by
   obtain ⟨A, c', hv, _⟩ := hOw.form
   simp only [Value.slice.injEq] at hv
   exact hv.2.1.symm
 obtain ⟨g', cap, pre, cs, post, Fi, hv, hFg, hgl, hrow, hpre, hcl, hown0, hFi, hclose⟩ := hOw.open k (by omega)
 obtain ⟨rfl, rfl, rfl⟩ : g = g' ∧ n = xs.length ∧ c = cap := by simpa using hv
 obtain ⟨u1, hcs1, hin, hF1⟩ := hown0
 have hpre5 : pre.length = k * 5 := hpre
 have hrow5 : w.ownsRow 0 53 5 (jS (some ⟨g, 0, none⟩) xs.length c) xs.length (pre ++ cs ++ post) := hrow
 have hcl5 : cs.length = 5 := hcl
 subst hq
 refine op_storeC ty x y ho hx v hy [v] hvc (fun u hu => by obtain rfl := List.mem_singleton.1 hu; exact h1) (by rw [hi]; rfl) (fun m hm => ?_) (fun m => hrow5.frozenAt m) (hK _ ?_)
 · have hle : k * 5 + 5 ≤ xs.length * 5 := by omega
   simp only [List.length_cons, List.length_nil] at hm
   rw [show k * 5 + f + m = k * 5 + (f + m) by omega, hrow5.cellAt _ (by omega), mid_get hpre5 (by omega)]
   simp [show f + m < cs.length by omega]
 · have r4 := own_mids hpre5 [v] w cs f hrow5 (by simp only [List.length_cons, List.length_nil]; omega)
   subst hcs1
   have hcs2 := hcs u1
   have r5 : (w.setCells g (k * 5 + f) [v]).ownsRow 0 53 5 (jS (some ⟨g, 0, none⟩) xs.length c) xs.length (pre ++ [jI jZ x'.lv, u1, jI jZ x'.hi, jI jZ x'.ri, jI jZ x'.ow] ++ post) := by
     rw [← hcs2]; exact r4
   have hin2 : (w.setCells g (k * 5 + f) [v]).ownsRow 0 68 2 u1 x'.ps.length (PL x'.ps) := by
     rw [hps]
     exact own_same hin (fun q hq _ => setCells_other g [v] _ w q (hFi q (hF1 q hq)).2)
   have h5 := hclose (w.setCells g (k * 5 + f) [v]) _ x' Fi r5 ⟨u1, rfl, hin2, hF1⟩ (fun q _ hn _ _ => setCells_other g [v] _ w q hn) (fun q hq => ⟨(hFi q hq).2, fun _ => hq⟩)
   have h6 : OwnS (w.setCells g (k * 5 + f) [v]) (jS (some ⟨g, 0, none⟩) xs.length c) (xs.set k x') F := h5.more (fun q hq => hq.elim id (fun h => (hFi q h).1))
   have ho5 := setCells_only g [v] (k * 5 + f) w
   exact h.turn i e (w' := w.setCells g (k * 5 + f) [v]) ⟨ho5.os, ho5.tape, ho5.output, ho5.size, fun q hq hn => ho5.block q hq (fun e => hn (e ▸ hFg))⟩ _ h6 (fun q hq => ⟨.inl hq, Nat.lt_of_lt_of_le (h.fresh _ (List.mem_of_getElem? e) q hq).2 ho5.size⟩)
theorem op_ndPutL (ty : TypeId) (x y : Operand) (ho : o.op = .store ty x y) (h : Sep X w0 L w) {g n c k q : Nat} {xs : List Nd} {vz : Value} {zs : List Pr} {FZ : FP} (i j : Nat) (hij : i ≠ j) (e : L[i]? = some (ow (jS (some ⟨g, 0, none⟩) n c) xs F)) (e' : L[j]? = some (ow vz zs FZ))
   (hk : k < n) (hx : a.eval x = .pointer (some ⟨g, q, none⟩)) (hq : q = k * 5 + 1) (hy : a.eval y = vz) (h1 : vz.oneCell' = true) (hvc : vz.cells.toList = [vz]) (hi : (Tryz.prog.info? ty).map (·.size) = some 1)
   (hK : ∀ w', Sep X w0 ((L.set i (ow (jS (some ⟨g, 0, none⟩) n c) (xs.set k { ndAt xs k with ps := zs }) (fun q => F q ∨ FZ q))).set j em) w' → K (a.put o.dst undef) w') : o.wp Tryz.prog a w K Q := by
 have hOw : OwnS w (jS (some ⟨g, 0, none⟩) n c) xs F := h.get i e
 have hZ : OwnS w vz zs FZ := h.get j e'
 have hlen : xs.length = n := by
   obtain ⟨A, c', hv, _⟩ := hOw.form
   simp only [Value.slice.injEq] at hv
   exact hv.2.1.symm
 have hap : Apart F FZ := h.apart_at i j hij e e'
 have h2 := h.merge i j hij e e' (both (jS (some ⟨g, 0, none⟩) n c) xs F vz zs FZ) ⟨hOw, hZ, hap⟩ (fun k hk => hk)
 obtain ⟨g', cap, pre, cs, post, Fi, hv, hFg, hgl, hrow, hpre, hcl, hown0, hFi, hclose⟩ := hOw.open k (by omega)
 obtain ⟨rfl, rfl, rfl⟩ : g = g' ∧ n = xs.length ∧ c = cap := by simpa using hv
 obtain ⟨u1, hcs1, hin, hF1⟩ := hown0
 have hpre5 : pre.length = k * 5 := hpre
 have hrow5 : w.ownsRow 0 53 5 (jS (some ⟨g, 0, none⟩) xs.length c) xs.length (pre ++ cs ++ post) := hrow
 have hcl5 : cs.length = 5 := hcl
 subst hq
 refine op_storeC ty x y ho hx vz hy [vz] hvc (fun u hu => by obtain rfl := List.mem_singleton.1 hu; exact h1) (by rw [hi]; rfl) (fun m hm => ?_) (fun m => hrow5.frozenAt m) (hK _ ?_)
 · have hle : k * 5 + 5 ≤ xs.length * 5 := by omega
   simp only [List.length_cons, List.length_nil] at hm
   rw [show k * 5 + 1 + m = k * 5 + (1 + m) by omega, hrow5.cellAt _ (by omega), mid_get hpre5 (by omega)]
   simp [show 1 + m < cs.length by omega]
 · have r4 := own_mids hpre5 [vz] w cs 1 hrow5 (by simp only [List.length_cons, List.length_nil]; omega)
   subst hcs1
   obtain ⟨z1, z2⟩ := hZ.pairs
   have hne : ∀ q, FZ q → q ≠ g := fun q hq e => hap g hFg (e ▸ hq)
   have h5 := hclose (w.setCells g (k * 5 + 1) [vz]) _ { ndAt xs k with ps := zs } (fun q => vz.ownBlock = some q) r4 ⟨vz, rfl, own_same z1 (fun q hq _ => setCells_other g [vz] _ w q (hne q (z2 q hq))), fun q hq => hq⟩
     (fun q _ hn _ _ => setCells_other g [vz] _ w q hn) (fun q hq => ⟨hne q (z2 q hq), fun hF => absurd (z2 q hq) (hap q hF)⟩)
   have h6 : OwnS (w.setCells g (k * 5 + 1) [vz]) (jS (some ⟨g, 0, none⟩) xs.length c) (xs.set k { ndAt xs k with ps := zs }) (fun q => F q ∨ FZ q) := h5.more (fun q hq => hq.imp id (z2 q))
   have ho5 := setCells_only g [vz] (k * 5 + 1) w
   have hgi : ((L.set i (both (jS (some ⟨g, 0, none⟩) xs.length c) xs F vz zs FZ)).set j em)[i]? = some (both (jS (some ⟨g, 0, none⟩) xs.length c) xs F vz zs FZ) := by
     rw [List.getElem?_set_ne (by omega), List.getElem?_set_self (List.getElem?_eq_some_iff.1 e).1]
   have h7 := h2.turn i hgi (w' := w.setCells g (k * 5 + 1) [vz]) ⟨ho5.os, ho5.tape, ho5.output, ho5.size, fun q hq hn => ho5.block q hq (fun e => hn (.inl (e ▸ hFg)))⟩ (ow (jS (some ⟨g, 0, none⟩) xs.length c) (xs.set k { ndAt xs k with ps := zs }) (fun q => F q ∨ FZ q)) h6
     (fun q hq => ⟨.inl hq, Nat.lt_of_lt_of_le (h2.fresh _ (List.mem_of_getElem? hgi) q hq).2 ho5.size⟩)
   rw [show ((L.set i (both (jS (some ⟨g, 0, none⟩) xs.length c) xs F vz zs FZ)).set j em).set i (ow (jS (some ⟨g, 0, none⟩) xs.length c) (xs.set k { ndAt xs k with ps := zs }) (fun q => F q ∨ FZ q)) = (L.set i (ow (jS (some ⟨g, 0, none⟩) xs.length c) (xs.set k { ndAt xs k with ps := zs }) (fun q => F q ∨ FZ q))).set j em by rw [List.set_comm _ _ (by omega), List.set_set]] at h7
   exact h7
end
def DrawnT (g : Nat) (A : Option Addr) (n c : Nat) (w : World) (e : Ending) (w' : World) : Prop :=
 ∃ (r : Int) (xs : List Nd) (A0 : Option Addr) (c0 : Nat) (F : FP), e = .returned (.agg #[jI jZ r, jS A0 xs.length c0]) ∧ Small.sm xs ∧ OwnS w' (jS A0 xs.length c0) xs F ∧ Fresh F w w' ∧ Cur w' g A n c ∧ w.grownBy w' (some g)
end Go.Proofs.YtpffkhjegpddbaaGreat
