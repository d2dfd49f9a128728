/- A tree handed in to be written into: its blocks pinned till then; nodes laid in their places. -/
import Derived.Test.YtjookicpmjmdhaaQ20
import Derived.Laws.IdiomCopy
open Go.Value renaming int → jI, slice → jS
open Go.IntKind renaming i64 → jZ
namespace Go.Proofs.Ytjookicpmjmdhaa
open Go.RowKit

def pin (F : FP) (w0 : World) : Item where
 F := F
 P := fun w => ∀ k, F k → k < w0.heap.size ∧ w.heap[k]? = w0.heap[k]?
 keep := fun w w' h hk k hF => by
   obtain ⟨h1, h2⟩ := h k hF
   have h3 : k < w.heap.size := (Array.getElem?_eq_some_iff.1 (h2.trans (Array.getElem?_eq_getElem h1))).1
   exact ⟨h1, (hk k hF h3).trans h2⟩

section
variable {X F : FP} {w0 w : World} {L : List Item}
theorem Sep.startX (w0 : World) (hF : ∀ k, F k → k < w0.heap.size) : Sep F w0 [pin F w0] w0 where
 only := Only.refl _ _
 holds := fun i hi => by
   obtain rfl := List.mem_singleton.1 hi
   exact fun k hk => ⟨hF k hk, rfl⟩
 fresh := fun i hi k hk => by
   obtain rfl := List.mem_singleton.1 hi
   exact ⟨.inl hk, hF k hk⟩
 apart := List.pairwise_singleton _ _
theorem Sep.below_pin (h : Sep F w0 L w) (i : Nat) (e : L[i]? = some (pin F w0)) : Below w0.heap.size w0 w :=
 ⟨h.only.os, h.only.tape, h.only.output, h.only.size, fun k hk => by
   by_cases hF : F k
   · exact (h.get i e k hF).2
   · exact h.only.block k hk hF⟩
theorem Sep.merge (h : Sep X w0 L w) (i j : Nat) (_hij : i ≠ j) {I J : Item} (e : L[i]? = some I) (e' : L[j]? = some J) (M : Item) (p : M.P w) (f : ∀ k, M.F k → I.F k ∨ J.F k) : Sep X w0 ((L.set i M).set j em) w := by
 have hi : i < L.length := (List.getElem?_eq_some_iff.1 e).1
 have hj : j < L.length := (List.getElem?_eq_some_iff.1 e').1
 have hI : L[i] = I := (List.getElem?_eq_some_iff.1 e).2
 have hJ : L[j] = J := (List.getElem?_eq_some_iff.1 e').2
 have hget : ∀ q (hq : q < ((L.set i M).set j em).length), ((L.set i M).set j em)[q] = if j = q then em else if i = q then M else L[q]'(by simpa using hq) := fun q hq => by
   rw [List.getElem_set]
   split
   · rfl
   · rw [List.getElem_set]
 have hp := List.pairwise_iff_getElem.1 h.apart
 have hap : ∀ a b (ha : a < L.length) (hb : b < L.length), a ≠ b → Apart L[a].F L[b].F := fun a b ha hb hne => by
   rcases Nat.lt_or_gt_of_ne hne with h' | h'
   · exact hp a b ha hb h'
   · exact (hp b a hb ha h').symm
 have hM : ∀ a (ha : a < L.length), a ≠ i → a ≠ j → Apart L[a].F M.F := fun a ha h1 h2 k hk hk2 => by
   rcases f k hk2 with h3 | h3
   · exact hap a i ha hi h1 k hk (by rw [hI]; exact h3)
   · exact hap a j ha hj h2 k hk (by rw [hJ]; exact h3)
 refine ⟨h.only, fun q hq => ?_, fun q hq k hk => ?_, ?_⟩
 · obtain ⟨a, ha, rfl⟩ := List.getElem_of_mem hq
   rw [hget]
   split
   · exact trivial
   · split
     · exact p
     · exact h.holds _ (List.getElem_mem _)
 · obtain ⟨a, ha, rfl⟩ := List.getElem_of_mem hq
   rw [hget] at hk
   split at hk
   · exact absurd hk id
   · split at hk
     · rcases f k hk with h3 | h3
       · exact h.fresh I (List.mem_of_getElem? e) k h3
       · exact h.fresh J (List.mem_of_getElem? e') k h3
     · exact h.fresh _ (List.getElem_mem _) k hk
 · rw [List.pairwise_iff_getElem]
   intro a b ha hb hab
   rw [hget, hget]
   have la : a < L.length := by simpa using ha
   have lb : b < L.length := by simpa using hb
   split
   · exact fun k hk => absurd hk id
   · split
     · split
       · exact fun k _ hk => absurd hk id
       · split
         · omega
         · exact (hM b lb (by omega) (by omega)).symm
     · split
       · exact fun k _ hk => absurd hk id
       · split
         · exact hM a la (by omega) (by omega)
         · exact hap a b la lb (by omega)
end

section
variable {P : Program} {X F : FP} {w0 w : World} {L : List Item} {o : Oper} {a : Act} {K : Act → World → Prop} {Q : Exit → Act → World → Prop}
theorem op_storeC (ty : TypeId) (x y : Operand) (ho : o.op = .store ty x y) {b j : Nat} (hx : a.eval x = .pointer (some ⟨b, j, none⟩)) (v : Value) (hy : a.eval y = v) (vs : List Value) (hvs : v.cells.toList = vs) (h1 : ∀ v ∈ vs, v.oneCell' = true)
   (hi : (P.info? ty).map (·.size) = some vs.length) (hc : ∀ k, k < vs.length → (w.cell? ⟨b, j + k, none⟩).isSome = true) (hf : ∀ k, w.frozen? ⟨b, k, none⟩ = false)
   (hK : K (a.put o.dst undef) (w.setCells b j vs)) : o.wp P a w K Q := by
 have hst := run_storeCells_cells (P := P) b j vs 0 w (by simpa using hc) (fun k _ => hf _) h1
 simp only [Nat.add_zero] at hst
 unfold Oper.wp execOp
 cases hq : P.info? ty with
 | none => rw [hq] at hi; cases hi
 | some q =>
   have hs : v.cells.size = q.size := by
     rw [hq] at hi
     have h2 : q.size = vs.length := by simpa using hi
     rw [h2, ← hvs]; simp
   have hsz : ∀ w, (sizeOf ty).run P w = .ok v.cells.size w := fun w => by simp [sizeOf, typeInfo, hq, hs]
   simp only [ho, hx, hy, Instr.storeAt, Instr.sureAddr, storeVar, Sem.run_bind, Sem.run_pure, Result.andThen_ok, hsz, hvs, hst, ne_eq, not_true_eq_false, if_false]
   exact hK

def both (v : Value) (xs : List Nd) (F : FP) (vz : Value) (zs : List Pr) (G : FP) : Item where
 F := fun q => F q ∨ G q
 P := fun w => OwnS w v xs F ∧ OwnS w vz zs G ∧ Apart F G
 keep := fun _ _ h hk => ⟨h.1.keep (fun k hF => hk k (.inl hF)), h.2.1.keep (fun k hG => hk k (.inr hG)), h.2.2⟩
theorem setCells_other (b : Nat) : ∀ (vs : List Value) (j : Nat) (w : World) (k : Nat), k ≠ b → (w.setCells b j vs).heap[k]? = w.heap[k]?
 | [], _, _, _, _ => rfl
 | v :: r, j, w, k, hk => by
   show ((w.setCell ⟨b, j, none⟩ v).setCells b (j + 1) r).heap[k]? = _
   rw [setCells_other b r (j + 1) _ k hk, Below.heap_setCell _ _ _ _ (by simpa using hk)]
theorem setCells_only (b : Nat) : ∀ (vs : List Value) (j : Nat) (w : World), Only (fun k => k = b) w (w.setCells b j vs)
 | [], _, w => Only.refl _ _
 | v :: r, j, w => by
   have h1 : Only (fun k => k = b) w (w.setCell ⟨b, j, none⟩ v) := ⟨rfl, rfl, rfl, by simp, fun k _ hn => Below.heap_setCell _ _ _ _ hn⟩
   exact h1.trans (setCells_only b r (j + 1) _)
theorem own_mids {e : TypeId} {s n cap g a : Nat} {pre post : List Value} (hp : pre.length = a) : ∀ (vs : List Value) (w : World) (cs : List Value) (j : Nat), w.ownsRow 0 e s (jS (some ⟨g, 0, none⟩) n cap) n (pre ++ cs ++ post) → j + vs.length ≤ cs.length →
   (w.setCells g (a + j) vs).ownsRow 0 e s (jS (some ⟨g, 0, none⟩) n cap) n (pre ++ (cs.take j ++ vs ++ cs.drop (j + vs.length)) ++ post)
 | [], w, cs, j, h, hj => by
   have e : cs.take j ++ [] ++ cs.drop (j + ([] : List Value).length) = cs := by simp
   rw [e]; exact h
 | v :: r, w, cs, j, h, hj => by
   simp only [List.length_cons] at hj
   have h1 := own_mid h hp (j := j) (by omega) v
   have h2 := own_mids hp r _ (cs.set j v) (j + 1) h1 (by simp; omega)
   have e1 : (cs.set j v).take (j + 1) = cs.take j ++ [v] := by
     rw [List.take_set, List.take_succ_eq_append_getElem (by omega), List.set_append_right _ _ (by rw [List.length_take]; omega)]
     simp [show j - min j cs.length = 0 by omega]
   have e2 : (cs.set j v).drop (j + 1 + r.length) = cs.drop (j + (r.length + 1)) := by
     rw [List.drop_set_of_lt (by omega), show j + 1 + r.length = j + (r.length + 1) by omega]
   rw [e1, e2] at h2
   show ((w.setCell ⟨g, a + j, none⟩ v).setCells g (a + j + 1) r).ownsRow _ _ _ _ _ _
   rw [show a + j + 1 = a + (j + 1) by omega, List.length_cons]
   simpa using h2
theorem op_putNode (f : Nat) (ty : TypeId) (x y : Operand) (ho : o.op = .store ty x y) (h : Sep F w0 L w) {g n c k q : Nat} {xs : List Nd} {vz : Value} {FZ : FP} (x' : Nd) (i j : Nat) (hij : i ≠ j) (e : L[i]? = some (pin F w0)) (e' : L[j]? = some (ow vz x'.ps FZ))
   (hO : OwnS w0 (jS (some ⟨g, 0, none⟩) n c) xs F) (hk : k < n) (hx : a.eval x = .pointer (some ⟨g, q, none⟩)) (hq : q = k * 5 + f) (v : Value) (hy : a.eval y = v) (vs : List Value) (hvs : v.cells.toList = vs) (h1 : ∀ v ∈ vs, v.oneCell' = true)
   (hi : (Try.prog.info? ty).map (·.size) = some vs.length) (hf : f + vs.length ≤ 5)
   (hcs : ∀ u, [Value.int .i64 (ndAt xs k).lv, u, jI jZ (ndAt xs k).hi, jI jZ (ndAt xs k).ri, jI jZ (ndAt xs k).ow].take f ++ vs ++ [Value.int .i64 (ndAt xs k).lv, u, jI jZ (ndAt xs k).hi, jI jZ (ndAt xs k).ri, jI jZ (ndAt xs k).ow].drop (f + vs.length) = [jI jZ x'.lv, vz, jI jZ x'.hi, jI jZ x'.ri, jI jZ x'.ow])
   (hK : ∀ w', Sep F w0 ((L.set i (ow (jS (some ⟨g, 0, none⟩) n c) (xs.set k x') (fun q => F q ∨ FZ q))).set j em) w' → K (a.put o.dst undef) w') : o.wp Try.prog a w K Q := by
 have hpin := h.get i e
 have hlen : xs.length = n := hO.len
 have hOw : OwnS w (jS (some ⟨g, 0, none⟩) n c) xs F := hO.keep (fun k hF _ => (hpin k hF).2)
 have hZ : OwnS w vz x'.ps FZ := h.get j e'
 have hap : Apart F FZ := by
   rcases Nat.lt_or_gt_of_ne hij with h' | h'
   · exact h.two i j h' e e'
   · exact (h.two j i h' e' e).symm
 have h2 := h.merge i j hij e e' (both (jS (some ⟨g, 0, none⟩) n c) xs F vz x'.ps FZ) ⟨hOw, hZ, hap⟩ (fun k hk => hk)
 obtain ⟨g', cap, pre, cs, post, Fi, hv, hFg, hgl, hrow, hpre, hcl, hown, hFi, hclose⟩ := hOw.open k (by omega)
 obtain ⟨rfl, rfl, rfl⟩ : g = g' ∧ n = xs.length ∧ c = cap := by simpa using hv
 obtain ⟨u1, hcs1, hin, hF1⟩ := hown
 have hpre5 : pre.length = k * 5 := hpre
 have hrow5 : w.ownsRow 0 101 5 (jS (some ⟨g, 0, none⟩) xs.length c) xs.length (pre ++ cs ++ post) := hrow
 have hcl5 : cs.length = 5 := hcl
 subst hq
 refine op_storeC ty x y ho hx v hy vs hvs h1 hi (fun m hm => ?_) (fun m => hrow5.frozenAt m) (hK _ ?_)
 · have hle : k * 5 + 5 ≤ xs.length * 5 := by omega
   rw [show k * 5 + f + m = k * 5 + (f + m) by omega, hrow5.cellAt _ (by omega), mid_get hpre5 (by omega)]
   simp [show f + m < cs.length by omega]
 · have r4 := own_mids hpre5 vs w cs f hrow5 (by omega)
   subst hcs1
   have hcs2 := hcs u1
   have r5 : (w.setCells g (k * 5 + f) vs).ownsRow 0 101 5 (jS (some ⟨g, 0, none⟩) xs.length c) xs.length (pre ++ [jI jZ x'.lv, vz, jI jZ x'.hi, jI jZ x'.ri, jI jZ x'.ow] ++ post) := by
     rw [← hcs2]; exact r4
   obtain ⟨z1, z2⟩ := hZ.pairs
   have hne : ∀ q, FZ q → q ≠ g := fun q hq e => hap g hFg (e ▸ hq)
   have h5 := hclose (w.setCells g (k * 5 + f) vs) _ x' (fun q => vz.ownBlock = some q) r5 ⟨vz, rfl, own_same z1 (fun q hq _ => setCells_other g vs _ w q (hne q (z2 q hq))), fun q hq => hq⟩
     (fun q _ hn _ _ => setCells_other g vs _ w q hn) (fun q hq => ⟨hne q (z2 q hq), fun hF => absurd (z2 q hq) (hap q hF)⟩)
   have h6 : OwnS (w.setCells g (k * 5 + f) vs) (jS (some ⟨g, 0, none⟩) xs.length c) (xs.set k x') (fun q => F q ∨ FZ q) := h5.more (fun q hq => hq.imp id (z2 q))
   have ho5 := setCells_only g vs (k * 5 + f) w
   have hgi : ((L.set i (both (jS (some ⟨g, 0, none⟩) xs.length c) xs F vz x'.ps FZ)).set j em)[i]? = some (both (jS (some ⟨g, 0, none⟩) xs.length c) xs F vz x'.ps FZ) := by
     rw [List.getElem?_set_ne (by omega), List.getElem?_set_self (List.getElem?_eq_some_iff.1 e).1]
   have h7 := h2.turn i hgi (w' := w.setCells g (k * 5 + f) vs) ⟨ho5.os, ho5.tape, ho5.output, ho5.size, fun q hq hn => ho5.block q hq (fun e => hn (.inl (e ▸ hFg)))⟩ (ow (jS (some ⟨g, 0, none⟩) xs.length c) (xs.set k x') (fun q => F q ∨ FZ q)) h6
     (fun q hq => ⟨.inl hq, Nat.lt_of_lt_of_le (h2.fresh _ (List.mem_of_getElem? hgi) q hq).2 ho5.size⟩)
   have he : ((L.set i (both (jS (some ⟨g, 0, none⟩) xs.length c) xs F vz x'.ps FZ)).set j em).set i (ow (jS (some ⟨g, 0, none⟩) xs.length c) (xs.set k x') (fun q => F q ∨ FZ q)) = (L.set i (ow (jS (some ⟨g, 0, none⟩) xs.length c) (xs.set k x') (fun q => F q ∨ FZ q))).set j em := by
     rw [List.set_comm _ _ (by omega), List.set_set]
   rw [he] at h7
   exact h7
def Turned (F : FP) (w0 : World) (v : Value) (xs : List Nd) (w : World) : Prop := ∃ G, OwnS w v xs G ∧ (∀ k, G k → (F k ∨ w0.heap.size ≤ k) ∧ k < w.heap.size) ∧ Only F w0 w
theorem Sep.turned (h : Sep F w0 L w) (i : Nat) {v : Value} {xs : List Nd} {G : FP} (e : L[i]? = some (ow v xs G)) : Turned F w0 v xs w := ⟨G, h.get i e, h.fresh _ (List.mem_of_getElem? e), h.only⟩
end
end Go.Proofs.Ytjookicpmjmdhaa
namespace Go.Proofs.Ytjookicpmjmdhaa
open Go.RowKit

structure Kd (e : TypeId) (sz bytes : Nat) : Prop where
 info : ∃ i z, Try.prog.info? e = some i ∧ i.zero = some z ∧ i.size = sz ∧ i.bytes = bytes ∧ z.cells.size = sz
theorem kd_hand : Kd 31 16 144 := ⟨by
 have h1 := hand_info
 have h2 := hand_bytes
 cases h : Try.prog.info? 31 with
 | none => rw [h] at h1; cases h1
 | some i =>
   rw [h] at h1 h2
   obtain ⟨h3, h4⟩ : i.zero = _ ∧ i.size = 16 := by simpa using h1
   exact ⟨i, _, rfl, h3, h4, by simpa using h2, rfl⟩⟩
theorem kd_deal : Kd 104 8 64 := ⟨by
 have h1 := deal_info
 have h2 := deal_bytes
 cases h : Try.prog.info? 104 with
 | none => rw [h] at h1; cases h1
 | some i =>
   rw [h] at h1 h2
   obtain ⟨h3, h4⟩ : i.zero = _ ∧ i.size = 8 := by simpa using h1
   exact ⟨i, _, rfl, h3, h4, by simpa using h2, rfl⟩⟩

section
variable {X : FP} {w0 w : World} {L : List Item} {o : Oper} {a : Act} {K : Act → World → Prop} {Q : Exit → Act → World → Prop}

def pairI {α : Type} [Enc α] (v : Value) (xs : List α) (F : FP) (J : Item) : Item where
 F := fun q => F q ∨ J.F q
 P := fun w => OwnS w v xs F ∧ J.P w ∧ Apart F J.F
 keep := fun w w' h hk => ⟨h.1.keep (fun k hF => hk k (.inl hF)), J.keep w w' h.2.1 (fun k hG => hk k (.inr hG)), h.2.2⟩

theorem op_bsH1 (x : Operand) (ho : o.op = .buildSlice 78 1 #[(0, x)]) (h : Sep X w0 L w) {v0 v1 v2 v3 v4 v5 v6 v7 v8 v9 v10 v11 v12 v13 v14 v15 : Value} (hx : a.eval x = .agg #[v0, v1, v2, v3, v4, v5, v6, v7, v8, v9, v10, v11, v12, v13, v14, v15])
   (hK : ∀ g w', Sep X w0 (bx g #[v0, v1, v2, v3, v4, v5, v6, v7, v8, v9, v10, v11, v12, v13, v14, v15] 31 :: L) w' → K (a.put o.dst (jS (some ⟨g, 0, none⟩) 1 1)) w') : o.wp Try.prog a w K Q := by
 obtain ⟨i0, hi0, hz0, hz1⟩ : ∃ i, Try.prog.info? 31 = some i ∧ i.zero = some (.agg #[jI jZ 0, jI jZ 0, jI jZ 0, jI jZ 0, jI jZ 0, jI jZ 0, jI jZ 0, jI jZ 0, jI jZ 0, jI jZ 0, jI jZ 0, jS none 0 0, jI jZ 0, jI jZ 0, jI jZ 0, jI jZ 0]) ∧ i.size = 16 := by
   have h1 := hand_info
   cases h : Try.prog.info? 31 with
   | none => rw [h] at h1; cases h1
   | some i =>
     rw [h] at h1
     obtain ⟨h3, h4⟩ : i.zero = some (.agg #[jI jZ 0, jI jZ 0, jI jZ 0, jI jZ 0, jI jZ 0, jI jZ 0, jI jZ 0, jI jZ 0, jI jZ 0, jI jZ 0, jI jZ 0, jS none 0 0, jI jZ 0, jI jZ 0, jI jZ 0, jI jZ 0]) ∧ i.size = 16 := by simpa using h1
     exact ⟨i, rfl, h3, h4⟩
 refine wp_buildSlice 78 31 1 #[(0, x)] ho #[v0, v1, v2, v3, v4, v5, v6, v7, v8, v9, v10, v11, v12, v13, v14, v15] i0 (.agg #[jI jZ 0, jI jZ 0, jI jZ 0, jI jZ 0, jI jZ 0, jI jZ 0, jI jZ 0, jI jZ 0, jI jZ 0, jI jZ 0, jI jZ 0, jS none 0 0, jI jZ 0, jI jZ 0, jI jZ 0, jI jZ 0]) Try.underlying78 hi0 hz0 (by rw [hz1]; omega) (by rw [hz1]; omega) ?_ ?_
 · rw [hz1]
   generalize a.eval = E at hx ⊢
   simp only [List.map_toArray, List.map_cons, List.map_nil, hx]
   kernel_rfl
 · exact hK _ _ (h.alloc _ _)
theorem op_bsD1 (x : Operand) (ho : o.op = .buildSlice 79 1 #[(0, x)]) (h : Sep X w0 L w) {v0 v1 v2 v3 v4 v5 v6 v7 : Value} (hx : a.eval x = .agg #[v0, v1, v2, v3, v4, v5, v6, v7])
   (hK : ∀ g w', Sep X w0 (bx g #[v0, v1, v2, v3, v4, v5, v6, v7] 104 :: L) w' → K (a.put o.dst (jS (some ⟨g, 0, none⟩) 1 1)) w') : o.wp Try.prog a w K Q := by
 obtain ⟨i0, hi0, hz0, hz1⟩ : ∃ i, Try.prog.info? 104 = some i ∧ i.zero = some (.agg #[jI jZ 0, jI jZ 0, jI jZ 0, jI jZ 0, jI jZ 0, jI jZ 0, jI jZ 0, jI jZ 0]) ∧ i.size = 8 := by
   have h1 := deal_info
   cases h : Try.prog.info? 104 with
   | none => rw [h] at h1; cases h1
   | some i =>
     rw [h] at h1
     obtain ⟨h3, h4⟩ : i.zero = some (.agg #[jI jZ 0, jI jZ 0, jI jZ 0, jI jZ 0, jI jZ 0, jI jZ 0, jI jZ 0, jI jZ 0]) ∧ i.size = 8 := by simpa using h1
     exact ⟨i, rfl, h3, h4⟩
 refine wp_buildSlice 79 104 1 #[(0, x)] ho #[v0, v1, v2, v3, v4, v5, v6, v7] i0 (.agg #[jI jZ 0, jI jZ 0, jI jZ 0, jI jZ 0, jI jZ 0, jI jZ 0, jI jZ 0, jI jZ 0]) Try.underlying79 hi0 hz0 (by rw [hz1]; omega) (by rw [hz1]; omega) ?_ ?_
 · rw [hz1]
   generalize a.eval = E at hx ⊢
   simp only [List.map_toArray, List.map_cons, List.map_nil, hx]
   kernel_rfl
 · exact hK _ _ (h.alloc _ _)
theorem op_appEl {α : Type} [E : Enc α] (sty : TypeId) (sz bytes : Nat) (kd : Kd E.ty sz bytes) (hes : E.sz = sz) (ht : Try.prog.underlying sty = some (.slice E.ty)) (hsz0 : 0 < sz) (s x : Operand) (ho : o.op = .call { callee := .builtin .append, args := #[s, x], argTypes := #[sty, sty] }) (h : Sep X w0 L w) {v : Value} {n g : Nat} {xs : List α} {F : FP} {C : Array Value} {J : Item} (y : α) (i j q : Nat) (hij : i ≠ j)
   (e : L[i]? = some (ow v xs F)) (e' : L[j]? = some J) (e2 : L[q]? = some (bx g C E.ty)) (hJ : ∀ w, J.P w → E.Own w C.toList y J.F) (h1 : ∀ u ∈ C.toList, u.oneCell' = true)
   (hn : xs.length = n) (hsz : n ≤ 4194304) (hby : bytes ≤ 1024) (hs : a.eval s = v) (hx : a.eval x = jS (some ⟨g, 0, none⟩) 1 1)
   (hK : ∀ A c' F' w', Sep X w0 ((L.set i (ow (jS A (n + 1) c') (xs ++ [y]) F')).set j em) w' → K (a.put o.dst (jS A (n + 1) c')) w') : o.wp Try.prog a w K Q := by
 subst hn
 subst hes
 obtain ⟨i0, z0, hi0, hz0, hz1, hz2, hz3⟩ := kd.info
 have hOw : OwnS w v xs F := h.get i e
 have hap : Apart F J.F := by
   rcases Nat.lt_or_gt_of_ne hij with h' | h'
   · exact h.two i j h' e e'
   · exact (h.two j i h' e' e).symm
 have hJw := h.get j e'
 have h2 := h.merge i j hij e e' (pairI v xs F J) ⟨hOw, hJw, hap⟩ (fun k hk => hk)
 have hg : w.heap[g]? = some (.cells C E.ty (0, 0)) := h.get q e2
 have hown := hJ w hJw
 have hcl : C.toList.length = 1 * E.sz := by rw [Nat.one_mul]; exact E.is_len (E.own_is hown)
 obtain ⟨ys, hrow, hsn⟩ := hOw.snoc
 have hF : ∀ k, v.ownBlock = some k → F k := by obtain ⟨_, _, _, _, _, _, _, h6⟩ := hOw; exact h6
 have hlt : ∀ k, F k ∨ J.F k → k < w.heap.size := fun k hk => by
   rcases hk with hk | hk
   · exact (h.fresh _ (List.mem_of_getElem? e) k hk).2
   · exact (h.fresh _ (List.mem_of_getElem? e') k hk).2
 refine wp_append_lies w s x sty ho 0 E.ty i0 _ E.sz bytes ht hi0 hz0 hz1 hz2 hz3 hsz0 v xs.length ys hs hrow ⟨g, 0, none⟩ 1 1 C.toList hx hcl
   (World.news_of_block (by simpa using hg)) h1 (by omega) (by unfold maxLen; omega) (by have : (xs.length + 1) * bytes ≤ (4194304 + 1) * 1024 := Nat.mul_le_mul (by omega) hby; omega) (Nat.zero_le _) w.heap.size rfl (fun g' cap w' r1 r2 r3 r4 => ?_)
 have hsame : ∀ k, k < w.heap.size → v.ownBlock ≠ some k → w'.heap[k]? = w.heap[k]? := fun k hk hn => r2.block k hk (fun e => hn e.symm)
 have o2 : Only F w w' := Only.of_grown r2 (fun k hk => hF k hk)
 have o1 := hsn w' _ _ y J.F r1 (E.own_keep hown (fun k hk hlt' => hsame k hlt' (fun e => hap k (hF k e) hk))) (fun k hk hn hlt' => hsame k hlt' hn) (fun k hk => ⟨fun hy => by
     obtain rfl : g' = k := by simpa [Value.ownBlock] using hk
     rcases r3 with h5 | h5
     · exact hap _ (hF _ h5) hy
     · have := hlt _ (.inr hy); omega, fun hf => by
     obtain rfl : g' = k := by simpa [Value.ownBlock] using hk
     rcases r3 with h5 | h5
     · exact h5
     · have := hlt _ (.inl hf); omega⟩) (fun k hk hf => hap k hf hk)
 have hgi : ((L.set i (pairI v xs F J)).set j em)[i]? = some (pairI v xs F J) := by
   rw [List.getElem?_set_ne (by omega), List.getElem?_set_self (List.getElem?_eq_some_iff.1 e).1]
 have h7 := h2.turn i hgi (o2.more (fun k hk => .inl hk)) (ow (jS (some ⟨g', 0, none⟩) (xs.length + 1) cap) (xs ++ [y]) _) o1 (fun k hk => by
   have hz := o2.size
   rcases hk with hk | hk | hk
   · exact ⟨.inl (.inl hk), Nat.lt_of_lt_of_le (hlt k (.inl hk)) hz⟩
   · exact ⟨.inl (.inr hk), Nat.lt_of_lt_of_le (hlt k (.inr hk)) hz⟩
   · obtain rfl : g' = k := by simpa [Value.ownBlock] using hk
     refine ⟨?_, r4⟩
     rcases r3 with h6 | h6
     · exact .inl (.inl (hF _ h6))
     · exact .inr (by omega))
 rw [show ((L.set i (pairI v xs F J)).set j em).set i (ow (jS (some ⟨g', 0, none⟩) (xs.length + 1) cap) (xs ++ [y]) _) = (L.set i (ow (jS (some ⟨g', 0, none⟩) (xs.length + 1) cap) (xs ++ [y]) _)).set j em by rw [List.set_comm _ _ (by omega), List.set_set]] at h7
 exact hK _ _ _ _ h7

theorem op_putEl {α : Type} [E : Enc α] (ty : TypeId) (hty : (Try.prog.info? ty).map (·.size) = some E.sz) (x y : Operand) (ho : o.op = .store ty x y) (h : Sep X w0 L w) {g n c k q : Nat} {xs : List α} {F : FP} {C : Array Value} {J : Item} (x' : α) (i j : Nat) (hij : i ≠ j) (e : L[i]? = some (ow (jS (some ⟨g, 0, none⟩) n c) xs F)) (e' : L[j]? = some J)
   (hJ : ∀ w, J.P w → E.Own w C.toList x' J.F) (h1 : ∀ u ∈ C.toList, u.oneCell' = true) (hk : k < n) (hx : a.eval x = .pointer (some ⟨g, q, none⟩)) (hq : q = k * E.sz) (hy : a.eval y = .agg C)
   (hK : ∀ w', Sep X w0 ((L.set i (ow (jS (some ⟨g, 0, none⟩) n c) (xs.set k x') (fun q => F q ∨ J.F q))).set j em) w' → K (a.put o.dst undef) w') : o.wp Try.prog a w K Q := by
 have hOw : OwnS w (jS (some ⟨g, 0, none⟩) n c) xs F := h.get i e
 have hlen : xs.length = n := by
   obtain ⟨A, c', hv, _⟩ := hOw.form
   have : n = xs.length := by simpa using (by simpa using hv : _ ∧ n = xs.length ∧ _).2.1
   exact this.symm
 have hap : Apart F J.F := by
   rcases Nat.lt_or_gt_of_ne hij with h' | h'
   · exact h.two i j h' e e'
   · exact (h.two j i h' e' e).symm
 have hJw := h.get j e'
 have hown := hJ w hJw
 have h2 := h.merge i j hij e e' (pairI (jS (some ⟨g, 0, none⟩) n c) xs F J) ⟨hOw, hJw, hap⟩ (fun k hk => hk)
 obtain ⟨g', cap, pre, cs, post, Fi, hv, hFg, hgl, hrow, hpre, hcl, hown0, hFi, hclose⟩ := hOw.open k (by omega)
 obtain ⟨rfl, rfl, rfl⟩ : g = g' ∧ n = xs.length ∧ c = cap := by simpa using hv
 have hCl : C.toList.length = E.sz := E.is_len (E.own_is hown)
 subst hq
 refine op_storeC ty x y ho hx (.agg C) hy C.toList rfl h1 (by rw [hty, hCl]) (fun m hm => ?_) (fun m => hrow.frozenAt m) (hK _ ?_)
 · have hle : k * E.sz + E.sz ≤ xs.length * E.sz := by rw [← Nat.succ_mul]; exact Nat.mul_le_mul_right _ hk
   rw [hrow.cellAt _ (by omega), mid_get hpre (by omega)]
   simp [show m < cs.length by omega]
 · have r4 := own_mids hpre C.toList w cs 0 hrow (by omega)
   rw [Nat.add_zero, List.take_zero, List.nil_append, show cs.drop (0 + C.toList.length) = [] by rw [List.drop_eq_nil_iff]; omega, List.append_nil] at r4
   have hne : ∀ q, J.F q → q ≠ g := fun q hq e => hap g hFg (e ▸ hq)
   have ho5 := setCells_only g C.toList (k * E.sz) w
   have h5 := hclose (w.setCells g (k * E.sz) C.toList) _ x' J.F r4 (E.own_keep hown (fun q hq _ => setCells_other g C.toList _ w q (hne q hq)))
     (fun q _ hn _ _ => setCells_other g C.toList _ w q hn) (fun q hq => ⟨hne q hq, fun hF => absurd hq (hap q hF)⟩)
   have hgi : ((L.set i (pairI (jS (some ⟨g, 0, none⟩) xs.length c) xs F J)).set j em)[i]? = some (pairI (jS (some ⟨g, 0, none⟩) xs.length c) xs F J) := by
     rw [List.getElem?_set_ne (by omega), List.getElem?_set_self (List.getElem?_eq_some_iff.1 e).1]
   have h7 := h2.turn i hgi (w' := w.setCells g (k * E.sz) C.toList) ⟨ho5.os, ho5.tape, ho5.output, ho5.size, fun q hq hn => ho5.block q hq (fun e => hn (.inl (e ▸ hFg)))⟩ (ow (jS (some ⟨g, 0, none⟩) xs.length c) (xs.set k x') (fun q => F q ∨ J.F q)) h5
     (fun q hq => ⟨.inl hq, Nat.lt_of_lt_of_le (h2.fresh _ (List.mem_of_getElem? hgi) q hq).2 ho5.size⟩)
   rw [show ((L.set i (pairI (jS (some ⟨g, 0, none⟩) xs.length c) xs F J)).set j em).set i (ow (jS (some ⟨g, 0, none⟩) xs.length c) (xs.set k x') (fun q => F q ∨ J.F q)) = (L.set i (ow (jS (some ⟨g, 0, none⟩) xs.length c) (xs.set k x') (fun q => F q ∨ J.F q))).set j em by rw [List.set_comm _ _ (by omega), List.set_set]] at h7
   exact h7
end
end Go.Proofs.Ytjookicpmjmdhaa
