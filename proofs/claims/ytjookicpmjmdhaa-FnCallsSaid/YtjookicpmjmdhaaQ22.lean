/- Lists of deals: as rows of cells; an empty one; deals that lie somewhere behind a list of the call's own. -/
import Derived.Test.YtjookicpmjmdhaaQ21
import Derived.Maps.AppendAt
open Go.Value renaming int → jI, slice → jS
open Go.IntKind renaming i64 → jZ
namespace Go.Proofs.Ytjookicpmjmdhaa
open Go.RowKit

def DLs (zs : List Dl) : List Value := (zs.map dlC).flatten
theorem DLs_length (zs : List Dl) : (DLs zs).length = zs.length * 8 := by
 unfold DLs
 rw [flat_len (s := 8) (fun c hc => by obtain ⟨d, _, rfl⟩ := List.mem_map.1 hc; rfl), List.length_map]
theorem DLs_append (a b : List Dl) : DLs (a ++ b) = DLs a ++ DLs b := by unfold DLs; simp
theorem DLs_one (zs : List Dl) : ∀ u ∈ DLs zs, u.oneCell' = true := by
 intro u hu
 unfold DLs at hu
 obtain ⟨l, hl, hu⟩ := List.mem_flatten.1 hu
 obtain ⟨d, _, rfl⟩ := List.mem_map.1 hl
 unfold dlC at hu
 simp only [List.mem_cons, List.not_mem_nil, or_false] at hu
 rcases hu with rfl | rfl | rfl | rfl | rfl | rfl | rfl | rfl <;> rfl
theorem DLs_get (zs : List Dl) (i j : Nat) (hi : i < zs.length) (hj : j < 8) : (DLs zs)[i * 8 + j]? = (dlC (zs.getD i encDl.dflt))[j]? := by
 unfold DLs
 obtain ⟨e1, e2⟩ := flat_split (s := 8) (css := zs.map dlC) (fun c hc => by obtain ⟨d, _, rfl⟩ := List.mem_map.1 hc; rfl) i (by simpa using hi)
 have e3 : (zs.map dlC).getD i [] = dlC (zs.getD i encDl.dflt) := by simp [hi]
 rw [e1, mid_get e2 (by rw [e3]; exact hj), e3]
theorem OwnS.of_deals {w : World} {base : Nat} {v : Value} {n : Nat} {zs : List Dl} {F : FP} (h : w.ownsRow base 104 8 v n (DLs zs)) (hF : ∀ k, v.ownBlock = some k → F k) : OwnS w v zs F := by
 have hl : zs.length = n := by have := h.1; rw [DLs_length] at this; omega
 refine ⟨zs.map dlC, fun _ _ => False, by rw [hl]; exact own_zero h, by simp, fun i hi => ?_, fun i hi k hk => absurd hk id, fun i j hi hj hij k hk => absurd hk id, hF⟩
 show (zs.map dlC).getD i [] = dlC (zs.getD i encDl.dflt)
 simp [hi]
theorem OwnS.deals {w : World} {v : Value} {zs : List Dl} {F : FP} (h : OwnS w v zs F) : w.ownsRow 0 104 8 v zs.length (DLs zs) ∧ ∀ k, v.ownBlock = some k → F k := by
 obtain ⟨css, f, h1, h2, h3, h4, h5, h6⟩ := h
 refine ⟨?_, h6⟩
 have e : css = zs.map dlC := by
   apply List.ext_getElem (by simpa using h2)
   intro i hi hi'
   have h : css.getD i [] = dlC (zs.getD i encDl.dflt) := h3 i (by simpa using hi')
   have hz : i < zs.length := by simpa using hi'
   simpa [hi, hz] using h
 unfold DLs
 rw [← e]
 exact h1

theorem Sep.toAt {X : FP} {w0 w : World} {L : List Item} {I : Item} (h : Sep X w0 (I :: L) w) (i : Nat) (e : L[i]? = some em) : Sep X w0 (L.set i I) w := by
 have hi : i < L.length := (List.getElem?_eq_some_iff.1 e).1
 have h2 : Sep X w0 L w := h.drop (List.sublist_cons_self _ _)
 have hc := List.pairwise_cons.1 h.apart
 have hget : ∀ q (hq : q < (L.set i I).length), (L.set i I)[q] = if i = q then I else L[q]'(by simpa using hq) := fun q hq => by rw [List.getElem_set]
 refine ⟨h.only, fun z hz => ?_, fun z hz k hk => ?_, ?_⟩
 · obtain ⟨a, ha, rfl⟩ := List.getElem_of_mem hz
   rw [hget]
   split
   · exact h.holds _ (List.mem_cons_self ..)
   · exact h2.holds _ (List.getElem_mem _)
 · obtain ⟨a, ha, rfl⟩ := List.getElem_of_mem hz
   rw [hget] at hk
   split at hk
   · exact h.fresh _ (List.mem_cons_self ..) k hk
   · exact h2.fresh _ (List.getElem_mem _) k hk
 · rw [List.pairwise_iff_getElem]
   intro a b ha hb hab
   have la : a < L.length := by simpa using ha
   have lb : b < L.length := by simpa using hb
   rw [hget, hget]
   split
   · split
     · omega
     · exact hc.1 _ (List.getElem_mem _)
   · split
     · exact (hc.1 _ (List.getElem_mem _)).symm
     · exact List.pairwise_iff_getElem.1 h2.apart a b la lb hab

section
variable {X : FP} {w0 w : World} {L : List Item} {o : Oper} {a : Act} {K : Act → World → Prop} {Q : Exit → Act → World → Prop}
theorem empty_deals (w : World) : (w.alloc (.cells #[] 104)).ownsRow w.heap.size 104 8 (jS (some ⟨w.heap.size, 0, none⟩) 0 0) 0 (DLs []) :=
 World.ownsRow_made w #[] 0 (Nat.le_refl _) (by unfold maxLen; omega) (by simp)
theorem op_bsD0 (ho : o.op = .buildSlice 79 0 #[]) (h : Sep X w0 L w) (i : Nat) (e : L[i]? = some em)
   (hK : ∀ g w', Sep X w0 (L.set i (ow (jS (some ⟨g, 0, none⟩) 0 0) ([] : List Dl) (fun k => k = g))) w' → K (a.put o.dst (jS (some ⟨g, 0, none⟩) 0 0)) w') : o.wp Try.prog a w K Q := by
 have hrun : (execOp a.eval o).run Try.prog w = .ok (.value (jS (some ⟨w.heap.size, 0, none⟩) 0 0)) (w.alloc (.cells #[] 104)) := by
   simp only [execOp, ho, Sem.run_bind, Array.map_empty]
   kernel_rfl
 unfold Oper.wp
 rw [hrun]
 exact hK _ _ (h.turn i e (Only.of_below ((Below.refl _ _).alloc (Nat.le_refl _) _)) _ (OwnS.of_deals (zs := []) (empty_deals w) (fun k hk => by simpa [Value.ownBlock] using hk.symm)) (fun k hk => by
   have hk : k = w.heap.size := hk
   subst hk
   exact ⟨.inr (Nat.le_refl _), by simp⟩))
theorem op_appD (s x : Operand) (ho : o.op = .call { callee := .builtin .append, args := #[s, x], argTypes := #[79, 79] }) (h : Sep X w0 L w) (p : Nat) {v : Value} {xs : List Dl} {F : FP} (e : L[p]? = some (ow v xs F)) (hs : a.eval s = v)
   {B : Nat} {A : Option Addr} {m c : Nat} (ys : List Dl) (hr : RS w B A m ys) (hx : a.eval x = jS A m c) (hsz : xs.length + m ≤ 4194304)
   (hK : ∀ A' c' F' w', Sep X w0 (L.set p (ow (jS A' (xs.length + m) c') (xs ++ ys) F')) w' → K (a.put o.dst (jS A' (xs.length + m) c')) w') : o.wp Try.prog a w K Q := by
 obtain ⟨i0, z0, hi0, hz0, hz1, hz2, hz3⟩ := kd_deal.info
 obtain ⟨hrow, hF⟩ := OwnS.deals (h.get p e)
 have hm : ys.length = m := hr.1
 have close : ∀ v' w', w'.ownsRow 0 104 8 v' (xs.length + m) (DLs xs ++ DLs ys) → w.grownBy w' v.ownBlock → (v'.ownBlock = v.ownBlock ∨ v'.ownBlock = some w.heap.size) → K (a.put o.dst v') w' := fun v' w' r1 r2 r3 => by
   rw [← DLs_append] at r1
   have ho' : OwnS w' v' (xs ++ ys) (fun k => F k ∨ v'.ownBlock = some k) := OwnS.of_deals r1 (fun k hk => .inr hk)
   obtain ⟨A', c', hv', _, _⟩ := ho'.form
   have hl : (xs ++ ys).length = xs.length + m := by simp [hm]
   rw [hl] at hv'
   subst hv'
   refine hK A' c' _ w' (h.turn p e (Only.of_grown r2 (fun k hk => hF k hk)) _ ho' (fun k hk => ?_))
   rcases hk with hk | hk
   · have h5 := h.fresh _ (List.mem_of_getElem? e) k hk
     exact ⟨.inl hk, Nat.lt_of_lt_of_le h5.2 r2.size⟩
   · refine ⟨?_, (r1.lt k hk).2⟩
     rcases r3 with h6 | h6
     · exact .inl (hF k (h6 ▸ hk))
     · rw [h6] at hk
       exact .inr (by have : w.heap.size = k := by simpa using hk
                      omega)
 rcases A with _ | ad
 · have hm0 : m = 0 := by
     rcases Nat.eq_zero_or_pos m with h0 | h0
     · exact h0
     · obtain ⟨_, _, h, _⟩ := hr.2 h0; cases h
   subst hm0
   have hy : ys = [] := List.eq_nil_of_length_eq_zero hr.1
   subst hy
   have hrun := run_app_nil (P := Try.prog) w 0 79 o.type 104 i0 8 Try.underlying79 hi0 v xs.length (DLs xs) hrow c
   unfold Oper.wp
   simp only [execOp, ho, resolve, invoke, builtin, hs, hx, hrun, Result.andThen, Sem.run_bind, Sem.run_pure, List.map_toArray, List.map_cons, List.map_nil]
   exact close v w (by simpa [DLs] using hrow) (World.grownBy.refl w _) (.inl rfl)
 · obtain ⟨v', w', hrun, h2, h3, _, h5⟩ := run_append_own_at (P := Try.prog) w 0 79 o.type 104 i0 _ 8 64 Try.underlying79 hi0 hz0 hz1 hz2 hz3 (by omega) v xs.length (DLs xs) hrow ad m c (DLs ys) (by rw [DLs_length, hm])
     (fun j u hu => by
       have hj : j < (DLs ys).length := (List.getElem?_eq_some_iff.1 hu).1
       rw [DLs_length] at hj
       obtain ⟨b, off, hA, hb, hc⟩ := hr.2 (by omega)
       cases hA
       have aa : (⟨b, off, none⟩ : Addr).add j = ⟨b, off + j, none⟩ := by unfold Addr.add; split <;> simp_all
       rw [aa]
       obtain ⟨cs, h1, h2⟩ := hc (j / 8) (by omega)
       have h1 : cs = dlC (ys.getD (j / 8) encDl.dflt) := h1
       subst h1
       have e8 : j = j / 8 * 8 + j % 8 := by omega
       have h3 := DLs_get ys (j / 8) (j % 8) (by omega) (by omega)
       rw [← e8] at h3
       have h4 := h2 (j % 8) u (by rw [← h3]; exact hu)
       have e9 : off + j / 8 * encDl.sz + j % 8 = off + j := by show off + j / 8 * 8 + j % 8 = off + j; omega
       rw [e9] at h4
       exact h4) (DLs_one ys) (by unfold maxLen; omega) (by omega) (Nat.zero_le _)
   unfold Oper.wp execOp
   simp only [ho, resolve, invoke, builtin, Sem.run_bind, Sem.run_pure, Result.andThen_ok, List.map_toArray, List.map_cons, List.map_nil, hs, hx, hrun]
   exact close v' w' h2 h3 h5
theorem op_appD2 (s x : Operand) (ho : o.op = .call { callee := .builtin .append, args := #[s, x], argTypes := #[79, 79] }) (h : Sep X w0 L w) (p : Nat) {v : Value} {xs : List Dl} {F : FP} (e : L[p]? = some (ow v xs F)) (hs : a.eval s = v)
   {B : Nat} {A : Option Addr} {m c : Nat} (ys : List Dl) (hr : RS w B A m ys) (hx : a.eval x = jS A m c) (hsz : xs.length + m ≤ 4194304) (k : Nat) (hk : xs.length + m = k) (zs : List Dl) (hz : xs ++ ys = zs)
   (hK : ∀ A' c' F' w', Sep X w0 (L.set p (ow (jS A' k c') zs F')) w' → K (a.put o.dst (jS A' k c')) w') : o.wp Try.prog a w K Q := by
 subst hk hz
 exact op_appD s x ho h p e hs ys hr hx hsz hK
theorem op_bsH1At (x : Operand) (ho : o.op = .buildSlice 78 1 #[(0, x)]) (h : Sep X w0 L w) (i : Nat) (e : L[i]? = some em) {v0 v1 v2 v3 v4 v5 v6 v7 v8 v9 v10 v11 v12 v13 v14 v15 : Value} (hx : a.eval x = .agg #[v0, v1, v2, v3, v4, v5, v6, v7, v8, v9, v10, v11, v12, v13, v14, v15])
   (hK : ∀ g w', Sep X w0 (L.set i (bx g #[v0, v1, v2, v3, v4, v5, v6, v7, v8, v9, v10, v11, v12, v13, v14, v15] 31)) w' → K (a.put o.dst (jS (some ⟨g, 0, none⟩) 1 1)) w') : o.wp Try.prog a w K Q := by
 refine op_bsH1 x ho h hx (fun g w' h' => hK g w' ?_)
 exact h'.toAt i e
end
end Go.Proofs.Ytjookicpmjmdhaa
