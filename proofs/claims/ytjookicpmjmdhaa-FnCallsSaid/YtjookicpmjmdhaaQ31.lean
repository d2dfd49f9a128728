/- More laws at one operation: slices and lists of pairs. -/
import Derived.Test.YtjookicpmjmdhaaQ15
import Derived.Deep.AppendLies
import Derived.Test.YtjookicpmjmdhaaQ10
open Go.Value renaming int → jI, slice → jS
open Go.IntKind renaming i64 → jZ
namespace Go.Proofs.Ytjookicpmjmdhaa
open Go.RowKit

section
variable {X : FP} {w0 w : World} {L : List Item} {o : Oper} {a : Act} {K : Act → World → Prop} {Q : Exit → Act → World → Prop}
theorem op_appP (s x : Operand) (ho : o.op = .call { callee := .builtin .append, args := #[s, x], argTypes := #[99, 99] }) (h : Sep X w0 L w) (p : Nat) {v : Value} {xs : List Pr} {F : FP} (e : L[p]? = some (ow v xs F)) (hs : a.eval s = v)
   {B : Nat} (ad : Addr) (m c : Nat) (ys : List Pr) (hr : RP w B (some ad) m ys) (hm0 : 0 < m) (hx : a.eval x = jS (some ad) m c) (hsz : xs.length + m ≤ 4194304)
   (hK : ∀ A c' F' w', Sep X w0 (L.set p (ow (jS A (xs.length + m) c') (xs ++ ys) F')) w' → K (a.put o.dst (jS A (xs.length + m) c')) w') : o.wp Try.prog a w K Q := by
 obtain ⟨i0, hi0, hz0, hz1, hz2⟩ := info_parts pair_info
 obtain ⟨hrow, hF⟩ := OwnS.pairs (h.get p e)
 have hm : ys.length = m := hr.1
 refine wp_append_lies w s x 99 ho 0 86 i0 _ 2 16 Try.underlying99 hi0 hz0 hz1 hz2 rfl (by omega) v xs.length (PL xs) hs hrow ad m c (PL ys) hx (by rw [PL_length, hm])
   (fun j u hu => by
     obtain ⟨i, hi, h'⟩ := PL_get ys j u hu
     obtain ⟨b, off, hA, hb, hc⟩ := hr.2 hm0
     cases hA
     have aa : (⟨b, off, none⟩ : Addr).add j = ⟨b, off + j, none⟩ := by unfold Addr.add; split <;> simp_all
     rw [aa]
     obtain ⟨h1, h2⟩ := hc i (by omega)
     rcases h' with ⟨rfl, rfl⟩ | ⟨rfl, rfl⟩
     · exact h1
     · rw [show off + (i * 2 + 1) = off + i * 2 + 1 by omega]; exact h2) (PL_one ys) hm0 (by unfold maxLen; omega) (by omega) (Nat.zero_le _) w.heap.size rfl (fun g' cap w' h1 h2 h3 h4 => ?_)
 rw [← PL_append] at h1
 refine hK _ cap (fun k => F k ∨ k = g') w' (h.turn p e (Only.of_grown h2 (fun k hk => hF k hk)) _ ?_ (fun k hk => ?_))
 · have hl : (xs ++ ys).length = xs.length + m := by simp [hm]
   have := OwnS.of_pairs (F := fun k => F k ∨ k = g') h1 (fun k hk => .inr (by simpa [Value.ownBlock] using hk.symm))
   exact this
 · rcases hk with hk | rfl
   · have h5 := h.fresh _ (List.mem_of_getElem? e) k hk
     have := h2.size
     exact ⟨.inl hk, by omega⟩
   · refine ⟨?_, h4⟩
     rcases h3 with h5 | h5
     · exact .inl (hF _ h5)
     · exact .inr (by omega)
theorem op_bsP0 (ho : o.op = .buildSlice 99 0 #[]) (h : Sep X w0 L w) (i : Nat) (e : L[i]? = some em)
   (hK : ∀ g w', Sep X w0 (L.set i (ow (jS (some ⟨g, 0, none⟩) 0 0) ([] : List Pr) (fun k => k = g))) w' → K (a.put o.dst (jS (some ⟨g, 0, none⟩) 0 0)) w') : o.wp Try.prog a w K Q := by
 have hrun : (execOp a.eval o).run Try.prog w = .ok (.value (jS (some ⟨w.heap.size, 0, none⟩) 0 0)) (w.alloc (.cells #[] 86)) := by
   simp only [execOp, ho, Sem.run_bind, Array.map_empty]
   kernel_rfl
 unfold Oper.wp
 rw [hrun]
 exact hK _ _ (h.turn i e (Only.of_below ((Below.refl _ _).alloc (Nat.le_refl _) _)) _ (OwnS.of_pairs (zs := []) (empty_row w) (fun k hk => by simpa [Value.ownBlock] using hk.symm)) (fun k hk => by
   have hk : k = w.heap.size := hk
   subst hk
   exact ⟨.inr (Nat.le_refl _), by simp⟩))
theorem op_slFrom (t e : TypeId) (sz k : Nat) (x : Operand) (ho : o.op = .slice t x (some (.const (jI jZ k))) none none) (ht : Try.prog.underlying t = some (.slice e)) (hi : ∀ w, (sizeOf e).run Try.prog w = .ok sz w) {b off n c : Nat} (hx : a.eval x = jS (some ⟨b, off, none⟩) n c) (hkn : k ≤ n) (hkc : k < c) (_hnc : n ≤ c)
   (hK : K (a.put o.dst (jS (some ⟨b, off + k * sz, none⟩) (n - k) (c - k))) w) : o.wp Try.prog a w K Q := by
 refine op_val ?_ hK
 have h1 : (k : Int) ≤ n := by omega
 have h2 : ¬ c = k := by omega
 generalize hE : a.eval = E at hx ⊢
 have hc : E (.const (jI jZ k)) = jI jZ k := by rw [← hE]; rfl
 simp [execOp, ho, hx, hc, go_sem, ht, hi, h1, h2]
theorem op_slTo (t e : TypeId) (sz k : Nat) (x : Operand) (ho : o.op = .slice t x none (some (.const (jI jZ k))) none) (ht : Try.prog.underlying t = some (.slice e)) (hi : ∀ w, (sizeOf e).run Try.prog w = .ok sz w) {b off n c : Nat} (hx : a.eval x = jS (some ⟨b, off, none⟩) n c) (hkc : k ≤ c) (hk0 : 0 < c)
   (hK : K (a.put o.dst (jS (some ⟨b, off, none⟩) k c)) w) : o.wp Try.prog a w K Q := by
 refine op_val ?_ hK
 have h1 : (k : Int) ≤ c := by omega
 have h2 : ¬ c = 0 := by omega
 generalize hE : a.eval = E at hx ⊢
 have hc : E (.const (jI jZ k)) = jI jZ k := by rw [← hE]; rfl
 simp [execOp, ho, hx, hc, go_sem, ht, hi, h1, h2]
end
end Go.Proofs.Ytjookicpmjmdhaa
namespace Go.Proofs.Ytjookicpmjmdhaa
open Go.RowKit

def GivesNN (w : World) (l u : Nd) (b : Bool) (e : Ending) (w' : World) : Prop :=
 ∃ A1 c1 F1 A2 c2 F2, e = .returned (.tuple #[ndV l A1 l.ps.length c1, ndV u A2 u.ps.length c2, .bool b]) ∧ OwnS w' (jS A1 l.ps.length c1) l.ps F1 ∧ OwnS w' (jS A2 u.ps.length c2) u.ps F2 ∧
   Apart F1 F2 ∧ Fresh F1 w w' ∧ Fresh F2 w w' ∧ Below w.heap.size w w'
theorem none_NN {w w' : World} (b : Below w.heap.size w w') : GivesNN w zeroN zeroN false (.returned (.tuple #[.agg #[jI jZ 0, jS none 0 0, jI jZ 0, jI jZ 0, jI jZ 0], .agg #[jI jZ 0, jS none 0 0, jI jZ 0, jI jZ 0, jI jZ 0], .bool false])) w' :=
 ⟨none, 0, fun _ => False, none, 0, fun _ => False, rfl, OwnS.nil _ _, OwnS.nil _ _, fun _ hk => absurd hk id, fun _ hk => absurd hk id, fun _ hk => absurd hk id, b⟩
theorem Sep.givesNN {w0 w : World} {L : List Item} (h : Sep noX w0 L w) (i j : Nat) (hij : i ≠ j) {l u : Nd} {A A' : Option Addr} {c c' m m' : Nat} {F G : FP} (e : L[i]? = some (ow (jS A m c) l.ps F)) (e' : L[j]? = some (ow (jS A' m' c') u.ps G))
   (hm : l.ps.length = m) (hm' : u.ps.length = m') : GivesNN w0 l u true (.returned (.tuple #[ndV l A m c, ndV u A' m' c', .bool true])) w := by
 subst hm hm'
 obtain ⟨h1, h2, h3⟩ := h.ends i e
 obtain ⟨h4, h5, _⟩ := h.ends j e'
 refine ⟨A, c, F, A', c', G, rfl, h1, h4, ?_, h2, h5, h3⟩
 rcases Nat.lt_or_gt_of_ne hij with h' | h'
 · exact h.two i j h' e e'
 · exact (h.two j i h' e' e).symm
theorem hit_where {zs : List Pr} (hp : pOk zs = true) (k : Int) : decide (0 ≤ whereI zs k) = hitB zs k := by
 cases hh : hitB zs k
 · rw [where_miss zs k hp hh]; rfl
 · rw [where_hit zs k hh]; simp
theorem nodeOk_pOk {x : Nd} (h : nodeOk x = true) : pOk x.ps = true := by
 unfold nodeOk at h
 simp only [Bool.and_eq_true] at h
 exact h.1.1.1.2
theorem RP.drop3 {w : World} {B : Nat} {g : Nat} {zs : List Pr} (h : RP w B (some ⟨g, 0, none⟩) 5 zs) : RP w B (some ⟨g, 0 + 3 * 2, none⟩) (5 - 3) (zs.drop 3) := by
 have h2 := RP.drop (c := 5) h (k := 3) (by omega) (by omega)
 simpa [Addr.add] using h2
theorem RP.key3 {w : World} {B : Nat} {g : Nat} {zs : List Pr} (h : RP w B (some ⟨g, 0, none⟩) 5 zs) : w.cell? ⟨g, 0 + 3 * 2, none⟩ = some (jI jZ (kAt zs 3)) := by
 obtain ⟨b, off, e, _, hc⟩ := h.2 (by omega)
 cases e
 exact (hc 3 (by omega)).1
theorem OwnS.rp {w : World} {A : Option Addr} {m c : Nat} {zs : List Pr} {F : FP} (h : OwnS w (jS A m c) zs F) (hl : zs.length = m) : RP w w.heap.size A m zs := (h.rs hl).pairs

set_option maxRecDepth 100000 in
set_option maxHeartbeats 16000000 in
theorem halves_no (x : Nd) (A : Option Addr) (n c : Nat) (k v at_ : Int) (w0 : World) (hP : RP w0 w0.heap.size A n x.ps) (hn : n ≤ 1048576) (_hc : n ≤ c) (_hc2 : c ≤ 9223372036854775807) (hg : guardH x k v at_ = false) :
   Calls Try.prog 115 #[ndV x A n c, .agg #[jI jZ k, jI jZ v], jI jZ at_] w0 (GivesNN w0 (loH x k v at_) (upH x k v at_) (halfB x k v at_)) := by
 have hE : loH x k v at_ = zeroN ∧ upH x k v at_ = zeroN ∧ halfB x k v at_ = false := by
   have h1 : halfB x k v at_ = false := by unfold halfB; rw [hg]; rfl
   unfold loH upH
   rw [h1]
   exact ⟨rfl, rfl, rfl⟩
 have DEF : Hid (nodeOk x = true → (decide (n = 4) && (rightB k v && (!decide (0 ≤ whereI x.ps k) && (inside x k && numB at_)))) = false) := Lib.hid (fun h => by
   have h2 := hg
   unfold guardH at h2
   rw [h, hP.1, ← hit_where (nodeOk_pOk h)] at h2
   simpa using h2)
 have NK := Lib.hid (fun w h => sNode_any x A n c w h hn)
 have PKK := Lib.hid (pair_any k v)
 have WK := Lib.hid (fun w h => where_any A n c x.ps k w h hn)
 have IK := Lib.hid (fun w => sInside_any x k A n c w)
 have MK := Lib.hid (num_is at_)
 have HP := Lib.hid hP
 have HE := Lib.hid hE
 clear hP hE hg _hc _hc2
 generalize loH x k v at_ = lo at *
 generalize upH x k v at_ = up at *
 generalize halfB x k v at_ = hb at *
 generalize nodeOk x = q1 at *
 generalize rightB k v = q2 at *
 generalize whereI x.ps k = wi at *
 generalize inside x k = q3 at *
 generalize numB at_ = q4 at *
 have S := Lib.hid (Sep.start noX w0)
 have tok0 : True := trivial
 have tok1 : True := trivial
 have tok2 : True := trivial
 have tok3 : True := trivial
 unfold ndV at *
 go_enter Try.func115, Try.ntmps115
 go_wp2_with (first
     | go_skip
     | (clear tok0; refine bx_ 101 S rfl rfl rfl ?_; clear S; intro gn w S)
     | (clear tok1; refine bx_ 86 S rfl rfl rfl ?_; clear S; intro gp w S)
     | (clear tok2; refine nx_ 101 S rfl rfl Try.zeroValue101 ?_; clear S; intro r1 w S)
     | (clear tok3; refine nx_ 101 S rfl rfl Try.zeroValue101 ?_; clear S; intro r2 w S)
     | (refine wpList_op rfl (op_row 101 _ rfl S.out 3 rfl rfl Try.isAgg101 (by kernel_rfl) ?_)))
 refine (NK.out _ (HP.out.on S.out.below)).mono ?_
 rintro e w ⟨rfl, b⟩
 replace S := Lib.hid (S.out.call b)
 clear b
 cases q1
 · go_wp2_with (first
       | go_skip
       | (refine wpList_op rfl (op_putR_1 101 _ _ rfl S rfl _ rfl rfl (by kernel_rfl) rfl ?_); clear S; intro w S)
       | (refine wpList_op rfl (op_putR_0 101 _ _ rfl S rfl _ rfl rfl (by kernel_rfl) rfl ?_); clear S; intro w S))
   exact bodyPost_ret (results_ccs rfl _ S.out 1 0 rfl rfl rfl rfl Try.isAgg101 Try.isAgg101 (by kernel_rfl) (by kernel_rfl)) rfl (by obtain ⟨e1, e2, e3⟩ := HE.out; rw [e1, e2, e3]; exact none_NN S.out.below)
 replace DEF := Lib.hid (DEF.out (by trivial))
 by_cases h4 : n = 4
 · have g4 : ((n : Int) != 4) = false := by simp [h4]
   have H4 := Lib.hid h4
   clear h4
   go_wp2_with (first
       | go_skip
       | (refine wpList_op rfl (op_get 99 _ rfl S.out 3 rfl _ rfl Try.isAgg99 _ rfl ?_))
       | (refine wpList_op rfl (op_row 86 _ rfl S.out 2 rfl rfl Try.isAgg86 (by kernel_rfl) ?_)))
   refine (PKK.out _).mono ?_
   rintro e w ⟨rfl, b⟩
   replace S := Lib.hid (S.out.call b)
   clear b
   cases q2
   · go_wp2_with (first
         | go_skip
         | (refine wpList_op rfl (op_putR_1 101 _ _ rfl S rfl _ rfl rfl (by kernel_rfl) rfl ?_); clear S; intro w S)
         | (refine wpList_op rfl (op_putR_0 101 _ _ rfl S rfl _ rfl rfl (by kernel_rfl) rfl ?_); clear S; intro w S))
     exact bodyPost_ret (results_ccs rfl _ S.out 1 0 rfl rfl rfl rfl Try.isAgg101 Try.isAgg101 (by kernel_rfl) (by kernel_rfl)) rfl (by obtain ⟨e1, e2, e3⟩ := HE.out; rw [e1, e2, e3]; exact none_NN S.out.below)
   go_wp2_with (first
       | go_skip
       | (refine wpList_op rfl (op_get 99 _ rfl S.out 3 rfl _ rfl Try.isAgg99 _ rfl ?_))
       | (refine wpList_op rfl (op_get 2 _ rfl S.out 2 rfl _ rfl Try.isAgg2 _ rfl ?_)))
   refine (WK.out _ (HP.out.on S.out.below)).mono ?_
   rintro e w9 ⟨rfl, rfl⟩
   by_cases ht : 0 ≤ wi
   · have gt : decide (0 ≤ wi) = true := by simp [ht]
     clear ht
     go_wp2_with (first
         | go_skip
         | (refine wpList_op rfl (op_putR_1 101 _ _ rfl S rfl _ rfl rfl (by kernel_rfl) rfl ?_); clear S; intro w S)
         | (refine wpList_op rfl (op_putR_0 101 _ _ rfl S rfl _ rfl rfl (by kernel_rfl) rfl ?_); clear S; intro w S))
     exact bodyPost_ret (results_ccs rfl _ S.out 1 0 rfl rfl rfl rfl Try.isAgg101 Try.isAgg101 (by kernel_rfl) (by kernel_rfl)) rfl (by obtain ⟨e1, e2, e3⟩ := HE.out; rw [e1, e2, e3]; exact none_NN S.out.below)
   have gt : decide (0 ≤ wi) = false := by simp [ht]
   have HT := Lib.hid ht
   clear ht
   go_wp2_with (first
       | go_skip
       | (refine wpList_op rfl (op_row 101 _ rfl S.out 3 rfl rfl Try.isAgg101 (by kernel_rfl) ?_))
       | (refine wpList_op rfl (op_get 2 _ rfl S.out 2 rfl _ rfl Try.isAgg2 _ rfl ?_)))
   refine (IK.out _).mono ?_
   rintro e w ⟨rfl, b⟩
   replace S := Lib.hid (S.out.call b)
   clear b
   cases q3
   · go_wp2_with (first
         | go_skip
         | (refine wpList_op rfl (op_putR_1 101 _ _ rfl S rfl _ rfl rfl (by kernel_rfl) rfl ?_); clear S; intro w S)
         | (refine wpList_op rfl (op_putR_0 101 _ _ rfl S rfl _ rfl rfl (by kernel_rfl) rfl ?_); clear S; intro w S))
     exact bodyPost_ret (results_ccs rfl _ S.out 1 0 rfl rfl rfl rfl Try.isAgg101 Try.isAgg101 (by kernel_rfl) (by kernel_rfl)) rfl (by obtain ⟨e1, e2, e3⟩ := HE.out; rw [e1, e2, e3]; exact none_NN S.out.below)
   go_wp2_with fail
   refine (MK.out _).mono ?_
   rintro e w9 ⟨rfl, rfl⟩
   cases q4
   · go_wp2_with (first
         | go_skip
         | (refine wpList_op rfl (op_putR_1 101 _ _ rfl S rfl _ rfl rfl (by kernel_rfl) rfl ?_); clear S; intro w S)
         | (refine wpList_op rfl (op_putR_0 101 _ _ rfl S rfl _ rfl rfl (by kernel_rfl) rfl ?_); clear S; intro w S))
     exact bodyPost_ret (results_ccs rfl _ S.out 1 0 rfl rfl rfl rfl Try.isAgg101 Try.isAgg101 (by kernel_rfl) (by kernel_rfl)) rfl (by obtain ⟨e1, e2, e3⟩ := HE.out; rw [e1, e2, e3]; exact none_NN S.out.below)
   exact absurd DEF.out (by simp [H4.out, HT.out])
 · have g4 : ((n : Int) != 4) = true := by simp; omega
   clear h4
   go_wp2_with (first
       | go_skip
       | (refine wpList_op rfl (op_get 99 _ rfl S.out 3 rfl _ rfl Try.isAgg99 _ rfl ?_))
       | (refine wpList_op rfl (op_putR_1 101 _ _ rfl S rfl _ rfl rfl (by kernel_rfl) rfl ?_); clear S; intro w S)
       | (refine wpList_op rfl (op_putR_0 101 _ _ rfl S rfl _ rfl rfl (by kernel_rfl) rfl ?_); clear S; intro w S))
   exact bodyPost_ret (results_ccs rfl _ S.out 1 0 rfl rfl rfl rfl Try.isAgg101 Try.isAgg101 (by kernel_rfl) (by kernel_rfl)) rfl (by obtain ⟨e1, e2, e3⟩ := HE.out; rw [e1, e2, e3]; exact none_NN S.out.below)
end Go.Proofs.Ytjookicpmjmdhaa
