/- The walks of the model's l9None, l9Done. (Made by genY1.py.) -/
import Derived.Test.YtjookicpmjmdhaaQ12
import Derived.Test.YtjookicpmjmdhaaQ14
import Derived.Test.YtjookicpmjmdhaaQ10
import Derived.Great.BuildSlice
import Derived.Deep.AppendLies
open Go.Value renaming int → jI, slice → jS
open Go.IntKind renaming i64 → jZ
namespace Go.Proofs.Ytjookicpmjmdhaa
open Go.RowKit

def zeroS : Value := .tuple #[.agg #[jI jZ 0, jS none 0 0], hdV zeroH none 0 0, .bool false]

set_option maxRecDepth 100000 in
set_option maxHeartbeats 4000000 in
theorem none9_any (w0 : World) : Calls Try.prog 92 #[] w0 fun e w' => e = .returned zeroS ∧ Below w0.heap.size w0 w' := by
 have S := Lib.hid (Sep.start noX w0)
 have tok0 : True := trivial
 have tok1 : True := trivial
 go_enter Try.func92, Try.ntmps92
 go_wp2_with (first
     | (clear tok0; refine nx_ 77 S rfl rfl Try.zeroValue77 ?_; clear S; intro rt w S)
     | (clear tok1; refine nx_ 31 S rfl rfl Try.zeroValue31 ?_; clear S; intro rh w S)
     | (refine wpList_op rfl (op_putR_1 77 _ _ rfl S rfl _ rfl rfl (by kernel_rfl) rfl ?_); clear S; intro w S)
     | (refine wpList_op rfl (op_putR_0 31 _ _ rfl S rfl _ rfl rfl (by kernel_rfl) rfl ?_); clear S; intro w S))
 exact bodyPost_ret (results_ccs rfl _ S.out 1 0 rfl rfl rfl rfl Try.isAgg77 Try.isAgg31 (by kernel_rfl) (by kernel_rfl)) rfl ⟨rfl, S.out.below⟩

set_option maxRecDepth 100000 in
set_option maxHeartbeats 4000000 in
theorem done9_any (r : Int) (xs : List Nd) (A : Option Addr) (n c : Nat) (hd : Hd) (A' : Option Addr) (n' c' : Nat) (w0 : World) (hR : RS w0 w0.heap.size A n xs) (hs : Small.sm xs) (hH : RS w0 w0.heap.size A' n' hd.st) :
   Calls Try.prog 95 #[.agg #[jI jZ r, jS A n c], hdV hd A' n' c'] w0 fun e w' => e = .returned (if treeOk r xs && handOk hd then .tuple #[.agg #[jI jZ r, jS A n c], hdV hd A' n' c', .bool true] else zeroS) ∧ Below w0.heap.size w0 w' := by
 have TK := Lib.hid (fun w h => sTreeOk_any r xs A n c w h hs)
 have HK := Lib.hid (fun w hR => sHandOk_any hd A' n' c' w hR)
 have NK := Lib.hid none9_any
 have HR := Lib.hid hR
 have HH := Lib.hid hH
 clear hR hH
 generalize treeOk r xs = q1 at *
 generalize handOk hd = q2 at *
 have S := Lib.hid (Sep.start noX w0)
 have tok0 : True := trivial
 have tok1 : True := trivial
 have tok2 : True := trivial
 have tok3 : True := trivial
 unfold hdV at *
 go_enter Try.func95, Try.ntmps95
 go_wp2_with (first
     | (clear tok0; refine bx_ 77 S rfl rfl rfl ?_; clear S; intro gt w S)
     | (clear tok1; refine bx_ 31 S rfl rfl rfl ?_; clear S; intro gh w S)
     | (clear tok2; refine nx_ 77 S rfl rfl Try.zeroValue77 ?_; clear S; intro rt w S)
     | (clear tok3; refine nx_ 31 S rfl rfl Try.zeroValue31 ?_; clear S; intro rh w S)
     | (refine wpList_op rfl (op_row 77 _ rfl S.out 3 rfl rfl Try.isAgg77 (by kernel_rfl) ?_)))
 refine (TK.out _ (S.out.rs HR.out)).mono ?_
 rintro e w ⟨rfl, b⟩
 replace S := Lib.hid (S.out.call b)
 clear b
 cases q1
 · go_wp2_with fail
   refine (NK.out _).mono ?_
   rintro e w ⟨rfl, b⟩
   replace S := Lib.hid (S.out.call b)
   clear b
   unfold zeroS hdV
   go_wp2_with (first
       | (refine wpList_op rfl (op_putR_1 77 _ _ rfl S rfl _ rfl rfl (by kernel_rfl) rfl ?_); clear S; intro w S)
       | (refine wpList_op rfl (op_putR_0 31 _ _ rfl S rfl _ rfl rfl (by kernel_rfl) rfl ?_); clear S; intro w S))
   exact bodyPost_ret (results_ccs rfl _ S.out 1 0 rfl rfl rfl rfl Try.isAgg77 Try.isAgg31 (by kernel_rfl) (by kernel_rfl)) rfl ⟨rfl, S.out.below⟩
 go_wp2_with (first
     | (refine wpList_op rfl (op_row 31 _ rfl S.out 2 rfl rfl Try.isAgg31 (by kernel_rfl) ?_)))
 refine (HK.out _ (S.out.rs HH.out)).mono ?_
 rintro e w ⟨rfl, b⟩
 replace S := Lib.hid (S.out.call b)
 clear b
 cases q2
 · go_wp2_with fail
   refine (NK.out _).mono ?_
   rintro e w ⟨rfl, b⟩
   replace S := Lib.hid (S.out.call b)
   clear b
   unfold zeroS hdV
   go_wp2_with (first
       | (refine wpList_op rfl (op_putR_1 77 _ _ rfl S rfl _ rfl rfl (by kernel_rfl) rfl ?_); clear S; intro w S)
       | (refine wpList_op rfl (op_putR_0 31 _ _ rfl S rfl _ rfl rfl (by kernel_rfl) rfl ?_); clear S; intro w S))
   exact bodyPost_ret (results_ccs rfl _ S.out 1 0 rfl rfl rfl rfl Try.isAgg77 Try.isAgg31 (by kernel_rfl) (by kernel_rfl)) rfl ⟨rfl, S.out.below⟩
 go_wp2_with fail
 refine wp_region_ev (by kernel_rfl) _ (by kernel_rfl) (by kernel_rfl) 21 rfl (by kernel_rfl) (fun D V w => Sep noX w0 [cnd (D 3) (bx rh #[jI jZ 0, jI jZ 0, jI jZ 0, jI jZ 0, jI jZ 0, jI jZ 0, jI jZ 0, jI jZ 0, jI jZ 0, jI jZ 0, jI jZ 0, jS none 0 0, jI jZ 0, jI jZ 0, jI jZ 0, jI jZ 0] 31) (bx rh #[jI jZ hd.pos, jI jZ hd.cc, jI jZ hd.ck, jI jZ hd.cv, jI jZ hd.cur, jI jZ hd.want, jI jZ hd.key, jI jZ hd.kid, jI jZ hd.old, jI jZ hd.next, jI jZ hd.new, jS A' n' c', jI jZ hd.thn, jI jZ hd.beg, jI jZ hd.rep, jI jZ hd.out] 31), cnd (D 2) (bx rt #[jI jZ 0, jS none 0 0] 77) (bx rt #[jI jZ r, jS A n c] 77), bx gh #[jI jZ hd.pos, jI jZ hd.cc, jI jZ hd.ck, jI jZ hd.cv, jI jZ hd.cur, jI jZ hd.want, jI jZ hd.key, jI jZ hd.kid, jI jZ hd.old, jI jZ hd.next, jI jZ hd.new, jS A' n' c', jI jZ hd.thn, jI jZ hd.beg, jI jZ hd.rep, jI jZ hd.out] 31, bx gt #[jI jZ r, jS A n c] 77] w ∧ (D 0 = true → V 0 = .agg #[jI jZ r, jS A n c]) ∧ (D 1 = true → V 1 = .agg #[jI jZ hd.pos, jI jZ hd.cc, jI jZ hd.ck, jI jZ hd.cv, jI jZ hd.cur, jI jZ hd.want, jI jZ hd.key, jI jZ hd.kid, jI jZ hd.old, jI jZ hd.next, jI jZ hd.new, jS A' n' c', jI jZ hd.thn, jI jZ hd.beg, jI jZ hd.rep, jI jZ hd.out]) ∧ (D 4 = true → V 4 = .bool true)) ?_ ?_ ?_
 · intro D hD
   have d2 := hD 2 (by decide)
   have d3 := hD 3 (by decide)
   exact ⟨by rw [cnd_f d3, cnd_f d2]; exact S.out.drew.ems 0, (nof (hD 0 (by decide))), (nof (hD 1 (by decide))), (nof (hD 4 (by decide)))⟩
 · intro i o D V w a ho hI hDi haf hev
   obtain ⟨S, f0, f1, f4⟩ := hI
   rcases i with _ | _ | _ | _ | _ | i
   · obtain rfl := inj_ ho
     exact op_row 77 _ rfl S 3 rfl ((hev.old 2 (by kernel_rfl)).trans rfl) Try.isAgg77 (by kernel_rfl) ⟨_, rfl, S, fun _ => rfl, f1, f4⟩
   · obtain rfl := inj_ ho
     exact op_row 31 _ rfl S 2 rfl ((hev.old 3 (by kernel_rfl)).trans rfl) Try.isAgg31 (by kernel_rfl) ⟨_, rfl, S, f0, fun _ => rfl, f4⟩
   · obtain rfl := inj_ ho
     have h0 := aft_ haf 0 rfl
     exact op_putR 77 _ _ rfl S 1 (g := rt) (C := #[jI jZ 0, jS none 0 0]) (t := 77) (by simp only [gs_, gz_, cnd_f hDi]) ((hev.old 4 (by kernel_rfl)).trans rfl) _ (hev.at_ 0 19 rfl rfl h0 f0) rfl (by kernel_rfl) rfl (fun w S => ⟨_, rfl, S, f0, f1, f4⟩)
   · obtain rfl := inj_ ho
     have h1 := aft_ haf 1 rfl
     exact op_putR 31 _ _ rfl S 0 (g := rh) (C := #[jI jZ 0, jI jZ 0, jI jZ 0, jI jZ 0, jI jZ 0, jI jZ 0, jI jZ 0, jI jZ 0, jI jZ 0, jI jZ 0, jI jZ 0, jS none 0 0, jI jZ 0, jI jZ 0, jI jZ 0, jI jZ 0]) (t := 31) (by simp only [List.getElem?_cons_zero, cnd_f hDi]) ((hev.old 5 (by kernel_rfl)).trans rfl) _ (hev.at_ 1 20 rfl rfl h1 f1) rfl (by kernel_rfl) rfl (fun w S => ⟨_, rfl, S, f0, f1, f4⟩)
   · obtain rfl := inj_ ho
     exact op_move (.inr rfl) rfl ⟨_, rfl, S, f0, f1, fun _ => rfl⟩
   · exact absurd ho (by simp)
 intro V w hI
 obtain ⟨S, f0, f1, f4⟩ := hI
 replace S : Hid (Sep noX w0 [bx rh #[jI jZ hd.pos, jI jZ hd.cc, jI jZ hd.ck, jI jZ hd.cv, jI jZ hd.cur, jI jZ hd.want, jI jZ hd.key, jI jZ hd.kid, jI jZ hd.old, jI jZ hd.next, jI jZ hd.new, jS A' n' c', jI jZ hd.thn, jI jZ hd.beg, jI jZ hd.rep, jI jZ hd.out] 31, bx rt #[jI jZ r, jS A n c] 77, bx gh #[jI jZ hd.pos, jI jZ hd.cc, jI jZ hd.ck, jI jZ hd.cv, jI jZ hd.cur, jI jZ hd.want, jI jZ hd.key, jI jZ hd.kid, jI jZ hd.old, jI jZ hd.next, jI jZ hd.new, jS A' n' c', jI jZ hd.thn, jI jZ hd.beg, jI jZ hd.rep, jI jZ hd.out] 31, bx gt #[jI jZ r, jS A n c] 77] w) := Lib.hid S
 simp only [putF, Act.put, sa_, sb_, sc_, f0 rfl, f1 rfl, f4 rfl]
 clear f0 f1 f4
 go_wp2
 exact bodyPost_ret (results_ccs rfl _ S.out 1 0 rfl rfl rfl rfl Try.isAgg77 Try.isAgg31 (by kernel_rfl) (by kernel_rfl)) rfl ⟨rfl, S.out.below⟩

theorem done9_yes (r : Int) (xs : List Nd) (A : Option Addr) (n c : Nat) (hd : Hd) (A' : Option Addr) (n' c' : Nat) (w0 : World) (hR : RS w0 w0.heap.size A n xs) (hs : Small.sm xs) (hH : RS w0 w0.heap.size A' n' hd.st) (hq : treeOk r xs = true) (hq2 : handOk hd = true) :
   Calls Try.prog 95 #[.agg #[jI jZ r, jS A n c], hdV hd A' n' c'] w0 fun e w' => e = .returned (.tuple #[.agg #[jI jZ r, jS A n c], hdV hd A' n' c', .bool true]) ∧ Below w0.heap.size w0 w' := by
 have h := done9_any r xs A n c hd A' n' c' w0 hR hs hH
 rw [hq, hq2] at h
 exact h
theorem done9_no (r : Int) (xs : List Nd) (A : Option Addr) (n c : Nat) (hd : Hd) (A' : Option Addr) (n' c' : Nat) (w0 : World) (hR : RS w0 w0.heap.size A n xs) (hs : Small.sm xs) (hH : RS w0 w0.heap.size A' n' hd.st) (hq : (treeOk r xs && handOk hd) = false) :
   Calls Try.prog 95 #[.agg #[jI jZ r, jS A n c], hdV hd A' n' c'] w0 fun e w' => e = .returned (.tuple #[.agg #[jI jZ 0, jS none 0 0], hdV zeroH none 0 0, .bool false]) ∧ Below w0.heap.size w0 w' := by
 have h := done9_any r xs A n c hd A' n' c' w0 hR hs hH
 rw [hq] at h
 exact h
end Go.Proofs.Ytjookicpmjmdhaa
namespace Go.Proofs.Ytjookicpmjmdhaa
open Go.RowKit

section
variable {X : FP} {w0 w : World} {L : List Item} {o : Oper} {a : Act} {K : Act → World → Prop} {Q : Exit → Act → World → Prop}
theorem op_idx (t : TypeId) (s x : Operand) (ho : o.op = .indexAddr t s x) (e : TypeId) (sz : Nat) (ht : Try.prog.underlying t = some (.slice e)) (hi : ∀ w, (sizeOf e).run Try.prog w = .ok sz w) {b off n c k : Nat} (hs : a.eval s = jS (some ⟨b, off, none⟩) n c) (hx : a.eval x = jI jZ k) (hk : k < n)
   (hK : K (a.put o.dst (.pointer (some ⟨b, off + k * sz, none⟩))) w) : o.wp Try.prog a w K Q := by
 refine op_val ?_ hK
 have hk' : (0 : Int) ≤ k ∧ (k : Int) < n := by omega
 have aa : (⟨b, off, none⟩ : Addr).add (k * sz) = ⟨b, off + k * sz, none⟩ := by unfold Addr.add; split <;> simp_all
 generalize a.eval = E at hs hx ⊢
 simp [execOp, ho, hs, hx, Instr.indexAt, asIntOf, run_underlying ht, hi, hk', hk, aa, Result.andThen]
theorem op_cell (ty : TypeId) (x : Operand) (ho : o.op = .load ty x) {p : Addr} (hx : a.eval x = .pointer (some p)) (hu : ∀ w, (isAgg ty).run Try.prog w = .ok false w) {v : Value} (hc : w.cell? p = some v) (hK : K (a.put o.dst v) w) : o.wp Try.prog a w K Q := by
 unfold Oper.wp execOp
 simp only [ho, hx, Instr.loadAt, Instr.sureAddr, loadVar, Sem.run_bind, Sem.run_pure, Result.andThen_ok, hu, Bool.false_eq_true, if_false, run_load, hc]
 exact hK
theorem op_field (t : TypeId) (x : Operand) (k : Nat) (ho : o.op = .fieldAddr t x k) {v u : Value} (hx : a.eval x = v) (hr : (Instr.fieldAt t v k).run Try.prog w = .ok u w) (hK : K (a.put o.dst u) w) : o.wp Try.prog a w K Q := by
 refine op_val ?_ hK
 subst hx
 simp only [execOp, ho, Sem.run_bind, hr, Result.andThen_ok, Sem.run_pure]
theorem op_build (t : TypeId) (parts : Array (Nat × Operand)) (ho : o.op = .build t parts) (pl : List (Nat × Value)) (hpl : (parts.map fun (i, x) => (i, a.eval x)).toList = pl) (C : Array Value) (hb : Try.prog.built t pl = some C) (hK : K (a.put o.dst (.agg C)) w) : o.wp Try.prog a w K Q := by
 subst hpl
 refine wp_build t parts ho (by rw [hb]; rfl) ?_
 rw [hb]
 exact hK
theorem op_not (t : TypeId) (x : Operand) (ho : o.op = .unOp .not t x) {b : Bool} (hx : a.eval x = .bool b) (hK : K (a.put o.dst (.bool (!b))) w) : o.wp Try.prog a w K Q := by
 refine op_val ?_ hK
 generalize a.eval = E at hx ⊢
 simp [execOp, ho, hx, Op.unary]
theorem op_extract (x : Operand) (k : Nat) (ho : o.op = .extract x k) {vs : Array Value} (hx : a.eval x = .tuple vs) {v : Value} (hv : vs[k]? = some v) (hK : K (a.put o.dst v) w) : o.wp Try.prog a w K Q := by
 refine op_val ?_ hK
 generalize a.eval = E at hx ⊢
 simp [execOp, ho, hx, Instr.extract, hv]
end
theorem Sep.gainAt2 {X : FP} {w0 w w' : World} {L : List Item} (h : Sep X w0 L w) (b : Below w.heap.size w w') (i j : Nat) (_hij : i ≠ j) (e : L[i]? = some em) (e' : L[j]? = some em) (I J : Item) (p : I.P w') (q : J.P w')
   (f : ∀ k, I.F k → w.heap.size ≤ k ∧ k < w'.heap.size) (g : ∀ k, J.F k → w.heap.size ≤ k ∧ k < w'.heap.size) (ap : Apart I.F J.F) : Sep X w0 ((L.set i I).set j J) w' := by
 have hi : i < L.length := (List.getElem?_eq_some_iff.1 e).1
 have hj : j < L.length := (List.getElem?_eq_some_iff.1 e').1
 have hget : ∀ q (hq : q < ((L.set i I).set j J).length), ((L.set i I).set j J)[q] = if j = q then J else if i = q then I else L[q]'(by simpa using hq) := fun q hq => by
   rw [List.getElem_set]
   split
   · rfl
   · rw [List.getElem_set]
 have hp := List.pairwise_iff_getElem.1 h.apart
 have hz := h.size
 have hs := b.size
 have hfr : ∀ q (hq : q < L.length) k, L[q].F k → (X k ∨ w0.heap.size ≤ k) ∧ k < w.heap.size := fun q hq k hk => h.fresh _ (List.getElem_mem hq) k hk
 refine ⟨h.only.trans (Only.of_below b), fun z hz => ?_, fun z hz k hk => ?_, ?_⟩
 · obtain ⟨a, ha, rfl⟩ := List.getElem_of_mem hz
   rw [hget]
   split
   · exact q
   · split
     · exact p
     · exact Item.keep _ _ _ (h.holds _ (List.getElem_mem _)) (fun k _ hk => b.block k hk)
 · obtain ⟨a, ha, rfl⟩ := List.getElem_of_mem hz
   rw [hget] at hk
   split at hk
   · have := g k hk; exact ⟨.inr (by omega), this.2⟩
   · split at hk
     · have := f k hk; exact ⟨.inr (by omega), this.2⟩
     · have := hfr _ _ k hk; exact ⟨this.1, by omega⟩
 · rw [List.pairwise_iff_getElem]
   intro a c ha hc hac
   have la : a < L.length := by simpa using ha
   have lc : c < L.length := by simpa using hc
   rw [hget, hget]
   split
   · split
     · omega
     · split
       · exact ap.symm
       · exact fun k hk hk2 => by have := g k hk; have := hfr c lc k hk2; omega
   · split
     · split
       · exact ap
       · split
         · omega
         · exact fun k hk hk2 => by have := f k hk; have := hfr c lc k hk2; omega
     · split
       · exact fun k hk hk2 => by have := g k hk2; have := hfr a la k hk; omega
       · split
         · exact fun k hk hk2 => by have := f k hk2; have := hfr a la k hk; omega
         · exact hp a c la lc hac
theorem Sep.marked {X : FP} {w0 w w' : World} {L : List Item} {α : Type} [Enc α] (h : Sep X w0 L w) (i : Nat) {v : Value} {xs ys : List α} {F : FP} (e : L[i]? = some (ow v xs F)) (o : Only F w w') (p : OwnS w' v ys F) : Sep X w0 (L.set i (ow v ys F)) w' :=
 h.turn i e o _ p (fun k hk => ⟨.inl hk, by have := (h.fresh _ (List.mem_of_getElem? e) k hk).2; have := o.size; omega⟩)
end Go.Proofs.Ytjookicpmjmdhaa
namespace Go.Proofs.Ytjookicpmjmdhaa
open Go.RowKit

theorem OwnS.ints {w : World} {v : Value} {xs : List Int} {F : FP} (h : OwnS w v xs F) : w.ownsRow 0 2 1 v xs.length (IL xs) ∧ ∀ k, v.ownBlock = some k → F k := by
 obtain ⟨css, f, h1, h2, h3, h4, h5, h6⟩ := h
 refine ⟨?_, h6⟩
 have e : css.flatten = IL xs := by
   have h7 : ∀ (cs : List (List Value)) (ys : List Int), cs.length = ys.length → (∀ i, i < ys.length → cs.getD i [] = [jI jZ (ys.getD i 0)]) → cs.flatten = IL ys := by
     intro cs ys
     induction ys generalizing cs with
     | nil => intro hl _; rw [List.eq_nil_of_length_eq_zero hl]; rfl
     | cons y r ih =>
       intro hl hg
       cases cs with
       | nil => simp at hl
       | cons c r' =>
         have h0 := hg 0 (by simp)
         simp only [List.getD_cons_zero] at h0
         subst h0
         have := ih r' (by simpa using hl) (fun i hi => by have := hg (i + 1) (by simpa using hi); simpa using this)
         simp [IL, this] at *
   exact h7 css xs h2 (fun i hi => h3 i hi)
 rw [← e]
 exact h1

section
variable {X : FP} {w0 w : World} {L : List Item} {o : Oper} {a : Act} {K : Act → World → Prop} {Q : Exit → Act → World → Prop}
theorem op_appI (s x : Operand) (ho : o.op = .call { callee := .builtin .append, args := #[s, x], argTypes := #[29, 29] }) (h : Sep X w0 L w) (p : Nat) {v : Value} {xs : List Int} {F : FP} (e : L[p]? = some (ow v xs F)) (hs : a.eval s = v)
   (q : Nat) {g : Nat} (ys : List Int) {t : TypeId} (e2 : L[q]? = some (bx g (IL ys).toArray t)) (m c : Nat) (hm : ys.length = m) (hm0 : 0 < m) (hx : a.eval x = jS (some ⟨g, 0, none⟩) m c) (hsz : xs.length + m ≤ 4194304)
   (hK : ∀ A c' F' w', Sep X w0 (L.set p (ow (jS A (xs.length + m) c') (xs ++ ys) F')) w' → K (a.put o.dst (jS A (xs.length + m) c')) w') : o.wp Try.prog a w K Q := by
 obtain ⟨i0, hi0, hz0, hz1, hz2⟩ := info_parts int_info
 obtain ⟨hrow, hF⟩ := OwnS.ints (h.get p e)
 have hg := h.get q e2
 refine wp_append_lies w s x 29 ho 0 2 i0 _ 1 8 Try.underlying29 hi0 hz0 hz1 hz2 rfl (by omega) v xs.length (IL xs) hs hrow ⟨g, 0, none⟩ m c (IL ys) hx (by rw [IL_len, hm]; omega)
   (fun j u hu => by
     have aa : (⟨g, 0, none⟩ : Addr).add j = ⟨g, j, none⟩ := by unfold Addr.add; split <;> simp_all
     rw [aa, cell_of_row _ _ j _ _ _ hg]; simpa using hu) (IL_one ys) hm0 (by unfold maxLen; omega) (by omega) (Nat.zero_le _) w.heap.size rfl (fun g' cap w' h1 h2 h3 h4 => ?_)
 rw [← IL_append] at h1
 refine hK _ cap (fun k => F k ∨ k = g') w' (h.turn p e (Only.of_grown h2 (fun k hk => hF k hk)) _ ?_ (fun k hk => ?_))
 · have hl : (xs ++ ys).length = xs.length + m := by simp [hm]
   have := OwnS.of_ints (F := fun k => F k ∨ k = g') h1 (fun k hk => .inr (by simpa [Value.ownBlock] using hk.symm))
   exact this
 · rcases hk with hk | rfl
   · have h5 := h.fresh _ (List.mem_of_getElem? e) k hk
     have := h2.size
     exact ⟨.inl hk, by omega⟩
   · refine ⟨?_, h4⟩
     rcases h3 with h5 | h5
     · exact .inl (hF _ h5)
     · exact .inr (by omega)
theorem op_bsI (len : Nat) (parts : Array (Nat × Operand)) (ho : o.op = .buildSlice 29 len parts) (h : Sep X w0 L w) (i : Nat) (e : L[i]? = some em) (pl : List (Nat × Value)) (hpl : (parts.map fun (i, x) => (i, a.eval x)).toList = pl) (ys : List Int)
   (hf : Instr.fill (fun i => some (i * 1, 1)) ((Array.range (len * 1)).map ((Value.int .i64 0).cells[· % (Value.int .i64 0).cells.size]!)) pl = some (IL ys).toArray) (hl : 0 < len) (hl2 : len ≤ 1000)
   (hK : ∀ g w', Sep X w0 (L.set i (bx g (IL ys).toArray 2)) w' → K (a.put o.dst (jS (some ⟨g, 0, none⟩) len len)) w') : o.wp Try.prog a w K Q := by
 obtain ⟨i0, hi0, hz0, hz1, hz2⟩ := info_parts int_info
 subst hpl
 refine wp_buildSlice 29 2 len parts ho (IL ys).toArray i0 (jI jZ 0) Try.underlying29 hi0 hz0 (by rw [hz1]; omega) (by rw [hz1]; omega) (by rw [hz1]; exact hf) ?_
 exact hK _ _ (h.turn i e (Only.of_below ((Below.refl _ _).alloc (Nat.le_refl _) _)) _ (heap_alloc_new _ _) (fun k hk => by
   have hk : k = w.heap.size := hk
   subst hk
   exact ⟨.inr (Nat.le_refl _), by simp⟩))
theorem op_bs0 (ho : o.op = .buildSlice 29 0 #[]) (h : Sep X w0 L w)
   (hK : ∀ g w', Sep X w0 (ow (jS (some ⟨g, 0, none⟩) 0 0) ([] : List Int) (fun k => k = g) :: L) w' → K (a.put o.dst (jS (some ⟨g, 0, none⟩) 0 0)) w') : o.wp Try.prog a w K Q := by
 have hrun : (execOp a.eval o).run Try.prog w = .ok (.value (jS (some ⟨w.heap.size, 0, none⟩) 0 0)) (w.alloc (.cells #[] 2)) := by
   obtain ⟨i0, hi0, hz0, hz1, hz2⟩ := info_parts int_info
   simp only [execOp, ho, Sem.run_bind, Array.map_empty]
   kernel_rfl
 unfold Oper.wp
 rw [hrun]
 have h1 := World.ownsRow_made (e := 2) (size := 1) w #[] 0 (Nat.le_refl _) (by unfold maxLen; omega) (by simp)
 exact hK _ _ (h.gain ((Below.refl _ _).alloc (Nat.le_refl _) _) _ (OwnS.of_ints (xs := []) h1 (fun k hk => by simpa [Value.ownBlock] using hk.symm)) (fun k hk => by
   have hk : k = w.heap.size := hk
   subst hk
   exact ⟨Nat.le_refl _, by simp⟩))
end
end Go.Proofs.Ytjookicpmjmdhaa
