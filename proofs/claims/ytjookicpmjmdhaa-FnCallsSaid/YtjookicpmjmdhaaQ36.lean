/- The walk of the model's UpStep where it raises. (Made by genY16.py.) -/
import Derived.Test.YtjookicpmjmdhaaQ35
open Go.Value renaming int → jI, slice → jS
open Go.IntKind renaming i64 → jZ
namespace Go.Proofs.Ytjookicpmjmdhaa
open Go.RowKit

theorem sm_snoc {xs : List Nd} (h : Small.sm xs) (hl : xs.length < 1048576) {x : Nd} (hx : x.ps.length ≤ 1048576) : Small.sm (xs ++ [x]) := by
 refine ⟨by simp; omega, fun i hi => ?_⟩
 simp only [List.length_append, List.length_cons, List.length_nil] at hi
 by_cases hik : i = xs.length
 · subst hik
   have e : ndAt (xs ++ [x]) xs.length = x := by unfold ndAt; simp
   rw [e]; exact hx
 · have e : ndAt (xs ++ [x]) i = ndAt xs i := by unfold ndAt; simp only [List.getD_eq_getElem?_getD]; rw [List.getElem?_append_left (by omega)]
   rw [e]; exact h.2 i (by omega)
theorem raiseX_sm {xs : List Nd} (h : Small.sm xs) (hd : Hd) : Small.sm (raiseX xs hd) := by
 unfold raiseX
 by_cases h4 : 40 ≤ xs.length
 · rw [if_pos h4]; exact h
 · rw [if_neg h4]; exact sm_snoc h (by omega) (by unfold rootN; simp)

set_option maxRecDepth 100000 in
set_option maxHeartbeats 16000000 in
theorem up_raise (r : Int) (xs : List Nd) (A : Option Addr) (n c : Nat) (task : Int) (hd : Hd) (A' : Option Addr) (n' c' : Nat) (w0 : World) (hR : RS w0 w0.heap.size A n xs) (hs : Small.sm xs) (hH : RS w0 w0.heap.size A' n' hd.st) (hn' : n' ≤ 1048576) (hk : (ok9 ⟨r, xs⟩ task hd 9 11 && (decide (hd.cc = 2) && !decide (hd.want = 0))) = true) (hp : hd.pos = 10) :
   Calls Try.prog 88 #[.agg #[jI jZ r, jS A n c], jI jZ task, hdV hd A' n' c'] w0 (GivesS w0 (upS ⟨r, xs⟩ task hd)) := by
 have hE : upS ⟨r, xs⟩ task hd = doneS ⟨r, raiseX xs hd⟩ (raiseH xs hd) := by rw [← raiseS_eq]; unfold upS; rw [hk]; simp [hp]
 obtain ⟨hk9, hk2, hk3⟩ : ok9 ⟨r, xs⟩ task hd 9 11 = true ∧ hd.cc = 2 ∧ hd.want ≠ 0 := by simpa [and_assoc] using hk
 have hT := (ok9_of hk9).1
 have hlx : xs.length = n := hR.1
 have g1 : (hd.cc != 2) = false := by simp [hk2]
 have g2 : (hd.want == 0) = false := by simp [hk3]
 have hsm := raiseX_sm hs hd
 have RA := Lib.hid (fun (A3 : Option Addr) c3 F (A4 : Option Addr) n4 c4 w hO hF => raise_any r xs A3 xs.length c3 F hd A4 n4 c4 w hO hF)
 unfold GivesRaise at RA
 generalize raiseX xs hd = ys at *
 generalize raiseH xs hd = h2 at *
 have DY := Lib.hid (fun (hq : (treeOk r ys && handOk h2) = true) (A5 : Option Addr) (c5 : Nat) (A6 : Option Addr) (n6 c6 : Nat) w hR (hS : RS w w.heap.size A6 n6 h2.st) => done9_yes r ys A5 ys.length c5 h2 A6 n6 c6 w hR hsm hS (by simp only [Bool.and_eq_true] at hq; exact hq.1) (by simp only [Bool.and_eq_true] at hq; exact hq.2))
 have DNO := Lib.hid (fun (hq : ¬ (treeOk r ys && handOk h2) = true) (A5 : Option Addr) (c5 : Nat) (A6 : Option Addr) (n6 c6 : Nat) w hR (hS : RS w w.heap.size A6 n6 h2.st) => done9_no r ys A5 ys.length c5 h2 A6 n6 c6 w hR hsm hS (by simpa using hq))
 have OK := Lib.hid (fun w hR hH => ok9_any r xs A n c task hd A' n' c' 9 11 w hR hs hH hn')
 have CT := Lib.hid (fun w hR => copyT_any r xs A n c w hR hs)
 have CH := Lib.hid (fun w hR => copyH_any hd A' n' c' w hR hn')
 have NN := Lib.hid none9_any
 have RK := Lib.hid rest_any
 have HR := Lib.hid hR
 have HH := Lib.hid hH
 have HE := Lib.hid hE
 rw [hk9] at OK
 have g3 : (hd.pos == 9) = false := by simp [hp]
 have g4 : (hd.pos == 10) = true := by simp [hp]
 clear hE hk hp hR hH hs hn' hk9 hk2 hk3 hT hlx hsm
 have S := Lib.hid (Sep.start noX w0)
 have tokg : True := trivial
 have tokx : True := trivial
 have tok0 : True := trivial
 have tok1 : True := trivial
 have tok2 : True := trivial
 have tok3 : True := trivial
 unfold hdV at *
 go_enter Try.func88, Try.ntmps88
 go_wp2_with (first
     | go_skip
     | (clear tok0; refine bx_ 77 S rfl rfl rfl ?_; clear S; intro gt w S)
     | (clear tok1; refine bx_ 31 S rfl rfl rfl ?_; clear S; intro gh w S)
     | (clear tok2; refine nx_ 77 S rfl rfl Try.zeroValue77 ?_; clear S; intro rt w S)
     | (clear tok3; refine nx_ 31 S rfl rfl Try.zeroValue31 ?_; clear S; intro rh w S)
     | (refine wpList_op rfl (op_row 77 _ rfl S.out 3 rfl rfl Try.isAgg77 (by kernel_rfl) ?_))
     | (refine wpList_op rfl (op_row 31 _ rfl S.out 2 rfl rfl Try.isAgg31 (by kernel_rfl) ?_)))
 refine (OK.out _ (S.out.rs HR.out) (S.out.rs HH.out)).mono ?_
 rintro e w ⟨rfl, b⟩
 replace S := Lib.hid (S.out.call b)
 clear b
 go_wp2_with (first
     | go_skip
     | (refine wpList_op rfl (op_get 2 _ rfl S.out 2 rfl _ rfl Try.isAgg2 _ rfl ?_))
     | (refine wpList_op rfl (op_row 77 _ rfl S.out 3 rfl rfl Try.isAgg77 (by kernel_rfl) ?_)))
 refine (CT.out _ (S.out.rs HR.out)).mono ?_
 rintro e w ⟨v, F, rfl, o, f, b⟩
 obtain ⟨A3, c3, rfl, _, _⟩ := o.form
 replace S := Lib.hid (S.out.own b o f)
 clear o f b
 go_wp2_with (first
     | go_skip
     | (clear tokg; refine nx_ 77 S rfl rfl Try.zeroValue77 ?_; clear S; intro go w S)
     | (refine wpList_op rfl (op_putR_0 77 _ _ rfl S rfl _ rfl rfl (by kernel_rfl) rfl ?_); clear S; intro w S)
     | (refine wpList_op rfl (op_row 31 _ rfl S.out 4 rfl rfl Try.isAgg31 (by kernel_rfl) ?_)))
 refine (CH.out _ (S.out.rs HH.out)).mono ?_
 rintro e w ⟨A4, c4, G, rfl, o, f, b⟩
 replace S := Lib.hid (S.out.own b o f)
 clear o f b
 unfold hdV
 go_wp2_with (first
     | go_skip
     | (refine wpList_op rfl (op_putR_5 31 _ _ rfl S rfl _ rfl rfl (by kernel_rfl) rfl ?_); clear S; intro w S)
     | (refine wpList_op rfl (op_get 2 _ rfl S.out 5 rfl _ rfl Try.isAgg2 _ rfl ?_))
     | (refine wpList_op rfl (op_row 77 _ rfl S.out 1 rfl rfl Try.isAgg77 (by kernel_rfl) ?_))
     | (refine wpList_op rfl (op_row 31 _ rfl S.out 5 rfl rfl Try.isAgg31 (by kernel_rfl) ?_)))
 refine (RA.out A3 c3 F A4 hd.st.length c4 _ (S.out.get 2 rfl) (S.out.lt 2 rfl)).mono ?_
 rintro e w ⟨A5, c5, A6, n6, c6, rfl, tu, hst⟩
 obtain ⟨G2, S2⟩ := S.out.turnedInV 2 rfl tu
 replace S : Hid (Sep noX w0 [ow (jS A4 hd.st.length c4) hd.st G, bx go #[jI jZ r, jS A3 xs.length c3] 77, ow (jS A5 ys.length c5) ys G2, bx rh #[jI jZ 0, jI jZ 0, jI jZ 0, jI jZ 0, jI jZ 0, jI jZ 0, jI jZ 0, jI jZ 0, jI jZ 0, jI jZ 0, jI jZ 0, jS none 0 0, jI jZ 0, jI jZ 0, jI jZ 0, jI jZ 0] 31, bx rt #[jI jZ 0, jS none 0 0] 77, bx gh #[jI jZ hd.pos, jI jZ hd.cc, jI jZ hd.ck, jI jZ hd.cv, jI jZ hd.cur, jI jZ hd.want, jI jZ hd.key, jI jZ hd.kid, jI jZ hd.old, jI jZ hd.next, jI jZ hd.new, jS A4 hd.st.length c4, jI jZ hd.thn, jI jZ hd.beg, jI jZ hd.rep, jI jZ hd.out] 31, bx gt #[jI jZ r, jS A n c] 77] w) := Lib.hid S2
 clear S2 tu
 rcases hst with ⟨h6, h7, h8, hst⟩ | ⟨h6, h7, h8, hst⟩
 · have h6 := h6.symm
   have h8 := h8.symm
   subst h6 h7 h8
   have HST := Lib.hid hst
   clear hst
   go_wp2_with (first
       | go_skip
       | (refine wpList_op rfl (op_putR_1 77 _ _ rfl S rfl _ rfl rfl (by kernel_rfl) rfl ?_); clear S; intro w S)
       | (refine wpList_op rfl (op_putR_5 31 _ _ rfl S rfl _ rfl rfl (by kernel_rfl) rfl ?_); clear S; intro w S)
       | (refine wpList_op rfl (op_row 77 _ rfl S.out 1 rfl rfl Try.isAgg77 (by kernel_rfl) ?_))
       | (refine wpList_op rfl (op_row 31 _ rfl S.out 5 rfl rfl Try.isAgg31 (by kernel_rfl) ?_)))
   by_cases hq : (treeOk r ys && handOk h2) = true
   · have hd2 := (DY.out hq A5 c5 A4 hd.st.length c4 w (OwnS.rs (S.out.get 2 rfl) rfl) (by rw [HST.out]; exact OwnS.rs (S.out.get 0 rfl) rfl))
     unfold hdV at hd2
     refine hd2.mono ?_
     rintro e w ⟨rfl, b⟩
     replace S := Lib.hid (S.out.call b)
     have HQ := Lib.hid hq
     clear b hd2 hq
     go_wp2_with (first
         | go_skip
         | (refine wpList_op rfl (op_putR_4 77 _ _ rfl S rfl _ rfl rfl (by kernel_rfl) rfl ?_); clear S; intro w S)
         | (refine wpList_op rfl (op_putR_3 31 _ _ rfl S rfl _ rfl rfl (by kernel_rfl) rfl ?_); clear S; intro w S))
     exact bodyPost_ret (results_ccs rfl _ S.out 4 3 rfl rfl rfl rfl Try.isAgg77 Try.isAgg31 (by kernel_rfl) (by kernel_rfl)) rfl (by rw [HE.out, done_yes (t := ⟨r, ys⟩) (by have := HQ.out; simp only [Bool.and_eq_true] at this; exact this.1) (by have := HQ.out; simp only [Bool.and_eq_true] at this; exact this.2)]; exact S.out.gives 2 0 (by omega) (s := ⟨⟨r, ys⟩, h2, true⟩) rfl (by rw [HST.out]; rfl) rfl (by rw [HST.out]))
   · have hd2 := (DNO.out hq A5 c5 A4 hd.st.length c4 w (OwnS.rs (S.out.get 2 rfl) rfl) (by rw [HST.out]; exact OwnS.rs (S.out.get 0 rfl) rfl))
     unfold hdV at hd2
     refine hd2.mono ?_
     rintro e w ⟨rfl, b⟩
     replace S := Lib.hid (S.out.call b)
     have HQ := Lib.hid hq
     clear b hd2 hq
     go_wp2_with (first
         | go_skip
         | (refine wpList_op rfl (op_putR_4 77 _ _ rfl S rfl _ rfl rfl (by kernel_rfl) rfl ?_); clear S; intro w S)
         | (refine wpList_op rfl (op_putR_3 31 _ _ rfl S rfl _ rfl rfl (by kernel_rfl) rfl ?_); clear S; intro w S))
     exact bodyPost_ret (results_ccs rfl _ S.out 4 3 rfl rfl rfl rfl Try.isAgg77 Try.isAgg31 (by kernel_rfl) (by kernel_rfl)) rfl (by rw [HE.out, doneS_no (t := ⟨r, ys⟩) HQ.out]; exact none_S S.out.below)
 · subst h6 h7 h8
   have HST := Lib.hid hst
   clear hst
   go_wp2_with (first
       | go_skip
       | (refine wpList_op rfl (op_putR_1 77 _ _ rfl S rfl _ rfl rfl (by kernel_rfl) rfl ?_); clear S; intro w S)
       | (refine wpList_op rfl (op_putR_5 31 _ _ rfl S rfl _ rfl rfl (by kernel_rfl) rfl ?_); clear S; intro w S)
       | (refine wpList_op rfl (op_row 77 _ rfl S.out 1 rfl rfl Try.isAgg77 (by kernel_rfl) ?_))
       | (refine wpList_op rfl (op_row 31 _ rfl S.out 5 rfl rfl Try.isAgg31 (by kernel_rfl) ?_)))
   by_cases hq : (treeOk r ys && handOk h2) = true
   · have hd2 := (DY.out hq A5 c5 none 0 0 w (OwnS.rs (S.out.get 2 rfl) rfl) (by rw [HST.out]; exact RS.nil _ _ _))
     unfold hdV at hd2
     refine hd2.mono ?_
     rintro e w ⟨rfl, b⟩
     replace S := Lib.hid (S.out.call b)
     have HQ := Lib.hid hq
     clear b hd2 hq
     go_wp2_with (first
         | go_skip
         | (refine wpList_op rfl (op_putR_4 77 _ _ rfl S rfl _ rfl rfl (by kernel_rfl) rfl ?_); clear S; intro w S)
         | (refine wpList_op rfl (op_putR_3 31 _ _ rfl S rfl _ rfl rfl (by kernel_rfl) rfl ?_); clear S; intro w S))
     exact bodyPost_ret (results_ccs rfl _ S.out 4 3 rfl rfl rfl rfl Try.isAgg77 Try.isAgg31 (by kernel_rfl) (by kernel_rfl)) rfl (by rw [HE.out, done_yes (t := ⟨r, ys⟩) (by have := HQ.out; simp only [Bool.and_eq_true] at this; exact this.1) (by have := HQ.out; simp only [Bool.and_eq_true] at this; exact this.2)]; exact S.out.nilI.gives 3 0 (by omega) (s := ⟨⟨r, ys⟩, h2, true⟩) rfl (by rw [HST.out]; rfl) rfl (by rw [HST.out]; rfl))
   · have hd2 := (DNO.out hq A5 c5 none 0 0 w (OwnS.rs (S.out.get 2 rfl) rfl) (by rw [HST.out]; exact RS.nil _ _ _))
     unfold hdV at hd2
     refine hd2.mono ?_
     rintro e w ⟨rfl, b⟩
     replace S := Lib.hid (S.out.call b)
     have HQ := Lib.hid hq
     clear b hd2 hq
     go_wp2_with (first
         | go_skip
         | (refine wpList_op rfl (op_putR_4 77 _ _ rfl S rfl _ rfl rfl (by kernel_rfl) rfl ?_); clear S; intro w S)
         | (refine wpList_op rfl (op_putR_3 31 _ _ rfl S rfl _ rfl rfl (by kernel_rfl) rfl ?_); clear S; intro w S))
     exact bodyPost_ret (results_ccs rfl _ S.out 4 3 rfl rfl rfl rfl Try.isAgg77 Try.isAgg31 (by kernel_rfl) (by kernel_rfl)) rfl (by rw [HE.out, doneS_no (t := ⟨r, ys⟩) HQ.out]; exact none_S S.out.below)
end Go.Proofs.Ytjookicpmjmdhaa
