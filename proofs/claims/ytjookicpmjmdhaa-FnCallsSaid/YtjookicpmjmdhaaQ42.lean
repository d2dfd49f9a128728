/- The walk of the model's SplitStep. (Made by genY20.py.) -/
import Derived.Test.YtjookicpmjmdhaaQ38
import Derived.Test.YtjookicpmjmdhaaQ36
import Derived.Test.YtjookicpmjmdhaaQ39
import Derived.Test.YtjookicpmjmdhaaQ41
open Go.Value renaming int → jI, slice → jS
open Go.IntKind renaming i64 → jZ
namespace Go.Proofs.Ytjookicpmjmdhaa
open Go.RowKit

theorem OwnS.front2 {w : World} {A : Option Addr} {n c m : Nat} {xs : List Int} {F : FP} (h : OwnS w (jS A n c) xs F) (hl : xs.length = n) (hm : m ≤ n) : OwnS w (jS A m c) (xs.take m) F := by
 by_cases h0 : 0 < n
 · obtain ⟨g, cap, _, _, _, _, hv, _⟩ := h.open 0 (by omega)
   have hA : A = some ⟨g, 0, none⟩ := by
     simp only [Value.slice.injEq] at hv
     exact hv.1
   subst hA
   exact h.front hl hm
 · obtain rfl : n = 0 := by omega
   obtain rfl : m = 0 := by omega
   obtain rfl : xs = [] := List.eq_nil_of_length_eq_zero hl
   exact h
theorem then_gives (hd : Hd) (A' : Option Addr) (c' : Nat) (G : FP) (w0 : World) (ho : OwnS w0 (jS A' hd.st.length c') hd.st G) (_hG : ∀ k, G k → k < w0.heap.size) (hw : 0 ≤ hd.want ∧ hd.want ≤ 6) :
   Calls Try.prog 102 #[hdV hd A' hd.st.length c'] w0 fun e w' => ∃ A6 c6, e = .returned (hdV (thenH hd) A6 (thenH hd).st.length c6) ∧ OwnS w' (jS A6 (thenH hd).st.length c6) (thenH hd).st G ∧ Below w0.heap.size w0 w' := by
 obtain ⟨A'', c'', hv, hc, hc2⟩ := ho.form
 obtain ⟨rfl, rfl⟩ : A' = A'' ∧ c' = c'' := by simpa using hv
 refine (then_any hd A' hd.st.length c' w0 (OwnS.rs ho rfl) hc hc2 hw).mono ?_
 rintro e w ⟨rfl, b⟩
 have ho2 := ho.on b
 unfold thenV
 by_cases h0 : hd.thn = 0
 · have e2 : (thenH hd).st = [] := by unfold thenH; rw [if_pos h0]; rfl
   rw [if_pos h0]
   refine ⟨none, 0, by rw [e2]; rfl, by rw [e2]; exact OwnS.nil _ _, b⟩
 · rw [if_neg h0]
   by_cases h1 : hd.thn = 1
   · have e2 : (thenH hd).st = hd.st := by unfold thenH; rw [if_neg h0, if_pos h1]
     rw [if_pos h1]
     refine ⟨A', c', by rw [e2], by rw [e2]; exact ho2, b⟩
   · rw [if_neg h1]
     by_cases h2 : 0 < hd.st.length
     · have e2 : (thenH hd).st = hd.st.take (hd.st.length - 1) := by unfold thenH; rw [if_neg h0, if_neg h1, if_pos h2]
       have e3 : (thenH hd).st.length = hd.st.length - 1 := by rw [e2, List.length_take]; omega
       rw [if_pos h2]
       refine ⟨A', c', by rw [e3], by rw [e3, e2]; exact ho2.front2 rfl (by omega), b⟩
     · have e2 : (thenH hd).st = hd.st := by unfold thenH; rw [if_neg h0, if_neg h1, if_neg h2]
       rw [if_neg h2]
       refine ⟨A', c', by rw [e2], by rw [e2]; exact ho2, b⟩
theorem hand_want {hd : Hd} (h : handOk hd = true) : 0 ≤ hd.want ∧ hd.want ≤ 6 := by
 unfold handOk at h
 simp only [Bool.and_eq_true] at h
 have h2 := h.2.2.2.2.2.2.2.2.1
 unfold inB at h2
 simpa using h2
theorem makeX_sm {xs : List Nd} (h : Small.sm xs) (hd : Hd) : Small.sm (makeX xs hd) := by
 unfold makeX
 split
 · exact h
 · split
   · rename_i h4 h5
     refine sm_snoc h (by omega) ?_
     have := up_two (x := ndAt xs hd.cur.toNat) (k := hd.key) (v := pairV hd) (at_ := xs.length) h5
     unfold upNd
     omega
   · exact h
theorem loH_len (x : Nd) (k v at_ : Int) : (loH x k v at_).ps.length ≤ 3 := by
 unfold loH
 split
 · unfold loN; simp only [List.length_take]; omega
 · unfold zeroN; simp
theorem halveX_sm {xs : List Nd} (h : Small.sm xs) (hd : Hd) : Small.sm (halveX xs hd) := by
 unfold halveX
 split
 · refine sm_set h _ ?_
   have := loH_len (ndAt xs hd.cur.toNat) hd.key (pairV hd) hd.new
   unfold loNd
   omega
 · exact h

set_option maxRecDepth 100000 in
set_option maxHeartbeats 16000000 in
theorem split_no (r : Int) (xs : List Nd) (A : Option Addr) (n c : Nat) (task : Int) (hd : Hd) (A' : Option Addr) (n' c' : Nat) (w0 : World) (hR : RS w0 w0.heap.size A n xs) (hs : Small.sm xs) (hH : RS w0 w0.heap.size A' n' hd.st) (hn' : n' ≤ 1048576) (hk : ok10 ⟨r, xs⟩ task hd 6 8 = false) :
   Calls Try.prog 87 #[.agg #[jI jZ r, jS A n c], jI jZ task, hdV hd A' n' c'] w0 (GivesS w0 (splitS ⟨r, xs⟩ task hd)) := by
 have hE : splitS ⟨r, xs⟩ task hd = noneS := by unfold splitS; rw [hk]; rfl
 have OK := Lib.hid (fun w hR hH => ok10_any r xs A n c task hd A' n' c' 6 8 w hR hs hH hn')
 have CT := Lib.hid (fun w hR => copyT_any r xs A n c w hR hs)
 have CH := Lib.hid (fun w hR => copyH_any hd A' n' c' w hR hn')
 have NN := Lib.hid none9_any
 have HR := Lib.hid hR
 have HH := Lib.hid hH
 have HL := Lib.hid hH.1
 have HE := Lib.hid hE
 rw [hk] at OK
 clear hE hk hR hH hs hn'
 have S := Lib.hid (Sep.start noX w0)
 have tokg : True := trivial
 have tokx : True := trivial
 have toky : True := trivial
 have tok0 : True := trivial
 have tok1 : True := trivial
 have tok2 : True := trivial
 have tok3 : True := trivial
 unfold hdV at *
 go_enter Try.func87, Try.ntmps87
 go_wp2_with (first
     | go_skip
     | (clear tok0; refine bx_ 77 S rfl rfl rfl ?_; clear S; intro gt w S)
     | (clear tok1; refine bx_ 31 S rfl rfl rfl ?_; clear S; intro gh w S)
     | (clear tok2; refine nx_ 77 S rfl rfl Try.zeroValue77 ?_; clear S; intro rt w S)
     | (clear tok3; refine nx_ 31 S rfl rfl Try.zeroValue31 ?_; clear S; intro rh w S)
     | (refine wpList_op rfl (op_row 77 _ rfl S.out 3 rfl rfl Try.isAgg77 (by kernel_rfl) ?_))
     | (refine wpList_op rfl (op_row 31 _ rfl S.out 2 rfl rfl Try.isAgg31 (by kernel_rfl) ?_)))
 refine (OK.out _ (S.out.rs HR.out) (S.out.rs HH.out)).mono ?_
 rintro e w ⟨rfl, b⟩
 replace S := Lib.hid (S.out.call b)
 clear b
 go_wp2_with fail
 refine (NN.out _).mono ?_
 rintro e w ⟨rfl, b⟩
 replace S := Lib.hid (S.out.call b)
 clear b
 unfold zeroS hdV
 go_wp2_with (first
     | go_skip
     | (refine wpList_op rfl (op_putR_1 77 _ _ rfl S rfl _ rfl rfl (by kernel_rfl) rfl ?_); clear S; intro w S)
     | (refine wpList_op rfl (op_putR_0 31 _ _ rfl S rfl _ rfl rfl (by kernel_rfl) rfl ?_); clear S; intro w S))
 exact bodyPost_ret (results_ccs rfl _ S.out 1 0 rfl rfl rfl rfl Try.isAgg77 Try.isAgg31 (by kernel_rfl) (by kernel_rfl)) rfl (by rw [HE.out]; exact none_S S.out.below)

set_option maxRecDepth 100000 in
set_option maxHeartbeats 16000000 in
theorem split_make (r : Int) (xs : List Nd) (A : Option Addr) (n c : Nat) (task : Int) (hd : Hd) (A' : Option Addr) (n' c' : Nat) (w0 : World) (hR : RS w0 w0.heap.size A n xs) (hs : Small.sm xs) (hH : RS w0 w0.heap.size A' n' hd.st) (hn' : n' ≤ 1048576) (hk : ok10 ⟨r, xs⟩ task hd 6 8 = true) (hp : hd.pos = 6) :
   Calls Try.prog 87 #[.agg #[jI jZ r, jS A n c], jI jZ task, hdV hd A' n' c'] w0 (GivesS w0 (splitS ⟨r, xs⟩ task hd)) := by
 have hE : splitS ⟨r, xs⟩ task hd = if makeB xs hd then doneS ⟨r, makeX xs hd⟩ (makeH xs hd) else noneS := by rw [← makeS_eq]; unfold splitS; rw [hk]; simp [hp]
 have hk9 : ok9 ⟨r, xs⟩ task hd 6 8 = true := by unfold ok10 at hk; simp only [Bool.and_eq_true] at hk; exact hk.1
 have hT := (ok9_of hk9).1
 have hC := (ok9_of hk9).2.2.2.2.1
 have hRt := right_of hT
 have hlx : xs.length = n := hR.1
 have hsm := makeX_sm hs hd
 have hst := makeH_st xs hd
 have RA := Lib.hid (fun (A3 : Option Addr) c3 F (A4 : Option Addr) n4 c4 w hO hF => make_any r xs A3 xs.length c3 F hd A4 n4 c4 w hO hF hRt hC)
 unfold GivesTH at RA
 generalize makeX xs hd = ys at *
 generalize makeH xs hd = h2 at *
 generalize makeB xs hd = hb at *
 have DY := Lib.hid (fun (hq : (treeOk r ys && handOk h2) = true) (A5 : Option Addr) (c5 : Nat) (A6 : Option Addr) (n6 c6 : Nat) w hR (hS : RS w w.heap.size A6 n6 h2.st) => done9_yes r ys A5 ys.length c5 h2 A6 n6 c6 w hR hsm hS (by simp only [Bool.and_eq_true] at hq; exact hq.1) (by simp only [Bool.and_eq_true] at hq; exact hq.2))
 have DNO := Lib.hid (fun (hq : ¬ (treeOk r ys && handOk h2) = true) (A5 : Option Addr) (c5 : Nat) (A6 : Option Addr) (n6 c6 : Nat) w hR (hS : RS w w.heap.size A6 n6 h2.st) => done9_no r ys A5 ys.length c5 h2 A6 n6 c6 w hR hsm hS (by simpa using hq))
 have OK := Lib.hid (fun w hR hH => ok10_any r xs A n c task hd A' n' c' 6 8 w hR hs hH hn')
 have CT := Lib.hid (fun w hR => copyT_any r xs A n c w hR hs)
 have CH := Lib.hid (fun w hR => copyH_any hd A' n' c' w hR hn')
 have NN := Lib.hid none9_any
 have HR := Lib.hid hR
 have HH := Lib.hid hH
 have HL := Lib.hid hH.1
 have HE := Lib.hid hE
 have HST := Lib.hid hst
 rw [hk] at OK
 have g6 : (hd.pos == 6) = true := by simp [hp]
 clear hE hk hp hR hH hs hn' hk9 hT hC hRt hlx hst hsm
 have S := Lib.hid (Sep.start noX w0)
 have tokg : True := trivial
 have tokx : True := trivial
 have toky : True := trivial
 have tok0 : True := trivial
 have tok1 : True := trivial
 have tok2 : True := trivial
 have tok3 : True := trivial
 unfold hdV at *
 go_enter Try.func87, Try.ntmps87
 go_wp2_with (first
     | go_skip
     | (clear tok0; refine bx_ 77 S rfl rfl rfl ?_; clear S; intro gt w S)
     | (clear tok1; refine bx_ 31 S rfl rfl rfl ?_; clear S; intro gh w S)
     | (clear tok2; refine nx_ 77 S rfl rfl Try.zeroValue77 ?_; clear S; intro rt w S)
     | (clear tok3; refine nx_ 31 S rfl rfl Try.zeroValue31 ?_; clear S; intro rh w S)
     | (refine wpList_op rfl (op_row 77 _ rfl S.out 3 rfl rfl Try.isAgg77 (by kernel_rfl) ?_))
     | (refine wpList_op rfl (op_row 31 _ rfl S.out 2 rfl rfl Try.isAgg31 (by kernel_rfl) ?_)))
 refine (OK.out _ (S.out.rs HR.out) (S.out.rs HH.out)).mono ?_
 rintro e w ⟨rfl, b⟩
 replace S := Lib.hid (S.out.call b)
 clear b
 go_wp2_with (first
     | go_skip
     | (refine wpList_op rfl (op_row 77 _ rfl S.out 3 rfl rfl Try.isAgg77 (by kernel_rfl) ?_)))
 refine (CT.out _ (S.out.rs HR.out)).mono ?_
 rintro e w ⟨v, F, rfl, o, f, b⟩
 obtain ⟨A3, c3, rfl, _, _⟩ := o.form
 replace S := Lib.hid (S.out.own b o f)
 clear o f b
 go_wp2_with (first
     | go_skip
     | (clear tokg; refine nx_ 77 S rfl rfl Try.zeroValue77 ?_; clear S; intro go w S)
     | (refine wpList_op rfl (op_putR_0 77 _ _ rfl S rfl _ rfl rfl (by kernel_rfl) rfl ?_); clear S; intro w S)
     | (refine wpList_op rfl (op_row 31 _ rfl S.out 4 rfl rfl Try.isAgg31 (by kernel_rfl) ?_)))
 refine (CH.out _ (S.out.rs HH.out)).mono ?_
 rintro e w ⟨A4, c4, G, rfl, o, f, b⟩
 replace S := Lib.hid (S.out.own b o f)
 clear o f b
 unfold hdV
 go_wp2_with (first
     | go_skip
     | (refine wpList_op rfl (op_putR_5 31 _ _ rfl S rfl _ rfl rfl (by kernel_rfl) rfl ?_); clear S; intro w S)
     | (refine wpList_op rfl (op_get 2 _ rfl S.out 5 rfl _ rfl Try.isAgg2 _ rfl ?_))
     | (refine wpList_op rfl (op_row 77 _ rfl S.out 1 rfl rfl Try.isAgg77 (by kernel_rfl) ?_))
     | (refine wpList_op rfl (op_row 31 _ rfl S.out 5 rfl rfl Try.isAgg31 (by kernel_rfl) ?_)))
 refine (RA.out A3 c3 F A4 hd.st.length c4 _ (S.out.get 2 rfl) (S.out.lt 2 rfl)).mono ?_
 rintro e w ⟨A5, c5, rfl, tu⟩
 obtain ⟨G2, S2⟩ := S.out.turnedInV 2 rfl tu
 replace S : Hid (Sep noX w0 [ow (jS A4 hd.st.length c4) hd.st G, bx go #[jI jZ r, jS A3 xs.length c3] 77, ow (jS A5 ys.length c5) ys G2, bx rh #[jI jZ 0, jI jZ 0, jI jZ 0, jI jZ 0, jI jZ 0, jI jZ 0, jI jZ 0, jI jZ 0, jI jZ 0, jI jZ 0, jI jZ 0, jS none 0 0, jI jZ 0, jI jZ 0, jI jZ 0, jI jZ 0] 31, bx rt #[jI jZ 0, jS none 0 0] 77, bx gh #[jI jZ hd.pos, jI jZ hd.cc, jI jZ hd.ck, jI jZ hd.cv, jI jZ hd.cur, jI jZ hd.want, jI jZ hd.key, jI jZ hd.kid, jI jZ hd.old, jI jZ hd.next, jI jZ hd.new, jS A4 hd.st.length c4, jI jZ hd.thn, jI jZ hd.beg, jI jZ hd.rep, jI jZ hd.out] 31, bx gt #[jI jZ r, jS A n c] 77] w) := Lib.hid S2
 clear S2 tu
 cases hb
 · have HE2 : Hid (splitS ⟨r, xs⟩ task hd = noneS) := Lib.hid HE.out
   clear HE DY DNO
   go_wp2_with (first
       | go_skip
       | (refine wpList_op rfl (op_putR_1 77 _ _ rfl S rfl _ rfl rfl (by kernel_rfl) rfl ?_); clear S; intro w S)
       | (refine wpList_op rfl (op_putR_5 31 _ _ rfl S rfl _ rfl rfl (by kernel_rfl) rfl ?_); clear S; intro w S))
   refine (NN.out _).mono ?_
   rintro e w ⟨rfl, b⟩
   replace S := Lib.hid (S.out.call b)
   clear b
   unfold zeroS hdV
   go_wp2_with (first
       | go_skip
       | (refine wpList_op rfl (op_putR_4 77 _ _ rfl S rfl _ rfl rfl (by kernel_rfl) rfl ?_); clear S; intro w S)
       | (refine wpList_op rfl (op_putR_3 31 _ _ rfl S rfl _ rfl rfl (by kernel_rfl) rfl ?_); clear S; intro w S))
   exact bodyPost_ret (results_ccs rfl _ S.out 4 3 rfl rfl rfl rfl Try.isAgg77 Try.isAgg31 (by kernel_rfl) (by kernel_rfl)) rfl (by rw [HE2.out]; exact none_S S.out.below)
 · have HE2 : Hid (splitS ⟨r, xs⟩ task hd = doneS ⟨r, ys⟩ h2) := Lib.hid HE.out
   clear HE
   go_wp2_with (first
       | go_skip
       | (refine wpList_op rfl (op_putR_1 77 _ _ rfl S rfl _ rfl rfl (by kernel_rfl) rfl ?_); clear S; intro w S)
       | (refine wpList_op rfl (op_putR_5 31 _ _ rfl S rfl _ rfl rfl (by kernel_rfl) rfl ?_); clear S; intro w S)
       | (refine wpList_op rfl (op_row 77 _ rfl S.out 1 rfl rfl Try.isAgg77 (by kernel_rfl) ?_))
       | (refine wpList_op rfl (op_row 31 _ rfl S.out 5 rfl rfl Try.isAgg31 (by kernel_rfl) ?_)))
   by_cases hq : (treeOk r ys && handOk h2) = true
   · have hd2 := (DY.out hq A5 c5 A4 hd.st.length c4 w (OwnS.rs (S.out.get 2 rfl) rfl) (by rw [HST.out]; exact OwnS.rs (S.out.get 0 rfl) rfl))
     unfold hdV at hd2
     refine hd2.mono ?_
     rintro e w ⟨rfl, b⟩
     replace S := Lib.hid (S.out.call b)
     have HQ := Lib.hid hq
     clear b hd2 hq
     go_wp2_with (first
         | go_skip
         | (refine wpList_op rfl (op_putR_4 77 _ _ rfl S rfl _ rfl rfl (by kernel_rfl) rfl ?_); clear S; intro w S)
         | (refine wpList_op rfl (op_putR_3 31 _ _ rfl S rfl _ rfl rfl (by kernel_rfl) rfl ?_); clear S; intro w S))
     exact bodyPost_ret (results_ccs rfl _ S.out 4 3 rfl rfl rfl rfl Try.isAgg77 Try.isAgg31 (by kernel_rfl) (by kernel_rfl)) rfl (by rw [HE2.out, done_yes (t := ⟨r, ys⟩) (by have := HQ.out; simp only [Bool.and_eq_true] at this; exact this.1) (by have := HQ.out; simp only [Bool.and_eq_true] at this; exact this.2)]; exact S.out.gives 2 0 (by omega) (s := ⟨⟨r, ys⟩, h2, true⟩) rfl (by rw [HST.out]; rfl) rfl (by rw [HST.out]))
   · have hd2 := (DNO.out hq A5 c5 A4 hd.st.length c4 w (OwnS.rs (S.out.get 2 rfl) rfl) (by rw [HST.out]; exact OwnS.rs (S.out.get 0 rfl) rfl))
     unfold hdV at hd2
     refine hd2.mono ?_
     rintro e w ⟨rfl, b⟩
     replace S := Lib.hid (S.out.call b)
     have HQ := Lib.hid hq
     clear b hd2 hq
     go_wp2_with (first
         | go_skip
         | (refine wpList_op rfl (op_putR_4 77 _ _ rfl S rfl _ rfl rfl (by kernel_rfl) rfl ?_); clear S; intro w S)
         | (refine wpList_op rfl (op_putR_3 31 _ _ rfl S rfl _ rfl rfl (by kernel_rfl) rfl ?_); clear S; intro w S))
     exact bodyPost_ret (results_ccs rfl _ S.out 4 3 rfl rfl rfl rfl Try.isAgg77 Try.isAgg31 (by kernel_rfl) (by kernel_rfl)) rfl (by rw [HE2.out, doneS_no (t := ⟨r, ys⟩) HQ.out]; exact none_S S.out.below)

set_option maxRecDepth 100000 in
set_option maxHeartbeats 16000000 in
theorem split_halve (r : Int) (xs : List Nd) (A : Option Addr) (n c : Nat) (task : Int) (hd : Hd) (A' : Option Addr) (n' c' : Nat) (w0 : World) (hR : RS w0 w0.heap.size A n xs) (hs : Small.sm xs) (hH : RS w0 w0.heap.size A' n' hd.st) (hn' : n' ≤ 1048576) (hk : ok10 ⟨r, xs⟩ task hd 6 8 = true) (hp : hd.pos = 7) :
   Calls Try.prog 87 #[.agg #[jI jZ r, jS A n c], jI jZ task, hdV hd A' n' c'] w0 (GivesS w0 (splitS ⟨r, xs⟩ task hd)) := by
 have hE : splitS ⟨r, xs⟩ task hd = if halfN xs hd hd.new then doneS ⟨r, halveX xs hd⟩ (halveH xs hd) else noneS := by rw [← halveS_eq]; unfold splitS; rw [hk]; simp [hp]
 have hk9 : ok9 ⟨r, xs⟩ task hd 6 8 = true := by unfold ok10 at hk; simp only [Bool.and_eq_true] at hk; exact hk.1
 have hT := (ok9_of hk9).1
 have hC := (ok9_of hk9).2.2.2.2.1
 have hRt := right_of hT
 have hlx : xs.length = n := hR.1
 have hsm := halveX_sm hs hd
 have hst := halveH_st xs hd
 have RA := Lib.hid (fun (A3 : Option Addr) c3 F (A4 : Option Addr) n4 c4 w hO hF => halve_any r xs A3 xs.length c3 F hd A4 n4 c4 w hO hF hRt hC)
 unfold GivesTH at RA
 generalize halveX xs hd = ys at *
 generalize halveH xs hd = h2 at *
 generalize halfN xs hd hd.new = hb at *
 have DY := Lib.hid (fun (hq : (treeOk r ys && handOk h2) = true) (A5 : Option Addr) (c5 : Nat) (A6 : Option Addr) (n6 c6 : Nat) w hR (hS : RS w w.heap.size A6 n6 h2.st) => done9_yes r ys A5 ys.length c5 h2 A6 n6 c6 w hR hsm hS (by simp only [Bool.and_eq_true] at hq; exact hq.1) (by simp only [Bool.and_eq_true] at hq; exact hq.2))
 have DNO := Lib.hid (fun (hq : ¬ (treeOk r ys && handOk h2) = true) (A5 : Option Addr) (c5 : Nat) (A6 : Option Addr) (n6 c6 : Nat) w hR (hS : RS w w.heap.size A6 n6 h2.st) => done9_no r ys A5 ys.length c5 h2 A6 n6 c6 w hR hsm hS (by simpa using hq))
 have OK := Lib.hid (fun w hR hH => ok10_any r xs A n c task hd A' n' c' 6 8 w hR hs hH hn')
 have CT := Lib.hid (fun w hR => copyT_any r xs A n c w hR hs)
 have CH := Lib.hid (fun w hR => copyH_any hd A' n' c' w hR hn')
 have NN := Lib.hid none9_any
 have HR := Lib.hid hR
 have HH := Lib.hid hH
 have HL := Lib.hid hH.1
 have HE := Lib.hid hE
 have HST := Lib.hid hst
 rw [hk] at OK
 have g6 : (hd.pos == 6) = false := by simp [hp]
 have g7 : (hd.pos == 7) = true := by simp [hp]
 clear hE hk hp hR hH hs hn' hk9 hT hC hRt hlx hst hsm
 have S := Lib.hid (Sep.start noX w0)
 have tokg : True := trivial
 have tokx : True := trivial
 have toky : True := trivial
 have tok0 : True := trivial
 have tok1 : True := trivial
 have tok2 : True := trivial
 have tok3 : True := trivial
 unfold hdV at *
 go_enter Try.func87, Try.ntmps87
 go_wp2_with (first
     | go_skip
     | (clear tok0; refine bx_ 77 S rfl rfl rfl ?_; clear S; intro gt w S)
     | (clear tok1; refine bx_ 31 S rfl rfl rfl ?_; clear S; intro gh w S)
     | (clear tok2; refine nx_ 77 S rfl rfl Try.zeroValue77 ?_; clear S; intro rt w S)
     | (clear tok3; refine nx_ 31 S rfl rfl Try.zeroValue31 ?_; clear S; intro rh w S)
     | (refine wpList_op rfl (op_row 77 _ rfl S.out 3 rfl rfl Try.isAgg77 (by kernel_rfl) ?_))
     | (refine wpList_op rfl (op_row 31 _ rfl S.out 2 rfl rfl Try.isAgg31 (by kernel_rfl) ?_)))
 refine (OK.out _ (S.out.rs HR.out) (S.out.rs HH.out)).mono ?_
 rintro e w ⟨rfl, b⟩
 replace S := Lib.hid (S.out.call b)
 clear b
 go_wp2_with (first
     | go_skip
     | (refine wpList_op rfl (op_row 77 _ rfl S.out 3 rfl rfl Try.isAgg77 (by kernel_rfl) ?_)))
 refine (CT.out _ (S.out.rs HR.out)).mono ?_
 rintro e w ⟨v, F, rfl, o, f, b⟩
 obtain ⟨A3, c3, rfl, _, _⟩ := o.form
 replace S := Lib.hid (S.out.own b o f)
 clear o f b
 go_wp2_with (first
     | go_skip
     | (clear tokg; refine nx_ 77 S rfl rfl Try.zeroValue77 ?_; clear S; intro go w S)
     | (refine wpList_op rfl (op_putR_0 77 _ _ rfl S rfl _ rfl rfl (by kernel_rfl) rfl ?_); clear S; intro w S)
     | (refine wpList_op rfl (op_row 31 _ rfl S.out 4 rfl rfl Try.isAgg31 (by kernel_rfl) ?_)))
 refine (CH.out _ (S.out.rs HH.out)).mono ?_
 rintro e w ⟨A4, c4, G, rfl, o, f, b⟩
 replace S := Lib.hid (S.out.own b o f)
 clear o f b
 unfold hdV
 go_wp2_with (first
     | go_skip
     | (refine wpList_op rfl (op_putR_5 31 _ _ rfl S rfl _ rfl rfl (by kernel_rfl) rfl ?_); clear S; intro w S)
     | (refine wpList_op rfl (op_get 2 _ rfl S.out 5 rfl _ rfl Try.isAgg2 _ rfl ?_))
     | (refine wpList_op rfl (op_row 77 _ rfl S.out 1 rfl rfl Try.isAgg77 (by kernel_rfl) ?_))
     | (refine wpList_op rfl (op_row 31 _ rfl S.out 5 rfl rfl Try.isAgg31 (by kernel_rfl) ?_)))
 refine (RA.out A3 c3 F A4 hd.st.length c4 _ (S.out.get 2 rfl) (S.out.lt 2 rfl)).mono ?_
 rintro e w ⟨A5, c5, rfl, tu⟩
 obtain ⟨G2, S2⟩ := S.out.turnedInV 2 rfl tu
 replace S : Hid (Sep noX w0 [ow (jS A4 hd.st.length c4) hd.st G, bx go #[jI jZ r, jS A3 xs.length c3] 77, ow (jS A5 ys.length c5) ys G2, bx rh #[jI jZ 0, jI jZ 0, jI jZ 0, jI jZ 0, jI jZ 0, jI jZ 0, jI jZ 0, jI jZ 0, jI jZ 0, jI jZ 0, jI jZ 0, jS none 0 0, jI jZ 0, jI jZ 0, jI jZ 0, jI jZ 0] 31, bx rt #[jI jZ 0, jS none 0 0] 77, bx gh #[jI jZ hd.pos, jI jZ hd.cc, jI jZ hd.ck, jI jZ hd.cv, jI jZ hd.cur, jI jZ hd.want, jI jZ hd.key, jI jZ hd.kid, jI jZ hd.old, jI jZ hd.next, jI jZ hd.new, jS A4 hd.st.length c4, jI jZ hd.thn, jI jZ hd.beg, jI jZ hd.rep, jI jZ hd.out] 31, bx gt #[jI jZ r, jS A n c] 77] w) := Lib.hid S2
 clear S2 tu
 cases hb
 · have HE2 : Hid (splitS ⟨r, xs⟩ task hd = noneS) := Lib.hid HE.out
   clear HE DY DNO
   go_wp2_with (first
       | go_skip
       | (refine wpList_op rfl (op_putR_1 77 _ _ rfl S rfl _ rfl rfl (by kernel_rfl) rfl ?_); clear S; intro w S)
       | (refine wpList_op rfl (op_putR_5 31 _ _ rfl S rfl _ rfl rfl (by kernel_rfl) rfl ?_); clear S; intro w S))
   refine (NN.out _).mono ?_
   rintro e w ⟨rfl, b⟩
   replace S := Lib.hid (S.out.call b)
   clear b
   unfold zeroS hdV
   go_wp2_with (first
       | go_skip
       | (refine wpList_op rfl (op_putR_4 77 _ _ rfl S rfl _ rfl rfl (by kernel_rfl) rfl ?_); clear S; intro w S)
       | (refine wpList_op rfl (op_putR_3 31 _ _ rfl S rfl _ rfl rfl (by kernel_rfl) rfl ?_); clear S; intro w S))
   exact bodyPost_ret (results_ccs rfl _ S.out 4 3 rfl rfl rfl rfl Try.isAgg77 Try.isAgg31 (by kernel_rfl) (by kernel_rfl)) rfl (by rw [HE2.out]; exact none_S S.out.below)
 · have HE2 : Hid (splitS ⟨r, xs⟩ task hd = doneS ⟨r, ys⟩ h2) := Lib.hid HE.out
   clear HE
   go_wp2_with (first
       | go_skip
       | (refine wpList_op rfl (op_putR_1 77 _ _ rfl S rfl _ rfl rfl (by kernel_rfl) rfl ?_); clear S; intro w S)
       | (refine wpList_op rfl (op_putR_5 31 _ _ rfl S rfl _ rfl rfl (by kernel_rfl) rfl ?_); clear S; intro w S)
       | (refine wpList_op rfl (op_row 77 _ rfl S.out 1 rfl rfl Try.isAgg77 (by kernel_rfl) ?_))
       | (refine wpList_op rfl (op_row 31 _ rfl S.out 5 rfl rfl Try.isAgg31 (by kernel_rfl) ?_)))
   by_cases hq : (treeOk r ys && handOk h2) = true
   · have hd2 := (DY.out hq A5 c5 A4 hd.st.length c4 w (OwnS.rs (S.out.get 2 rfl) rfl) (by rw [HST.out]; exact OwnS.rs (S.out.get 0 rfl) rfl))
     unfold hdV at hd2
     refine hd2.mono ?_
     rintro e w ⟨rfl, b⟩
     replace S := Lib.hid (S.out.call b)
     have HQ := Lib.hid hq
     clear b hd2 hq
     go_wp2_with (first
         | go_skip
         | (refine wpList_op rfl (op_putR_4 77 _ _ rfl S rfl _ rfl rfl (by kernel_rfl) rfl ?_); clear S; intro w S)
         | (refine wpList_op rfl (op_putR_3 31 _ _ rfl S rfl _ rfl rfl (by kernel_rfl) rfl ?_); clear S; intro w S))
     exact bodyPost_ret (results_ccs rfl _ S.out 4 3 rfl rfl rfl rfl Try.isAgg77 Try.isAgg31 (by kernel_rfl) (by kernel_rfl)) rfl (by rw [HE2.out, done_yes (t := ⟨r, ys⟩) (by have := HQ.out; simp only [Bool.and_eq_true] at this; exact this.1) (by have := HQ.out; simp only [Bool.and_eq_true] at this; exact this.2)]; exact S.out.gives 2 0 (by omega) (s := ⟨⟨r, ys⟩, h2, true⟩) rfl (by rw [HST.out]; rfl) rfl (by rw [HST.out]))
   · have hd2 := (DNO.out hq A5 c5 A4 hd.st.length c4 w (OwnS.rs (S.out.get 2 rfl) rfl) (by rw [HST.out]; exact OwnS.rs (S.out.get 0 rfl) rfl))
     unfold hdV at hd2
     refine hd2.mono ?_
     rintro e w ⟨rfl, b⟩
     replace S := Lib.hid (S.out.call b)
     have HQ := Lib.hid hq
     clear b hd2 hq
     go_wp2_with (first
         | go_skip
         | (refine wpList_op rfl (op_putR_4 77 _ _ rfl S rfl _ rfl rfl (by kernel_rfl) rfl ?_); clear S; intro w S)
         | (refine wpList_op rfl (op_putR_3 31 _ _ rfl S rfl _ rfl rfl (by kernel_rfl) rfl ?_); clear S; intro w S))
     exact bodyPost_ret (results_ccs rfl _ S.out 4 3 rfl rfl rfl rfl Try.isAgg77 Try.isAgg31 (by kernel_rfl) (by kernel_rfl)) rfl (by rw [HE2.out, doneS_no (t := ⟨r, ys⟩) HQ.out]; exact none_S S.out.below)

set_option maxRecDepth 100000 in
set_option maxHeartbeats 16000000 in
theorem split_free (r : Int) (xs : List Nd) (A : Option Addr) (n c : Nat) (task : Int) (hd : Hd) (A' : Option Addr) (n' c' : Nat) (w0 : World) (hR : RS w0 w0.heap.size A n xs) (hs : Small.sm xs) (hH : RS w0 w0.heap.size A' n' hd.st) (hn' : n' ≤ 1048576) (hk : ok10 ⟨r, xs⟩ task hd 6 8 = true) (h6 : hd.pos ≠ 6) (h7 : hd.pos ≠ 7) :
   Calls Try.prog 87 #[.agg #[jI jZ r, jS A n c], jI jZ task, hdV hd A' n' c'] w0 (GivesS w0 (splitS ⟨r, xs⟩ task hd)) := by
 have hE : splitS ⟨r, xs⟩ task hd = doneS ⟨freedR r xs hd.cur task, freedX r xs hd.cur task⟩ (thenH hd) := by unfold splitS; rw [hk]; simp [h6, h7]
 have hk9 : ok9 ⟨r, xs⟩ task hd 6 8 = true := by unfold ok10 at hk; simp only [Bool.and_eq_true] at hk; exact hk.1
 have hpos := (ok9_of hk9).2.2.2.1
 have hho := (ok9_of hk9).2.2.1
 have h8 : hd.pos = 8 := by omega
 have hw6 : 0 ≤ hd.want ∧ hd.want ≤ 6 := hand_want hho
 have hsm := freedX_sm r xs hd.cur task
 have FR := Lib.hid (fun w hR => sFreed_any r xs A n c hd.cur task w hR hs)
 have TH := Lib.hid (fun (A4 : Option Addr) (c4 : Nat) (G : FP) w ho hG => then_gives hd A4 c4 G w ho hG hw6)
 generalize freedX r xs hd.cur task = ys at *
 generalize freedR r xs hd.cur task = rr at *
 generalize thenH hd = h2 at *
 have DY := Lib.hid (fun (hq : (treeOk rr ys && handOk h2) = true) (A5 : Option Addr) (c5 : Nat) (A6 : Option Addr) (n6 c6 : Nat) w hR (hS : RS w w.heap.size A6 n6 h2.st) => done9_yes rr ys A5 ys.length c5 h2 A6 n6 c6 w hR hsm hS (by simp only [Bool.and_eq_true] at hq; exact hq.1) (by simp only [Bool.and_eq_true] at hq; exact hq.2))
 have DNO := Lib.hid (fun (hq : ¬ (treeOk rr ys && handOk h2) = true) (A5 : Option Addr) (c5 : Nat) (A6 : Option Addr) (n6 c6 : Nat) w hR (hS : RS w w.heap.size A6 n6 h2.st) => done9_no rr ys A5 ys.length c5 h2 A6 n6 c6 w hR hsm hS (by simpa using hq))
 have OK := Lib.hid (fun w hR hH => ok10_any r xs A n c task hd A' n' c' 6 8 w hR hs hH hn')
 have CT := Lib.hid (fun w hR => copyT_any r xs A n c w hR hs)
 have CH := Lib.hid (fun w hR => copyH_any hd A' n' c' w hR hn')
 have NN := Lib.hid none9_any
 have HR := Lib.hid hR
 have HH := Lib.hid hH
 have HL := Lib.hid hH.1
 have HE := Lib.hid hE
 rw [hk] at OK
 have g6 : (hd.pos == 6) = false := by simp [h6]
 have g7 : (hd.pos == 7) = false := by simp [h7]
 have g8 : (hd.pos == 8) = true := by simp [h8]
 clear hE hk h6 h7 h8 hpos hho hw6 hR hH hs hn' hk9 hsm
 have S := Lib.hid (Sep.start noX w0)
 have tokg : True := trivial
 have tokx : True := trivial
 have toky : True := trivial
 have tok0 : True := trivial
 have tok1 : True := trivial
 have tok2 : True := trivial
 have tok3 : True := trivial
 unfold hdV at *
 go_enter Try.func87, Try.ntmps87
 go_wp2_with (first
     | go_skip
     | (clear tok0; refine bx_ 77 S rfl rfl rfl ?_; clear S; intro gt w S)
     | (clear tok1; refine bx_ 31 S rfl rfl rfl ?_; clear S; intro gh w S)
     | (clear tok2; refine nx_ 77 S rfl rfl Try.zeroValue77 ?_; clear S; intro rt w S)
     | (clear tok3; refine nx_ 31 S rfl rfl Try.zeroValue31 ?_; clear S; intro rh w S)
     | (refine wpList_op rfl (op_row 77 _ rfl S.out 3 rfl rfl Try.isAgg77 (by kernel_rfl) ?_))
     | (refine wpList_op rfl (op_row 31 _ rfl S.out 2 rfl rfl Try.isAgg31 (by kernel_rfl) ?_)))
 refine (OK.out _ (S.out.rs HR.out) (S.out.rs HH.out)).mono ?_
 rintro e w ⟨rfl, b⟩
 replace S := Lib.hid (S.out.call b)
 clear b
 go_wp2_with (first
     | go_skip
     | (refine wpList_op rfl (op_row 77 _ rfl S.out 3 rfl rfl Try.isAgg77 (by kernel_rfl) ?_)))
 refine (CT.out _ (S.out.rs HR.out)).mono ?_
 rintro e w ⟨v, F, rfl, o, f, b⟩
 obtain ⟨A3, c3, rfl, _, _⟩ := o.form
 replace S := Lib.hid (S.out.own b o f)
 clear o f b
 go_wp2_with (first
     | go_skip
     | (clear tokg; refine nx_ 77 S rfl rfl Try.zeroValue77 ?_; clear S; intro go w S)
     | (refine wpList_op rfl (op_putR_0 77 _ _ rfl S rfl _ rfl rfl (by kernel_rfl) rfl ?_); clear S; intro w S)
     | (refine wpList_op rfl (op_row 31 _ rfl S.out 4 rfl rfl Try.isAgg31 (by kernel_rfl) ?_)))
 refine (CH.out _ (S.out.rs HH.out)).mono ?_
 rintro e w ⟨A4, c4, G, rfl, o, f, b⟩
 replace S := Lib.hid (S.out.own b o f)
 clear o f b
 unfold hdV
 go_wp2_with (first
     | go_skip
     | (refine wpList_op rfl (op_putR_5 31 _ _ rfl S rfl _ rfl rfl (by kernel_rfl) rfl ?_); clear S; intro w S)
     | (refine wpList_op rfl (op_get 2 _ rfl S.out 5 rfl _ rfl Try.isAgg2 _ rfl ?_))
     | (refine wpList_op rfl (op_row 77 _ rfl S.out 6 rfl rfl Try.isAgg77 (by kernel_rfl) ?_)))
 refine (FR.out _ (S.out.rs HR.out)).mono ?_
 rintro e w ⟨A5, c5, G2, rfl, o, f, b⟩
 replace S := Lib.hid (S.out.own b o f)
 clear o f b
 go_wp2_with (first
     | go_skip
     | (refine wpList_op rfl (op_putR_2 77 _ _ rfl S rfl _ rfl rfl (by kernel_rfl) rfl ?_); clear S; intro w S)
     | (refine wpList_op rfl (op_row 31 _ rfl S.out 6 rfl rfl Try.isAgg31 (by kernel_rfl) ?_)))
 have th := TH.out A4 c4 G w (S.out.get 1 rfl) (S.out.lt 1 rfl)
 unfold hdV at th
 refine th.mono ?_
 rintro e w ⟨A6, c6, rfl, ho, b⟩
 have S2 := (S.out.call b).turn 1 rfl (Only.refl _ _) (ow (jS A6 h2.st.length c6) h2.st G) ho (fun k hk => ⟨.inl hk, (S.out.call b).lt 1 rfl k hk⟩)
 replace S : Hid (Sep noX w0 [ow (jS A5 ys.length c5) ys G2, ow (jS A6 h2.st.length c6) h2.st G, bx go #[jI jZ rr, jS A5 ys.length c5] 77, ow (jS A3 xs.length c3) xs F, bx rh #[jI jZ 0, jI jZ 0, jI jZ 0, jI jZ 0, jI jZ 0, jI jZ 0, jI jZ 0, jI jZ 0, jI jZ 0, jI jZ 0, jI jZ 0, jS none 0 0, jI jZ 0, jI jZ 0, jI jZ 0, jI jZ 0] 31, bx rt #[jI jZ 0, jS none 0 0] 77, bx gh #[jI jZ hd.pos, jI jZ hd.cc, jI jZ hd.ck, jI jZ hd.cv, jI jZ hd.cur, jI jZ hd.want, jI jZ hd.key, jI jZ hd.kid, jI jZ hd.old, jI jZ hd.next, jI jZ hd.new, jS A4 hd.st.length c4, jI jZ hd.thn, jI jZ hd.beg, jI jZ hd.rep, jI jZ hd.out] 31, bx gt #[jI jZ r, jS A n c] 77] w) := Lib.hid S2
 clear S2 ho b th
 go_wp2_with (first
     | go_skip
     | (refine wpList_op rfl (op_putR_6 31 _ _ rfl S rfl _ rfl rfl (by kernel_rfl) rfl ?_); clear S; intro w S)
     | (refine wpList_op rfl (op_row 77 _ rfl S.out 2 rfl rfl Try.isAgg77 (by kernel_rfl) ?_))
     | (refine wpList_op rfl (op_row 31 _ rfl S.out 6 rfl rfl Try.isAgg31 (by kernel_rfl) ?_)))
 by_cases hq : (treeOk rr ys && handOk h2) = true
 · have hd2 := (DY.out hq A5 c5 A6 h2.st.length c6 w (OwnS.rs (S.out.get 0 rfl) rfl) (OwnS.rs (S.out.get 1 rfl) rfl))
   unfold hdV at hd2
   refine hd2.mono ?_
   rintro e w ⟨rfl, b⟩
   replace S := Lib.hid (S.out.call b)
   have HQ := Lib.hid hq
   clear b hd2 hq
   go_wp2_with (first
       | go_skip
       | (refine wpList_op rfl (op_putR_5 77 _ _ rfl S rfl _ rfl rfl (by kernel_rfl) rfl ?_); clear S; intro w S)
       | (refine wpList_op rfl (op_putR_4 31 _ _ rfl S rfl _ rfl rfl (by kernel_rfl) rfl ?_); clear S; intro w S))
   exact bodyPost_ret (results_ccs rfl _ S.out 5 4 rfl rfl rfl rfl Try.isAgg77 Try.isAgg31 (by kernel_rfl) (by kernel_rfl)) rfl (by rw [HE.out, done_yes (t := ⟨rr, ys⟩) (by have := HQ.out; simp only [Bool.and_eq_true] at this; exact this.1) (by have := HQ.out; simp only [Bool.and_eq_true] at this; exact this.2)]; exact S.out.gives 0 1 (by omega) (s := ⟨⟨rr, ys⟩, h2, true⟩) rfl rfl rfl rfl)
 · have hd2 := (DNO.out hq A5 c5 A6 h2.st.length c6 w (OwnS.rs (S.out.get 0 rfl) rfl) (OwnS.rs (S.out.get 1 rfl) rfl))
   unfold hdV at hd2
   refine hd2.mono ?_
   rintro e w ⟨rfl, b⟩
   replace S := Lib.hid (S.out.call b)
   have HQ := Lib.hid hq
   clear b hd2 hq
   go_wp2_with (first
       | go_skip
       | (refine wpList_op rfl (op_putR_5 77 _ _ rfl S rfl _ rfl rfl (by kernel_rfl) rfl ?_); clear S; intro w S)
       | (refine wpList_op rfl (op_putR_4 31 _ _ rfl S rfl _ rfl rfl (by kernel_rfl) rfl ?_); clear S; intro w S))
   exact bodyPost_ret (results_ccs rfl _ S.out 5 4 rfl rfl rfl rfl Try.isAgg77 Try.isAgg31 (by kernel_rfl) (by kernel_rfl)) rfl (by rw [HE.out, doneS_no (t := ⟨rr, ys⟩) HQ.out]; exact none_S S.out.below)

theorem sSplit_any (r : Int) (xs : List Nd) (A : Option Addr) (n c : Nat) (task : Int) (hd : Hd) (A' : Option Addr) (n' c' : Nat) (w0 : World) (hR : RS w0 w0.heap.size A n xs) (hs : Small.sm xs) (hH : RS w0 w0.heap.size A' n' hd.st) (hn' : n' ≤ 1048576) :
   Calls Try.prog 87 #[.agg #[jI jZ r, jS A n c], jI jZ task, hdV hd A' n' c'] w0 (GivesS w0 (splitS ⟨r, xs⟩ task hd)) := by
 by_cases hk : ok10 ⟨r, xs⟩ task hd 6 8 = true
 · by_cases h6 : hd.pos = 6
   · exact split_make r xs A n c task hd A' n' c' w0 hR hs hH hn' hk h6
   · by_cases h7 : hd.pos = 7
     · exact split_halve r xs A n c task hd A' n' c' w0 hR hs hH hn' hk h7
     · exact split_free r xs A n c task hd A' n' c' w0 hR hs hH hn' hk h6 h7
 · exact split_no r xs A n c task hd A' n' c' w0 hR hs hH hn' (by simpa using hk)
end Go.Proofs.Ytjookicpmjmdhaa
