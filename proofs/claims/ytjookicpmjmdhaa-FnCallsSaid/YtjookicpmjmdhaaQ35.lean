/- The walk of the model's UpStep. (Made by genY15.py.) -/
import Derived.Test.YtjookicpmjmdhaaQ30
import Derived.Test.YtjookicpmjmdhaaQ34
open Go.Value renaming int → jI, slice → jS
open Go.IntKind renaming i64 → jZ
namespace Go.Proofs.Ytjookicpmjmdhaa
open Go.RowKit

theorem Sep.turnedInV {X : FP} {w0 w w' : World} {L : List Item} (h : Sep X w0 L w) (p : Nat) {v v' : Value} {xs ys : List Nd} {F : FP} (e : L[p]? = some (ow v xs F)) (t : Turned F w v' ys w') : ∃ G, Sep X w0 (L.set p (ow v' ys G)) w' := by
 obtain ⟨G, h1, h2, h3⟩ := t
 exact ⟨G, h.turn p e h3 _ h1 (fun k hk => h2 k hk)⟩
theorem Sep.nilI {X : FP} {w0 w : World} {L : List Item} (h : Sep X w0 L w) : Sep X w0 (ow (jS none 0 0) ([] : List Int) (fun _ => False) :: L) w := h.own (Below.refl _ _) (OwnS.nil _ _) (fun _ hk => absurd hk id)

set_option maxRecDepth 100000 in
set_option maxHeartbeats 16000000 in
theorem up_no (r : Int) (xs : List Nd) (A : Option Addr) (n c : Nat) (task : Int) (hd : Hd) (A' : Option Addr) (n' c' : Nat) (w0 : World) (hR : RS w0 w0.heap.size A n xs) (hs : Small.sm xs) (hH : RS w0 w0.heap.size A' n' hd.st) (hn' : n' ≤ 1048576) (hk : (ok9 ⟨r, xs⟩ task hd 9 11 && (decide (hd.cc = 2) && !decide (hd.want = 0))) = false) :
   Calls Try.prog 88 #[.agg #[jI jZ r, jS A n c], jI jZ task, hdV hd A' n' c'] w0 (GivesS w0 (upS ⟨r, xs⟩ task hd)) := by
 have hE : upS ⟨r, xs⟩ task hd = noneS := by unfold upS; rw [hk]; rfl
 have OK := Lib.hid (fun w hR hH => ok9_any r xs A n c task hd A' n' c' 9 11 w hR hs hH hn')
 have CT := Lib.hid (fun w hR => copyT_any r xs A n c w hR hs)
 have CH := Lib.hid (fun w hR => copyH_any hd A' n' c' w hR hn')
 have NN := Lib.hid none9_any
 have RK := Lib.hid rest_any
 have HR := Lib.hid hR
 have HH := Lib.hid hH
 have HE := Lib.hid hE
 clear hE hR hH hs hn'
 generalize ok9 ⟨r, xs⟩ task hd 9 11 = q at *
 cases q
 · clear hk
   have S := Lib.hid (Sep.start noX w0)
   have tokg : True := trivial
   have tokx : True := trivial
   have tok0 : True := trivial
   have tok1 : True := trivial
   have tok2 : True := trivial
   have tok3 : True := trivial
   unfold hdV at *
   go_enter Try.func88, Try.ntmps88
   go_wp2_with (first
       | go_skip
       | (clear tok0; refine bx_ 77 S rfl rfl rfl ?_; clear S; intro gt w S)
       | (clear tok1; refine bx_ 31 S rfl rfl rfl ?_; clear S; intro gh w S)
       | (clear tok2; refine nx_ 77 S rfl rfl Try.zeroValue77 ?_; clear S; intro rt w S)
       | (clear tok3; refine nx_ 31 S rfl rfl Try.zeroValue31 ?_; clear S; intro rh w S)
       | (refine wpList_op rfl (op_row 77 _ rfl S.out 3 rfl rfl Try.isAgg77 (by kernel_rfl) ?_))
       | (refine wpList_op rfl (op_row 31 _ rfl S.out 2 rfl rfl Try.isAgg31 (by kernel_rfl) ?_)))
   refine (OK.out _ (S.out.rs HR.out) (S.out.rs HH.out)).mono ?_
   rintro e w ⟨rfl, b⟩
   replace S := Lib.hid (S.out.call b)
   clear b
   go_wp2_with (first
       | go_skip
       | (refine wpList_op rfl (op_get 2 _ rfl S.out 2 rfl _ rfl Try.isAgg2 _ rfl ?_)))
   refine (NN.out _).mono ?_
   rintro e w ⟨rfl, b⟩
   replace S := Lib.hid (S.out.call b)
   clear b
   unfold zeroS hdV
   go_wp2_with (first
       | go_skip
       | (refine wpList_op rfl (op_putR_1 77 _ _ rfl S rfl _ rfl rfl (by kernel_rfl) rfl ?_); clear S; intro w S)
       | (refine wpList_op rfl (op_putR_0 31 _ _ rfl S rfl _ rfl rfl (by kernel_rfl) rfl ?_); clear S; intro w S))
   exact bodyPost_ret (results_ccs rfl _ S.out 1 0 rfl rfl rfl rfl Try.isAgg77 Try.isAgg31 (by kernel_rfl) (by kernel_rfl)) rfl (by rw [HE.out]; exact none_S S.out.below)
 by_cases h2 : hd.cc = 2
 · have h0 : hd.want = 0 := by simpa [h2] using hk
   have g1 : (hd.cc != 2) = false := by simp [h2]
   have g2 : (hd.want == 0) = true := by simp [h0]
   clear hk h2 h0
   have S := Lib.hid (Sep.start noX w0)
   have tokg : True := trivial
   have tokx : True := trivial
   have tok0 : True := trivial
   have tok1 : True := trivial
   have tok2 : True := trivial
   have tok3 : True := trivial
   unfold hdV at *
   go_enter Try.func88, Try.ntmps88
   go_wp2_with (first
       | go_skip
       | (clear tok0; refine bx_ 77 S rfl rfl rfl ?_; clear S; intro gt w S)
       | (clear tok1; refine bx_ 31 S rfl rfl rfl ?_; clear S; intro gh w S)
       | (clear tok2; refine nx_ 77 S rfl rfl Try.zeroValue77 ?_; clear S; intro rt w S)
       | (clear tok3; refine nx_ 31 S rfl rfl Try.zeroValue31 ?_; clear S; intro rh w S)
       | (refine wpList_op rfl (op_row 77 _ rfl S.out 3 rfl rfl Try.isAgg77 (by kernel_rfl) ?_))
       | (refine wpList_op rfl (op_row 31 _ rfl S.out 2 rfl rfl Try.isAgg31 (by kernel_rfl) ?_)))
   refine (OK.out _ (S.out.rs HR.out) (S.out.rs HH.out)).mono ?_
   rintro e w ⟨rfl, b⟩
   replace S := Lib.hid (S.out.call b)
   clear b
   go_wp2_with (first
       | go_skip
       | (refine wpList_op rfl (op_get 2 _ rfl S.out 2 rfl _ rfl Try.isAgg2 _ rfl ?_)))
   refine (NN.out _).mono ?_
   rintro e w ⟨rfl, b⟩
   replace S := Lib.hid (S.out.call b)
   clear b
   unfold zeroS hdV
   go_wp2_with (first
       | go_skip
       | (refine wpList_op rfl (op_putR_1 77 _ _ rfl S rfl _ rfl rfl (by kernel_rfl) rfl ?_); clear S; intro w S)
       | (refine wpList_op rfl (op_putR_0 31 _ _ rfl S rfl _ rfl rfl (by kernel_rfl) rfl ?_); clear S; intro w S))
   exact bodyPost_ret (results_ccs rfl _ S.out 1 0 rfl rfl rfl rfl Try.isAgg77 Try.isAgg31 (by kernel_rfl) (by kernel_rfl)) rfl (by rw [HE.out]; exact none_S S.out.below)
 · have g1 : (hd.cc != 2) = true := by simpa using h2
   clear hk h2
   have S := Lib.hid (Sep.start noX w0)
   have tokg : True := trivial
   have tokx : True := trivial
   have tok0 : True := trivial
   have tok1 : True := trivial
   have tok2 : True := trivial
   have tok3 : True := trivial
   unfold hdV at *
   go_enter Try.func88, Try.ntmps88
   go_wp2_with (first
       | go_skip
       | (clear tok0; refine bx_ 77 S rfl rfl rfl ?_; clear S; intro gt w S)
       | (clear tok1; refine bx_ 31 S rfl rfl rfl ?_; clear S; intro gh w S)
       | (clear tok2; refine nx_ 77 S rfl rfl Try.zeroValue77 ?_; clear S; intro rt w S)
       | (clear tok3; refine nx_ 31 S rfl rfl Try.zeroValue31 ?_; clear S; intro rh w S)
       | (refine wpList_op rfl (op_row 77 _ rfl S.out 3 rfl rfl Try.isAgg77 (by kernel_rfl) ?_))
       | (refine wpList_op rfl (op_row 31 _ rfl S.out 2 rfl rfl Try.isAgg31 (by kernel_rfl) ?_)))
   refine (OK.out _ (S.out.rs HR.out) (S.out.rs HH.out)).mono ?_
   rintro e w ⟨rfl, b⟩
   replace S := Lib.hid (S.out.call b)
   clear b
   go_wp2_with (first
       | go_skip
       | (refine wpList_op rfl (op_get 2 _ rfl S.out 2 rfl _ rfl Try.isAgg2 _ rfl ?_)))
   refine (NN.out _).mono ?_
   rintro e w ⟨rfl, b⟩
   replace S := Lib.hid (S.out.call b)
   clear b
   unfold zeroS hdV
   go_wp2_with (first
       | go_skip
       | (refine wpList_op rfl (op_putR_1 77 _ _ rfl S rfl _ rfl rfl (by kernel_rfl) rfl ?_); clear S; intro w S)
       | (refine wpList_op rfl (op_putR_0 31 _ _ rfl S rfl _ rfl rfl (by kernel_rfl) rfl ?_); clear S; intro w S))
   exact bodyPost_ret (results_ccs rfl _ S.out 1 0 rfl rfl rfl rfl Try.isAgg77 Try.isAgg31 (by kernel_rfl) (by kernel_rfl)) rfl (by rw [HE.out]; exact none_S S.out.below)

set_option maxRecDepth 100000 in
set_option maxHeartbeats 16000000 in
theorem up_wait (r : Int) (xs : List Nd) (A : Option Addr) (n c : Nat) (task : Int) (hd : Hd) (A' : Option Addr) (n' c' : Nat) (w0 : World) (hR : RS w0 w0.heap.size A n xs) (hs : Small.sm xs) (hH : RS w0 w0.heap.size A' n' hd.st) (hn' : n' ≤ 1048576) (hk : (ok9 ⟨r, xs⟩ task hd 9 11 && (decide (hd.cc = 2) && !decide (hd.want = 0))) = true) (hp : hd.pos = 11) (hro : r ≠ hd.old) :
   Calls Try.prog 88 #[.agg #[jI jZ r, jS A n c], jI jZ task, hdV hd A' n' c'] w0 (GivesS w0 (upS ⟨r, xs⟩ task hd)) := by
 have hE : upS ⟨r, xs⟩ task hd = doneS ⟨r, xs⟩ { hd with pos := 9 } := by unfold upS; rw [hk]; simp [hp, hro]
 obtain ⟨hk9, hk2, hk3⟩ : ok9 ⟨r, xs⟩ task hd 9 11 = true ∧ hd.cc = 2 ∧ hd.want ≠ 0 := by simpa [and_assoc] using hk
 have hT := (ok9_of hk9).1
 have hlx : xs.length = n := hR.1
 have g1 : (hd.cc != 2) = false := by simp [hk2]
 have g2 : (hd.want == 0) = false := by simp [hk3]
 have DY := Lib.hid (fun (hq : handOk { hd with pos := 9 } = true) (A3 : Option Addr) (c3 : Nat) (A4 : Option Addr) (c4 : Nat) w hR (hS : RS w w.heap.size A4 hd.st.length hd.st) => done9_yes r xs A3 xs.length c3 { hd with pos := 9 } A4 hd.st.length c4 w hR hs hS hT hq)
 have DNO := Lib.hid (fun (hq : ¬ handOk { hd with pos := 9 } = true) (A3 : Option Addr) (c3 : Nat) (A4 : Option Addr) (c4 : Nat) w hR (hS : RS w w.heap.size A4 hd.st.length hd.st) => done9_no r xs A3 xs.length c3 { hd with pos := 9 } A4 hd.st.length c4 w hR hs hS (by simp [hq]))
 have OK := Lib.hid (fun w hR hH => ok9_any r xs A n c task hd A' n' c' 9 11 w hR hs hH hn')
 have CT := Lib.hid (fun w hR => copyT_any r xs A n c w hR hs)
 have CH := Lib.hid (fun w hR => copyH_any hd A' n' c' w hR hn')
 have NN := Lib.hid none9_any
 have RK := Lib.hid rest_any
 have HR := Lib.hid hR
 have HH := Lib.hid hH
 have HE := Lib.hid hE
 have HT : Hid (treeOk r xs = true) := Lib.hid hT
 rw [hk9] at OK
 have g3 : (hd.pos == 9) = false := by simp [hp]
 have g4 : (hd.pos == 10) = false := by simp [hp]
 have g5 : (hd.pos == 11) = true := by simp [hp]
 have g6 : (r != hd.old) = true := by simpa using hro
 clear hE hk hp hR hH hs hn' hk9 hk2 hk3 hT hlx hro
 have S := Lib.hid (Sep.start noX w0)
 have tokg : True := trivial
 have tokx : True := trivial
 have tok0 : True := trivial
 have tok1 : True := trivial
 have tok2 : True := trivial
 have tok3 : True := trivial
 unfold hdV at *
 go_enter Try.func88, Try.ntmps88
 go_wp2_with (first
     | go_skip
     | (clear tok0; refine bx_ 77 S rfl rfl rfl ?_; clear S; intro gt w S)
     | (clear tok1; refine bx_ 31 S rfl rfl rfl ?_; clear S; intro gh w S)
     | (clear tok2; refine nx_ 77 S rfl rfl Try.zeroValue77 ?_; clear S; intro rt w S)
     | (clear tok3; refine nx_ 31 S rfl rfl Try.zeroValue31 ?_; clear S; intro rh w S)
     | (refine wpList_op rfl (op_row 77 _ rfl S.out 3 rfl rfl Try.isAgg77 (by kernel_rfl) ?_))
     | (refine wpList_op rfl (op_row 31 _ rfl S.out 2 rfl rfl Try.isAgg31 (by kernel_rfl) ?_)))
 refine (OK.out _ (S.out.rs HR.out) (S.out.rs HH.out)).mono ?_
 rintro e w ⟨rfl, b⟩
 replace S := Lib.hid (S.out.call b)
 clear b
 go_wp2_with (first
     | go_skip
     | (refine wpList_op rfl (op_get 2 _ rfl S.out 2 rfl _ rfl Try.isAgg2 _ rfl ?_))
     | (refine wpList_op rfl (op_row 77 _ rfl S.out 3 rfl rfl Try.isAgg77 (by kernel_rfl) ?_)))
 refine (CT.out _ (S.out.rs HR.out)).mono ?_
 rintro e w ⟨v, F, rfl, o, f, b⟩
 obtain ⟨A3, c3, rfl, _, _⟩ := o.form
 replace S := Lib.hid (S.out.own b o f)
 clear o f b
 go_wp2_with (first
     | go_skip
     | (clear tokg; refine nx_ 77 S rfl rfl Try.zeroValue77 ?_; clear S; intro go w S)
     | (refine wpList_op rfl (op_putR_0 77 _ _ rfl S rfl _ rfl rfl (by kernel_rfl) rfl ?_); clear S; intro w S)
     | (refine wpList_op rfl (op_row 31 _ rfl S.out 4 rfl rfl Try.isAgg31 (by kernel_rfl) ?_)))
 refine (CH.out _ (S.out.rs HH.out)).mono ?_
 rintro e w ⟨A4, c4, G, rfl, o, f, b⟩
 replace S := Lib.hid (S.out.own b o f)
 clear o f b
 unfold hdV
 go_wp2_with (first
     | go_skip
     | (refine wpList_op rfl (op_putR_5 31 _ _ rfl S rfl _ rfl rfl (by kernel_rfl) rfl ?_); clear S; intro w S)
     | (refine wpList_op rfl (op_get 2 _ rfl S.out 5 rfl _ rfl Try.isAgg2 _ rfl ?_))
     | (refine wpList_op rfl (op_get 2 _ rfl S.out 6 rfl _ rfl Try.isAgg2 _ rfl ?_))
     | (refine wpList_op rfl (op_put1_5 2 _ _ rfl S _ rfl _ rfl rfl (by kernel_rfl) (of_decide_eq_true rfl) ?_); clear S; intro w S; replace S : Hid (Sep noX w0 [ow (jS A4 hd.st.length c4) hd.st G, bx go #[jI jZ r, jS A3 xs.length c3] 77, ow (jS A3 xs.length c3) xs F, bx rh #[jI jZ 0, jI jZ 0, jI jZ 0, jI jZ 0, jI jZ 0, jI jZ 0, jI jZ 0, jI jZ 0, jI jZ 0, jI jZ 0, jI jZ 0, jS none 0 0, jI jZ 0, jI jZ 0, jI jZ 0, jI jZ 0] 31, bx rt #[jI jZ 0, jS none 0 0] 77, bx gh #[jI jZ 9, jI jZ hd.cc, jI jZ hd.ck, jI jZ hd.cv, jI jZ hd.cur, jI jZ hd.want, jI jZ hd.key, jI jZ hd.kid, jI jZ hd.old, jI jZ hd.next, jI jZ hd.new, jS A4 hd.st.length c4, jI jZ hd.thn, jI jZ hd.beg, jI jZ hd.rep, jI jZ hd.out] 31, bx gt #[jI jZ r, jS A n c] 77] w) := S)
     | (refine wpList_op rfl (op_row 77 _ rfl S.out 1 rfl rfl Try.isAgg77 (by kernel_rfl) ?_))
     | (refine wpList_op rfl (op_row 31 _ rfl S.out 5 rfl rfl Try.isAgg31 (by kernel_rfl) ?_)))
 by_cases hq : handOk { hd with pos := 9 } = true
 · have hd2 := (DY.out hq A3 c3 A4 c4 w (OwnS.rs (S.out.get 2 rfl) rfl) (OwnS.rs (S.out.get 0 rfl) rfl))
   unfold hdV at hd2
   refine hd2.mono ?_
   rintro e w ⟨rfl, b⟩
   replace S := Lib.hid (S.out.call b)
   have HQ := Lib.hid hq
   clear b hd2 hq
   go_wp2_with (first
       | go_skip
       | (refine wpList_op rfl (op_putR_4 77 _ _ rfl S rfl _ rfl rfl (by kernel_rfl) rfl ?_); clear S; intro w S)
       | (refine wpList_op rfl (op_putR_3 31 _ _ rfl S rfl _ rfl rfl (by kernel_rfl) rfl ?_); clear S; intro w S))
   exact bodyPost_ret (results_ccs rfl _ S.out 4 3 rfl rfl rfl rfl Try.isAgg77 Try.isAgg31 (by kernel_rfl) (by kernel_rfl)) rfl (by rw [HE.out, done_yes HT.out HQ.out]; exact S.out.gives 2 0 (by omega) (s := ⟨⟨r, xs⟩, { hd with pos := 9 }, true⟩) rfl rfl rfl rfl)
 · have hd2 := (DNO.out hq A3 c3 A4 c4 w (OwnS.rs (S.out.get 2 rfl) rfl) (OwnS.rs (S.out.get 0 rfl) rfl))
   unfold hdV at hd2
   refine hd2.mono ?_
   rintro e w ⟨rfl, b⟩
   replace S := Lib.hid (S.out.call b)
   have HQ := Lib.hid hq
   clear b hd2 hq
   go_wp2_with (first
       | go_skip
       | (refine wpList_op rfl (op_putR_4 77 _ _ rfl S rfl _ rfl rfl (by kernel_rfl) rfl ?_); clear S; intro w S)
       | (refine wpList_op rfl (op_putR_3 31 _ _ rfl S rfl _ rfl rfl (by kernel_rfl) rfl ?_); clear S; intro w S))
   exact bodyPost_ret (results_ccs rfl _ S.out 4 3 rfl rfl rfl rfl Try.isAgg77 Try.isAgg31 (by kernel_rfl) (by kernel_rfl)) rfl (by rw [HE.out, done_no (by simpa using HQ.out)]; exact none_S S.out.below)

set_option maxRecDepth 100000 in
set_option maxHeartbeats 16000000 in
theorem up_swing (r : Int) (xs : List Nd) (A : Option Addr) (n c : Nat) (task : Int) (hd : Hd) (A' : Option Addr) (n' c' : Nat) (w0 : World) (hR : RS w0 w0.heap.size A n xs) (hs : Small.sm xs) (hH : RS w0 w0.heap.size A' n' hd.st) (hn' : n' ≤ 1048576) (hk : (ok9 ⟨r, xs⟩ task hd 9 11 && (decide (hd.cc = 2) && !decide (hd.want = 0))) = true) (hp : hd.pos = 11) (hro : r = hd.old) :
   Calls Try.prog 88 #[.agg #[jI jZ r, jS A n c], jI jZ task, hdV hd A' n' c'] w0 (GivesS w0 (upS ⟨r, xs⟩ task hd)) := by
 have hE : upS ⟨r, xs⟩ task hd = doneS ⟨hd.new, xs⟩ (restH hd.rep 0) := by unfold upS; rw [hk]; simp [hp, hro]
 obtain ⟨hk9, hk2, hk3⟩ : ok9 ⟨r, xs⟩ task hd 9 11 = true ∧ hd.cc = 2 ∧ hd.want ≠ 0 := by simpa [and_assoc] using hk
 have hT := (ok9_of hk9).1
 have hlx : xs.length = n := hR.1
 have g1 : (hd.cc != 2) = false := by simp [hk2]
 have g2 : (hd.want == 0) = false := by simp [hk3]
 have DY := Lib.hid (fun (hq : (treeOk hd.new xs && handOk (restH hd.rep 0)) = true) (A3 : Option Addr) (c3 : Nat) w hR => done9_yes hd.new xs A3 xs.length c3 (restH hd.rep 0) none 0 0 w hR hs (RS.nil _ _ _) (by simp only [Bool.and_eq_true] at hq; exact hq.1) (by simp only [Bool.and_eq_true] at hq; exact hq.2))
 have DNO := Lib.hid (fun (hq : ¬ (treeOk hd.new xs && handOk (restH hd.rep 0)) = true) (A3 : Option Addr) (c3 : Nat) w hR => done9_no hd.new xs A3 xs.length c3 (restH hd.rep 0) none 0 0 w hR hs (RS.nil _ _ _) (by simpa using hq))
 have OK := Lib.hid (fun w hR hH => ok9_any r xs A n c task hd A' n' c' 9 11 w hR hs hH hn')
 have CT := Lib.hid (fun w hR => copyT_any r xs A n c w hR hs)
 have CH := Lib.hid (fun w hR => copyH_any hd A' n' c' w hR hn')
 have NN := Lib.hid none9_any
 have RK := Lib.hid rest_any
 have HR := Lib.hid hR
 have HH := Lib.hid hH
 have HE := Lib.hid hE
 rw [hk9] at OK
 have g3 : (hd.pos == 9) = false := by simp [hp]
 have g4 : (hd.pos == 10) = false := by simp [hp]
 have g5 : (hd.pos == 11) = true := by simp [hp]
 have g6 : (r != hd.old) = false := by simp [hro]
 clear hE hk hp hR hH hs hn' hk9 hk2 hk3 hT hlx hro
 have S := Lib.hid (Sep.start noX w0)
 have tokg : True := trivial
 have tokx : True := trivial
 have tok0 : True := trivial
 have tok1 : True := trivial
 have tok2 : True := trivial
 have tok3 : True := trivial
 unfold hdV at *
 go_enter Try.func88, Try.ntmps88
 go_wp2_with (first
     | go_skip
     | (clear tok0; refine bx_ 77 S rfl rfl rfl ?_; clear S; intro gt w S)
     | (clear tok1; refine bx_ 31 S rfl rfl rfl ?_; clear S; intro gh w S)
     | (clear tok2; refine nx_ 77 S rfl rfl Try.zeroValue77 ?_; clear S; intro rt w S)
     | (clear tok3; refine nx_ 31 S rfl rfl Try.zeroValue31 ?_; clear S; intro rh w S)
     | (refine wpList_op rfl (op_row 77 _ rfl S.out 3 rfl rfl Try.isAgg77 (by kernel_rfl) ?_))
     | (refine wpList_op rfl (op_row 31 _ rfl S.out 2 rfl rfl Try.isAgg31 (by kernel_rfl) ?_)))
 refine (OK.out _ (S.out.rs HR.out) (S.out.rs HH.out)).mono ?_
 rintro e w ⟨rfl, b⟩
 replace S := Lib.hid (S.out.call b)
 clear b
 go_wp2_with (first
     | go_skip
     | (refine wpList_op rfl (op_get 2 _ rfl S.out 2 rfl _ rfl Try.isAgg2 _ rfl ?_))
     | (refine wpList_op rfl (op_row 77 _ rfl S.out 3 rfl rfl Try.isAgg77 (by kernel_rfl) ?_)))
 refine (CT.out _ (S.out.rs HR.out)).mono ?_
 rintro e w ⟨v, F, rfl, o, f, b⟩
 obtain ⟨A3, c3, rfl, _, _⟩ := o.form
 replace S := Lib.hid (S.out.own b o f)
 clear o f b
 go_wp2_with (first
     | go_skip
     | (clear tokg; refine nx_ 77 S rfl rfl Try.zeroValue77 ?_; clear S; intro go w S)
     | (refine wpList_op rfl (op_putR_0 77 _ _ rfl S rfl _ rfl rfl (by kernel_rfl) rfl ?_); clear S; intro w S)
     | (refine wpList_op rfl (op_row 31 _ rfl S.out 4 rfl rfl Try.isAgg31 (by kernel_rfl) ?_)))
 refine (CH.out _ (S.out.rs HH.out)).mono ?_
 rintro e w ⟨A4, c4, G, rfl, o, f, b⟩
 replace S := Lib.hid (S.out.own b o f)
 clear o f b
 unfold hdV
 go_wp2_with (first
     | go_skip
     | (refine wpList_op rfl (op_putR_5 31 _ _ rfl S rfl _ rfl rfl (by kernel_rfl) rfl ?_); clear S; intro w S)
     | (refine wpList_op rfl (op_get 2 _ rfl S.out 5 rfl _ rfl Try.isAgg2 _ rfl ?_))
     | (refine wpList_op rfl (op_get 2 _ rfl S.out 6 rfl _ rfl Try.isAgg2 _ rfl ?_))
     | (refine wpList_op rfl (op_put1_1 2 _ _ rfl S _ rfl _ rfl rfl (by kernel_rfl) (of_decide_eq_true rfl) ?_); clear S; intro w S; replace S : Hid (Sep noX w0 [ow (jS A4 hd.st.length c4) hd.st G, bx go #[jI jZ hd.new, jS A3 xs.length c3] 77, ow (jS A3 xs.length c3) xs F, bx rh #[jI jZ 0, jI jZ 0, jI jZ 0, jI jZ 0, jI jZ 0, jI jZ 0, jI jZ 0, jI jZ 0, jI jZ 0, jI jZ 0, jI jZ 0, jS none 0 0, jI jZ 0, jI jZ 0, jI jZ 0, jI jZ 0] 31, bx rt #[jI jZ 0, jS none 0 0] 77, bx gh #[jI jZ hd.pos, jI jZ hd.cc, jI jZ hd.ck, jI jZ hd.cv, jI jZ hd.cur, jI jZ hd.want, jI jZ hd.key, jI jZ hd.kid, jI jZ hd.old, jI jZ hd.next, jI jZ hd.new, jS A4 hd.st.length c4, jI jZ hd.thn, jI jZ hd.beg, jI jZ hd.rep, jI jZ hd.out] 31, bx gt #[jI jZ r, jS A n c] 77] w) := S))
 refine (RK.out hd.rep 0 _).mono ?_
 rintro e w ⟨rfl, b⟩
 replace S := Lib.hid (S.out.call b)
 clear b
 go_wp2_with (first
     | go_skip
     | (refine wpList_op rfl (op_putR_5 31 _ _ rfl S rfl _ rfl rfl (by kernel_rfl) rfl ?_); clear S; intro w S)
     | (refine wpList_op rfl (op_row 77 _ rfl S.out 1 rfl rfl Try.isAgg77 (by kernel_rfl) ?_))
     | (refine wpList_op rfl (op_row 31 _ rfl S.out 5 rfl rfl Try.isAgg31 (by kernel_rfl) ?_)))
 by_cases hq : (treeOk hd.new xs && handOk (restH hd.rep 0)) = true
 · have hd2 := (DY.out hq A3 c3 w (OwnS.rs (S.out.get 2 rfl) rfl))
   unfold hdV at hd2
   refine hd2.mono ?_
   rintro e w ⟨rfl, b⟩
   replace S := Lib.hid (S.out.call b)
   have HQ := Lib.hid hq
   clear b hd2 hq
   go_wp2_with (first
       | go_skip
       | (refine wpList_op rfl (op_putR_4 77 _ _ rfl S rfl _ rfl rfl (by kernel_rfl) rfl ?_); clear S; intro w S)
       | (refine wpList_op rfl (op_putR_3 31 _ _ rfl S rfl _ rfl rfl (by kernel_rfl) rfl ?_); clear S; intro w S))
   exact bodyPost_ret (results_ccs rfl _ S.out 4 3 rfl rfl rfl rfl Try.isAgg77 Try.isAgg31 (by kernel_rfl) (by kernel_rfl)) rfl (by rw [HE.out, done_yes (t := ⟨hd.new, xs⟩) (by have := HQ.out; simp only [Bool.and_eq_true] at this; exact this.1) (by have := HQ.out; simp only [Bool.and_eq_true] at this; exact this.2)]; exact S.out.nilI.gives 3 0 (by omega) (s := ⟨⟨hd.new, xs⟩, restH hd.rep 0, true⟩) rfl rfl rfl rfl)
 · have hd2 := (DNO.out hq A3 c3 w (OwnS.rs (S.out.get 2 rfl) rfl))
   unfold hdV at hd2
   refine hd2.mono ?_
   rintro e w ⟨rfl, b⟩
   replace S := Lib.hid (S.out.call b)
   have HQ := Lib.hid hq
   clear b hd2 hq
   go_wp2_with (first
       | go_skip
       | (refine wpList_op rfl (op_putR_4 77 _ _ rfl S rfl _ rfl rfl (by kernel_rfl) rfl ?_); clear S; intro w S)
       | (refine wpList_op rfl (op_putR_3 31 _ _ rfl S rfl _ rfl rfl (by kernel_rfl) rfl ?_); clear S; intro w S))
   exact bodyPost_ret (results_ccs rfl _ S.out 4 3 rfl rfl rfl rfl Try.isAgg77 Try.isAgg31 (by kernel_rfl) (by kernel_rfl)) rfl (by rw [HE.out, doneS_no (t := ⟨hd.new, xs⟩) HQ.out]; exact none_S S.out.below)
end Go.Proofs.Ytjookicpmjmdhaa
