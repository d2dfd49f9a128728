/- The walk of the model's Step. (Made by genY21.py.) -/
import Derived.Test.YtjookicpmjmdhaaQ37
import Derived.Test.YtjookicpmjmdhaaQ42
open Go.Value renaming int → jI, slice → jS
open Go.IntKind renaming i64 → jZ
namespace Go.Proofs.Ytjookicpmjmdhaa
open Go.RowKit


set_option maxRecDepth 100000 in
set_option maxHeartbeats 16000000 in
theorem step_down (r : Int) (xs : List Nd) (A : Option Addr) (n c : Nat) (task : Int) (hd : Hd) (A' : Option Addr) (n' c' : Nat) (w0 : World) (hR : RS w0 w0.heap.size A n xs) (hs : Small.sm xs) (hH : RS w0 w0.heap.size A' n' hd.st) (hn' : n' ≤ 1048576) (hp : 1 ≤ hd.pos ∧ hd.pos ≤ 3) :
   Calls Try.prog 81 #[.agg #[jI jZ r, jS A n c], jI jZ task, hdV hd A' n' c'] w0 (GivesS w0 (stepS ⟨r, xs⟩ task hd)) := by
 have hE : stepS ⟨r, xs⟩ task hd = downS ⟨r, xs⟩ task hd := by unfold stepS;  rw [if_pos hp]
 rw [hE]
 have CT := Lib.hid (fun w hR hH => sDown_any r xs A n c task hd A' n' c' w hR hs hH hn')
 have HR := Lib.hid hR
 have HH := Lib.hid hH
 generalize downS ⟨r, xs⟩ task hd = s at *
 have dl : decide (1 ≤ hd.pos) = true := by simpa using hp.1
 have dh : decide (hd.pos ≤ 3) = true := by simpa using hp.2
 clear hp hE hR hH hs hn'
 have S := Lib.hid (Sep.start noX w0)
 have tok0 : True := trivial
 have tok1 : True := trivial
 have tok2 : True := trivial
 have tok3 : True := trivial
 unfold hdV at *
 go_enter Try.func81, Try.ntmps81
 go_wp2_with (first
     | go_skip
     | (clear tok0; refine bx_ 77 S rfl rfl rfl ?_; clear S; intro gt w S)
     | (clear tok1; refine bx_ 31 S rfl rfl rfl ?_; clear S; intro gh w S)
     | (clear tok2; refine nx_ 77 S rfl rfl Try.zeroValue77 ?_; clear S; intro rt w S)
     | (clear tok3; refine nx_ 31 S rfl rfl Try.zeroValue31 ?_; clear S; intro rh w S)
     | (refine wpList_op rfl (op_get 2 _ rfl S.out 2 rfl _ rfl Try.isAgg2 _ rfl ?_))
     | (refine wpList_op rfl (op_row 77 _ rfl S.out 3 rfl rfl Try.isAgg77 (by kernel_rfl) ?_))
     | (refine wpList_op rfl (op_row 31 _ rfl S.out 2 rfl rfl Try.isAgg31 (by kernel_rfl) ?_)))
 refine (CT.out _ (S.out.rs HR.out) (S.out.rs HH.out)).mono ?_
 rintro e w ⟨A5, c5, F5, A6, c6, F6, rfl, o5, o6, ap, f5, f6, b⟩
 replace S := Lib.hid (S.out.gain2 b (ow (jS A5 s.t.ns.length c5) s.t.ns F5) (ow (jS A6 s.h.st.length c6) s.h.st F6) o5 o6 f5 f6 ap)
 clear o5 o6 ap f5 f6 b
 unfold hdV
 go_wp2_with (first
     | go_skip
     | (refine wpList_op rfl (op_putR_3 77 _ _ rfl S rfl _ rfl rfl (by kernel_rfl) rfl ?_); clear S; intro w S)
     | (refine wpList_op rfl (op_putR_2 31 _ _ rfl S rfl _ rfl rfl (by kernel_rfl) rfl ?_); clear S; intro w S))
 exact bodyPost_ret (results_ccs rfl _ S.out 3 2 rfl rfl rfl rfl Try.isAgg77 Try.isAgg31 (by kernel_rfl) (by kernel_rfl)) rfl (by exact S.out.gives 0 1 (by omega) (s := s) rfl rfl rfl rfl)

set_option maxRecDepth 100000 in
set_option maxHeartbeats 16000000 in
theorem step_leaf (r : Int) (xs : List Nd) (A : Option Addr) (n c : Nat) (task : Int) (hd : Hd) (A' : Option Addr) (n' c' : Nat) (w0 : World) (hR : RS w0 w0.heap.size A n xs) (hs : Small.sm xs) (hH : RS w0 w0.heap.size A' n' hd.st) (hn' : n' ≤ 1048576) (h1 : ¬ (1 ≤ hd.pos ∧ hd.pos ≤ 3)) (hp : 4 ≤ hd.pos ∧ hd.pos ≤ 5) :
   Calls Try.prog 81 #[.agg #[jI jZ r, jS A n c], jI jZ task, hdV hd A' n' c'] w0 (GivesS w0 (stepS ⟨r, xs⟩ task hd)) := by
 have hE : stepS ⟨r, xs⟩ task hd = leafS ⟨r, xs⟩ task hd := by unfold stepS; rw [if_neg h1]; rw [if_pos hp]
 rw [hE]
 have CT := Lib.hid (fun w hR hH => sLeaf_any r xs A n c task hd A' n' c' w hR hs hH hn')
 have HR := Lib.hid hR
 have HH := Lib.hid hH
 generalize leafS ⟨r, xs⟩ task hd = s at *
 have d1 : decide (1 ≤ hd.pos) = true := by rw [decide_eq_true_eq]; omega
 have d3' : decide (hd.pos ≤ 3) = false := by rw [decide_eq_false_iff_not]; omega
 have dl : decide (4 ≤ hd.pos) = true := by simpa using hp.1
 have dh : decide (hd.pos ≤ 5) = true := by simpa using hp.2
 clear h1 hp hE hR hH hs hn'
 have S := Lib.hid (Sep.start noX w0)
 have tok0 : True := trivial
 have tok1 : True := trivial
 have tok2 : True := trivial
 have tok3 : True := trivial
 unfold hdV at *
 go_enter Try.func81, Try.ntmps81
 go_wp2_with (first
     | go_skip
     | (clear tok0; refine bx_ 77 S rfl rfl rfl ?_; clear S; intro gt w S)
     | (clear tok1; refine bx_ 31 S rfl rfl rfl ?_; clear S; intro gh w S)
     | (clear tok2; refine nx_ 77 S rfl rfl Try.zeroValue77 ?_; clear S; intro rt w S)
     | (clear tok3; refine nx_ 31 S rfl rfl Try.zeroValue31 ?_; clear S; intro rh w S)
     | (refine wpList_op rfl (op_get 2 _ rfl S.out 2 rfl _ rfl Try.isAgg2 _ rfl ?_))
     | (refine wpList_op rfl (op_row 77 _ rfl S.out 3 rfl rfl Try.isAgg77 (by kernel_rfl) ?_))
     | (refine wpList_op rfl (op_row 31 _ rfl S.out 2 rfl rfl Try.isAgg31 (by kernel_rfl) ?_)))
 refine (CT.out _ (S.out.rs HR.out) (S.out.rs HH.out)).mono ?_
 rintro e w ⟨A5, c5, F5, A6, c6, F6, rfl, o5, o6, ap, f5, f6, b⟩
 replace S := Lib.hid (S.out.gain2 b (ow (jS A5 s.t.ns.length c5) s.t.ns F5) (ow (jS A6 s.h.st.length c6) s.h.st F6) o5 o6 f5 f6 ap)
 clear o5 o6 ap f5 f6 b
 unfold hdV
 go_wp2_with (first
     | go_skip
     | (refine wpList_op rfl (op_putR_3 77 _ _ rfl S rfl _ rfl rfl (by kernel_rfl) rfl ?_); clear S; intro w S)
     | (refine wpList_op rfl (op_putR_2 31 _ _ rfl S rfl _ rfl rfl (by kernel_rfl) rfl ?_); clear S; intro w S))
 exact bodyPost_ret (results_ccs rfl _ S.out 3 2 rfl rfl rfl rfl Try.isAgg77 Try.isAgg31 (by kernel_rfl) (by kernel_rfl)) rfl (by exact S.out.gives 0 1 (by omega) (s := s) rfl rfl rfl rfl)

set_option maxRecDepth 100000 in
set_option maxHeartbeats 16000000 in
theorem step_split (r : Int) (xs : List Nd) (A : Option Addr) (n c : Nat) (task : Int) (hd : Hd) (A' : Option Addr) (n' c' : Nat) (w0 : World) (hR : RS w0 w0.heap.size A n xs) (hs : Small.sm xs) (hH : RS w0 w0.heap.size A' n' hd.st) (hn' : n' ≤ 1048576) (h1 : ¬ (1 ≤ hd.pos ∧ hd.pos ≤ 3)) (h4 : ¬ (4 ≤ hd.pos ∧ hd.pos ≤ 5)) (hp : 6 ≤ hd.pos ∧ hd.pos ≤ 8) :
   Calls Try.prog 81 #[.agg #[jI jZ r, jS A n c], jI jZ task, hdV hd A' n' c'] w0 (GivesS w0 (stepS ⟨r, xs⟩ task hd)) := by
 have hE : stepS ⟨r, xs⟩ task hd = splitS ⟨r, xs⟩ task hd := by unfold stepS; rw [if_neg h1]; rw [if_neg h4]; rw [if_pos hp]
 rw [hE]
 have CT := Lib.hid (fun w hR hH => sSplit_any r xs A n c task hd A' n' c' w hR hs hH hn')
 have HR := Lib.hid hR
 have HH := Lib.hid hH
 generalize splitS ⟨r, xs⟩ task hd = s at *
 have d1 : decide (1 ≤ hd.pos) = true := by rw [decide_eq_true_eq]; omega
 have d3' : decide (hd.pos ≤ 3) = false := by rw [decide_eq_false_iff_not]; omega
 have d4 : decide (4 ≤ hd.pos) = true := by rw [decide_eq_true_eq]; omega
 have d5' : decide (hd.pos ≤ 5) = false := by rw [decide_eq_false_iff_not]; omega
 have dl : decide (6 ≤ hd.pos) = true := by simpa using hp.1
 have dh : decide (hd.pos ≤ 8) = true := by simpa using hp.2
 clear h1 h4 hp hE hR hH hs hn'
 have S := Lib.hid (Sep.start noX w0)
 have tok0 : True := trivial
 have tok1 : True := trivial
 have tok2 : True := trivial
 have tok3 : True := trivial
 unfold hdV at *
 go_enter Try.func81, Try.ntmps81
 go_wp2_with (first
     | go_skip
     | (clear tok0; refine bx_ 77 S rfl rfl rfl ?_; clear S; intro gt w S)
     | (clear tok1; refine bx_ 31 S rfl rfl rfl ?_; clear S; intro gh w S)
     | (clear tok2; refine nx_ 77 S rfl rfl Try.zeroValue77 ?_; clear S; intro rt w S)
     | (clear tok3; refine nx_ 31 S rfl rfl Try.zeroValue31 ?_; clear S; intro rh w S)
     | (refine wpList_op rfl (op_get 2 _ rfl S.out 2 rfl _ rfl Try.isAgg2 _ rfl ?_))
     | (refine wpList_op rfl (op_row 77 _ rfl S.out 3 rfl rfl Try.isAgg77 (by kernel_rfl) ?_))
     | (refine wpList_op rfl (op_row 31 _ rfl S.out 2 rfl rfl Try.isAgg31 (by kernel_rfl) ?_)))
 refine (CT.out _ (S.out.rs HR.out) (S.out.rs HH.out)).mono ?_
 rintro e w ⟨A5, c5, F5, A6, c6, F6, rfl, o5, o6, ap, f5, f6, b⟩
 replace S := Lib.hid (S.out.gain2 b (ow (jS A5 s.t.ns.length c5) s.t.ns F5) (ow (jS A6 s.h.st.length c6) s.h.st F6) o5 o6 f5 f6 ap)
 clear o5 o6 ap f5 f6 b
 unfold hdV
 go_wp2_with (first
     | go_skip
     | (refine wpList_op rfl (op_putR_3 77 _ _ rfl S rfl _ rfl rfl (by kernel_rfl) rfl ?_); clear S; intro w S)
     | (refine wpList_op rfl (op_putR_2 31 _ _ rfl S rfl _ rfl rfl (by kernel_rfl) rfl ?_); clear S; intro w S))
 exact bodyPost_ret (results_ccs rfl _ S.out 3 2 rfl rfl rfl rfl Try.isAgg77 Try.isAgg31 (by kernel_rfl) (by kernel_rfl)) rfl (by exact S.out.gives 0 1 (by omega) (s := s) rfl rfl rfl rfl)

set_option maxRecDepth 100000 in
set_option maxHeartbeats 16000000 in
theorem step_up (r : Int) (xs : List Nd) (A : Option Addr) (n c : Nat) (task : Int) (hd : Hd) (A' : Option Addr) (n' c' : Nat) (w0 : World) (hR : RS w0 w0.heap.size A n xs) (hs : Small.sm xs) (hH : RS w0 w0.heap.size A' n' hd.st) (hn' : n' ≤ 1048576) (h1 : ¬ (1 ≤ hd.pos ∧ hd.pos ≤ 3)) (h4 : ¬ (4 ≤ hd.pos ∧ hd.pos ≤ 5)) (h6 : ¬ (6 ≤ hd.pos ∧ hd.pos ≤ 8)) :
   Calls Try.prog 81 #[.agg #[jI jZ r, jS A n c], jI jZ task, hdV hd A' n' c'] w0 (GivesS w0 (stepS ⟨r, xs⟩ task hd)) := by
 have hE : stepS ⟨r, xs⟩ task hd = upS ⟨r, xs⟩ task hd := by unfold stepS; rw [if_neg h1]; rw [if_neg h4]; rw [if_neg h6]
 rw [hE]
 have CT := Lib.hid (fun w hR hH => sUp_any r xs A n c task hd A' n' c' w hR hs hH hn')
 have HR := Lib.hid hR
 have HH := Lib.hid hH
 generalize upS ⟨r, xs⟩ task hd = s at *
 by_cases q1 : 1 ≤ hd.pos
 · have d1 : decide (1 ≤ hd.pos) = true := by rw [decide_eq_true_eq]; omega
   have d3' : decide (hd.pos ≤ 3) = false := by rw [decide_eq_false_iff_not]; omega
   have d4 : decide (4 ≤ hd.pos) = true := by rw [decide_eq_true_eq]; omega
   have d5' : decide (hd.pos ≤ 5) = false := by rw [decide_eq_false_iff_not]; omega
   have d6 : decide (6 ≤ hd.pos) = true := by rw [decide_eq_true_eq]; omega
   have d8' : decide (hd.pos ≤ 8) = false := by rw [decide_eq_false_iff_not]; omega
   clear h1 h4 h6 q1 hE hR hH hs hn'
   have S := Lib.hid (Sep.start noX w0)
   have tok0 : True := trivial
   have tok1 : True := trivial
   have tok2 : True := trivial
   have tok3 : True := trivial
   unfold hdV at *
   go_enter Try.func81, Try.ntmps81
   go_wp2_with (first
       | go_skip
       | (clear tok0; refine bx_ 77 S rfl rfl rfl ?_; clear S; intro gt w S)
       | (clear tok1; refine bx_ 31 S rfl rfl rfl ?_; clear S; intro gh w S)
       | (clear tok2; refine nx_ 77 S rfl rfl Try.zeroValue77 ?_; clear S; intro rt w S)
       | (clear tok3; refine nx_ 31 S rfl rfl Try.zeroValue31 ?_; clear S; intro rh w S)
       | (refine wpList_op rfl (op_get 2 _ rfl S.out 2 rfl _ rfl Try.isAgg2 _ rfl ?_))
       | (refine wpList_op rfl (op_row 77 _ rfl S.out 3 rfl rfl Try.isAgg77 (by kernel_rfl) ?_))
       | (refine wpList_op rfl (op_row 31 _ rfl S.out 2 rfl rfl Try.isAgg31 (by kernel_rfl) ?_)))
   refine (CT.out _ (S.out.rs HR.out) (S.out.rs HH.out)).mono ?_
   rintro e w ⟨A5, c5, F5, A6, c6, F6, rfl, o5, o6, ap, f5, f6, b⟩
   replace S := Lib.hid (S.out.gain2 b (ow (jS A5 s.t.ns.length c5) s.t.ns F5) (ow (jS A6 s.h.st.length c6) s.h.st F6) o5 o6 f5 f6 ap)
   clear o5 o6 ap f5 f6 b
   unfold hdV
   go_wp2_with (first
       | go_skip
       | (refine wpList_op rfl (op_putR_3 77 _ _ rfl S rfl _ rfl rfl (by kernel_rfl) rfl ?_); clear S; intro w S)
       | (refine wpList_op rfl (op_putR_2 31 _ _ rfl S rfl _ rfl rfl (by kernel_rfl) rfl ?_); clear S; intro w S))
   exact bodyPost_ret (results_ccs rfl _ S.out 3 2 rfl rfl rfl rfl Try.isAgg77 Try.isAgg31 (by kernel_rfl) (by kernel_rfl)) rfl (by exact S.out.gives 0 1 (by omega) (s := s) rfl rfl rfl rfl)
 · have d1 : decide (1 ≤ hd.pos) = false := by rw [decide_eq_false_iff_not]; omega
   have d4 : decide (4 ≤ hd.pos) = false := by rw [decide_eq_false_iff_not]; omega
   have d6 : decide (6 ≤ hd.pos) = false := by rw [decide_eq_false_iff_not]; omega
   clear h1 h4 h6 q1 hE hR hH hs hn'
   have S := Lib.hid (Sep.start noX w0)
   have tok0 : True := trivial
   have tok1 : True := trivial
   have tok2 : True := trivial
   have tok3 : True := trivial
   unfold hdV at *
   go_enter Try.func81, Try.ntmps81
   go_wp2_with (first
       | go_skip
       | (clear tok0; refine bx_ 77 S rfl rfl rfl ?_; clear S; intro gt w S)
       | (clear tok1; refine bx_ 31 S rfl rfl rfl ?_; clear S; intro gh w S)
       | (clear tok2; refine nx_ 77 S rfl rfl Try.zeroValue77 ?_; clear S; intro rt w S)
       | (clear tok3; refine nx_ 31 S rfl rfl Try.zeroValue31 ?_; clear S; intro rh w S)
       | (refine wpList_op rfl (op_get 2 _ rfl S.out 2 rfl _ rfl Try.isAgg2 _ rfl ?_))
       | (refine wpList_op rfl (op_row 77 _ rfl S.out 3 rfl rfl Try.isAgg77 (by kernel_rfl) ?_))
       | (refine wpList_op rfl (op_row 31 _ rfl S.out 2 rfl rfl Try.isAgg31 (by kernel_rfl) ?_)))
   refine (CT.out _ (S.out.rs HR.out) (S.out.rs HH.out)).mono ?_
   rintro e w ⟨A5, c5, F5, A6, c6, F6, rfl, o5, o6, ap, f5, f6, b⟩
   replace S := Lib.hid (S.out.gain2 b (ow (jS A5 s.t.ns.length c5) s.t.ns F5) (ow (jS A6 s.h.st.length c6) s.h.st F6) o5 o6 f5 f6 ap)
   clear o5 o6 ap f5 f6 b
   unfold hdV
   go_wp2_with (first
       | go_skip
       | (refine wpList_op rfl (op_putR_3 77 _ _ rfl S rfl _ rfl rfl (by kernel_rfl) rfl ?_); clear S; intro w S)
       | (refine wpList_op rfl (op_putR_2 31 _ _ rfl S rfl _ rfl rfl (by kernel_rfl) rfl ?_); clear S; intro w S))
   exact bodyPost_ret (results_ccs rfl _ S.out 3 2 rfl rfl rfl rfl Try.isAgg77 Try.isAgg31 (by kernel_rfl) (by kernel_rfl)) rfl (by exact S.out.gives 0 1 (by omega) (s := s) rfl rfl rfl rfl)

theorem sStep_any (r : Int) (xs : List Nd) (A : Option Addr) (n c : Nat) (task : Int) (hd : Hd) (A' : Option Addr) (n' c' : Nat) (w0 : World) (hR : RS w0 w0.heap.size A n xs) (hs : Small.sm xs) (hH : RS w0 w0.heap.size A' n' hd.st) (hn' : n' ≤ 1048576) :
   Calls Try.prog 81 #[.agg #[jI jZ r, jS A n c], jI jZ task, hdV hd A' n' c'] w0 (GivesS w0 (stepS ⟨r, xs⟩ task hd)) := by
 by_cases h1 : 1 ≤ hd.pos ∧ hd.pos ≤ 3
 · exact step_down r xs A n c task hd A' n' c' w0 hR hs hH hn' h1
 by_cases h4 : 4 ≤ hd.pos ∧ hd.pos ≤ 5
 · exact step_leaf r xs A n c task hd A' n' c' w0 hR hs hH hn' h1 h4
 by_cases h6 : 6 ≤ hd.pos ∧ hd.pos ≤ 8
 · exact step_split r xs A n c task hd A' n' c' w0 hR hs hH hn' h1 h4 h6
 · exact step_up r xs A n c task hd A' n' c' w0 hR hs hH hn' h1 h4 h6
end Go.Proofs.Ytjookicpmjmdhaa
