/- The walks of the model's l10Ok, l10Pair, l10Free, l10Check. (Made by genY6.py.) -/
import Derived.Test.YtjookicpmjmdhaaQ20
open Go.Value renaming int → jI, slice → jS
open Go.IntKind renaming i64 → jZ
namespace Go.Proofs.Ytjookicpmjmdhaa
open Go.RowKit

set_option maxRecDepth 100000 in
set_option maxHeartbeats 16000000 in
theorem free_any (hd : Hd) (A' : Option Addr) (n' c' : Nat) (thn : Int) (w0 : World) : Calls Try.prog 111 #[hdV hd A' n' c', jI jZ thn] w0 fun e w' => e = .returned (hdV (freeH hd thn) A' n' c') ∧ Below w0.heap.size w0 w' := by
 have S := Lib.hid (Sep.start noX w0)
 have tok0 : True := trivial
 have tok1 : True := trivial
 unfold hdV at *
 go_enter Try.func111, Try.ntmps111
 go_wp2_with (first
     | go_skip
     | (clear tok0; refine bx_ 31 S rfl rfl rfl ?_; clear S; intro gh w S)
     | (clear tok1; refine nx_ 31 S rfl rfl Try.zeroValue31 ?_; clear S; intro rh w S)
     | (refine wpList_op rfl (op_put1_1 2 _ _ rfl S _ rfl _ rfl rfl (by kernel_rfl) (of_decide_eq_true rfl) ?_); clear S; intro w S)
     | (refine wpList_op rfl (op_row 31 _ rfl S.out 1 rfl rfl Try.isAgg31 (by kernel_rfl) ?_))
     | (refine wpList_op rfl (op_putR_0 31 _ _ rfl S rfl _ rfl rfl (by kernel_rfl) rfl ?_); clear S; intro w S))
 exact bodyPost_ret (results_c rfl _ S.out 0 rfl rfl Try.isAgg31 (by kernel_rfl)) rfl ⟨rfl, S.out.below⟩

set_option maxRecDepth 100000 in
set_option maxHeartbeats 16000000 in
theorem pairH_any (hd : Hd) (A' : Option Addr) (n' c' : Nat) (w0 : World) : Calls Try.prog 114 #[hdV hd A' n' c'] w0 fun e w' => e = .returned (.agg #[jI jZ hd.key, jI jZ (pairV hd)]) ∧ Below w0.heap.size w0 w' := by
 have S := Lib.hid (Sep.start noX w0)
 have tok0 : True := trivial
 have tok1 : True := trivial
 unfold hdV pairV at *
 by_cases hw : hd.want = 0
 · have g1 : (hd.want == 0) = true := by simp [hw]
   rw [if_pos hw]
   clear hw
   go_enter Try.func114, Try.ntmps114
   go_wp2_with (first
       | go_skip
       | (clear tok0; refine bx_ 31 S rfl rfl rfl ?_; clear S; intro gh w S)
       | (clear tok1; refine nx_ 86 S rfl rfl Try.zeroValue86 ?_; clear S; intro rp w S)
       | (refine wpList_op rfl (op_get 2 _ rfl S.out 1 rfl _ rfl Try.isAgg2 _ rfl ?_))
       | (refine wpList_op rfl (op_putR_0 86 _ _ rfl S rfl _ rfl rfl (by kernel_rfl) rfl ?_); clear S; intro w S))
   exact bodyPost_ret (results_c rfl _ S.out 0 rfl rfl Try.isAgg86 (by kernel_rfl)) rfl ⟨rfl, S.out.below⟩
 · have g1 : (hd.want == 0) = false := by simp [hw]
   rw [if_neg hw]
   go_enter Try.func114, Try.ntmps114
   go_wp2_with (first
       | go_skip
       | (clear tok0; refine bx_ 31 S rfl rfl rfl ?_; clear S; intro gh w S)
       | (clear tok1; refine nx_ 86 S rfl rfl Try.zeroValue86 ?_; clear S; intro rp w S)
       | (refine wpList_op rfl (op_get 2 _ rfl S.out 1 rfl _ rfl Try.isAgg2 _ rfl ?_))
       | (refine wpList_op rfl (op_putR_0 86 _ _ rfl S rfl _ rfl rfl (by kernel_rfl) rfl ?_); clear S; intro w S))
   exact bodyPost_ret (results_c rfl _ S.out 0 rfl rfl Try.isAgg86 (by kernel_rfl)) rfl ⟨rfl, S.out.below⟩

set_option maxRecDepth 100000 in
set_option maxHeartbeats 16000000 in
theorem ok10_any (r : Int) (xs : List Nd) (A : Option Addr) (n c : Nat) (task : Int) (hd : Hd) (A' : Option Addr) (n' c' : Nat) (lo hi : Int) (w0 : World) (hR : RS w0 w0.heap.size A n xs) (hs : Small.sm xs) (hH : RS w0 w0.heap.size A' n' hd.st) (hn' : n' ≤ 1048576) :
   Calls Try.prog 96 #[.agg #[jI jZ r, jS A n c], jI jZ task, hdV hd A' n' c', jI jZ lo, jI jZ hi] w0 fun e w' => e = .returned (.bool (ok10 ⟨r, xs⟩ task hd lo hi)) ∧ Below w0.heap.size w0 w' := by
 by_cases hk : ok9 ⟨r, xs⟩ task hd lo hi = true
 · have hT := (ok9_of hk).1
   have hcur := (ok9_of hk).2.2.2.2.1
   have htk := (ok9_of hk).2.1
   have hg := right_of hT
   have hlen := hR.1
   obtain ⟨h0, h1⟩ := (hasB_iff _ hd.cur).1 hcur
   obtain ⟨k, hkk⟩ : ∃ k : Nat, hd.cur = k := ⟨hd.cur.toNat, by omega⟩
   have hkn : k < n := by simp only [] at h1; omega
   have OK := Lib.hid (fun w hR hH => ok9_any r xs A n c task hd A' n' c' lo hi w hR hs hH hn')
   have HR := Lib.hid hR
   have HH := Lib.hid hH
   rw [hk] at OK
   obtain ⟨b, off, rfl, hb, A2, n2, c2, hnd, hP, _⟩ := hR.ndAt k hkn
   have hnt : nodeT ⟨r, xs⟩ hd.cur = ndAt xs k := by unfold nodeT; rw [hkk]; rfl
   have DEF : Hid (ok10 ⟨r, xs⟩ task hd lo hi = (!decide (hd.cc = 1) && ((decide (hd.cc = 2) || decide (hd.want = 0)) && decide ((ndAt xs k).ow = task + 1)))) := Lib.hid (by unfold ok10; rw [hk, hnt]; rfl)
   have TT : Hid (0 ≤ task ∧ task ≤ 5) := Lib.hid (by unfold inB at htk; simpa using htk)
   have W1 : IntKind.i64.wrap (task + 1) = task + 1 := IntWalk.i64_in _ (by have := TT.out; omega)
   have HC := Lib.hid hkk
   have HKN := Lib.hid hkn
   have HB := Lib.hid hb
   have ND := Lib.hid hnd
   clear hR hH hs hT hcur htk hg hlen h0 h1 hkk hkn hb hnd hP hnt hk hn'
   rw [DEF.out]
   clear DEF
   generalize ndAt xs k = nd at *
   have S := Lib.hid (Sep.start noX w0)
   have tok0 : True := trivial
   have tok1 : True := trivial
   unfold hdV at *
   by_cases c1 : hd.cc = 1
   · have g1 : (hd.cc != 1) = false := by simp [c1]
     replace c1 := Lib.hid c1
     go_enter Try.func96, Try.ntmps96
     go_wp2_with (first
         | go_skip
         | (clear tok0; refine bx_ 77 S rfl rfl rfl ?_; clear S; intro gt w S)
         | (clear tok1; refine bx_ 31 S rfl rfl rfl ?_; clear S; intro gh w S)
         | (refine wpList_op rfl (op_row 77 _ rfl S.out 1 rfl rfl Try.isAgg77 (by kernel_rfl) ?_))
         | (refine wpList_op rfl (op_row 31 _ rfl S.out 0 rfl rfl Try.isAgg31 (by kernel_rfl) ?_)))
     refine (OK.out _ (S.out.rs HR.out) (S.out.rs HH.out)).mono ?_
     rintro e w ⟨rfl, b⟩
     replace S := Lib.hid (S.out.call b)
     clear b
     go_wp2_with (first
         | go_skip
         | (refine wpList_op rfl (op_get 2 _ rfl S.out 0 rfl _ rfl Try.isAgg2 _ rfl ?_)))
     go_ret
     exact ⟨ret_bool (by simp [c1.out]), S.out.below⟩
   · have g1 : (hd.cc != 1) = true := by simpa using c1
     replace c1 := Lib.hid c1
     by_cases c2 : hd.cc = 2
     · have g2 : (hd.cc == 2) = true := by simp [c2]
       replace c2 := Lib.hid c2
       go_enter Try.func96, Try.ntmps96
       go_wp2_with (first
           | go_skip
           | (clear tok0; refine bx_ 77 S rfl rfl rfl ?_; clear S; intro gt w S)
           | (clear tok1; refine bx_ 31 S rfl rfl rfl ?_; clear S; intro gh w S)
           | (refine wpList_op rfl (op_row 77 _ rfl S.out 1 rfl rfl Try.isAgg77 (by kernel_rfl) ?_))
           | (refine wpList_op rfl (op_row 31 _ rfl S.out 0 rfl rfl Try.isAgg31 (by kernel_rfl) ?_)))
       refine (OK.out _ (S.out.rs HR.out) (S.out.rs HH.out)).mono ?_
       rintro e w ⟨rfl, b⟩
       replace S := Lib.hid (S.out.call b)
       clear b
       go_wp2_with (first
           | go_skip
           | (refine wpList_op rfl (op_idx _ _ _ rfl 101 5 Try.underlying75 Try.sizeOf101 rfl (by rw [← HC.out]; rfl) (HKN.out) ?_))
           | (refine wpList_op rfl (op_ndCell 4 2 _ rfl rfl (S.out.nd HB.out ND.out) Try.isAgg2 _ rfl ?_))
           | (refine wpList_op rfl (op_get 2 _ rfl S.out 0 rfl _ rfl Try.isAgg2 _ rfl ?_))
           | (refine wpList_op rfl (op_get 75 _ rfl S.out 1 rfl _ rfl Try.isAgg75 _ rfl ?_)))
       go_ret
       exact ⟨ret_bool (by rw [Bool.eq_iff_iff]; simp [c2.out]), S.out.below⟩
     · have g2 : (hd.cc == 2) = false := by simp [c2]
       replace c2 := Lib.hid c2
       by_cases c3 : hd.want = 0
       · have g3 : (hd.want == 0) = true := by simp [c3]
         replace c3 := Lib.hid c3
         go_enter Try.func96, Try.ntmps96
         go_wp2_with (first
             | go_skip
             | (clear tok0; refine bx_ 77 S rfl rfl rfl ?_; clear S; intro gt w S)
             | (clear tok1; refine bx_ 31 S rfl rfl rfl ?_; clear S; intro gh w S)
             | (refine wpList_op rfl (op_row 77 _ rfl S.out 1 rfl rfl Try.isAgg77 (by kernel_rfl) ?_))
             | (refine wpList_op rfl (op_row 31 _ rfl S.out 0 rfl rfl Try.isAgg31 (by kernel_rfl) ?_)))
         refine (OK.out _ (S.out.rs HR.out) (S.out.rs HH.out)).mono ?_
         rintro e w ⟨rfl, b⟩
         replace S := Lib.hid (S.out.call b)
         clear b
         go_wp2_with (first
             | go_skip
             | (refine wpList_op rfl (op_idx _ _ _ rfl 101 5 Try.underlying75 Try.sizeOf101 rfl (by rw [← HC.out]; rfl) (HKN.out) ?_))
             | (refine wpList_op rfl (op_ndCell 4 2 _ rfl rfl (S.out.nd HB.out ND.out) Try.isAgg2 _ rfl ?_))
             | (refine wpList_op rfl (op_get 2 _ rfl S.out 0 rfl _ rfl Try.isAgg2 _ rfl ?_))
             | (refine wpList_op rfl (op_get 75 _ rfl S.out 1 rfl _ rfl Try.isAgg75 _ rfl ?_)))
         go_ret
         exact ⟨ret_bool (by rw [Bool.eq_iff_iff]; simp [c1.out, c2.out, c3.out]), S.out.below⟩
       · have g3 : (hd.want == 0) = false := by simp [c3]
         replace c3 := Lib.hid c3
         go_enter Try.func96, Try.ntmps96
         go_wp2_with (first
             | go_skip
             | (clear tok0; refine bx_ 77 S rfl rfl rfl ?_; clear S; intro gt w S)
             | (clear tok1; refine bx_ 31 S rfl rfl rfl ?_; clear S; intro gh w S)
             | (refine wpList_op rfl (op_row 77 _ rfl S.out 1 rfl rfl Try.isAgg77 (by kernel_rfl) ?_))
             | (refine wpList_op rfl (op_row 31 _ rfl S.out 0 rfl rfl Try.isAgg31 (by kernel_rfl) ?_)))
         refine (OK.out _ (S.out.rs HR.out) (S.out.rs HH.out)).mono ?_
         rintro e w ⟨rfl, b⟩
         replace S := Lib.hid (S.out.call b)
         clear b
         go_wp2_with (first
             | go_skip
             | (refine wpList_op rfl (op_get 2 _ rfl S.out 0 rfl _ rfl Try.isAgg2 _ rfl ?_))
             | (refine wpList_op rfl (op_get 75 _ rfl S.out 1 rfl _ rfl Try.isAgg75 _ rfl ?_)))
         go_ret
         exact ⟨ret_bool (by simp [c1.out, c2.out, c3.out]), S.out.below⟩
 · have hk2 : ok9 ⟨r, xs⟩ task hd lo hi = false := by simpa using hk
   have DEF : ok10 ⟨r, xs⟩ task hd lo hi = false := by unfold ok10; rw [hk2]; rfl
   have OK := Lib.hid (fun w hR hH => ok9_any r xs A n c task hd A' n' c' lo hi w hR hs hH hn')
   have HR := Lib.hid hR
   have HH := Lib.hid hH
   rw [hk2] at OK
   rw [DEF]
   clear hR hH hs hk hk2 DEF hn'
   have S := Lib.hid (Sep.start noX w0)
   have tok0 : True := trivial
   have tok1 : True := trivial
   unfold hdV at *
   go_enter Try.func96, Try.ntmps96
   go_wp2_with (first
       | go_skip
       | (clear tok0; refine bx_ 77 S rfl rfl rfl ?_; clear S; intro gt w S)
       | (clear tok1; refine bx_ 31 S rfl rfl rfl ?_; clear S; intro gh w S)
       | (refine wpList_op rfl (op_row 77 _ rfl S.out 1 rfl rfl Try.isAgg77 (by kernel_rfl) ?_))
       | (refine wpList_op rfl (op_row 31 _ rfl S.out 0 rfl rfl Try.isAgg31 (by kernel_rfl) ?_)))
   refine (OK.out _ (S.out.rs HR.out) (S.out.rs HH.out)).mono ?_
   rintro e w ⟨rfl, b⟩
   replace S := Lib.hid (S.out.call b)
   clear b
   go_wp2_with fail
   go_ret
   exact ⟨rfl, S.out.below⟩
end Go.Proofs.Ytjookicpmjmdhaa
namespace Go.Proofs.Ytjookicpmjmdhaa
open Go.RowKit

set_option maxRecDepth 100000 in
set_option maxHeartbeats 16000000 in
theorem check_any (r : Int) (xs : List Nd) (A : Option Addr) (n c : Nat) (hd : Hd) (A' : Option Addr) (n' c' : Nat) (w0 : World) (hR : RS w0 w0.heap.size A n xs) (hT : Right n r xs) (hcur : hasB n hd.cur = true) :
   Calls Try.prog 97 #[.agg #[jI jZ r, jS A n c], hdV hd A' n' c'] w0 fun e w' => e = .returned (hdV (checkH ⟨r, xs⟩ hd) A' n' c') ∧ Below w0.heap.size w0 w' := by
 obtain ⟨h0, h1⟩ := (hasB_iff n hd.cur).1 hcur
 obtain ⟨k, hkk⟩ : ∃ k : Nat, hd.cur = k := ⟨hd.cur.toNat, by omega⟩
 have hkn : k < n := by omega
 obtain ⟨b, off, rfl, hb, A2, n2, c2, hnd, hP, _⟩ := hR.ndAt k hkn
 have hnt : nodeT ⟨r, xs⟩ hd.cur = ndAt xs k := by unfold nodeT; rw [hkk]; rfl
 have hp4 : n2 ≤ 1048576 := by rw [← hP.1]; exact nodeOk_len (hT.good k hkn).1
 have DEF : Hid (checkH ⟨r, xs⟩ hd = if !inside (ndAt xs k) hd.key then freeH { hd with next := (ndAt xs k).ri } 1 else if decide (hd.cc = 3) && !decide (0 ≤ whereI (ndAt xs k).ps hd.key) then freeH { hd with rep := 2 } 0
     else if decide (0 < hd.want) && decide (0 ≤ whereI (ndAt xs k).ps hd.key) then freeH hd 0 else { hd with pos := if !decide (0 ≤ whereI (ndAt xs k).ps hd.key) && decide (4 ≤ n2) then 6 else 5 }) := Lib.hid (by unfold checkH; simp only [hnt, hP.1])
 have WK := Lib.hid (fun w h => where_any A2 n2 c2 (ndAt xs k).ps hd.key w h hp4)
 have IK := Lib.hid (fun w => sInside_any (ndAt xs k) hd.key A2 n2 c2 w)
 have FK := Lib.hid free_any
 have N2 : n2 ≤ 1048576 := hp4
 have HP := Lib.hid hP
 have HC := Lib.hid hkk
 have HKN := Lib.hid hkn
 have HB := Lib.hid hb
 have ND := Lib.hid hnd
 clear hR hT hcur h0 h1 hkk hkn hb hnd hP hnt hp4
 generalize whereI (ndAt xs k).ps hd.key = wi at *
 generalize inside (ndAt xs k) hd.key = ib at *
 generalize ndAt xs k = nd at *
 generalize checkH ⟨r, xs⟩ hd = res at *
 have S := Lib.hid (Sep.start noX w0)
 have tok0 : True := trivial
 have tok1 : True := trivial
 have tok2 : True := trivial
 have tok3 : True := trivial
 unfold hdV ndV at *
 go_enter Try.func97, Try.ntmps97
 go_wp2_with (first
     | go_skip
     | (clear tok0; refine bx_ 77 S rfl rfl rfl ?_; clear S; intro gt w S)
     | (clear tok1; refine bx_ 31 S rfl rfl rfl ?_; clear S; intro gh w S)
     | (clear tok2; refine nx_ 31 S rfl rfl Try.zeroValue31 ?_; clear S; intro rh w S)
     | (clear tok3; refine nx_ 101 S rfl rfl Try.zeroValue101 ?_; clear S; intro gn w S)
     | (refine wpList_op rfl (op_idx _ _ _ rfl 101 5 Try.underlying75 Try.sizeOf101 rfl (by rw [← HC.out]; rfl) (HKN.out) ?_))
     | (refine wpList_op rfl (op_ndLoad _ rfl rfl (S.out.nd HB.out ND.out) ?_))
     | (refine wpList_op rfl (op_get 75 _ rfl S.out 2 rfl _ rfl Try.isAgg75 _ rfl ?_))
     | (refine wpList_op rfl (op_get 2 _ rfl S.out 1 rfl _ rfl Try.isAgg2 _ rfl ?_))
     | (refine wpList_op rfl (op_get 2 _ rfl S.out 2 rfl _ rfl Try.isAgg2 _ rfl ?_))
     | (refine wpList_op rfl (op_putR_0 101 _ _ rfl S rfl _ rfl rfl (by kernel_rfl) rfl ?_); clear S; intro w S)
     | (refine wpList_op rfl (op_get 99 _ rfl S.out 0 rfl _ rfl Try.isAgg99 _ rfl ?_)))
 refine (WK.out _ (HP.out.on S.out.below)).mono ?_
 rintro e w9 ⟨rfl, rfl⟩
 go_wp2_with (first
     | go_skip
     | (refine wpList_op rfl (op_row 101 _ rfl S.out 0 rfl rfl Try.isAgg101 (by kernel_rfl) ?_))
     | (refine wpList_op rfl (op_get 2 _ rfl S.out 2 rfl _ rfl Try.isAgg2 _ rfl ?_)))
 refine (IK.out _).mono ?_
 rintro e w ⟨rfl, b⟩
 replace S := Lib.hid (S.out.call b)
 clear b
 cases ib
 · obtain rfl : res = freeH { hd with next := nd.ri } 1 := by rw [DEF.out]; simp []
   clear DEF
   go_wp2_with (first
       | go_skip
       | (refine wpList_op rfl (op_get 2 _ rfl S.out 0 rfl _ rfl Try.isAgg2 _ rfl ?_))
       | (refine wpList_op rfl (op_put1_2 2 _ _ rfl S _ rfl _ rfl rfl (by kernel_rfl) (of_decide_eq_true rfl) ?_); clear S; intro w S)
       | (refine wpList_op rfl (op_row 31 _ rfl S.out 2 rfl rfl Try.isAgg31 (by kernel_rfl) ?_)))
   refine (FK.out { hd with next := nd.ri } A' n' c' 1 _).mono ?_
   rintro e w ⟨rfl, b⟩
   replace S := Lib.hid (S.out.call b)
   clear b
   go_wp2_with (first
       | go_skip
       | (refine wpList_op rfl (op_putR_1 31 _ _ rfl S rfl _ rfl rfl (by kernel_rfl) rfl ?_); clear S; intro w S))
   exact bodyPost_ret (results_c rfl _ S.out 1 rfl rfl Try.isAgg31 (by kernel_rfl)) rfl ⟨rfl, S.out.below⟩
 · by_cases ht : 0 ≤ wi
   · have gw : decide (0 ≤ wi) = true := by simp [ht]
     by_cases hc : hd.cc = 3
     · have gc : (hd.cc == 3) = true := by simp [hc]
       by_cases hw : 0 < hd.want
       · have gg : (decide (0 < hd.want)) = true := by simp [hw]
         obtain rfl : res = freeH hd 0 := by rw [DEF.out]; simp [ht, hc, hw]
         clear DEF
         clear ht
         clear hc
         clear hw
         go_wp2_with (first
             | go_skip
             | (refine wpList_op rfl (op_get 2 _ rfl S.out 2 rfl _ rfl Try.isAgg2 _ rfl ?_))
             | (refine wpList_op rfl (op_row 31 _ rfl S.out 2 rfl rfl Try.isAgg31 (by kernel_rfl) ?_)))
         refine (FK.out hd A' n' c' 0 _).mono ?_
         rintro e w ⟨rfl, b⟩
         replace S := Lib.hid (S.out.call b)
         clear b
         go_wp2_with (first
             | go_skip
             | (refine wpList_op rfl (op_putR_1 31 _ _ rfl S rfl _ rfl rfl (by kernel_rfl) rfl ?_); clear S; intro w S))
         exact bodyPost_ret (results_c rfl _ S.out 1 rfl rfl Try.isAgg31 (by kernel_rfl)) rfl ⟨rfl, S.out.below⟩
       · have gg : (decide (0 < hd.want)) = false := by simp [hw]
         obtain rfl : res = { hd with pos := 5 } := by rw [DEF.out]; simp [ht, hc, hw]
         clear DEF
         clear ht
         clear hc
         clear hw
         go_wp2_with (first
             | go_skip
             | (refine wpList_op rfl (op_get 2 _ rfl S.out 2 rfl _ rfl Try.isAgg2 _ rfl ?_))
             | (refine wpList_op rfl (op_put1_2 2 _ _ rfl S _ rfl _ rfl rfl (by kernel_rfl) (of_decide_eq_true rfl) ?_); clear S; intro w S)
             | (refine wpList_op rfl (op_row 31 _ rfl S.out 2 rfl rfl Try.isAgg31 (by kernel_rfl) ?_))
             | (refine wpList_op rfl (op_putR_1 31 _ _ rfl S rfl _ rfl rfl (by kernel_rfl) rfl ?_); clear S; intro w S))
         exact bodyPost_ret (results_c rfl _ S.out 1 rfl rfl Try.isAgg31 (by kernel_rfl)) rfl ⟨rfl, S.out.below⟩
     · have gc : (hd.cc == 3) = false := by simp [hc]
       by_cases hw : 0 < hd.want
       · have gg : (decide (0 < hd.want)) = true := by simp [hw]
         obtain rfl : res = freeH hd 0 := by rw [DEF.out]; simp [ht, hc, hw]
         clear DEF
         clear ht
         clear hc
         clear hw
         go_wp2_with (first
             | go_skip
             | (refine wpList_op rfl (op_get 2 _ rfl S.out 2 rfl _ rfl Try.isAgg2 _ rfl ?_))
             | (refine wpList_op rfl (op_row 31 _ rfl S.out 2 rfl rfl Try.isAgg31 (by kernel_rfl) ?_)))
         refine (FK.out hd A' n' c' 0 _).mono ?_
         rintro e w ⟨rfl, b⟩
         replace S := Lib.hid (S.out.call b)
         clear b
         go_wp2_with (first
             | go_skip
             | (refine wpList_op rfl (op_putR_1 31 _ _ rfl S rfl _ rfl rfl (by kernel_rfl) rfl ?_); clear S; intro w S))
         exact bodyPost_ret (results_c rfl _ S.out 1 rfl rfl Try.isAgg31 (by kernel_rfl)) rfl ⟨rfl, S.out.below⟩
       · have gg : (decide (0 < hd.want)) = false := by simp [hw]
         obtain rfl : res = { hd with pos := 5 } := by rw [DEF.out]; simp [ht, hc, hw]
         clear DEF
         clear ht
         clear hc
         clear hw
         go_wp2_with (first
             | go_skip
             | (refine wpList_op rfl (op_get 2 _ rfl S.out 2 rfl _ rfl Try.isAgg2 _ rfl ?_))
             | (refine wpList_op rfl (op_put1_2 2 _ _ rfl S _ rfl _ rfl rfl (by kernel_rfl) (of_decide_eq_true rfl) ?_); clear S; intro w S)
             | (refine wpList_op rfl (op_row 31 _ rfl S.out 2 rfl rfl Try.isAgg31 (by kernel_rfl) ?_))
             | (refine wpList_op rfl (op_putR_1 31 _ _ rfl S rfl _ rfl rfl (by kernel_rfl) rfl ?_); clear S; intro w S))
         exact bodyPost_ret (results_c rfl _ S.out 1 rfl rfl Try.isAgg31 (by kernel_rfl)) rfl ⟨rfl, S.out.below⟩
   · have gw : decide (0 ≤ wi) = false := by simp [ht]
     by_cases hc : hd.cc = 3
     · have gc : (hd.cc == 3) = true := by simp [hc]
       obtain rfl : res = freeH { hd with rep := 2 } 0 := by rw [DEF.out]; simp [ht, hc]
       clear DEF
       clear ht
       clear hc
       go_wp2_with (first
           | go_skip
           | (refine wpList_op rfl (op_get 2 _ rfl S.out 2 rfl _ rfl Try.isAgg2 _ rfl ?_))
           | (refine wpList_op rfl (op_put1_2 2 _ _ rfl S _ rfl _ rfl rfl (by kernel_rfl) (of_decide_eq_true rfl) ?_); clear S; intro w S)
           | (refine wpList_op rfl (op_row 31 _ rfl S.out 2 rfl rfl Try.isAgg31 (by kernel_rfl) ?_)))
       refine (FK.out { hd with rep := 2 } A' n' c' 0 _).mono ?_
       rintro e w ⟨rfl, b⟩
       replace S := Lib.hid (S.out.call b)
       clear b
       go_wp2_with (first
           | go_skip
           | (refine wpList_op rfl (op_putR_1 31 _ _ rfl S rfl _ rfl rfl (by kernel_rfl) rfl ?_); clear S; intro w S))
       exact bodyPost_ret (results_c rfl _ S.out 1 rfl rfl Try.isAgg31 (by kernel_rfl)) rfl ⟨rfl, S.out.below⟩
     · have gc : (hd.cc == 3) = false := by simp [hc]
       by_cases hw : 0 < hd.want
       · have gg : (decide (0 < hd.want)) = true := by simp [hw]
         by_cases h4 : 4 ≤ n2
         · have g4 : decide ((4 : Int) ≤ (n2 : Int)) = true := by rw [decide_eq_true_eq]; omega
           obtain rfl : res = { hd with pos := 6 } := by rw [DEF.out]; simp [ht, hc, hw, h4]
           clear DEF
           clear ht
           clear hc
           clear hw
           clear h4
           go_wp2_with (first
               | go_skip
               | (refine wpList_op rfl (op_get 2 _ rfl S.out 2 rfl _ rfl Try.isAgg2 _ rfl ?_))
               | (refine wpList_op rfl (op_put1_2 2 _ _ rfl S _ rfl _ rfl rfl (by kernel_rfl) (of_decide_eq_true rfl) ?_); clear S; intro w S)
               | (refine wpList_op rfl (op_row 31 _ rfl S.out 2 rfl rfl Try.isAgg31 (by kernel_rfl) ?_))
               | (refine wpList_op rfl (op_putR_1 31 _ _ rfl S rfl _ rfl rfl (by kernel_rfl) rfl ?_); clear S; intro w S)
               | (refine wpList_op rfl (op_get 99 _ rfl S.out 0 rfl _ rfl Try.isAgg99 _ rfl ?_)))
           exact bodyPost_ret (results_c rfl _ S.out 1 rfl rfl Try.isAgg31 (by kernel_rfl)) rfl ⟨rfl, S.out.below⟩
         · have g4 : decide ((4 : Int) ≤ (n2 : Int)) = false := by rw [decide_eq_false_iff_not]; omega
           obtain rfl : res = { hd with pos := 5 } := by rw [DEF.out]; simp [ht, hc, hw, h4]
           clear DEF
           clear ht
           clear hc
           clear hw
           clear h4
           go_wp2_with (first
               | go_skip
               | (refine wpList_op rfl (op_get 2 _ rfl S.out 2 rfl _ rfl Try.isAgg2 _ rfl ?_))
               | (refine wpList_op rfl (op_put1_2 2 _ _ rfl S _ rfl _ rfl rfl (by kernel_rfl) (of_decide_eq_true rfl) ?_); clear S; intro w S)
               | (refine wpList_op rfl (op_row 31 _ rfl S.out 2 rfl rfl Try.isAgg31 (by kernel_rfl) ?_))
               | (refine wpList_op rfl (op_putR_1 31 _ _ rfl S rfl _ rfl rfl (by kernel_rfl) rfl ?_); clear S; intro w S)
               | (refine wpList_op rfl (op_get 99 _ rfl S.out 0 rfl _ rfl Try.isAgg99 _ rfl ?_)))
           exact bodyPost_ret (results_c rfl _ S.out 1 rfl rfl Try.isAgg31 (by kernel_rfl)) rfl ⟨rfl, S.out.below⟩
       · have gg : (decide (0 < hd.want)) = false := by simp [hw]
         by_cases h4 : 4 ≤ n2
         · have g4 : decide ((4 : Int) ≤ (n2 : Int)) = true := by rw [decide_eq_true_eq]; omega
           obtain rfl : res = { hd with pos := 6 } := by rw [DEF.out]; simp [ht, hc, hw, h4]
           clear DEF
           clear ht
           clear hc
           clear hw
           clear h4
           go_wp2_with (first
               | go_skip
               | (refine wpList_op rfl (op_get 2 _ rfl S.out 2 rfl _ rfl Try.isAgg2 _ rfl ?_))
               | (refine wpList_op rfl (op_put1_2 2 _ _ rfl S _ rfl _ rfl rfl (by kernel_rfl) (of_decide_eq_true rfl) ?_); clear S; intro w S)
               | (refine wpList_op rfl (op_row 31 _ rfl S.out 2 rfl rfl Try.isAgg31 (by kernel_rfl) ?_))
               | (refine wpList_op rfl (op_putR_1 31 _ _ rfl S rfl _ rfl rfl (by kernel_rfl) rfl ?_); clear S; intro w S)
               | (refine wpList_op rfl (op_get 99 _ rfl S.out 0 rfl _ rfl Try.isAgg99 _ rfl ?_)))
           exact bodyPost_ret (results_c rfl _ S.out 1 rfl rfl Try.isAgg31 (by kernel_rfl)) rfl ⟨rfl, S.out.below⟩
         · have g4 : decide ((4 : Int) ≤ (n2 : Int)) = false := by rw [decide_eq_false_iff_not]; omega
           obtain rfl : res = { hd with pos := 5 } := by rw [DEF.out]; simp [ht, hc, hw, h4]
           clear DEF
           clear ht
           clear hc
           clear hw
           clear h4
           go_wp2_with (first
               | go_skip
               | (refine wpList_op rfl (op_get 2 _ rfl S.out 2 rfl _ rfl Try.isAgg2 _ rfl ?_))
               | (refine wpList_op rfl (op_put1_2 2 _ _ rfl S _ rfl _ rfl rfl (by kernel_rfl) (of_decide_eq_true rfl) ?_); clear S; intro w S)
               | (refine wpList_op rfl (op_row 31 _ rfl S.out 2 rfl rfl Try.isAgg31 (by kernel_rfl) ?_))
               | (refine wpList_op rfl (op_putR_1 31 _ _ rfl S rfl _ rfl rfl (by kernel_rfl) rfl ?_); clear S; intro w S)
               | (refine wpList_op rfl (op_get 99 _ rfl S.out 0 rfl _ rfl Try.isAgg99 _ rfl ?_)))
           exact bodyPost_ret (results_c rfl _ S.out 1 rfl rfl Try.isAgg31 (by kernel_rfl)) rfl ⟨rfl, S.out.below⟩
end Go.Proofs.Ytjookicpmjmdhaa
