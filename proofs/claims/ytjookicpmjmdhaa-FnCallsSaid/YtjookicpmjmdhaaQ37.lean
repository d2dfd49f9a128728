/- The walk of the model's UpStep: at the top; and all of it. (Made by genY17.py.) -/
import Derived.Test.YtjookicpmjmdhaaQ36
open Go.Value renaming int → jI, slice → jS
open Go.IntKind renaming i64 → jZ
namespace Go.Proofs.Ytjookicpmjmdhaa
open Go.RowKit

set_option maxRecDepth 100000 in
set_option maxHeartbeats 16000000 in
theorem up_top (r : Int) (xs : List Nd) (A : Option Addr) (n c : Nat) (task : Int) (hd : Hd) (A' : Option Addr) (n' c' : Nat) (w0 : World) (hR : RS w0 w0.heap.size A n xs) (hs : Small.sm xs) (hH : RS w0 w0.heap.size A' n' hd.st) (hn' : n' ≤ 1048576) (hk : (ok9 ⟨r, xs⟩ task hd 9 11 && (decide (hd.cc = 2) && !decide (hd.want = 0))) = true) (hp : hd.pos = 9) :
   Calls Try.prog 88 #[.agg #[jI jZ r, jS A n c], jI jZ task, hdV hd A' n' c'] w0 (GivesS w0 (upS ⟨r, xs⟩ task hd)) := by
 have hE : upS ⟨r, xs⟩ task hd = if topB ⟨r, xs⟩ hd then doneS ⟨r, xs⟩ (topH ⟨r, xs⟩ hd) else ⟨⟨r, xs⟩, hd, false⟩ := by rw [← topS_eq]; unfold upS; rw [hk]; simp [hp]
 obtain ⟨hk9, hk2, hk3⟩ : ok9 ⟨r, xs⟩ task hd 9 11 = true ∧ hd.cc = 2 ∧ hd.want ≠ 0 := by simpa [and_assoc] using hk
 have hT := (ok9_of hk9).1
 have hlx : xs.length = n := hR.1
 have g1 : (hd.cc != 2) = false := by simp [hk2]
 have g2 : (hd.want == 0) = false := by simp [hk3]
 have hRt : Right n r xs := by have := right_of hT; rwa [hlx] at this
 have TP := Lib.hid (fun (A4 : Option Addr) n4 c4 w hR => top_any r xs A n c hd A4 n4 c4 w hR hRt)
 unfold GivesTop at TP
 generalize topH ⟨r, xs⟩ hd = th at *
 generalize topB ⟨r, xs⟩ hd = tb at *
 have DY := Lib.hid (fun (hq : handOk th = true) (A3 : Option Addr) (c3 : Nat) (A6 : Option Addr) (n6 c6 : Nat) w hR (hS : RS w w.heap.size A6 n6 th.st) => done9_yes r xs A3 xs.length c3 th A6 n6 c6 w hR hs hS hT hq)
 have DNO := Lib.hid (fun (hq : ¬ handOk th = true) (A3 : Option Addr) (c3 : Nat) (A6 : Option Addr) (n6 c6 : Nat) w hR (hS : RS w w.heap.size A6 n6 th.st) => done9_no r xs A3 xs.length c3 th A6 n6 c6 w hR hs hS (by simp [hq]))
 have OK := Lib.hid (fun w hR hH => ok9_any r xs A n c task hd A' n' c' 9 11 w hR hs hH hn')
 have CT := Lib.hid (fun w hR => copyT_any r xs A n c w hR hs)
 have CH := Lib.hid (fun w hR => copyH_any hd A' n' c' w hR hn')
 have NN := Lib.hid none9_any
 have RK := Lib.hid rest_any
 have HR := Lib.hid hR
 have HH := Lib.hid hH
 have HE := Lib.hid hE
 have HT : Hid (treeOk r xs = true) := Lib.hid hT
 rw [hk9] at OK
 have g3 : (hd.pos == 9) = true := by simp [hp]
 clear hE hk hp hR hH hs hn' hk9 hk2 hk3 hT hlx hRt
 have S := Lib.hid (Sep.start noX w0)
 have tokg : True := trivial
 have tokx : True := trivial
 have tok0 : True := trivial
 have tok1 : True := trivial
 have tok2 : True := trivial
 have tok3 : True := trivial
 unfold hdV at *
 go_enter Try.func88, Try.ntmps88
 go_wp2_with (first
     | go_skip
     | (clear tok0; refine bx_ 77 S rfl rfl rfl ?_; clear S; intro gt w S)
     | (clear tok1; refine bx_ 31 S rfl rfl rfl ?_; clear S; intro gh w S)
     | (clear tok2; refine nx_ 77 S rfl rfl Try.zeroValue77 ?_; clear S; intro rt w S)
     | (clear tok3; refine nx_ 31 S rfl rfl Try.zeroValue31 ?_; clear S; intro rh w S)
     | (refine wpList_op rfl (op_row 77 _ rfl S.out 3 rfl rfl Try.isAgg77 (by kernel_rfl) ?_))
     | (refine wpList_op rfl (op_row 31 _ rfl S.out 2 rfl rfl Try.isAgg31 (by kernel_rfl) ?_)))
 refine (OK.out _ (S.out.rs HR.out) (S.out.rs HH.out)).mono ?_
 rintro e w ⟨rfl, b⟩
 replace S := Lib.hid (S.out.call b)
 clear b
 go_wp2_with (first
     | go_skip
     | (refine wpList_op rfl (op_get 2 _ rfl S.out 2 rfl _ rfl Try.isAgg2 _ rfl ?_))
     | (refine wpList_op rfl (op_row 77 _ rfl S.out 3 rfl rfl Try.isAgg77 (by kernel_rfl) ?_)))
 refine (CT.out _ (S.out.rs HR.out)).mono ?_
 rintro e w ⟨v, F, rfl, o, f, b⟩
 obtain ⟨A3, c3, rfl, _, _⟩ := o.form
 replace S := Lib.hid (S.out.own b o f)
 clear o f b
 go_wp2_with (first
     | go_skip
     | (clear tokg; refine nx_ 77 S rfl rfl Try.zeroValue77 ?_; clear S; intro go w S)
     | (refine wpList_op rfl (op_putR_0 77 _ _ rfl S rfl _ rfl rfl (by kernel_rfl) rfl ?_); clear S; intro w S)
     | (refine wpList_op rfl (op_row 31 _ rfl S.out 4 rfl rfl Try.isAgg31 (by kernel_rfl) ?_)))
 refine (CH.out _ (S.out.rs HH.out)).mono ?_
 rintro e w ⟨A4, c4, G, rfl, o, f, b⟩
 replace S := Lib.hid (S.out.own b o f)
 clear o f b
 unfold hdV
 go_wp2_with (first
     | go_skip
     | (refine wpList_op rfl (op_putR_5 31 _ _ rfl S rfl _ rfl rfl (by kernel_rfl) rfl ?_); clear S; intro w S)
     | (refine wpList_op rfl (op_get 2 _ rfl S.out 5 rfl _ rfl Try.isAgg2 _ rfl ?_))
     | (refine wpList_op rfl (op_row 77 _ rfl S.out 6 rfl rfl Try.isAgg77 (by kernel_rfl) ?_))
     | (refine wpList_op rfl (op_row 31 _ rfl S.out 5 rfl rfl Try.isAgg31 (by kernel_rfl) ?_)))
 refine (TP.out A4 hd.st.length c4 _ (S.out.rs HR.out)).mono ?_
 rintro e w ⟨A2, n2, c2, rfl, alt, b⟩
 rcases alt with ⟨h6, h7, h8, hst⟩ | ⟨G2, own, f⟩
 · have h6 := h6.symm
   have h8 := h8.symm
   subst h6 h7 h8
   have HST := Lib.hid hst
   replace S := Lib.hid (S.out.call b)
   clear hst b
   cases tb
   · go_wp2_with (first
         | go_skip
         | (clear tokx; refine nx_ 31 S rfl rfl Try.zeroValue31 ?_; clear S; intro gz w S)
         | (refine wpList_op rfl (op_putR_0 31 _ _ rfl S rfl _ rfl rfl (by kernel_rfl) rfl ?_); clear S; intro w S))
     refine wp_region_ev (by kernel_rfl) _ (by kernel_rfl) (by kernel_rfl) 85 rfl (by kernel_rfl) (fun D V w => Sep noX w0 [bx gz #[jI jZ th.pos, jI jZ th.cc, jI jZ th.ck, jI jZ th.cv, jI jZ th.cur, jI jZ th.want, jI jZ th.key, jI jZ th.kid, jI jZ th.old, jI jZ th.next, jI jZ th.new, jS A4 hd.st.length c4, jI jZ th.thn, jI jZ th.beg, jI jZ th.rep, jI jZ th.out] 31, ow (jS A4 hd.st.length c4) hd.st G, bx go #[jI jZ r, jS A3 xs.length c3] 77, ow (jS A3 xs.length c3) xs F, cnd (D 3) (bx rh #[jI jZ 0, jI jZ 0, jI jZ 0, jI jZ 0, jI jZ 0, jI jZ 0, jI jZ 0, jI jZ 0, jI jZ 0, jI jZ 0, jI jZ 0, jS none 0 0, jI jZ 0, jI jZ 0, jI jZ 0, jI jZ 0] 31) (bx rh #[jI jZ hd.pos, jI jZ hd.cc, jI jZ hd.ck, jI jZ hd.cv, jI jZ hd.cur, jI jZ hd.want, jI jZ hd.key, jI jZ hd.kid, jI jZ hd.old, jI jZ hd.next, jI jZ hd.new, jS A4 hd.st.length c4, jI jZ hd.thn, jI jZ hd.beg, jI jZ hd.rep, jI jZ hd.out] 31), cnd (D 2) (bx rt #[jI jZ 0, jS none 0 0] 77) (bx rt #[jI jZ r, jS A3 xs.length c3] 77), bx gh #[jI jZ hd.pos, jI jZ hd.cc, jI jZ hd.ck, jI jZ hd.cv, jI jZ hd.cur, jI jZ hd.want, jI jZ hd.key, jI jZ hd.kid, jI jZ hd.old, jI jZ hd.next, jI jZ hd.new, jS A4 hd.st.length c4, jI jZ hd.thn, jI jZ hd.beg, jI jZ hd.rep, jI jZ hd.out] 31, bx gt #[jI jZ r, jS A n c] 77] w ∧ (D 0 = true → V 0 = .agg #[jI jZ r, jS A3 xs.length c3]) ∧ (D 1 = true → V 1 = .agg #[jI jZ hd.pos, jI jZ hd.cc, jI jZ hd.ck, jI jZ hd.cv, jI jZ hd.cur, jI jZ hd.want, jI jZ hd.key, jI jZ hd.kid, jI jZ hd.old, jI jZ hd.next, jI jZ hd.new, jS A4 hd.st.length c4, jI jZ hd.thn, jI jZ hd.beg, jI jZ hd.rep, jI jZ hd.out]) ∧ (D 4 = true → V 4 = .bool false)) ?_ ?_ ?_
     · intro D hD
       have d2 := hD 2 (by decide)
       have d3 := hD 3 (by decide)
       exact ⟨by rw [cnd_f d3, cnd_f d2]; exact S.out.drew.ems 0, (nof (hD 0 (by decide))), (nof (hD 1 (by decide))), (nof (hD 4 (by decide)))⟩
     · intro i o D V w a ho hI hDi haf hev
       obtain ⟨S, f0, f1, f4⟩ := hI
       rcases i with _ | _ | _ | _ | _ | i
       · obtain rfl := inj_ ho
         exact op_row 77 _ rfl S 2 rfl ((hev.old 9 (by kernel_rfl)).trans rfl) Try.isAgg77 (by kernel_rfl) ⟨_, rfl, S, fun _ => rfl, f1, f4⟩
       · obtain rfl := inj_ ho
         exact op_row 31 _ rfl S 6 rfl ((hev.old 5 (by kernel_rfl)).trans rfl) Try.isAgg31 (by kernel_rfl) ⟨_, rfl, S, f0, fun _ => rfl, f4⟩
       · obtain rfl := inj_ ho
         have h0 := aft_ haf 0 rfl
         exact op_putR 77 _ _ rfl S 5 (g := rt) (C := #[jI jZ 0, jS none 0 0]) (t := 77) (by simp only [gs_, gz_, cnd_f hDi]) ((hev.old 6 (by kernel_rfl)).trans rfl) _ (hev.at_ 0 48 rfl rfl h0 f0) rfl (by kernel_rfl) rfl (fun w S => ⟨_, rfl, S, f0, f1, f4⟩)
       · obtain rfl := inj_ ho
         have h1 := aft_ haf 1 rfl
         exact op_putR 31 _ _ rfl S 4 (g := rh) (C := #[jI jZ 0, jI jZ 0, jI jZ 0, jI jZ 0, jI jZ 0, jI jZ 0, jI jZ 0, jI jZ 0, jI jZ 0, jI jZ 0, jI jZ 0, jS none 0 0, jI jZ 0, jI jZ 0, jI jZ 0, jI jZ 0]) (t := 31) (by simp only [gs_, gz_, cnd_f hDi]) ((hev.old 7 (by kernel_rfl)).trans rfl) _ (hev.at_ 1 49 rfl rfl h1 f1) rfl (by kernel_rfl) rfl (fun w S => ⟨_, rfl, S, f0, f1, f4⟩)
       · obtain rfl := inj_ ho
         exact op_move (.inr rfl) rfl ⟨_, rfl, S, f0, f1, fun _ => rfl⟩
       · exact absurd ho (by simp)
     intro V w hI
     obtain ⟨S, f0, f1, f4⟩ := hI
     replace S : Hid (Sep noX w0 [bx gz #[jI jZ th.pos, jI jZ th.cc, jI jZ th.ck, jI jZ th.cv, jI jZ th.cur, jI jZ th.want, jI jZ th.key, jI jZ th.kid, jI jZ th.old, jI jZ th.next, jI jZ th.new, jS A4 hd.st.length c4, jI jZ th.thn, jI jZ th.beg, jI jZ th.rep, jI jZ th.out] 31, ow (jS A4 hd.st.length c4) hd.st G, bx go #[jI jZ r, jS A3 xs.length c3] 77, ow (jS A3 xs.length c3) xs F, bx rh #[jI jZ hd.pos, jI jZ hd.cc, jI jZ hd.ck, jI jZ hd.cv, jI jZ hd.cur, jI jZ hd.want, jI jZ hd.key, jI jZ hd.kid, jI jZ hd.old, jI jZ hd.next, jI jZ hd.new, jS A4 hd.st.length c4, jI jZ hd.thn, jI jZ hd.beg, jI jZ hd.rep, jI jZ hd.out] 31, bx rt #[jI jZ r, jS A3 xs.length c3] 77, bx gh #[jI jZ hd.pos, jI jZ hd.cc, jI jZ hd.ck, jI jZ hd.cv, jI jZ hd.cur, jI jZ hd.want, jI jZ hd.key, jI jZ hd.kid, jI jZ hd.old, jI jZ hd.next, jI jZ hd.new, jS A4 hd.st.length c4, jI jZ hd.thn, jI jZ hd.beg, jI jZ hd.rep, jI jZ hd.out] 31, bx gt #[jI jZ r, jS A n c] 77] w) := Lib.hid S
     simp only [putF, Act.put, sa_, sb_, sc_, f0 rfl, f1 rfl, f4 rfl]
     clear f0 f1 f4
     go_wp2_with fail
     exact bodyPost_ret (results_ccs rfl _ S.out 5 4 rfl rfl rfl rfl Try.isAgg77 Try.isAgg31 (by kernel_rfl) (by kernel_rfl)) rfl (by rw [HE.out]; exact S.out.gives 3 1 (by omega) (s := ⟨⟨r, xs⟩, hd, false⟩) rfl rfl rfl rfl)
   · go_wp2_with (first
         | go_skip
         | (clear tokx; refine nx_ 31 S rfl rfl Try.zeroValue31 ?_; clear S; intro gz w S)
         | (refine wpList_op rfl (op_putR_0 31 _ _ rfl S rfl _ rfl rfl (by kernel_rfl) rfl ?_); clear S; intro w S)
         | (refine wpList_op rfl (op_row 31 _ rfl S.out 0 rfl rfl Try.isAgg31 (by kernel_rfl) ?_))
         | (refine wpList_op rfl (op_putR_6 31 _ _ rfl S rfl _ rfl rfl (by kernel_rfl) rfl ?_); clear S; intro w S)
         | (refine wpList_op rfl (op_row 77 _ rfl S.out 2 rfl rfl Try.isAgg77 (by kernel_rfl) ?_))
         | (refine wpList_op rfl (op_row 31 _ rfl S.out 6 rfl rfl Try.isAgg31 (by kernel_rfl) ?_)))
     by_cases hq : handOk th = true
     · have hd2 := (DY.out hq A3 c3 A4 hd.st.length c4 w (OwnS.rs (S.out.get 3 rfl) rfl) (by rw [HST.out]; exact OwnS.rs (S.out.get 1 rfl) rfl))
       unfold hdV at hd2
       refine hd2.mono ?_
       rintro e w ⟨rfl, b⟩
       replace S := Lib.hid (S.out.call b)
       have HQ := Lib.hid hq
       clear b hd2 hq
       go_wp2_with (first
           | go_skip
           | (refine wpList_op rfl (op_putR_5 77 _ _ rfl S rfl _ rfl rfl (by kernel_rfl) rfl ?_); clear S; intro w S)
           | (refine wpList_op rfl (op_putR_4 31 _ _ rfl S rfl _ rfl rfl (by kernel_rfl) rfl ?_); clear S; intro w S))
       exact bodyPost_ret (results_ccs rfl _ S.out 5 4 rfl rfl rfl rfl Try.isAgg77 Try.isAgg31 (by kernel_rfl) (by kernel_rfl)) rfl (by rw [HE.out]; simp only [if_true]; rw [done_yes HT.out HQ.out]; exact S.out.gives 3 1 (by omega) (s := ⟨⟨r, xs⟩, th, true⟩) rfl (by rw [HST.out]; rfl) rfl (by rw [HST.out]))
     · have hd2 := (DNO.out hq A3 c3 A4 hd.st.length c4 w (OwnS.rs (S.out.get 3 rfl) rfl) (by rw [HST.out]; exact OwnS.rs (S.out.get 1 rfl) rfl))
       unfold hdV at hd2
       refine hd2.mono ?_
       rintro e w ⟨rfl, b⟩
       replace S := Lib.hid (S.out.call b)
       have HQ := Lib.hid hq
       clear b hd2 hq
       go_wp2_with (first
           | go_skip
           | (refine wpList_op rfl (op_putR_5 77 _ _ rfl S rfl _ rfl rfl (by kernel_rfl) rfl ?_); clear S; intro w S)
           | (refine wpList_op rfl (op_putR_4 31 _ _ rfl S rfl _ rfl rfl (by kernel_rfl) rfl ?_); clear S; intro w S))
       exact bodyPost_ret (results_ccs rfl _ S.out 5 4 rfl rfl rfl rfl Try.isAgg77 Try.isAgg31 (by kernel_rfl) (by kernel_rfl)) rfl (by rw [HE.out]; simp only [if_true]; rw [done_no (by simpa using HQ.out)]; exact none_S S.out.below)
 · have HLN := Lib.hid own.len
   replace S := Lib.hid (S.out.own b own f)
   clear own f b
   cases tb
   · go_wp2_with (first
         | go_skip
         | (clear tokx; refine nx_ 31 S rfl rfl Try.zeroValue31 ?_; clear S; intro gz w S)
         | (refine wpList_op rfl (op_putR_0 31 _ _ rfl S rfl _ rfl rfl (by kernel_rfl) rfl ?_); clear S; intro w S))
     refine wp_region_ev (by kernel_rfl) _ (by kernel_rfl) (by kernel_rfl) 85 rfl (by kernel_rfl) (fun D V w => Sep noX w0 [bx gz #[jI jZ th.pos, jI jZ th.cc, jI jZ th.ck, jI jZ th.cv, jI jZ th.cur, jI jZ th.want, jI jZ th.key, jI jZ th.kid, jI jZ th.old, jI jZ th.next, jI jZ th.new, jS A2 n2 c2, jI jZ th.thn, jI jZ th.beg, jI jZ th.rep, jI jZ th.out] 31, ow (jS A2 n2 c2) th.st G2, ow (jS A4 hd.st.length c4) hd.st G, bx go #[jI jZ r, jS A3 xs.length c3] 77, ow (jS A3 xs.length c3) xs F, cnd (D 3) (bx rh #[jI jZ 0, jI jZ 0, jI jZ 0, jI jZ 0, jI jZ 0, jI jZ 0, jI jZ 0, jI jZ 0, jI jZ 0, jI jZ 0, jI jZ 0, jS none 0 0, jI jZ 0, jI jZ 0, jI jZ 0, jI jZ 0] 31) (bx rh #[jI jZ hd.pos, jI jZ hd.cc, jI jZ hd.ck, jI jZ hd.cv, jI jZ hd.cur, jI jZ hd.want, jI jZ hd.key, jI jZ hd.kid, jI jZ hd.old, jI jZ hd.next, jI jZ hd.new, jS A4 hd.st.length c4, jI jZ hd.thn, jI jZ hd.beg, jI jZ hd.rep, jI jZ hd.out] 31), cnd (D 2) (bx rt #[jI jZ 0, jS none 0 0] 77) (bx rt #[jI jZ r, jS A3 xs.length c3] 77), bx gh #[jI jZ hd.pos, jI jZ hd.cc, jI jZ hd.ck, jI jZ hd.cv, jI jZ hd.cur, jI jZ hd.want, jI jZ hd.key, jI jZ hd.kid, jI jZ hd.old, jI jZ hd.next, jI jZ hd.new, jS A4 hd.st.length c4, jI jZ hd.thn, jI jZ hd.beg, jI jZ hd.rep, jI jZ hd.out] 31, bx gt #[jI jZ r, jS A n c] 77] w ∧ (D 0 = true → V 0 = .agg #[jI jZ r, jS A3 xs.length c3]) ∧ (D 1 = true → V 1 = .agg #[jI jZ hd.pos, jI jZ hd.cc, jI jZ hd.ck, jI jZ hd.cv, jI jZ hd.cur, jI jZ hd.want, jI jZ hd.key, jI jZ hd.kid, jI jZ hd.old, jI jZ hd.next, jI jZ hd.new, jS A4 hd.st.length c4, jI jZ hd.thn, jI jZ hd.beg, jI jZ hd.rep, jI jZ hd.out]) ∧ (D 4 = true → V 4 = .bool false)) ?_ ?_ ?_
     · intro D hD
       have d2 := hD 2 (by decide)
       have d3 := hD 3 (by decide)
       exact ⟨by rw [cnd_f d3, cnd_f d2]; exact S.out.drew.ems 0, (nof (hD 0 (by decide))), (nof (hD 1 (by decide))), (nof (hD 4 (by decide)))⟩
     · intro i o D V w a ho hI hDi haf hev
       obtain ⟨S, f0, f1, f4⟩ := hI
       rcases i with _ | _ | _ | _ | _ | i
       · obtain rfl := inj_ ho
         exact op_row 77 _ rfl S 3 rfl ((hev.old 9 (by kernel_rfl)).trans rfl) Try.isAgg77 (by kernel_rfl) ⟨_, rfl, S, fun _ => rfl, f1, f4⟩
       · obtain rfl := inj_ ho
         exact op_row 31 _ rfl S 7 rfl ((hev.old 5 (by kernel_rfl)).trans rfl) Try.isAgg31 (by kernel_rfl) ⟨_, rfl, S, f0, fun _ => rfl, f4⟩
       · obtain rfl := inj_ ho
         have h0 := aft_ haf 0 rfl
         exact op_putR 77 _ _ rfl S 6 (g := rt) (C := #[jI jZ 0, jS none 0 0]) (t := 77) (by simp only [gs_, gz_, cnd_f hDi]) ((hev.old 6 (by kernel_rfl)).trans rfl) _ (hev.at_ 0 48 rfl rfl h0 f0) rfl (by kernel_rfl) rfl (fun w S => ⟨_, rfl, S, f0, f1, f4⟩)
       · obtain rfl := inj_ ho
         have h1 := aft_ haf 1 rfl
         exact op_putR 31 _ _ rfl S 5 (g := rh) (C := #[jI jZ 0, jI jZ 0, jI jZ 0, jI jZ 0, jI jZ 0, jI jZ 0, jI jZ 0, jI jZ 0, jI jZ 0, jI jZ 0, jI jZ 0, jS none 0 0, jI jZ 0, jI jZ 0, jI jZ 0, jI jZ 0]) (t := 31) (by simp only [gs_, gz_, cnd_f hDi]) ((hev.old 7 (by kernel_rfl)).trans rfl) _ (hev.at_ 1 49 rfl rfl h1 f1) rfl (by kernel_rfl) rfl (fun w S => ⟨_, rfl, S, f0, f1, f4⟩)
       · obtain rfl := inj_ ho
         exact op_move (.inr rfl) rfl ⟨_, rfl, S, f0, f1, fun _ => rfl⟩
       · exact absurd ho (by simp)
     intro V w hI
     obtain ⟨S, f0, f1, f4⟩ := hI
     replace S : Hid (Sep noX w0 [bx gz #[jI jZ th.pos, jI jZ th.cc, jI jZ th.ck, jI jZ th.cv, jI jZ th.cur, jI jZ th.want, jI jZ th.key, jI jZ th.kid, jI jZ th.old, jI jZ th.next, jI jZ th.new, jS A2 n2 c2, jI jZ th.thn, jI jZ th.beg, jI jZ th.rep, jI jZ th.out] 31, ow (jS A2 n2 c2) th.st G2, ow (jS A4 hd.st.length c4) hd.st G, bx go #[jI jZ r, jS A3 xs.length c3] 77, ow (jS A3 xs.length c3) xs F, bx rh #[jI jZ hd.pos, jI jZ hd.cc, jI jZ hd.ck, jI jZ hd.cv, jI jZ hd.cur, jI jZ hd.want, jI jZ hd.key, jI jZ hd.kid, jI jZ hd.old, jI jZ hd.next, jI jZ hd.new, jS A4 hd.st.length c4, jI jZ hd.thn, jI jZ hd.beg, jI jZ hd.rep, jI jZ hd.out] 31, bx rt #[jI jZ r, jS A3 xs.length c3] 77, bx gh #[jI jZ hd.pos, jI jZ hd.cc, jI jZ hd.ck, jI jZ hd.cv, jI jZ hd.cur, jI jZ hd.want, jI jZ hd.key, jI jZ hd.kid, jI jZ hd.old, jI jZ hd.next, jI jZ hd.new, jS A4 hd.st.length c4, jI jZ hd.thn, jI jZ hd.beg, jI jZ hd.rep, jI jZ hd.out] 31, bx gt #[jI jZ r, jS A n c] 77] w) := Lib.hid S
     simp only [putF, Act.put, sa_, sb_, sc_, f0 rfl, f1 rfl, f4 rfl]
     clear f0 f1 f4
     go_wp2_with fail
     exact bodyPost_ret (results_ccs rfl _ S.out 6 5 rfl rfl rfl rfl Try.isAgg77 Try.isAgg31 (by kernel_rfl) (by kernel_rfl)) rfl (by rw [HE.out]; exact S.out.gives 4 2 (by omega) (s := ⟨⟨r, xs⟩, hd, false⟩) rfl rfl rfl rfl)
   · go_wp2_with (first
         | go_skip
         | (clear tokx; refine nx_ 31 S rfl rfl Try.zeroValue31 ?_; clear S; intro gz w S)
         | (refine wpList_op rfl (op_putR_0 31 _ _ rfl S rfl _ rfl rfl (by kernel_rfl) rfl ?_); clear S; intro w S)
         | (refine wpList_op rfl (op_row 31 _ rfl S.out 0 rfl rfl Try.isAgg31 (by kernel_rfl) ?_))
         | (refine wpList_op rfl (op_putR_7 31 _ _ rfl S rfl _ rfl rfl (by kernel_rfl) rfl ?_); clear S; intro w S)
         | (refine wpList_op rfl (op_row 77 _ rfl S.out 3 rfl rfl Try.isAgg77 (by kernel_rfl) ?_))
         | (refine wpList_op rfl (op_row 31 _ rfl S.out 7 rfl rfl Try.isAgg31 (by kernel_rfl) ?_)))
     by_cases hq : handOk th = true
     · have hd2 := (DY.out hq A3 c3 A2 n2 c2 w (OwnS.rs (S.out.get 4 rfl) rfl) (OwnS.rs (S.out.get 1 rfl) HLN.out))
       unfold hdV at hd2
       refine hd2.mono ?_
       rintro e w ⟨rfl, b⟩
       replace S := Lib.hid (S.out.call b)
       have HQ := Lib.hid hq
       clear b hd2 hq
       go_wp2_with (first
           | go_skip
           | (refine wpList_op rfl (op_putR_6 77 _ _ rfl S rfl _ rfl rfl (by kernel_rfl) rfl ?_); clear S; intro w S)
           | (refine wpList_op rfl (op_putR_5 31 _ _ rfl S rfl _ rfl rfl (by kernel_rfl) rfl ?_); clear S; intro w S))
       exact bodyPost_ret (results_ccs rfl _ S.out 6 5 rfl rfl rfl rfl Try.isAgg77 Try.isAgg31 (by kernel_rfl) (by kernel_rfl)) rfl (by rw [HE.out]; simp only [if_true]; rw [done_yes HT.out HQ.out]; exact S.out.gives 4 1 (by omega) (s := ⟨⟨r, xs⟩, th, true⟩) rfl rfl rfl HLN.out)
     · have hd2 := (DNO.out hq A3 c3 A2 n2 c2 w (OwnS.rs (S.out.get 4 rfl) rfl) (OwnS.rs (S.out.get 1 rfl) HLN.out))
       unfold hdV at hd2
       refine hd2.mono ?_
       rintro e w ⟨rfl, b⟩
       replace S := Lib.hid (S.out.call b)
       have HQ := Lib.hid hq
       clear b hd2 hq
       go_wp2_with (first
           | go_skip
           | (refine wpList_op rfl (op_putR_6 77 _ _ rfl S rfl _ rfl rfl (by kernel_rfl) rfl ?_); clear S; intro w S)
           | (refine wpList_op rfl (op_putR_5 31 _ _ rfl S rfl _ rfl rfl (by kernel_rfl) rfl ?_); clear S; intro w S))
       exact bodyPost_ret (results_ccs rfl _ S.out 6 5 rfl rfl rfl rfl Try.isAgg77 Try.isAgg31 (by kernel_rfl) (by kernel_rfl)) rfl (by rw [HE.out]; simp only [if_true]; rw [done_no (by simpa using HQ.out)]; exact none_S S.out.below)

theorem sUp_any (r : Int) (xs : List Nd) (A : Option Addr) (n c : Nat) (task : Int) (hd : Hd) (A' : Option Addr) (n' c' : Nat) (w0 : World) (hR : RS w0 w0.heap.size A n xs) (hs : Small.sm xs) (hH : RS w0 w0.heap.size A' n' hd.st) (hn' : n' ≤ 1048576) :
   Calls Try.prog 88 #[.agg #[jI jZ r, jS A n c], jI jZ task, hdV hd A' n' c'] w0 (GivesS w0 (upS ⟨r, xs⟩ task hd)) := by
 by_cases hk : (ok9 ⟨r, xs⟩ task hd 9 11 && (decide (hd.cc = 2) && !decide (hd.want = 0))) = true
 · have hk9 : ok9 ⟨r, xs⟩ task hd 9 11 = true := by simp only [Bool.and_eq_true] at hk; exact hk.1
   have hp := (ok9_of hk9).2.2.2.1
   by_cases h1 : hd.pos = 9
   · exact up_top r xs A n c task hd A' n' c' w0 hR hs hH hn' hk h1
   · by_cases h2 : hd.pos = 10
     · exact up_raise r xs A n c task hd A' n' c' w0 hR hs hH hn' hk h2
     · by_cases hro : r = hd.old
       · exact up_swing r xs A n c task hd A' n' c' w0 hR hs hH hn' hk (by omega) hro
       · exact up_wait r xs A n c task hd A' n' c' w0 hR hs hH hn' hk (by omega) hro
 · exact up_no r xs A n c task hd A' n' c' w0 hR hs hH hn' (by simpa using hk)
end Go.Proofs.Ytjookicpmjmdhaa
