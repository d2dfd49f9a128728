/- The walk of the model's UpStep: at the top; and all of it. (Made by genY17.py.) -/
import Derived.Test.YtpffkhjegpddbaaGreatV35
import Derived.Test.YtpffkhjegpddbaaGreatV32
import Derived.Test.YtpffkhjegpddbaaGreatV30
open Go.Value renaming int → jI, slice → jS
open Go.IntKind renaming i64 → jZ
namespace Go.Proofs.YtpffkhjegpddbaaGreat
open Go.RowKit

set_option maxRecDepth 100000 in
set_option maxHeartbeats 16000000 in
theorem up_top (r : Int) (xs : List Nd) (A : Option Addr) (n c : Nat) (task : Int) (hd : Hd) (A' : Option Addr) (n' c' : Nat) (w0 : World) (hR : RS w0 w0.heap.size A n xs) (hs : Small.sm xs) (hH : RS w0 w0.heap.size A' n' hd.st) (hn' : n' ≤ 1048576) (hk : (ok9 ⟨r, xs⟩ task hd 9 11 && (decide (hd.cc = 2) && !decide (hd.want = 0))) = true) (hp : hd.pos = 9) :
   Calls Tryz.prog 113 #[.agg #[jI jZ r, jS A n c], jI jZ task, hdV hd A' n' c'] w0 (GivesS w0 (upS ⟨r, xs⟩ task hd)) := by
 have hE : upS ⟨r, xs⟩ task hd = if topB ⟨r, xs⟩ hd then doneS ⟨r, xs⟩ (topH ⟨r, xs⟩ hd) else ⟨⟨r, xs⟩, hd, false⟩ := by rw [← topS_eq]; unfold upS; rw [hk]; simp [hp]
 obtain ⟨hk9, hk2, hk3⟩ : ok9 ⟨r, xs⟩ task hd 9 11 = true ∧ hd.cc = 2 ∧ hd.want ≠ 0 := by simpa [and_assoc] using hk
 have hT := (ok9_of hk9).1
 have hlx : xs.length = n := hR.1
 have g1 : (hd.cc != 2) = false := by simp [hk2]
 have g2 : (hd.want == 0) = false := by simp [hk3]
 have hRt : Right n r xs := by have := right_of hT; rwa [hlx] at this
 have TP := Lib.hid (fun (A4 : Option Addr) n4 c4 w hR => top_any r xs A n c hd A4 n4 c4 w hR hRt)
 unfold GivesTop at TP
 generalize topH ⟨r, xs⟩ hd = th at *
 generalize topB ⟨r, xs⟩ hd = tb at *
 have DY := Lib.hid (fun (hq : handOk th = true) (A3 : Option Addr) (c3 : Nat) (A6 : Option Addr) (n6 c6 : Nat) w hR (hS : RS w w.heap.size A6 n6 th.st) => done9_yes r xs A3 xs.length c3 th A6 n6 c6 w hR hs hS hT hq)
 have DNO := Lib.hid (fun (hq : ¬ handOk th = true) (A3 : Option Addr) (c3 : Nat) (A6 : Option Addr) (n6 c6 : Nat) w hR (hS : RS w w.heap.size A6 n6 th.st) => done9_no r xs A3 xs.length c3 th A6 n6 c6 w hR hs hS (by simp [hq]))
 have OK := Lib.hid (fun w hR hH => ok9_any r xs A n c task hd A' n' c' 9 11 w hR hs hH hn')
 have CT := Lib.hid (fun w hR => copyT_any r xs A n c w hR hs)
 have CH := Lib.hid (fun w hR => copyH_any hd A' n' c' w hR hn')
 have NN := Lib.hid none9_any
 have RK := Lib.hid rest_any
 have HR := Lib.hid hR
 have HH := Lib.hid hH
 have HE := Lib.hid hE
 have HT : Hid (treeOk r xs = true) := Lib.hid hT
 rw [hk9] at OK
 have g3 : (hd.pos == 9) = true := by simp [hp]
 clear hE hk hp hR hH hs hn' hk9 hk2 hk3 hT hlx hRt
 have S := Lib.hid (Sep.start noX w0)
 have tokg : True := trivial
 have tokx : True := trivial
 have tok0 : True := trivial
 have tok1 : True := trivial
 have tok2 : True := trivial
 have tok3 : True := trivial
 unfold hdV at *
 go_enter Tryz.func113, Tryz.ntmps113
 go_wp2_with (first
     | go_skip
     | (clear tok0; refine bx_ 26 S rfl rfl rfl ?_; clear S; intro gt w S)
     | (clear tok1; refine bx_ 88 S rfl rfl rfl ?_; clear S; intro gh w S)
     | (clear tok2; refine nx_ 26 S rfl rfl Tryz.zeroValue26 ?_; clear S; intro rt w S)
     | (clear tok3; refine nx_ 88 S rfl rfl Tryz.zeroValue88 ?_; clear S; intro rh w S)
     | (refine wpList_op rfl (op_row 26 _ rfl S.out 3 rfl rfl Tryz.isAgg26 (by kernel_rfl) ?_))
     | (refine wpList_op rfl (op_row 88 _ rfl S.out 2 rfl rfl Tryz.isAgg88 (by kernel_rfl) ?_)))
 refine (OK.out _ (S.out.rs HR.out) (S.out.rs HH.out)).mono ?_
 rintro e w ⟨rfl, b⟩
 replace S := Lib.hid (S.out.call b)
 clear b
 go_wp2_with (first
     | go_skip
     | (refine wpList_op rfl (op_get 2 _ rfl S.out 2 rfl _ rfl Tryz.isAgg2 _ rfl ?_))
     | (refine wpList_op rfl (op_row 26 _ rfl S.out 3 rfl rfl Tryz.isAgg26 (by kernel_rfl) ?_)))
 refine (CT.out _ (S.out.rs HR.out)).mono ?_
 rintro e w ⟨v, F, rfl, o, f, b⟩
 obtain ⟨A3, c3, rfl, _, _⟩ := o.form
 replace S := Lib.hid (S.out.own b o f)
 clear o f b
 go_wp2_with (first
     | go_skip
     | (clear tokg; refine nx_ 26 S rfl rfl Tryz.zeroValue26 ?_; clear S; intro go w S)
     | (refine wpList_op rfl (op_putR_0 26 _ _ rfl S rfl _ rfl rfl (by kernel_rfl) rfl ?_); clear S; intro w S)
     | (refine wpList_op rfl (op_row 88 _ rfl S.out 4 rfl rfl Tryz.isAgg88 (by kernel_rfl) ?_)))
 refine (CH.out _ (S.out.rs HH.out)).mono ?_
 rintro e w ⟨A4, c4, G, rfl, o, f, b⟩
 replace S := Lib.hid (S.out.own b o f)
 clear o f b
 unfold hdV
 go_wp2_with (first
     | go_skip
     | (refine wpList_op rfl (op_putR_5 88 _ _ rfl S rfl _ rfl rfl (by kernel_rfl) rfl ?_); clear S; intro w S)
     | (refine wpList_op rfl (op_get 2 _ rfl S.out 5 rfl _ rfl Tryz.isAgg2 _ rfl ?_))
     | (refine wpList_op rfl (op_row 26 _ rfl S.out 6 rfl rfl Tryz.isAgg26 (by kernel_rfl) ?_))
     | (refine wpList_op rfl (op_row 88 _ rfl S.out 5 rfl rfl Tryz.isAgg88 (by kernel_rfl) ?_)))
 refine (TP.out A4 hd.st.length c4 _ (S.out.rs HR.out)).mono ?_
 rintro e w ⟨A2, n2, c2, rfl, alt, b⟩
 rcases alt with ⟨h6, h7, h8, hst⟩ | ⟨G2, own, f⟩
 · have h6 := h6.symm
   have h8 := h8.symm
   subst h6 h7 h8
   have HST := Lib.hid hst
   replace S := Lib.hid (S.out.call b)
   clear hst b
   cases tb
   · go_wp2_with (first
         | go_skip
         | (clear tokx; refine nx_ 88 S rfl rfl Tryz.zeroValue88 ?_; clear S; intro gz w S)
         | (refine wpList_op rfl (op_putR_0 88 _ _ rfl S rfl _ rfl rfl (by kernel_rfl) rfl ?_); clear S; intro w S))
     refine wp_region_ev (by kernel_rfl) _ (by kernel_rfl) (by kernel_rfl) 85 rfl (by kernel_rfl) (fun D V w => Sep noX w0 [bx gz #[jI jZ th.pos, jI jZ th.cc, jI jZ th.ck, jI jZ th.cv, jI jZ th.cur, jI jZ th.want, jI jZ th.key, jI jZ th.kid, jI jZ th.old, jI jZ th.next, jI jZ th.new, jS A4 hd.st.length c4, jI jZ th.thn, jI jZ th.beg, jI jZ th.rep, jI jZ th.out] 88, ow (jS A4 hd.st.length c4) hd.st G, bx go #[jI jZ r, jS A3 xs.length c3] 26, ow (jS A3 xs.length c3) xs F, cnd (D 3) (bx rh #[jI jZ 0, jI jZ 0, jI jZ 0, jI jZ 0, jI jZ 0, jI jZ 0, jI jZ 0, jI jZ 0, jI jZ 0, jI jZ 0, jI jZ 0, jS none 0 0, jI jZ 0, jI jZ 0, jI jZ 0, jI jZ 0] 88) (bx rh #[jI jZ hd.pos, jI jZ hd.cc, jI jZ hd.ck, jI jZ hd.cv, jI jZ hd.cur, jI jZ hd.want, jI jZ hd.key, jI jZ hd.kid, jI jZ hd.old, jI jZ hd.next, jI jZ hd.new, jS A4 hd.st.length c4, jI jZ hd.thn, jI jZ hd.beg, jI jZ hd.rep, jI jZ hd.out] 88), cnd (D 2) (bx rt #[jI jZ 0, jS none 0 0] 26) (bx rt #[jI jZ r, jS A3 xs.length c3] 26), bx gh #[jI jZ hd.pos, jI jZ hd.cc, jI jZ hd.ck, jI jZ hd.cv, jI jZ hd.cur, jI jZ hd.want, jI jZ hd.key, jI jZ hd.kid, jI jZ hd.old, jI jZ hd.next, jI jZ hd.new, jS A4 hd.st.length c4, jI jZ hd.thn, jI jZ hd.beg, jI jZ hd.rep, jI jZ hd.out] 88, bx gt #[jI jZ r, jS A n c] 26] w ∧ (D 0 = true → V 0 = .agg #[jI jZ r, jS A3 xs.length c3]) ∧ (D 1 = true → V 1 = .agg #[jI jZ hd.pos, jI jZ hd.cc, jI jZ hd.ck, jI jZ hd.cv, jI jZ hd.cur, jI jZ hd.want, jI jZ hd.key, jI jZ hd.kid, jI jZ hd.old, jI jZ hd.next, jI jZ hd.new, jS A4 hd.st.length c4, jI jZ hd.thn, jI jZ hd.beg, jI jZ hd.rep, jI jZ hd.out]) ∧ (D 4 = true → V 4 = .bool false)) ?_ ?_ ?_
     · intro D hD
       have d2 := hD 2 (by decide)
       have d3 := hD 3 (by decide)
       exact ⟨by rw [cnd_f d3, cnd_f d2]; exact S.out.drew.ems 0, (nof (hD 0 (by decide))), (nof (hD 1 (by decide))), (nof (hD 4 (by decide)))⟩
     · intro i o D V w a ho hI hDi haf hev
       obtain ⟨S, f0, f1, f4⟩ := hI
       rcases i with _ | _ | _ | _ | _ | i
       · obtain rfl := inj_ ho
         exact op_row 26 _ rfl S 2 rfl ((hev.old 9 (by kernel_rfl)).trans rfl) Tryz.isAgg26 (by kernel_rfl) ⟨_, rfl, S, fun _ => rfl, f1, f4⟩
       · obtain rfl := inj_ ho
         exact op_row 88 _ rfl S 6 rfl ((hev.old 5 (by kernel_rfl)).trans rfl) Tryz.isAgg88 (by kernel_rfl) ⟨_, rfl, S, f0, fun _ => rfl, f4⟩
       · obtain rfl := inj_ ho
         have h0 := aft_ haf 0 rfl
         exact op_putR 26 _ _ rfl S 5 (g := rt) (C := #[jI jZ 0, jS none 0 0]) (t := 26) (by simp only [gs_, gz_, cnd_f hDi]) ((hev.old 6 (by kernel_rfl)).trans rfl) _ (hev.at_ 0 48 rfl rfl h0 f0) rfl (by kernel_rfl) rfl (fun w S => ⟨_, rfl, S, f0, f1, f4⟩)
       · obtain rfl := inj_ ho
         have h1 := aft_ haf 1 rfl
         exact op_putR 88 _ _ rfl S 4 (g := rh) (C := #[jI jZ 0, jI jZ 0, jI jZ 0, jI jZ 0, jI jZ 0, jI jZ 0, jI jZ 0, jI jZ 0, jI jZ 0, jI jZ 0, jI jZ 0, jS none 0 0, jI jZ 0, jI jZ 0, jI jZ 0, jI jZ 0]) (t := 88) (by simp only [gs_, gz_, cnd_f hDi]) ((hev.old 7 (by kernel_rfl)).trans rfl) _ (hev.at_ 1 49 rfl rfl h1 f1) rfl (by kernel_rfl) rfl (fun w S => ⟨_, rfl, S, f0, f1, f4⟩)
       · obtain rfl := inj_ ho
         exact op_move (.inr rfl) rfl ⟨_, rfl, S, f0, f1, fun _ => rfl⟩
       · exact absurd ho (by simp)
     intro V w hI
     obtain ⟨S, f0, f1, f4⟩ := hI
     replace S : Hid (Sep noX w0 [bx gz #[jI jZ th.pos, jI jZ th.cc, jI jZ th.ck, jI jZ th.cv, jI jZ th.cur, jI jZ th.want, jI jZ th.key, jI jZ th.kid, jI jZ th.old, jI jZ th.next, jI jZ th.new, jS A4 hd.st.length c4, jI jZ th.thn, jI jZ th.beg, jI jZ th.rep, jI jZ th.out] 88, ow (jS A4 hd.st.length c4) hd.st G, bx go #[jI jZ r, jS A3 xs.length c3] 26, ow (jS A3 xs.length c3) xs F, bx rh #[jI jZ hd.pos, jI jZ hd.cc, jI jZ hd.ck, jI jZ hd.cv, jI jZ hd.cur, jI jZ hd.want, jI jZ hd.key, jI jZ hd.kid, jI jZ hd.old, jI jZ hd.next, jI jZ hd.new, jS A4 hd.st.length c4, jI jZ hd.thn, jI jZ hd.beg, jI jZ hd.rep, jI jZ hd.out] 88, bx rt #[jI jZ r, jS A3 xs.length c3] 26, bx gh #[jI jZ hd.pos, jI jZ hd.cc, jI jZ hd.ck, jI jZ hd.cv, jI jZ hd.cur, jI jZ hd.want, jI jZ hd.key, jI jZ hd.kid, jI jZ hd.old, jI jZ hd.next, jI jZ hd.new, jS A4 hd.st.length c4, jI jZ hd.thn, jI jZ hd.beg, jI jZ hd.rep, jI jZ hd.out] 88, bx gt #[jI jZ r, jS A n c] 26] w) := Lib.hid S
     simp only [putF, Act.put, sa_, sb_, sc_, f0 rfl, f1 rfl, f4 rfl]
     clear f0 f1 f4
     go_wp2_with fail
     exact bodyPost_ret (results_ccs rfl _ S.out 5 4 rfl rfl rfl rfl Tryz.isAgg26 Tryz.isAgg88 (by kernel_rfl) (by kernel_rfl)) rfl (by rw [HE.out]; exact S.out.gives 3 1 (by omega) (s := ⟨⟨r, xs⟩, hd, false⟩) rfl rfl rfl rfl)
   · go_wp2_with (first
         | go_skip
         | (clear tokx; refine nx_ 88 S rfl rfl Tryz.zeroValue88 ?_; clear S; intro gz w S)
         | (refine wpList_op rfl (op_putR_0 88 _ _ rfl S rfl _ rfl rfl (by kernel_rfl) rfl ?_); clear S; intro w S)
         | (refine wpList_op rfl (op_row 88 _ rfl S.out 0 rfl rfl Tryz.isAgg88 (by kernel_rfl) ?_))
         | (refine wpList_op rfl (op_putR_6 88 _ _ rfl S rfl _ rfl rfl (by kernel_rfl) rfl ?_); clear S; intro w S)
         | (refine wpList_op rfl (op_row 26 _ rfl S.out 2 rfl rfl Tryz.isAgg26 (by kernel_rfl) ?_))
         | (refine wpList_op rfl (op_row 88 _ rfl S.out 6 rfl rfl Tryz.isAgg88 (by kernel_rfl) ?_)))
     by_cases hq : handOk th = true
     · have hd2 := (DY.out hq A3 c3 A4 hd.st.length c4 w (OwnS.rs (S.out.get 3 rfl) rfl) (by rw [HST.out]; exact OwnS.rs (S.out.get 1 rfl) rfl))
       unfold hdV at hd2
       refine hd2.mono ?_
       rintro e w ⟨rfl, b⟩
       replace S := Lib.hid (S.out.call b)
       have HQ := Lib.hid hq
       clear b hd2 hq
       go_wp2_with (first
           | go_skip
           | (refine wpList_op rfl (op_putR_5 26 _ _ rfl S rfl _ rfl rfl (by kernel_rfl) rfl ?_); clear S; intro w S)
           | (refine wpList_op rfl (op_putR_4 88 _ _ rfl S rfl _ rfl rfl (by kernel_rfl) rfl ?_); clear S; intro w S))
       exact bodyPost_ret (results_ccs rfl _ S.out 5 4 rfl rfl rfl rfl Tryz.isAgg26 Tryz.isAgg88 (by kernel_rfl) (by kernel_rfl)) rfl (by rw [HE.out]; simp only [if_true]; rw [done_yes HT.out HQ.out]; exact S.out.gives 3 1 (by omega) (s := ⟨⟨r, xs⟩, th, true⟩) rfl (by rw [HST.out]; rfl) rfl (by rw [HST.out]))
     · have hd2 := (DNO.out hq A3 c3 A4 hd.st.length c4 w (OwnS.rs (S.out.get 3 rfl) rfl) (by rw [HST.out]; exact OwnS.rs (S.out.get 1 rfl) rfl))
       unfold hdV at hd2
       refine hd2.mono ?_
       rintro e w ⟨rfl, b⟩
       replace S := Lib.hid (S.out.call b)
       have HQ := Lib.hid hq
       clear b hd2 hq
       go_wp2_with (first
           | go_skip
           | (refine wpList_op rfl (op_putR_5 26 _ _ rfl S rfl _ rfl rfl (by kernel_rfl) rfl ?_); clear S; intro w S)
           | (refine wpList_op rfl (op_putR_4 88 _ _ rfl S rfl _ rfl rfl (by kernel_rfl) rfl ?_); clear S; intro w S))
       exact bodyPost_ret (results_ccs rfl _ S.out 5 4 rfl rfl rfl rfl Tryz.isAgg26 Tryz.isAgg88 (by kernel_rfl) (by kernel_rfl)) rfl (by rw [HE.out]; simp only [if_true]; rw [done_no (by simpa using HQ.out)]; exact none_S S.out.below)
 · have HLN := Lib.hid own.len
   replace S := Lib.hid (S.out.own b own f)
   clear own f b
   cases tb
   · go_wp2_with (first
         | go_skip
         | (clear tokx; refine nx_ 88 S rfl rfl Tryz.zeroValue88 ?_; clear S; intro gz w S)
         | (refine wpList_op rfl (op_putR_0 88 _ _ rfl S rfl _ rfl rfl (by kernel_rfl) rfl ?_); clear S; intro w S))
     refine wp_region_ev (by kernel_rfl) _ (by kernel_rfl) (by kernel_rfl) 85 rfl (by kernel_rfl) (fun D V w => Sep noX w0 [bx gz #[jI jZ th.pos, jI jZ th.cc, jI jZ th.ck, jI jZ th.cv, jI jZ th.cur, jI jZ th.want, jI jZ th.key, jI jZ th.kid, jI jZ th.old, jI jZ th.next, jI jZ th.new, jS A2 n2 c2, jI jZ th.thn, jI jZ th.beg, jI jZ th.rep, jI jZ th.out] 88, ow (jS A2 n2 c2) th.st G2, ow (jS A4 hd.st.length c4) hd.st G, bx go #[jI jZ r, jS A3 xs.length c3] 26, ow (jS A3 xs.length c3) xs F, cnd (D 3) (bx rh #[jI jZ 0, jI jZ 0, jI jZ 0, jI jZ 0, jI jZ 0, jI jZ 0, jI jZ 0, jI jZ 0, jI jZ 0, jI jZ 0, jI jZ 0, jS none 0 0, jI jZ 0, jI jZ 0, jI jZ 0, jI jZ 0] 88) (bx rh #[jI jZ hd.pos, jI jZ hd.cc, jI jZ hd.ck, jI jZ hd.cv, jI jZ hd.cur, jI jZ hd.want, jI jZ hd.key, jI jZ hd.kid, jI jZ hd.old, jI jZ hd.next, jI jZ hd.new, jS A4 hd.st.length c4, jI jZ hd.thn, jI jZ hd.beg, jI jZ hd.rep, jI jZ hd.out] 88), cnd (D 2) (bx rt #[jI jZ 0, jS none 0 0] 26) (bx rt #[jI jZ r, jS A3 xs.length c3] 26), bx gh #[jI jZ hd.pos, jI jZ hd.cc, jI jZ hd.ck, jI jZ hd.cv, jI jZ hd.cur, jI jZ hd.want, jI jZ hd.key, jI jZ hd.kid, jI jZ hd.old, jI jZ hd.next, jI jZ hd.new, jS A4 hd.st.length c4, jI jZ hd.thn, jI jZ hd.beg, jI jZ hd.rep, jI jZ hd.out] 88, bx gt #[jI jZ r, jS A n c] 26] w ∧ (D 0 = true → V 0 = .agg #[jI jZ r, jS A3 xs.length c3]) ∧ (D 1 = true → V 1 = .agg #[jI jZ hd.pos, jI jZ hd.cc, jI jZ hd.ck, jI jZ hd.cv, jI jZ hd.cur, jI jZ hd.want, jI jZ hd.key, jI jZ hd.kid, jI jZ hd.old, jI jZ hd.next, jI jZ hd.new, jS A4 hd.st.length c4, jI jZ hd.thn, jI jZ hd.beg, jI jZ hd.rep, jI jZ hd.out]) ∧ (D 4 = true → V 4 = .bool false)) ?_ ?_ ?_
     · intro D hD
       have d2 := hD 2 (by decide)
       have d3 := hD 3 (by decide)
       exact ⟨by rw [cnd_f d3, cnd_f d2]; exact S.out.drew.ems 0, (nof (hD 0 (by decide))), (nof (hD 1 (by decide))), (nof (hD 4 (by decide)))⟩
     · intro i o D V w a ho hI hDi haf hev
       obtain ⟨S, f0, f1, f4⟩ := hI
       rcases i with _ | _ | _ | _ | _ | i
       · obtain rfl := inj_ ho
         exact op_row 26 _ rfl S 3 rfl ((hev.old 9 (by kernel_rfl)).trans rfl) Tryz.isAgg26 (by kernel_rfl) ⟨_, rfl, S, fun _ => rfl, f1, f4⟩
       · obtain rfl := inj_ ho
         exact op_row 88 _ rfl S 7 rfl ((hev.old 5 (by kernel_rfl)).trans rfl) Tryz.isAgg88 (by kernel_rfl) ⟨_, rfl, S, f0, fun _ => rfl, f4⟩
       · obtain rfl := inj_ ho
         have h0 := aft_ haf 0 rfl
         exact op_putR 26 _ _ rfl S 6 (g := rt) (C := #[jI jZ 0, jS none 0 0]) (t := 26) (by simp only [gs_, gz_, cnd_f hDi]) ((hev.old 6 (by kernel_rfl)).trans rfl) _ (hev.at_ 0 48 rfl rfl h0 f0) rfl (by kernel_rfl) rfl (fun w S => ⟨_, rfl, S, f0, f1, f4⟩)
       · obtain rfl := inj_ ho
         have h1 := aft_ haf 1 rfl
         exact op_putR 88 _ _ rfl S 5 (g := rh) (C := #[jI jZ 0, jI jZ 0, jI jZ 0, jI jZ 0, jI jZ 0, jI jZ 0, jI jZ 0, jI jZ 0, jI jZ 0, jI jZ 0, jI jZ 0, jS none 0 0, jI jZ 0, jI jZ 0, jI jZ 0, jI jZ 0]) (t := 88) (by simp only [gs_, gz_, cnd_f hDi]) ((hev.old 7 (by kernel_rfl)).trans rfl) _ (hev.at_ 1 49 rfl rfl h1 f1) rfl (by kernel_rfl) rfl (fun w S => ⟨_, rfl, S, f0, f1, f4⟩)
       · obtain rfl := inj_ ho
         exact op_move (.inr rfl) rfl ⟨_, rfl, S, f0, f1, fun _ => rfl⟩
       · exact absurd ho (by simp)
     intro V w hI
     obtain ⟨S, f0, f1, f4⟩ := hI
     replace S : Hid (Sep noX w0 [bx gz #[jI jZ th.pos, jI jZ th.cc, jI jZ th.ck, jI jZ th.cv, jI jZ th.cur, jI jZ th.want, jI jZ th.key, jI jZ th.kid, jI jZ th.old, jI jZ th.next, jI jZ th.new, jS A2 n2 c2, jI jZ th.thn, jI jZ th.beg, jI jZ th.rep, jI jZ th.out] 88, ow (jS A2 n2 c2) th.st G2, ow (jS A4 hd.st.length c4) hd.st G, bx go #[jI jZ r, jS A3 xs.length c3] 26, ow (jS A3 xs.length c3) xs F, bx rh #[jI jZ hd.pos, jI jZ hd.cc, jI jZ hd.ck, jI jZ hd.cv, jI jZ hd.cur, jI jZ hd.want, jI jZ hd.key, jI jZ hd.kid, jI jZ hd.old, jI jZ hd.next, jI jZ hd.new, jS A4 hd.st.length c4, jI jZ hd.thn, jI jZ hd.beg, jI jZ hd.rep, jI jZ hd.out] 88, bx rt #[jI jZ r, jS A3 xs.length c3] 26, bx gh #[jI jZ hd.pos, jI jZ hd.cc, jI jZ hd.ck, jI jZ hd.cv, jI jZ hd.cur, jI jZ hd.want, jI jZ hd.key, jI jZ hd.kid, jI jZ hd.old, jI jZ hd.next, jI jZ hd.new, jS A4 hd.st.length c4, jI jZ hd.thn, jI jZ hd.beg, jI jZ hd.rep, jI jZ hd.out] 88, bx gt #[jI jZ r, jS A n c] 26] w) := Lib.hid S
     simp only [putF, Act.put, sa_, sb_, sc_, f0 rfl, f1 rfl, f4 rfl]
     clear f0 f1 f4
     go_wp2_with fail
     exact bodyPost_ret (results_ccs rfl _ S.out 6 5 rfl rfl rfl rfl Tryz.isAgg26 Tryz.isAgg88 (by kernel_rfl) (by kernel_rfl)) rfl (by rw [HE.out]; exact S.out.gives 4 2 (by omega) (s := ⟨⟨r, xs⟩, hd, false⟩) rfl rfl rfl rfl)
   · go_wp2_with (first
         | go_skip
         | (clear tokx; refine nx_ 88 S rfl rfl Tryz.zeroValue88 ?_; clear S; intro gz w S)
         | (refine wpList_op rfl (op_putR_0 88 _ _ rfl S rfl _ rfl rfl (by kernel_rfl) rfl ?_); clear S; intro w S)
         | (refine wpList_op rfl (op_row 88 _ rfl S.out 0 rfl rfl Tryz.isAgg88 (by kernel_rfl) ?_))
         | (refine wpList_op rfl (op_putR_7 88 _ _ rfl S rfl _ rfl rfl (by kernel_rfl) rfl ?_); clear S; intro w S)
         | (refine wpList_op rfl (op_row 26 _ rfl S.out 3 rfl rfl Tryz.isAgg26 (by kernel_rfl) ?_))
         | (refine wpList_op rfl (op_row 88 _ rfl S.out 7 rfl rfl Tryz.isAgg88 (by kernel_rfl) ?_)))
     by_cases hq : handOk th = true
     · have hd2 := (DY.out hq A3 c3 A2 n2 c2 w (OwnS.rs (S.out.get 4 rfl) rfl) (OwnS.rs (S.out.get 1 rfl) HLN.out))
       unfold hdV at hd2
       refine hd2.mono ?_
       rintro e w ⟨rfl, b⟩
       replace S := Lib.hid (S.out.call b)
       have HQ := Lib.hid hq
       clear b hd2 hq
       go_wp2_with (first
           | go_skip
           | (refine wpList_op rfl (op_putR_6 26 _ _ rfl S rfl _ rfl rfl (by kernel_rfl) rfl ?_); clear S; intro w S)
           | (refine wpList_op rfl (op_putR_5 88 _ _ rfl S rfl _ rfl rfl (by kernel_rfl) rfl ?_); clear S; intro w S))
       exact bodyPost_ret (results_ccs rfl _ S.out 6 5 rfl rfl rfl rfl Tryz.isAgg26 Tryz.isAgg88 (by kernel_rfl) (by kernel_rfl)) rfl (by rw [HE.out]; simp only [if_true]; rw [done_yes HT.out HQ.out]; exact S.out.gives 4 1 (by omega) (s := ⟨⟨r, xs⟩, th, true⟩) rfl rfl rfl HLN.out)
     · have hd2 := (DNO.out hq A3 c3 A2 n2 c2 w (OwnS.rs (S.out.get 4 rfl) rfl) (OwnS.rs (S.out.get 1 rfl) HLN.out))
       unfold hdV at hd2
       refine hd2.mono ?_
       rintro e w ⟨rfl, b⟩
       replace S := Lib.hid (S.out.call b)
       have HQ := Lib.hid hq
       clear b hd2 hq
       go_wp2_with (first
           | go_skip
           | (refine wpList_op rfl (op_putR_6 26 _ _ rfl S rfl _ rfl rfl (by kernel_rfl) rfl ?_); clear S; intro w S)
           | (refine wpList_op rfl (op_putR_5 88 _ _ rfl S rfl _ rfl rfl (by kernel_rfl) rfl ?_); clear S; intro w S))
       exact bodyPost_ret (results_ccs rfl _ S.out 6 5 rfl rfl rfl rfl Tryz.isAgg26 Tryz.isAgg88 (by kernel_rfl) (by kernel_rfl)) rfl (by rw [HE.out]; simp only [if_true]; rw [done_no (by simpa using HQ.out)]; exact none_S S.out.below)

theorem sUp_any (r : Int) (xs : List Nd) (A : Option Addr) (n c : Nat) (task : Int) (hd : Hd) (A' : Option Addr) (n' c' : Nat) (w0 : World) (hR : RS w0 w0.heap.size A n xs) (hs : Small.sm xs) (hH : RS w0 w0.heap.size A' n' hd.st) (hn' : n' ≤ 1048576) :
   Calls Tryz.prog 113 #[.agg #[jI jZ r, jS A n c], jI jZ task, hdV hd A' n' c'] w0 (GivesS w0 (upS ⟨r, xs⟩ task hd)) := by
 by_cases hk : (ok9 ⟨r, xs⟩ task hd 9 11 && (decide (hd.cc = 2) && !decide (hd.want = 0))) = true
 · have hk9 : ok9 ⟨r, xs⟩ task hd 9 11 = true := by simp only [Bool.and_eq_true] at hk; exact hk.1
   have hp := (ok9_of hk9).2.2.2.1
   by_cases h1 : hd.pos = 9
   · exact up_top r xs A n c task hd A' n' c' w0 hR hs hH hn' hk h1
   · by_cases h2 : hd.pos = 10
     · exact up_raise r xs A n c task hd A' n' c' w0 hR hs hH hn' hk h2
     · by_cases hro : r = hd.old
       · exact up_swing r xs A n c task hd A' n' c' w0 hR hs hH hn' hk (by omega) hro
       · exact up_wait r xs A n c task hd A' n' c' w0 hR hs hH hn' hk (by omega) hro
 · exact up_no r xs A n c task hd A' n' c' w0 hR hs hH hn' (by simpa using hk)
end Go.Proofs.YtpffkhjegpddbaaGreat
namespace Go.Proofs.YtpffkhjegpddbaaGreat
open Go.RowKit

section
variable {X : FP} {w0 w : World} {L : List Item} {o : Oper} {a : Act} {K : Act → World → Prop} {Q : Exit → Act → World → Prop}
theorem op_slToT (t e : TypeId) (sz k : Nat) (x y : Operand) (ho : o.op = .slice t x none (some y) none) (ht : Tryz.prog.underlying t = some (.slice e)) (hi : ∀ w, (sizeOf e).run Tryz.prog w = .ok sz w) {b off n c : Nat} (hx : a.eval x = jS (some ⟨b, off, none⟩) n c) (hy : a.eval y = jI jZ k) (hkc : k ≤ c) (hk0 : 0 < c)
   (hK : K (a.put o.dst (jS (some ⟨b, off, none⟩) k c)) w) : o.wp Tryz.prog a w K Q := by
 refine op_val ?_ hK
 have h1 : (k : Int) ≤ c := by omega
 have h2 : ¬ c = 0 := by omega
 generalize a.eval = E at hx hy ⊢
 simp [execOp, ho, hx, hy, go_sem, ht, hi, h1, h2]
theorem op_len (t e _ty : TypeId) (s : Operand) (ho : o.op = .call { callee := .builtin .len, args := #[s], argTypes := #[t] }) (ht : Tryz.prog.underlying t = some (.slice e)) {A : Option Addr} {n c : Nat} (hs : a.eval s = jS A n c)
   (hK : K (a.put o.dst (jI jZ n)) w) : o.wp Tryz.prog a w K Q := by
 refine op_val ?_ hK
 generalize a.eval = E at hs ⊢
 simp [execOp, ho, hs, resolve, invoke, builtin, go_sem, ht]
theorem OwnS.front {w : World} {g n c m : Nat} {xs : List Int} {F : FP} (h : OwnS w (jS (some ⟨g, 0, none⟩) n c) xs F) (hl : xs.length = n) (hm : m ≤ n) : OwnS w (jS (some ⟨g, 0, none⟩) m c) (xs.take m) F := by
 obtain ⟨h1, h2⟩ := h.ints
 have hlen : (xs.take m).length = m := by rw [List.length_take]; omega
 refine OwnS.of_ints (base := 0) (n := (xs.take m).length) ?_ (fun k hk => h2 k hk)
 rw [hlen]
 rcases h1 with ⟨e1, h3 | ⟨g', cap, cur, hv, hb, hg, k1, k2, k3, k4⟩⟩
 · exact absurd h3.1 (by simp)
 · cases hv
   refine ⟨by rw [IL_len, hlen]; omega, .inr ⟨g, c, cur, rfl, hb, hg, by omega, k2, k3, ?_⟩⟩
   have e3 : IL (xs.take m) = (IL xs).take m := by unfold IL; rw [List.map_take]
   rw [e3, ← k4, List.take_take]
   congr 1
   omega
end
def thenV (hd : Hd) (A' : Option Addr) (n' c' : Nat) : Value :=
 if hd.thn = 0 then hdV (thenH hd) none 0 0 else if hd.thn = 1 then hdV (thenH hd) A' n' c' else if 0 < n' then hdV (thenH hd) A' (n' - 1) c' else hdV (thenH hd) A' n' c'

set_option maxRecDepth 100000 in
set_option maxHeartbeats 16000000 in
theorem then_any (hd : Hd) (A' : Option Addr) (n' c' : Nat) (w0 : World) (hH : RS w0 w0.heap.size A' n' hd.st) (hc : n' ≤ c') (hc2 : c' ≤ 9223372036854775807) (hw : 0 ≤ hd.want ∧ hd.want ≤ 6) :
   Calls Tryz.prog 124 #[hdV hd A' n' c'] w0 fun e w' => e = .returned (thenV hd A' n' c') ∧ Below w0.heap.size w0 w' := by
 have RK := Lib.hid rest_any
 have W1 : IntKind.i64.wrap (hd.want + 1) = hd.want + 1 := IntWalk.i64_in _ (by omega)
 by_cases h0 : hd.thn = 0
 · have hE : thenV hd A' n' c' = hdV (restH hd.rep 0) none 0 0 := by unfold thenV thenH; simp only [if_pos h0]
   have g0 : (hd.thn == 0) = true := by simp [h0]
   rw [hE]
   clear hE h0 hw hH hc hc2
   have S := Lib.hid (Sep.start noX w0)
   have tok0 : True := trivial
   have tok1 : True := trivial
   unfold hdV at *
   go_enter Tryz.func124, Tryz.ntmps124
   go_wp2_with (first
       | go_skip
       | (clear tok0; refine bx_ 88 S rfl rfl rfl ?_; clear S; intro gh w S)
       | (clear tok1; refine nx_ 88 S rfl rfl Tryz.zeroValue88 ?_; clear S; intro rh w S)
       | (refine wpList_op rfl (op_get 2 _ rfl S.out 1 rfl _ rfl Tryz.isAgg2 _ rfl ?_)))
   refine (RK.out hd.rep 0 _).mono ?_
   rintro e w ⟨rfl, b⟩
   replace S := Lib.hid (S.out.call b)
   clear b
   go_wp2_with (first
       | go_skip
       | (refine wpList_op rfl (op_putR_0 88 _ _ rfl S rfl _ rfl rfl (by kernel_rfl) rfl ?_); clear S; intro w S))
   exact bodyPost_ret (results_c rfl _ S.out 0 rfl rfl Tryz.isAgg88 (by kernel_rfl)) rfl ⟨rfl, S.out.below⟩
 by_cases h1 : hd.thn = 1
 · have hE : thenV hd A' n' c' = hdV { hd with cur := hd.next, pos := 3 } A' n' c' := by unfold thenV thenH; simp only [if_neg h0, if_pos h1]
   have g0 : (hd.thn == 0) = false := by simp [h0]
   have g1 : (hd.thn == 1) = true := by simp [h1]
   rw [hE]
   clear hE h0 h1 hw hH hc hc2
   have S := Lib.hid (Sep.start noX w0)
   have tok0 : True := trivial
   have tok1 : True := trivial
   unfold hdV at *
   go_enter Tryz.func124, Tryz.ntmps124
   go_wp2_with (first
       | go_skip
       | (clear tok0; refine bx_ 88 S rfl rfl rfl ?_; clear S; intro gh w S)
       | (clear tok1; refine nx_ 88 S rfl rfl Tryz.zeroValue88 ?_; clear S; intro rh w S)
       | (refine wpList_op rfl (op_get 2 _ rfl S.out 1 rfl _ rfl Tryz.isAgg2 _ rfl ?_))
       | (refine wpList_op rfl (op_put1_1 2 _ _ rfl S _ rfl _ rfl rfl (by kernel_rfl) (of_decide_eq_true rfl) ?_); clear S; intro w S)
       | (refine wpList_op rfl (op_row 88 _ rfl S.out 1 rfl rfl Tryz.isAgg88 (by kernel_rfl) ?_))
       | (refine wpList_op rfl (op_putR_0 88 _ _ rfl S rfl _ rfl rfl (by kernel_rfl) rfl ?_); clear S; intro w S))
   exact bodyPost_ret (results_c rfl _ S.out 0 rfl rfl Tryz.isAgg88 (by kernel_rfl)) rfl ⟨rfl, S.out.below⟩
 have g0 : (hd.thn == 0) = false := by simp [h0]
 have g1 : (hd.thn == 1) = false := by simp [h1]
 by_cases h2 : 0 < n'
 · obtain ⟨m, rfl⟩ : ∃ m, n' = m + 1 := ⟨n' - 1, by omega⟩
   have hlen : hd.st.length = m + 1 := hH.1
   have hE : thenV hd A' (m + 1) c' = hdV { hd with want := hd.want + 1, cur := iAt hd.st m, st := hd.st.take m, pos := 3 } A' m c' := by unfold thenV thenH; simp only [if_neg h0, if_neg h1, if_pos h2, hlen]; rfl
   obtain ⟨b, off, rfl, hb, hcell⟩ := hH.2 h2
   obtain ⟨cs, hcs, hcl⟩ := hcell m (by omega)
   have hk0 : w0.cell? ⟨b, off + m * 1, none⟩ = some (jI jZ (iAt hd.st m)) := by
     have := hcl 0 (jI jZ (iAt hd.st m)) (by rw [show cs = [jI jZ (iAt hd.st m)] from hcs]; rfl)
     exact this
   have CC := Lib.hid hk0
   have HB := Lib.hid hb
   have HCC : Hid (m + 1 ≤ c') := Lib.hid hc
   have W2 : IntKind.i64.wrap ((m : Int) + 1 - 1) = (m : Int) := by rw [IntWalk.i64_in _ (by omega)]; omega
   have W3 : IntKind.i64.wrap (m : Int) = (m : Int) := IntWalk.i64_in _ (by omega)
   have g2 : decide (0 < (m : Int) + 1) = true := by rw [decide_eq_true_eq]; omega
   have g3 : decide (0 < m + 1) = true := by rw [decide_eq_true_eq]; omega
   rw [hE]
   generalize iAt hd.st m = tp at *
   clear hE h0 h1 h2 hw hH hc hc2 hlen hb hcell hcs hcl hk0
   have S := Lib.hid (Sep.start noX w0)
   have tok0 : True := trivial
   have tok1 : True := trivial
   unfold hdV at *
   go_enter Tryz.func124, Tryz.ntmps124
   go_wp2_with (first
       | go_skip
       | (clear tok0; refine bx_ 88 S rfl rfl rfl ?_; clear S; intro gh w S)
       | (clear tok1; refine nx_ 88 S rfl rfl Tryz.zeroValue88 ?_; clear S; intro rh w S)
       | (refine wpList_op rfl (op_idx _ _ _ rfl 2 1 Tryz.underlying35 Tryz.sizeOf2 (k := m) rfl rfl (by omega) ?_))
       | (refine wpList_op rfl (op_cell 2 _ rfl rfl Tryz.isAgg2 ((S.out.below.cell HB.out).trans CC.out) ?_))
       | (refine wpList_op rfl (op_slToT _ 2 1 m _ _ rfl Tryz.underlying35 Tryz.sizeOf2 rfl rfl (by have := HCC.out; omega) (by have := HCC.out; omega) ?_))
       | (refine wpList_op rfl (op_get 2 _ rfl S.out 1 rfl _ rfl Tryz.isAgg2 _ rfl ?_))
       | (refine wpList_op rfl (op_get 35 _ rfl S.out 1 rfl _ rfl Tryz.isAgg35 _ rfl ?_))
       | (refine wpList_op rfl (op_put1_1 2 _ _ rfl S _ rfl _ rfl rfl (by kernel_rfl) (of_decide_eq_true rfl) ?_); clear S; intro w S)
       | (refine wpList_op rfl (op_put1_1 35 _ _ rfl S _ rfl _ rfl rfl (by kernel_rfl) (of_decide_eq_true rfl) ?_); clear S; intro w S)
       | (refine wpList_op rfl (op_row 88 _ rfl S.out 1 rfl rfl Tryz.isAgg88 (by kernel_rfl) ?_))
       | (refine wpList_op rfl (op_putR_0 88 _ _ rfl S rfl _ rfl rfl (by kernel_rfl) rfl ?_); clear S; intro w S))
   exact bodyPost_ret (results_c rfl _ S.out 0 rfl rfl Tryz.isAgg88 (by kernel_rfl)) rfl ⟨rfl, S.out.below⟩
 · have hE : thenV hd A' n' c' = hdV { hd with want := hd.want + 1, pos := 9 } A' n' c' := by unfold thenV thenH; simp only [if_neg h0, if_neg h1, if_neg h2]; rw [if_neg (by rw [hH.1]; exact h2)]
   have g2 : decide ((0 : Int) < (n' : Int)) = false := by rw [decide_eq_false_iff_not]; omega
   have g3 : decide (0 < n') = false := by rw [decide_eq_false_iff_not]; omega
   rw [hE]
   clear hE h0 h1 h2 hw hH hc hc2
   have S := Lib.hid (Sep.start noX w0)
   have tok0 : True := trivial
   have tok1 : True := trivial
   unfold hdV at *
   go_enter Tryz.func124, Tryz.ntmps124
   go_wp2_with (first
       | go_skip
       | (clear tok0; refine bx_ 88 S rfl rfl rfl ?_; clear S; intro gh w S)
       | (clear tok1; refine nx_ 88 S rfl rfl Tryz.zeroValue88 ?_; clear S; intro rh w S)
       | (refine wpList_op rfl (op_get 2 _ rfl S.out 1 rfl _ rfl Tryz.isAgg2 _ rfl ?_))
       | (refine wpList_op rfl (op_get 35 _ rfl S.out 1 rfl _ rfl Tryz.isAgg35 _ rfl ?_))
       | (refine wpList_op rfl (op_put1_1 2 _ _ rfl S _ rfl _ rfl rfl (by kernel_rfl) (of_decide_eq_true rfl) ?_); clear S; intro w S)
       | (refine wpList_op rfl (op_row 88 _ rfl S.out 1 rfl rfl Tryz.isAgg88 (by kernel_rfl) ?_))
       | (refine wpList_op rfl (op_putR_0 88 _ _ rfl S rfl _ rfl rfl (by kernel_rfl) rfl ?_); clear S; intro w S))
   exact bodyPost_ret (results_c rfl _ S.out 0 rfl rfl Tryz.isAgg88 (by kernel_rfl)) rfl ⟨rfl, S.out.below⟩
end Go.Proofs.YtpffkhjegpddbaaGreat
