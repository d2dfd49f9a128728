/- The law FnLatches, walked: it returns true, and nothing that was there is turned. (Made by genLl.py.) -/
import Derived.Test.YtpffkhjegpddbaaGreatV48
import Derived.Test.YtpffkhjegpddbaaGreatV49
import Derived.Test.YtpffkhjegpddbaaGreatV53
import Derived.Test.YtpffkhjegpddbaaGreatV45
open Go.Value renaming int → jI, slice → jS
open Go.IntKind renaming i64 → jZ
namespace Go.Proofs.YtpffkhjegpddbaaGreat
open Go.RowKit

theorem op_neqBL {o : Oper} {a : Act} {w : World} {K : Act → World → Prop} {Q : Exit → Act → World → Prop} (x y : Operand) (ho : o.op = .binOp .neq 4 x y 4) {q : Bool} (hx : a.eval x = .bool q) (hy : a.eval y = .bool q) (hK : K (a.put o.dst (.bool false)) w) : o.wp Tryz.prog a w K Q := by
 refine op_val ?_ hK
 generalize a.eval = E at hx hy ⊢
 simp [execOp, ho, hx, hy, go_sem]
theorem op_eqlL {o : Oper} {a : Act} {w : World} {K : Act → World → Prop} {Q : Exit → Act → World → Prop} (x y : Operand) (ho : o.op = .binOp .eql 3 x y 3) {p : Int} (hx : a.eval x = jI jZ p) (hy : a.eval y = jI jZ p) (hK : K (a.put o.dst (.bool true)) w) : o.wp Tryz.prog a w K Q := by
 refine op_val ?_ hK
 generalize a.eval = E at hx hy ⊢
 simp [execOp, ho, hx, hy, go_sem]
theorem wf_of {x : Int} (h : -1 ≤ x ∧ x ≤ 1048576) : (Lit.int .i64 x).wf = true := by
 have e1 : IntKind.i64.min = -9223372036854775808 := by decide
 have e2 : IntKind.i64.max = 9223372036854775807 := by decide
 show (decide (IntKind.i64.min ≤ x) && decide (x ≤ IntKind.i64.max)) = true
 rw [e1, e2]
 simp
 omega
theorem heldT_len (r : Int) (xs : List Nd) (task : Int) : (heldT r xs task).length ≤ xs.length := by
 unfold heldT
 split
 · exact heldTo_len _ _ _
 · exact Nat.zero_le _

set_option maxRecDepth 100000 in
set_option maxHeartbeats 16000000 in
theorem lawLatches_walk (A : Option Addr) (n c : Nat) (w0 : World) (h : Bys w0 w0.heap.size A n) (hm : n ≤ 9223372036854775807) :
   Calls Tryz.prog 3 #[jS A n c] w0 fun e w' => e = .returned (.bool true) ∧ Below w0.heap.size w0 w' := by
 have HH := Lib.hid h
 clear h
 by_cases hn : 4096 < n
 · have hd : ∀ w, Calls Tryz.prog 4 #[jS A n c] w fun e w' => e = .returned (.bool true) ∧ w = w' := fun w => by
     have := big_any A n c w hm; rwa [decide_eq_true hn] at this
   go_enter Tryz.func3, Tryz.ntmps3
   go_wp2_with (go_at_call 4; refine (hd _).mono ?_; rintro e w1 ⟨rfl, rfl⟩)
   go_ret
   exact ⟨rfl, Below.refl _ _⟩
 have hd : ∀ w, Calls Tryz.prog 4 #[jS A n c] w fun e w' => e = .returned (.bool false) ∧ w = w' := fun w => by
   have := big_any A n c w hm; rwa [decide_eq_false hn] at this
 have hn : n ≤ 4096 := by omega
 have HD := Lib.hid hd
 have HN := Lib.hid hn
 clear hd hn hm
 have S := Lib.hid (Sep.start noX w0)
 go_enter Tryz.func3, Tryz.ntmps3
 go_wp2_with (go_at_call 4; refine (HD.out _).mono ?_; rintro e w1 ⟨rfl, rfl⟩)
 refine (dLatched_any A n c _ (bys_on HH.out S.out.below) HN.out).mono ?_
 rintro e w1 ⟨r, xs, A0, c0, F0, at_, task, rfl, hsm, ho, hat, hf, b⟩
 have cap0 := Lib.hid ho.cap
 have wf0 := Lib.hid (wf_of hat)
 have hfc := fun h => latch_facts (r := r) (xs := xs) (x := at_) (task := task) h
 have htk : latchedB r xs at_ task = true → 0 ≤ task ∧ task ≤ 5 := fun h => by
   unfold latchedB at h
   simp only [Bool.and_eq_true] at h
   have h2 := h.1.2
   unfold inB at h2
   simpa using h2
 have ILA := Lib.hid (fun w h => iLatched_any r xs A0 xs.length c0 at_ task w h hsm cap0.out.1 cap0.out.2 wf0.out)
 have SLA := Lib.hid (fun w h => sLatched_any r xs A0 xs.length c0 at_ task w h hsm)
 have IHT := Lib.hid (fun w h => iHeldBy_any r xs A0 xs.length c0 task w h hsm cap0.out.1 cap0.out.2)
 have SML := Lib.hid (latchedX_sm r xs at_ task)
 have hh0 := heldT_len r xs task
 have hs0 : xs.length ≤ 1048576 := hsm.1
 generalize latchedX r xs at_ task = xl at *
 generalize latchedR r xs at_ task = rl at *
 generalize latchedB r xs at_ task = lb at *
 have hh1 := heldT_sm r xl task
 generalize hnh : heldT r xs task = ht0 at *
 generalize hx : xs.length = n0 at *
 generalize hx1 : xl.length = n1 at *
 generalize hnl0 : ht0.length = nh0 at *
 have HX := Lib.hid hx
 have HX1 := Lib.hid hx1
 have HSM := Lib.hid hsm
 have HFC := Lib.hid hfc
 have HTK := Lib.hid htk
 have HH0 := Lib.hid hh0
 have HS0 := Lib.hid hs0
 have HNH := Lib.hid hnl0
 replace S := Lib.hid (S.out.own b ho hf)
 clear ho hf b hx hx1 hsm hat hfc htk hnh hnl0 hh0 hh1 hs0
 have tok_g3 : True := trivial
 go_wp2_with (first
     | go_skip
     | (have _t := tok_g3; clear _t; refine wpList_op rfl (op_nx 26 rfl S.out _ Tryz.zeroValue26 ?_); clear S tok_g3; intro g3 w S; replace S := Lib.hid S; simp only [Act.put, sa_, sb_, sc_])
     | (refine wpList_op rfl (op_putR_0 26 _ _ rfl S rfl _ rfl rfl (by kernel_rfl) rfl ?_); clear S; intro w S; simp only [Act.put])
     | (refine wpList_op rfl (op_row 26 _ rfl S.out 0 rfl rfl Tryz.isAgg26 (by kernel_rfl) ?_); simp only [Act.put, sa_, sb_, sc_]))
 refine (ILA.out _ (OwnS.rs (S.out.get 1 rfl) HX.out)).mono ?_
 rintro e w1 ⟨A1, c1, F1, rfl, ho, hf, b⟩
 have CAP1 := Lib.hid ho.cap
 replace S := Lib.hid (S.out.own b ho hf)
 clear ho hf b
 have tok_g6 : True := trivial
 go_wp2_with (first
     | go_skip
     | (have _t := tok_g6; clear _t; refine wpList_op rfl (op_nx 26 rfl S.out _ Tryz.zeroValue26 ?_); clear S tok_g6; intro g6 w S; replace S := Lib.hid S; simp only [Act.put, sa_, sb_, sc_])
     | (refine wpList_op rfl (op_putR_0 26 _ _ rfl S rfl _ rfl rfl (by kernel_rfl) rfl ?_); clear S; intro w S; simp only [Act.put])
     | (refine wpList_op rfl (op_row 26 _ rfl S.out 2 rfl rfl Tryz.isAgg26 (by kernel_rfl) ?_); simp only [Act.put, sa_, sb_, sc_]))
 refine (SLA.out _ (OwnS.rs (S.out.get 3 rfl) HX.out)).mono ?_
 rintro e w1 ⟨A2, c2, F2, rfl, ho, hf, b⟩
 replace S := Lib.hid (S.out.own b ho hf)
 clear ho hf b
 have tok_g8 : True := trivial
 go_wp2_with (first
     | go_skip
     | (have _t := tok_g8; clear _t; refine wpList_op rfl (op_nx 26 rfl S.out _ Tryz.zeroValue26 ?_); clear S tok_g8; intro g8 w S; replace S := Lib.hid S; simp only [Act.put, sa_, sb_, sc_])
     | (refine wpList_op rfl (op_putR_0 26 _ _ rfl S rfl _ rfl rfl (by kernel_rfl) rfl ?_); clear S; intro w S; simp only [Act.put]))
 refine (dFreed_any A n c _ (bys_on HH.out S.out.below) HN.out).mono ?_
 rintro e w1 ⟨r2, xs2, A3, c3, F3, at2, who, rfl, hsm, ho, hat, hf, b⟩
 have cap2 := Lib.hid ho.cap
 have IFR := Lib.hid (fun w h => iFreed_any r2 xs2 A3 xs2.length c3 at2 who w h hsm cap2.out.1 cap2.out.2 (wf_of hat))
 have SFR := Lib.hid (fun w h => sFreed_any r2 xs2 A3 xs2.length c3 at2 who w h hsm)
 have SMF := Lib.hid (freedX_sm r2 xs2 at2 who)
 generalize freedX r2 xs2 at2 who = xf at *
 generalize freedR r2 xs2 at2 who = rf at *
 generalize freedB r2 xs2 at2 who = fb at *
 generalize hx : xs2.length = n2 at *
 generalize hx1 : xf.length = n3 at *
 have HX2 := Lib.hid hx
 have HX3 := Lib.hid hx1
 replace S := Lib.hid (S.out.own b ho hf)
 clear ho hf b hx hx1 hsm hat
 have tok_g10 : True := trivial
 go_wp2_with (first
     | go_skip
     | (have _t := tok_g10; clear _t; refine wpList_op rfl (op_nx 26 rfl S.out _ Tryz.zeroValue26 ?_); clear S tok_g10; intro g10 w S; replace S := Lib.hid S; simp only [Act.put, sa_, sb_, sc_])
     | (refine wpList_op rfl (op_putR_0 26 _ _ rfl S rfl _ rfl rfl (by kernel_rfl) rfl ?_); clear S; intro w S; simp only [Act.put])
     | (refine wpList_op rfl (op_row 26 _ rfl S.out 0 rfl rfl Tryz.isAgg26 (by kernel_rfl) ?_); simp only [Act.put, sa_, sb_, sc_]))
 refine (IFR.out _ (OwnS.rs (S.out.get 1 rfl) HX2.out)).mono ?_
 rintro e w1 ⟨A4, c4, F4, rfl, ho, hf, b⟩
 replace S := Lib.hid (S.out.own b ho hf)
 clear ho hf b
 have tok_g13 : True := trivial
 go_wp2_with (first
     | go_skip
     | (have _t := tok_g13; clear _t; refine wpList_op rfl (op_nx 26 rfl S.out _ Tryz.zeroValue26 ?_); clear S tok_g13; intro g13 w S; replace S := Lib.hid S; simp only [Act.put, sa_, sb_, sc_])
     | (refine wpList_op rfl (op_putR_0 26 _ _ rfl S rfl _ rfl rfl (by kernel_rfl) rfl ?_); clear S; intro w S; simp only [Act.put])
     | (refine wpList_op rfl (op_row 26 _ rfl S.out 2 rfl rfl Tryz.isAgg26 (by kernel_rfl) ?_); simp only [Act.put, sa_, sb_, sc_]))
 refine (SFR.out _ (OwnS.rs (S.out.get 3 rfl) HX2.out)).mono ?_
 rintro e w1 ⟨A5, c5, F5, rfl, ho, hf, b⟩
 replace S := Lib.hid (S.out.own b ho hf)
 clear ho hf b
 have tok_g15 : True := trivial
 go_wp2_with (first
     | go_skip
     | (have _t := tok_g15; clear _t; refine wpList_op rfl (op_nx 26 rfl S.out _ Tryz.zeroValue26 ?_); clear S tok_g15; intro g15 w S; replace S := Lib.hid S; simp only [Act.put, sa_, sb_, sc_])
     | (refine wpList_op rfl (op_putR_0 26 _ _ rfl S rfl _ rfl rfl (by kernel_rfl) rfl ?_); clear S; intro w S; simp only [Act.put]))
 refine (dHeld_any A n c _ (bys_on HH.out S.out.below) HN.out).mono ?_
 rintro e w1 ⟨r3, xs3, A6, c6, F6, k3, rfl, hsm, ho, hf, b⟩
 have cap3 := Lib.hid ho.cap
 have IHE := Lib.hid (fun w h => iHeldBy_any r3 xs3 A6 xs3.length c6 k3 w h hsm cap3.out.1 cap3.out.2)
 have SHE := Lib.hid (fun w h => sHeldBy_any r3 xs3 A6 xs3.length c6 k3 w h hsm)
 have SMH : Hid ((heldT r3 xs3 k3).length ≤ 1048576) := Lib.hid (heldT_sm r3 xs3 k3)
 generalize heldT r3 xs3 k3 = hl at *
 generalize hx : xs3.length = n4 at *
 generalize hx1 : hl.length = n5 at *
 have HX4 := Lib.hid hx
 have HX5 := Lib.hid hx1
 replace S := Lib.hid (S.out.own b ho hf)
 clear ho hf b hx hx1 hsm
 have tok_g17 : True := trivial
 go_wp2_with (first
     | go_skip
     | (have _t := tok_g17; clear _t; refine wpList_op rfl (op_nx 26 rfl S.out _ Tryz.zeroValue26 ?_); clear S tok_g17; intro g17 w S; replace S := Lib.hid S; simp only [Act.put, sa_, sb_, sc_])
     | (refine wpList_op rfl (op_putR_0 26 _ _ rfl S rfl _ rfl rfl (by kernel_rfl) rfl ?_); clear S; intro w S; simp only [Act.put]))
 refine wp_region_evg (by kernel_rfl) _ (by kernel_rfl) (by kernel_rfl) 153 rfl (by kernel_rfl) (fun D V w => ∃ A7 : Option Addr, ∃ c7 : Nat, ∃ F7 : FP, ∃ A8 : Option Addr, ∃ c8 : Nat, ∃ F8 : FP, Sep noX w0 [bx g17 #[jI jZ r3, jS A6 n4 c6] 26, ow (jS A6 n4 c6) xs3 F6, bx g15 #[jI jZ rf, jS A5 n3 c5] 26, ow (jS A5 n3 c5) xf F5, bx g13 #[jI jZ rf, jS A4 n3 c4] 26, ow (jS A4 n3 c4) xf F4, bx g10 #[jI jZ r2, jS A3 n2 c3] 26, ow (jS A3 n2 c3) xs2 F3, bx g8 #[jI jZ rl, jS A2 n1 c2] 26, ow (jS A2 n1 c2) xl F2, bx g6 #[jI jZ rl, jS A1 n1 c1] 26, ow (jS A1 n1 c1) xl F1, bx g3 #[jI jZ r, jS A0 n0 c0] 26, ow (jS A0 n0 c0) xs F0, cnd (D 23) em (ow (jS A7 n5 c7) hl F7), cnd (D 26) em (ow (jS A8 n5 c8) hl F8)] w ∧ (D 0 = true → V 0 = .bool lb) ∧ (D 1 = true → V 1 = .bool lb) ∧ (D 2 = true → V 2 = .bool false) ∧ (D 3 = true → V 3 = .bool false) ∧ (D 4 = true → V 4 = .agg #[jI jZ rl, jS A1 n1 c1]) ∧ (D 5 = true → V 5 = .agg #[jI jZ rl, jS A2 n1 c2]) ∧ (D 6 = true → V 6 = .bool true) ∧ (D 7 = true → V 7 = .bool false) ∧ (D 8 = true → V 8 = .bool false) ∧ (D 9 = true → V 9 = .bool false) ∧ (D 10 = true → V 10 = .bool fb) ∧ (D 11 = true → V 11 = .bool fb) ∧ (D 12 = true → V 12 = .bool false) ∧ (D 13 = true → V 13 = .bool false) ∧ (D 14 = true → V 14 = .bool false) ∧ (D 15 = true → V 15 = .agg #[jI jZ rf, jS A4 n3 c4]) ∧ (D 16 = true → V 16 = .agg #[jI jZ rf, jS A5 n3 c5]) ∧ (D 17 = true → V 17 = .bool true) ∧ (D 18 = true → V 18 = .bool false) ∧ (D 19 = true → V 19 = .bool false) ∧ (D 20 = true → V 20 = .bool false) ∧ (D 21 = true → V 21 = .agg #[jI jZ r3, jS A6 n4 c6]) ∧ (D 22 = true → V 22 = jI jZ k3) ∧ (D 23 = true → V 23 = jS A7 n5 c7) ∧ (D 24 = true → V 24 = .agg #[jI jZ r3, jS A6 n4 c6]) ∧ (D 25 = true → V 25 = jI jZ k3) ∧ (D 26 = true → V 26 = jS A8 n5 c8) ∧ (D 27 = true → V 27 = .bool true) ∧ (D 28 = true → V 28 = .bool false) ∧ (D 29 = true → V 29 = .bool false)) ?_ ?_ ?_
 · intro D hD
   have d23 := hD 23 (by decide)
   have d26 := hD 26 (by decide)
   exact ⟨none, 0, fun _ => False, none, 0, fun _ => False, by rw [cnd_f d23, cnd_f d26]; exact S.out.drew.ems 2, (nof (hD 0 (by decide))), (nof (hD 1 (by decide))), (nof (hD 2 (by decide))), (nof (hD 3 (by decide))), (nof (hD 4 (by decide))), (nof (hD 5 (by decide))), (nof (hD 6 (by decide))), (nof (hD 7 (by decide))), (nof (hD 8 (by decide))), (nof (hD 9 (by decide))), (nof (hD 10 (by decide))), (nof (hD 11 (by decide))), (nof (hD 12 (by decide))), (nof (hD 13 (by decide))), (nof (hD 14 (by decide))), (nof (hD 15 (by decide))), (nof (hD 16 (by decide))), (nof (hD 17 (by decide))), (nof (hD 18 (by decide))), (nof (hD 19 (by decide))), (nof (hD 20 (by decide))), (nof (hD 21 (by decide))), (nof (hD 22 (by decide))), (nof (hD 23 (by decide))), (nof (hD 24 (by decide))), (nof (hD 25 (by decide))), (nof (hD 26 (by decide))), (nof (hD 27 (by decide))), (nof (hD 28 (by decide))), (nof (hD 29 (by decide)))⟩
 · intro i o D V w a ho hI hDi haf hev
   obtain ⟨A7, c7, F7, A8, c8, F8, S, f0, f1, f2, f3, f4, f5, f6, f7, f8, f9, f10, f11, f12, f13, f14, f15, f16, f17, f18, f19, f20, f21, f22, f23, f24, f25, f26, f27, f28, f29⟩ := hI
   rcases i with _ | _ | _ | _ | _ | _ | _ | _ | _ | _ | _ | _ | _ | _ | _ | _ | _ | _ | _ | _ | _ | _ | _ | _ | _ | _ | _ | _ | _ | _ | i
   · obtain rfl := inj_ ho
     refine ⟨fun _ _ hq => (nomatch hq), ?_⟩
     exact op_move (.inl rfl) ((hev.old 7 (by kernel_rfl)).trans rfl) ⟨_, rfl, A7, c7, F7, A8, c8, F8, S, fun _ => rfl, f1, f2, f3, f4, f5, f6, f7, f8, f9, f10, f11, f12, f13, f14, f15, f16, f17, f18, f19, f20, f21, f22, f23, f24, f25, f26, f27, f28, f29⟩
   · obtain rfl := inj_ ho
     refine ⟨fun _ _ hq => (nomatch hq), ?_⟩
     exact op_move (.inl rfl) ((hev.old 9 (by kernel_rfl)).trans rfl) ⟨_, rfl, A7, c7, F7, A8, c8, F8, S, f0, fun _ => rfl, f2, f3, f4, f5, f6, f7, f8, f9, f10, f11, f12, f13, f14, f15, f16, f17, f18, f19, f20, f21, f22, f23, f24, f25, f26, f27, f28, f29⟩
   · obtain rfl := inj_ ho
     have h0 := after_on haf 0 rfl
     have h1 := after_on haf 1 rfl
     refine ⟨fun _ _ hq => (nomatch hq), ?_⟩
     exact op_neqBL _ _ rfl (hev.at_ 0 72 rfl rfl h0 f0) (hev.at_ 1 73 rfl rfl h1 f1) ⟨_, rfl, A7, c7, F7, A8, c8, F8, S, f0, f1, fun _ => rfl, f3, f4, f5, f6, f7, f8, f9, f10, f11, f12, f13, f14, f15, f16, f17, f18, f19, f20, f21, f22, f23, f24, f25, f26, f27, f28, f29⟩
   · obtain rfl := inj_ ho
     have h2 := after_on haf 2 rfl
     refine ⟨fun _ _ hq => (nomatch hq), ?_⟩
     exact op_move (.inl rfl) (hev.at_ 2 74 rfl rfl h2 f2) ⟨_, rfl, A7, c7, F7, A8, c8, F8, S, f0, f1, f2, fun _ => rfl, f4, f5, f6, f7, f8, f9, f10, f11, f12, f13, f14, f15, f16, f17, f18, f19, f20, f21, f22, f23, f24, f25, f26, f27, f28, f29⟩
   · obtain rfl := inj_ ho
     have h3 := after_on haf 3 rfl
     refine ⟨fun _ _ hq => by cases Option.some.inj hq; exact ⟨h3, f3 h3⟩, ?_⟩
     exact op_row 26 _ rfl S 10 rfl ((hev.old 6 (by kernel_rfl)).trans rfl) Tryz.isAgg26 (by kernel_rfl) ⟨_, rfl, A7, c7, F7, A8, c8, F8, S, f0, f1, f2, f3, fun _ => rfl, f5, f6, f7, f8, f9, f10, f11, f12, f13, f14, f15, f16, f17, f18, f19, f20, f21, f22, f23, f24, f25, f26, f27, f28, f29⟩
   · obtain rfl := inj_ ho
     have h3 := after_on haf 3 rfl
     refine ⟨fun _ _ hq => by cases Option.some.inj hq; exact ⟨h3, f3 h3⟩, ?_⟩
     exact op_row 26 _ rfl S 8 rfl ((hev.old 8 (by kernel_rfl)).trans rfl) Tryz.isAgg26 (by kernel_rfl) ⟨_, rfl, A7, c7, F7, A8, c8, F8, S, f0, f1, f2, f3, f4, fun _ => rfl, f6, f7, f8, f9, f10, f11, f12, f13, f14, f15, f16, f17, f18, f19, f20, f21, f22, f23, f24, f25, f26, f27, f28, f29⟩
   · obtain rfl := inj_ ho
     have h4 := after_on haf 4 rfl
     have h5 := after_on haf 5 rfl
     have h3 := after_on haf 3 rfl
     refine ⟨fun _ _ hq => by cases Option.some.inj hq; exact ⟨h3, f3 h3⟩, ?_⟩
     have hx0 := (hev.at_ 4 76 rfl rfl h4 f4)
     have hx1 := (hev.at_ 5 77 rfl rfl h5 f5)
     refine op_call _ _ _ rfl (enters_of Tryz.func12 (by kernel_rfl) rfl) #[.agg #[jI jZ rl, jS A1 n1 c1], .agg #[jI jZ rl, jS A2 n1 c2]] (by simp [hx0, hx1]) (likeT_yes rl xl A1 A2 n1 c1 c2 w (OwnS.rs (S.get 11 rfl) HX1.out) (OwnS.rs (S.get 9 rfl) HX1.out) SML.out) (fun e w2 hh => ?_)
     obtain ⟨rfl, b⟩ := hh
     exact ⟨_, rfl, ⟨_, rfl, A7, c7, F7, A8, c8, F8, S.call b, f0, f1, f2, f3, f4, f5, fun _ => rfl, f7, f8, f9, f10, f11, f12, f13, f14, f15, f16, f17, f18, f19, f20, f21, f22, f23, f24, f25, f26, f27, f28, f29⟩⟩
   · obtain rfl := inj_ ho
     have h6 := after_on haf 6 rfl
     have h3 := after_on haf 3 rfl
     refine ⟨fun _ _ hq => by cases Option.some.inj hq; exact ⟨h3, f3 h3⟩, ?_⟩
     exact op_not _ _ rfl (hev.at_ 6 78 rfl rfl h6 f6) ⟨_, rfl, A7, c7, F7, A8, c8, F8, S, f0, f1, f2, f3, f4, f5, f6, fun _ => rfl, f8, f9, f10, f11, f12, f13, f14, f15, f16, f17, f18, f19, f20, f21, f22, f23, f24, f25, f26, f27, f28, f29⟩
   · obtain rfl := inj_ ho
     have h3 := after_on haf 3 rfl
     have h7 := after_on haf 7 rfl
     refine ⟨fun _ _ hq => (nomatch hq), ?_⟩
     exact op_pick _ _ _ rfl (hev.at_ 3 75 rfl rfl h3 f3) ((hev.at_ 7 79 rfl rfl h7 f7)) ⟨_, rfl, A7, c7, F7, A8, c8, F8, S, f0, f1, f2, f3, f4, f5, f6, f7, fun _ => rfl, f9, f10, f11, f12, f13, f14, f15, f16, f17, f18, f19, f20, f21, f22, f23, f24, f25, f26, f27, f28, f29⟩
   · obtain rfl := inj_ ho
     have h8 := after_on haf 8 rfl
     refine ⟨fun _ _ hq => (nomatch hq), ?_⟩
     exact op_move (.inl rfl) (hev.at_ 8 80 rfl rfl h8 f8) ⟨_, rfl, A7, c7, F7, A8, c8, F8, S, f0, f1, f2, f3, f4, f5, f6, f7, f8, fun _ => rfl, f10, f11, f12, f13, f14, f15, f16, f17, f18, f19, f20, f21, f22, f23, f24, f25, f26, f27, f28, f29⟩
   · obtain rfl := inj_ ho
     have h9 := after_on haf 9 rfl
     refine ⟨fun _ _ hq => by cases Option.some.inj hq; exact ⟨h9, f9 h9⟩, ?_⟩
     exact op_move (.inl rfl) ((hev.old 14 (by kernel_rfl)).trans rfl) ⟨_, rfl, A7, c7, F7, A8, c8, F8, S, f0, f1, f2, f3, f4, f5, f6, f7, f8, f9, fun _ => rfl, f11, f12, f13, f14, f15, f16, f17, f18, f19, f20, f21, f22, f23, f24, f25, f26, f27, f28, f29⟩
   · obtain rfl := inj_ ho
     have h9 := after_on haf 9 rfl
     refine ⟨fun _ _ hq => by cases Option.some.inj hq; exact ⟨h9, f9 h9⟩, ?_⟩
     exact op_move (.inl rfl) ((hev.old 16 (by kernel_rfl)).trans rfl) ⟨_, rfl, A7, c7, F7, A8, c8, F8, S, f0, f1, f2, f3, f4, f5, f6, f7, f8, f9, f10, fun _ => rfl, f12, f13, f14, f15, f16, f17, f18, f19, f20, f21, f22, f23, f24, f25, f26, f27, f28, f29⟩
   · obtain rfl := inj_ ho
     have h10 := after_on haf 10 rfl
     have h11 := after_on haf 11 rfl
     have h9 := after_on haf 9 rfl
     refine ⟨fun _ _ hq => by cases Option.some.inj hq; exact ⟨h9, f9 h9⟩, ?_⟩
     exact op_neqBL _ _ rfl (hev.at_ 10 82 rfl rfl h10 f10) (hev.at_ 11 83 rfl rfl h11 f11) ⟨_, rfl, A7, c7, F7, A8, c8, F8, S, f0, f1, f2, f3, f4, f5, f6, f7, f8, f9, f10, f11, fun _ => rfl, f13, f14, f15, f16, f17, f18, f19, f20, f21, f22, f23, f24, f25, f26, f27, f28, f29⟩
   · obtain rfl := inj_ ho
     have h9 := after_on haf 9 rfl
     have h12 := after_on haf 12 rfl
     refine ⟨fun _ _ hq => (nomatch hq), ?_⟩
     exact op_pick _ _ _ rfl (hev.at_ 9 81 rfl rfl h9 f9) ((hev.at_ 12 84 rfl rfl h12 f12)) ⟨_, rfl, A7, c7, F7, A8, c8, F8, S, f0, f1, f2, f3, f4, f5, f6, f7, f8, f9, f10, f11, f12, fun _ => rfl, f14, f15, f16, f17, f18, f19, f20, f21, f22, f23, f24, f25, f26, f27, f28, f29⟩
   · obtain rfl := inj_ ho
     have h13 := after_on haf 13 rfl
     refine ⟨fun _ _ hq => (nomatch hq), ?_⟩
     exact op_move (.inl rfl) (hev.at_ 13 85 rfl rfl h13 f13) ⟨_, rfl, A7, c7, F7, A8, c8, F8, S, f0, f1, f2, f3, f4, f5, f6, f7, f8, f9, f10, f11, f12, f13, fun _ => rfl, f15, f16, f17, f18, f19, f20, f21, f22, f23, f24, f25, f26, f27, f28, f29⟩
   · obtain rfl := inj_ ho
     have h14 := after_on haf 14 rfl
     refine ⟨fun _ _ hq => by cases Option.some.inj hq; exact ⟨h14, f14 h14⟩, ?_⟩
     exact op_row 26 _ rfl S 4 rfl ((hev.old 13 (by kernel_rfl)).trans rfl) Tryz.isAgg26 (by kernel_rfl) ⟨_, rfl, A7, c7, F7, A8, c8, F8, S, f0, f1, f2, f3, f4, f5, f6, f7, f8, f9, f10, f11, f12, f13, f14, fun _ => rfl, f16, f17, f18, f19, f20, f21, f22, f23, f24, f25, f26, f27, f28, f29⟩
   · obtain rfl := inj_ ho
     have h14 := after_on haf 14 rfl
     refine ⟨fun _ _ hq => by cases Option.some.inj hq; exact ⟨h14, f14 h14⟩, ?_⟩
     exact op_row 26 _ rfl S 2 rfl ((hev.old 15 (by kernel_rfl)).trans rfl) Tryz.isAgg26 (by kernel_rfl) ⟨_, rfl, A7, c7, F7, A8, c8, F8, S, f0, f1, f2, f3, f4, f5, f6, f7, f8, f9, f10, f11, f12, f13, f14, f15, fun _ => rfl, f17, f18, f19, f20, f21, f22, f23, f24, f25, f26, f27, f28, f29⟩
   · obtain rfl := inj_ ho
     have h15 := after_on haf 15 rfl
     have h16 := after_on haf 16 rfl
     have h14 := after_on haf 14 rfl
     refine ⟨fun _ _ hq => by cases Option.some.inj hq; exact ⟨h14, f14 h14⟩, ?_⟩
     have hx0 := (hev.at_ 15 87 rfl rfl h15 f15)
     have hx1 := (hev.at_ 16 88 rfl rfl h16 f16)
     refine op_call _ _ _ rfl (enters_of Tryz.func12 (by kernel_rfl) rfl) #[.agg #[jI jZ rf, jS A4 n3 c4], .agg #[jI jZ rf, jS A5 n3 c5]] (by simp [hx0, hx1]) (likeT_yes rf xf A4 A5 n3 c4 c5 w (OwnS.rs (S.get 5 rfl) HX3.out) (OwnS.rs (S.get 3 rfl) HX3.out) SMF.out) (fun e w2 hh => ?_)
     obtain ⟨rfl, b⟩ := hh
     exact ⟨_, rfl, ⟨_, rfl, A7, c7, F7, A8, c8, F8, S.call b, f0, f1, f2, f3, f4, f5, f6, f7, f8, f9, f10, f11, f12, f13, f14, f15, f16, fun _ => rfl, f18, f19, f20, f21, f22, f23, f24, f25, f26, f27, f28, f29⟩⟩
   · obtain rfl := inj_ ho
     have h17 := after_on haf 17 rfl
     have h14 := after_on haf 14 rfl
     refine ⟨fun _ _ hq => by cases Option.some.inj hq; exact ⟨h14, f14 h14⟩, ?_⟩
     exact op_not _ _ rfl (hev.at_ 17 89 rfl rfl h17 f17) ⟨_, rfl, A7, c7, F7, A8, c8, F8, S, f0, f1, f2, f3, f4, f5, f6, f7, f8, f9, f10, f11, f12, f13, f14, f15, f16, f17, fun _ => rfl, f19, f20, f21, f22, f23, f24, f25, f26, f27, f28, f29⟩
   · obtain rfl := inj_ ho
     have h14 := after_on haf 14 rfl
     have h18 := after_on haf 18 rfl
     refine ⟨fun _ _ hq => (nomatch hq), ?_⟩
     exact op_pick _ _ _ rfl (hev.at_ 14 86 rfl rfl h14 f14) ((hev.at_ 18 90 rfl rfl h18 f18)) ⟨_, rfl, A7, c7, F7, A8, c8, F8, S, f0, f1, f2, f3, f4, f5, f6, f7, f8, f9, f10, f11, f12, f13, f14, f15, f16, f17, f18, fun _ => rfl, f20, f21, f22, f23, f24, f25, f26, f27, f28, f29⟩
   · obtain rfl := inj_ ho
     have h19 := after_on haf 19 rfl
     refine ⟨fun _ _ hq => (nomatch hq), ?_⟩
     exact op_move (.inl rfl) (hev.at_ 19 91 rfl rfl h19 f19) ⟨_, rfl, A7, c7, F7, A8, c8, F8, S, f0, f1, f2, f3, f4, f5, f6, f7, f8, f9, f10, f11, f12, f13, f14, f15, f16, f17, f18, f19, fun _ => rfl, f21, f22, f23, f24, f25, f26, f27, f28, f29⟩
   · obtain rfl := inj_ ho
     have h20 := after_on haf 20 rfl
     refine ⟨fun _ _ hq => by cases Option.some.inj hq; exact ⟨h20, f20 h20⟩, ?_⟩
     exact op_row 26 _ rfl S 0 rfl ((hev.old 17 (by kernel_rfl)).trans rfl) Tryz.isAgg26 (by kernel_rfl) ⟨_, rfl, A7, c7, F7, A8, c8, F8, S, f0, f1, f2, f3, f4, f5, f6, f7, f8, f9, f10, f11, f12, f13, f14, f15, f16, f17, f18, f19, f20, fun _ => rfl, f22, f23, f24, f25, f26, f27, f28, f29⟩
   · obtain rfl := inj_ ho
     have h20 := after_on haf 20 rfl
     refine ⟨fun _ _ hq => by cases Option.some.inj hq; exact ⟨h20, f20 h20⟩, ?_⟩
     exact op_move (.inl rfl) ((hev.old 18 (by kernel_rfl)).trans rfl) ⟨_, rfl, A7, c7, F7, A8, c8, F8, S, f0, f1, f2, f3, f4, f5, f6, f7, f8, f9, f10, f11, f12, f13, f14, f15, f16, f17, f18, f19, f20, f21, fun _ => rfl, f23, f24, f25, f26, f27, f28, f29⟩
   · obtain rfl := inj_ ho
     have h21 := after_on haf 21 rfl
     have h22 := after_on haf 22 rfl
     have h20 := after_on haf 20 rfl
     refine ⟨fun _ _ hq => by cases Option.some.inj hq; exact ⟨h20, f20 h20⟩, ?_⟩
     have hx0 := (hev.at_ 21 93 rfl rfl h21 f21)
     have hx1 := (hev.at_ 22 94 rfl rfl h22 f22)
     refine op_call _ _ _ rfl (enters_of Tryz.func14 (by kernel_rfl) rfl) #[.agg #[jI jZ r3, jS A6 n4 c6], jI jZ k3] (by simp [hx0, hx1]) (IHE.out w (OwnS.rs (S.get 1 rfl) HX4.out)) (fun e w2 hh => ?_)
     obtain ⟨A9, c9, F9, rfl, oo, ff, bb⟩ := hh
     have S2 := S.turn 14 (I := em) (by simp only [gs_, gz_, cnd_f hDi]) (Only.of_below bb) (ow (jS A9 n5 c9) hl F9) oo (fun k hk => ⟨.inr (ff k hk).1, (ff k hk).2⟩)
     exact ⟨_, rfl, ⟨_, rfl, A9, c9, F9, A8, c8, F8, S2, f0, f1, f2, f3, f4, f5, f6, f7, f8, f9, f10, f11, f12, f13, f14, f15, f16, f17, f18, f19, f20, f21, f22, fun _ => rfl, f24, f25, f26, f27, f28, f29⟩⟩
   · obtain rfl := inj_ ho
     have h20 := after_on haf 20 rfl
     refine ⟨fun _ _ hq => by cases Option.some.inj hq; exact ⟨h20, f20 h20⟩, ?_⟩
     exact op_row 26 _ rfl S 0 rfl ((hev.old 17 (by kernel_rfl)).trans rfl) Tryz.isAgg26 (by kernel_rfl) ⟨_, rfl, A7, c7, F7, A8, c8, F8, S, f0, f1, f2, f3, f4, f5, f6, f7, f8, f9, f10, f11, f12, f13, f14, f15, f16, f17, f18, f19, f20, f21, f22, f23, fun _ => rfl, f25, f26, f27, f28, f29⟩
   · obtain rfl := inj_ ho
     have h20 := after_on haf 20 rfl
     refine ⟨fun _ _ hq => by cases Option.some.inj hq; exact ⟨h20, f20 h20⟩, ?_⟩
     exact op_move (.inl rfl) ((hev.old 18 (by kernel_rfl)).trans rfl) ⟨_, rfl, A7, c7, F7, A8, c8, F8, S, f0, f1, f2, f3, f4, f5, f6, f7, f8, f9, f10, f11, f12, f13, f14, f15, f16, f17, f18, f19, f20, f21, f22, f23, f24, fun _ => rfl, f26, f27, f28, f29⟩
   · obtain rfl := inj_ ho
     have h24 := after_on haf 24 rfl
     have h25 := after_on haf 25 rfl
     have h20 := after_on haf 20 rfl
     refine ⟨fun _ _ hq => by cases Option.some.inj hq; exact ⟨h20, f20 h20⟩, ?_⟩
     have hx0 := (hev.at_ 24 96 rfl rfl h24 f24)
     have hx1 := (hev.at_ 25 97 rfl rfl h25 f25)
     refine op_call _ _ _ rfl (enters_of Tryz.func15 (by kernel_rfl) rfl) #[.agg #[jI jZ r3, jS A6 n4 c6], jI jZ k3] (by simp [hx0, hx1]) (SHE.out w (OwnS.rs (S.get 1 rfl) HX4.out)) (fun e w2 hh => ?_)
     obtain ⟨A9, c9, F9, rfl, oo, ff, bb⟩ := hh
     have S2 := S.turn 15 (I := em) (by simp only [gs_, gz_, cnd_f hDi]) (Only.of_below bb) (ow (jS A9 n5 c9) hl F9) oo (fun k hk => ⟨.inr (ff k hk).1, (ff k hk).2⟩)
     exact ⟨_, rfl, ⟨_, rfl, A7, c7, F7, A9, c9, F9, S2, f0, f1, f2, f3, f4, f5, f6, f7, f8, f9, f10, f11, f12, f13, f14, f15, f16, f17, f18, f19, f20, f21, f22, f23, f24, f25, fun _ => rfl, f27, f28, f29⟩⟩
   · obtain rfl := inj_ ho
     have h23 := after_on haf 23 rfl
     have h26 := after_on haf 26 rfl
     have h20 := after_on haf 20 rfl
     refine ⟨fun _ _ hq => by cases Option.some.inj hq; exact ⟨h20, f20 h20⟩, ?_⟩
     have hx0 := (hev.at_ 23 95 rfl rfl h23 f23)
     have hx1 := (hev.at_ 26 98 rfl rfl h26 f26)
     refine op_call _ _ _ rfl (enters_of Tryz.func13 (by kernel_rfl) rfl) #[jS A7 n5 c7, jS A8 n5 c8] (by simp [hx0, hx1]) (likeI_yes A7 A8 n5 c7 c8 hl w (OwnS.rs (S.get 14 (I := ow (jS A7 n5 c7) hl F7) (by simp only [gs_, gz_, cnd_t h23])) HX5.out) (OwnS.rs (S.get 15 (I := ow (jS A8 n5 c8) hl F8) (by simp only [gs_, gz_, cnd_t h26])) HX5.out) SMH.out) (fun e w2 hh => ?_)
     obtain ⟨rfl, b⟩ := hh
     exact ⟨_, rfl, ⟨_, rfl, A7, c7, F7, A8, c8, F8, S.call b, f0, f1, f2, f3, f4, f5, f6, f7, f8, f9, f10, f11, f12, f13, f14, f15, f16, f17, f18, f19, f20, f21, f22, f23, f24, f25, f26, fun _ => rfl, f28, f29⟩⟩
   · obtain rfl := inj_ ho
     have h27 := after_on haf 27 rfl
     have h20 := after_on haf 20 rfl
     refine ⟨fun _ _ hq => by cases Option.some.inj hq; exact ⟨h20, f20 h20⟩, ?_⟩
     exact op_not _ _ rfl (hev.at_ 27 99 rfl rfl h27 f27) ⟨_, rfl, A7, c7, F7, A8, c8, F8, S, f0, f1, f2, f3, f4, f5, f6, f7, f8, f9, f10, f11, f12, f13, f14, f15, f16, f17, f18, f19, f20, f21, f22, f23, f24, f25, f26, f27, fun _ => rfl, f29⟩
   · obtain rfl := inj_ ho
     have h20 := after_on haf 20 rfl
     have h28 := after_on haf 28 rfl
     refine ⟨fun _ _ hq => (nomatch hq), ?_⟩
     exact op_pick _ _ _ rfl (hev.at_ 20 92 rfl rfl h20 f20) ((hev.at_ 28 100 rfl rfl h28 f28)) ⟨_, rfl, A7, c7, F7, A8, c8, F8, S, f0, f1, f2, f3, f4, f5, f6, f7, f8, f9, f10, f11, f12, f13, f14, f15, f16, f17, f18, f19, f20, f21, f22, f23, f24, f25, f26, f27, f28, fun _ => rfl⟩
   · exact absurd ho (by simp)
 intro V w hI
 obtain ⟨A7, c7, F7, A8, c8, F8, S, f0, f1, f2, f3, f4, f5, f6, f7, f8, f9, f10, f11, f12, f13, f14, f15, f16, f17, f18, f19, f20, f21, f22, f23, f24, f25, f26, f27, f28, f29⟩ := hI
 replace S : Hid (Sep noX w0 [bx g17 #[jI jZ r3, jS A6 n4 c6] 26, ow (jS A6 n4 c6) xs3 F6, bx g15 #[jI jZ rf, jS A5 n3 c5] 26, ow (jS A5 n3 c5) xf F5, bx g13 #[jI jZ rf, jS A4 n3 c4] 26, ow (jS A4 n3 c4) xf F4, bx g10 #[jI jZ r2, jS A3 n2 c3] 26, ow (jS A3 n2 c3) xs2 F3, bx g8 #[jI jZ rl, jS A2 n1 c2] 26, ow (jS A2 n1 c2) xl F2, bx g6 #[jI jZ rl, jS A1 n1 c1] 26, ow (jS A1 n1 c1) xl F1, bx g3 #[jI jZ r, jS A0 n0 c0] 26, ow (jS A0 n0 c0) xs F0, ow (jS A7 n5 c7) hl F7, ow (jS A8 n5 c8) hl F8] w) := Lib.hid S
 simp only [putF, Act.put, sa_, sb_, sc_, f0 rfl, f1 rfl, f2 rfl, f3 rfl, f4 rfl, f5 rfl, f6 rfl, f7 rfl, f8 rfl, f9 rfl, f10 rfl, f11 rfl, f12 rfl, f13 rfl, f14 rfl, f15 rfl, f16 rfl, f17 rfl, f18 rfl, f19 rfl, f20 rfl, f21 rfl, f22 rfl, f23 rfl, f24 rfl, f25 rfl, f26 rfl, f27 rfl, f28 rfl, f29 rfl]
 clear f0 f1 f2 f3 f4 f5 f6 f7 f8 f9 f10 f11 f12 f13 f14 f15 f16 f17 f18 f19 f20 f21 f22 f23 f24 f25 f26 f27 f28 f29
 replace S : Hid (Sep noX w0 [bx g17 #[jI jZ r3, jS A6 n4 c6] 26, ow (jS A6 n4 c6) xs3 F6, bx g15 #[jI jZ rf, jS A5 n3 c5] 26, ow (jS A5 n3 c5) xf F5, bx g13 #[jI jZ rf, jS A4 n3 c4] 26, ow (jS A4 n3 c4) xf F4, bx g10 #[jI jZ r2, jS A3 n2 c3] 26, ow (jS A3 n2 c3) xs2 F3, bx g8 #[jI jZ rl, jS A2 n1 c2] 26, ow (jS A2 n1 c2) xl F2, bx g6 #[jI jZ rl, jS A1 n1 c1] 26, ow (jS A1 n1 c1) xl F1, bx g3 #[jI jZ r, jS A0 n0 c0] 26, ow (jS A0 n0 c0) xs F0] w) := Lib.hid (S.out.drop (List.sublist_append_left [bx g17 #[jI jZ r3, jS A6 n4 c6] 26, ow (jS A6 n4 c6) xs3 F6, bx g15 #[jI jZ rf, jS A5 n3 c5] 26, ow (jS A5 n3 c5) xf F5, bx g13 #[jI jZ rf, jS A4 n3 c4] 26, ow (jS A4 n3 c4) xf F4, bx g10 #[jI jZ r2, jS A3 n2 c3] 26, ow (jS A3 n2 c3) xs2 F3, bx g8 #[jI jZ rl, jS A2 n1 c2] 26, ow (jS A2 n1 c2) xl F2, bx g6 #[jI jZ rl, jS A1 n1 c1] 26, ow (jS A1 n1 c1) xl F1, bx g3 #[jI jZ r, jS A0 n0 c0] 26, ow (jS A0 n0 c0) xs F0] _))
 cases lb
 · go_wp2_with fail
   go_ret
   exact ⟨rfl, S.out.below⟩
 · obtain ⟨e1, e2, e3, e4, e5, e6, e7, e8⟩ := HFC.out rfl
   obtain ⟨k1, k2⟩ := HTK.out rfl
   subst e1
   have hsl := SML.out
   have ILX := Lib.hid (fun w h => iLatched_any rl xl A1 n1 c1 at_ task w h hsl CAP1.out.1 CAP1.out.2 wf0.out)
   have IFX := Lib.hid (fun y w h => iFreed_any rl xl A1 n1 c1 at_ y w h hsl CAP1.out.1 CAP1.out.2 wf0.out)
   have IHX := Lib.hid (fun w h => iHeldBy_any rl xl A1 n1 c1 task w h hsl CAP1.out.1 CAP1.out.2)
   have IFB := Lib.hid (fun w h => iFreed_any rl xl A1 n1 c1 at_ task w h hsl CAP1.out.1 CAP1.out.2 wf0.out)
   rw [e3] at ILX
   rw [e5, e6, e7] at IFB
   simp only [HX.out] at IFB
   have IFO := Lib.hid (IFX.out ((task + 1) % 6))
   rw [e4] at IFO
   generalize freedR rl xl at_ ((task + 1) % 6) = r5 at IFO
   generalize freedX rl xl at_ ((task + 1) % 6) = x5 at IFO
   generalize latchedR rl xl at_ task = r4 at ILX
   generalize latchedX rl xl at_ task = x4 at ILX
   generalize hq1 : heldT rl xl task = ht1 at *
   generalize hq2 : ht1.length = nh1 at *
   have HQ2 := Lib.hid hq2
   have hw : IntKind.i64.wrap ((nh0 : Int) + 1) = (nh1 : Int) := by rw [IntKind.wrap_i64]; have := HH0.out; have := HS0.out; omega
   have WR := Lib.hid hw
   replace S : Hid (Sep noX w0 [bx g6 #[jI jZ rl, jS A1 n1 c1] 26, ow (jS A1 n1 c1) xl F1, bx g3 #[jI jZ rl, jS A0 n0 c0] 26, ow (jS A0 n0 c0) xs F0] w) := Lib.hid (S.out.drop (List.sublist_append_right [bx g17 #[jI jZ r3, jS A6 n4 c6] 26, ow (jS A6 n4 c6) xs3 F6, bx g15 #[jI jZ rf, jS A5 n3 c5] 26, ow (jS A5 n3 c5) xf F5, bx g13 #[jI jZ rf, jS A4 n3 c4] 26, ow (jS A4 n3 c4) xf F4, bx g10 #[jI jZ r2, jS A3 n2 c3] 26, ow (jS A3 n2 c3) xs2 F3, bx g8 #[jI jZ rl, jS A2 n1 c2] 26, ow (jS A2 n1 c2) xl F2] _))
   clear e2 e3 e4 e5 e6 e7 e8 hq1 hq2 hw hsl
   go_wp2_with (first
       | go_skip
       | (refine wpList_op rfl (op_row 26 _ rfl S.out 0 rfl rfl Tryz.isAgg26 (by kernel_rfl) ?_); simp only [Act.put, sa_, sb_, sc_]))
   refine (ILX.out _ (OwnS.rs (S.out.get 1 rfl) HX1.out)).mono ?_
   rintro e w1 ⟨A9, c9, F9, rfl, ho, hf, b⟩
   replace S := Lib.hid (S.out.own b ho hf)
   clear ho hf b
   have tok_g19 : True := trivial
   go_wp2_with (first
       | go_skip
       | (have _t := tok_g19; clear _t; refine wpList_op rfl (op_nx 26 rfl S.out _ Tryz.zeroValue26 ?_); clear S tok_g19; intro g19 w S; replace S := Lib.hid S; simp only [Act.put, sa_, sb_, sc_])
       | (refine wpList_op rfl (op_putR_0 26 _ _ rfl S rfl _ rfl rfl (by kernel_rfl) rfl ?_); clear S; intro w S; simp only [Act.put])
       | (refine wpList_op rfl (op_row 26 _ rfl S.out 2 rfl rfl Tryz.isAgg26 (by kernel_rfl) ?_); simp only [Act.put, sa_, sb_, sc_]))
   refine (IFO.out _ (OwnS.rs (S.out.get 3 rfl) HX1.out)).mono ?_
   rintro e w1 ⟨B1, d1, H1, rfl, ho, hf, b⟩
   replace S := Lib.hid (S.out.own b ho hf)
   clear ho hf b
   have tok_g21 : True := trivial
   go_wp2_with (first
       | go_skip
       | (have _t := tok_g21; clear _t; refine wpList_op rfl (op_nx 26 rfl S.out _ Tryz.zeroValue26 ?_); clear S tok_g21; intro g21 w S; replace S := Lib.hid S; simp only [Act.put, sa_, sb_, sc_])
       | (refine wpList_op rfl (op_putR_0 26 _ _ rfl S rfl _ rfl rfl (by kernel_rfl) rfl ?_); clear S; intro w S; simp only [Act.put])
       | (refine wpList_op rfl (op_row 26 _ rfl S.out 4 rfl rfl Tryz.isAgg26 (by kernel_rfl) ?_); simp only [Act.put, sa_, sb_, sc_]))
   refine (IFB.out _ (OwnS.rs (S.out.get 5 rfl) HX1.out)).mono ?_
   rintro e w1 ⟨B2, d2, H2, rfl, ho, hf, b⟩
   replace S := Lib.hid (S.out.own b ho hf)
   clear ho hf b
   have tok_g23 : True := trivial
   go_wp2_with (first
       | go_skip
       | (have _t := tok_g23; clear _t; refine wpList_op rfl (op_nx 26 rfl S.out _ Tryz.zeroValue26 ?_); clear S tok_g23; intro g23 w S; replace S := Lib.hid S; simp only [Act.put, sa_, sb_, sc_])
       | (refine wpList_op rfl (op_putR_0 26 _ _ rfl S rfl _ rfl rfl (by kernel_rfl) rfl ?_); clear S; intro w S; simp only [Act.put]))
   refine wp_region_evg (by kernel_rfl) _ (by kernel_rfl) (by kernel_rfl) 153 rfl (by kernel_rfl) (fun D V w => ∃ B3 : Option Addr, ∃ d3 : Nat, ∃ H3 : FP, ∃ B4 : Option Addr, ∃ d4 : Nat, ∃ H4 : FP, Sep noX w0 [bx g23 #[jI jZ rl, jS B2 n0 d2] 26, ow (jS B2 n0 d2) xs H2, bx g21 #[jI jZ r5, jS B1 x5.length d1] 26, ow (jS B1 x5.length d1) x5 H1, bx g19 #[jI jZ r4, jS A9 x4.length c9] 26, ow (jS A9 x4.length c9) x4 F9, bx g6 #[jI jZ rl, jS A1 n1 c1] 26, ow (jS A1 n1 c1) xl F1, bx g3 #[jI jZ rl, jS A0 n0 c0] 26, ow (jS A0 n0 c0) xs F0, cnd (D 17) em (ow (jS B3 nh1 d3) ht1 H3), cnd (D 21) em (ow (jS B4 nh0 d4) ht0 H4)] w ∧ (D 0 = true → V 0 = .bool false) ∧ (D 1 = true → V 1 = .bool true) ∧ (D 2 = true → V 2 = .bool true) ∧ (D 3 = true → V 3 = .bool false) ∧ (D 4 = true → V 4 = .bool true) ∧ (D 5 = true → V 5 = .bool true) ∧ (D 6 = true → V 6 = .bool true) ∧ (D 7 = true → V 7 = .bool true) ∧ (D 8 = true → V 8 = .bool true) ∧ (D 9 = true → V 9 = .bool true) ∧ (D 10 = true → V 10 = .agg #[jI jZ rl, jS B2 n0 d2]) ∧ (D 11 = true → V 11 = .agg #[jI jZ rl, jS A0 n0 c0]) ∧ (D 12 = true → V 12 = .bool true) ∧ (D 13 = true → V 13 = .bool true) ∧ (D 14 = true → V 14 = .bool true) ∧ (D 15 = true → V 15 = .agg #[jI jZ rl, jS A1 n1 c1]) ∧ (D 16 = true → V 16 = jI jZ task) ∧ (D 17 = true → V 17 = jS B3 nh1 d3) ∧ (D 18 = true → V 18 = jI jZ nh1) ∧ (D 19 = true → V 19 = .agg #[jI jZ rl, jS A0 n0 c0]) ∧ (D 20 = true → V 20 = jI jZ task) ∧ (D 21 = true → V 21 = jS B4 nh0 d4) ∧ (D 22 = true → V 22 = jI jZ nh0) ∧ (D 23 = true → V 23 = jI jZ nh1) ∧ (D 24 = true → V 24 = .bool true) ∧ (D 25 = true → V 25 = .bool true) ∧ (D 26 = true → V 26 = .bool true)) ?_ ?_ ?_
   · intro D hD
     have d17 := hD 17 (by decide)
     have d21 := hD 21 (by decide)
     exact ⟨none, 0, fun _ => False, none, 0, fun _ => False, by rw [cnd_f d17, cnd_f d21]; exact S.out.drew.ems 2, (nof (hD 0 (by decide))), (nof (hD 1 (by decide))), (nof (hD 2 (by decide))), (nof (hD 3 (by decide))), (nof (hD 4 (by decide))), (nof (hD 5 (by decide))), (nof (hD 6 (by decide))), (nof (hD 7 (by decide))), (nof (hD 8 (by decide))), (nof (hD 9 (by decide))), (nof (hD 10 (by decide))), (nof (hD 11 (by decide))), (nof (hD 12 (by decide))), (nof (hD 13 (by decide))), (nof (hD 14 (by decide))), (nof (hD 15 (by decide))), (nof (hD 16 (by decide))), (nof (hD 17 (by decide))), (nof (hD 18 (by decide))), (nof (hD 19 (by decide))), (nof (hD 20 (by decide))), (nof (hD 21 (by decide))), (nof (hD 22 (by decide))), (nof (hD 23 (by decide))), (nof (hD 24 (by decide))), (nof (hD 25 (by decide))), (nof (hD 26 (by decide)))⟩
   · intro i o D V w a ho hI hDi haf hev
     obtain ⟨B3, d3, H3, B4, d4, H4, S, f0, f1, f2, f3, f4, f5, f6, f7, f8, f9, f10, f11, f12, f13, f14, f15, f16, f17, f18, f19, f20, f21, f22, f23, f24, f25, f26⟩ := hI
     rcases i with _ | _ | _ | _ | _ | _ | _ | _ | _ | _ | _ | _ | _ | _ | _ | _ | _ | _ | _ | _ | _ | _ | _ | _ | _ | _ | _ | i
     · obtain rfl := inj_ ho
       refine ⟨fun _ _ hq => (nomatch hq), ?_⟩
       exact op_move (.inl rfl) ((hev.old 20 (by kernel_rfl)).trans rfl) ⟨_, rfl, B3, d3, H3, B4, d4, H4, S, fun _ => rfl, f1, f2, f3, f4, f5, f6, f7, f8, f9, f10, f11, f12, f13, f14, f15, f16, f17, f18, f19, f20, f21, f22, f23, f24, f25, f26⟩
     · obtain rfl := inj_ ho
       have h0 := after_on haf 0 rfl
       refine ⟨fun _ _ hq => (nomatch hq), ?_⟩
       exact op_not _ _ rfl (hev.at_ 0 127 rfl rfl h0 f0) ⟨_, rfl, B3, d3, H3, B4, d4, H4, S, f0, fun _ => rfl, f2, f3, f4, f5, f6, f7, f8, f9, f10, f11, f12, f13, f14, f15, f16, f17, f18, f19, f20, f21, f22, f23, f24, f25, f26⟩
     · obtain rfl := inj_ ho
       have h1 := after_on haf 1 rfl
       refine ⟨fun _ _ hq => (nomatch hq), ?_⟩
       exact op_move (.inl rfl) (hev.at_ 1 128 rfl rfl h1 f1) ⟨_, rfl, B3, d3, H3, B4, d4, H4, S, f0, f1, fun _ => rfl, f3, f4, f5, f6, f7, f8, f9, f10, f11, f12, f13, f14, f15, f16, f17, f18, f19, f20, f21, f22, f23, f24, f25, f26⟩
     · obtain rfl := inj_ ho
       have h2 := after_on haf 2 rfl
       refine ⟨fun _ _ hq => by cases Option.some.inj hq; exact ⟨h2, f2 h2⟩, ?_⟩
       exact op_move (.inl rfl) ((hev.old 22 (by kernel_rfl)).trans rfl) ⟨_, rfl, B3, d3, H3, B4, d4, H4, S, f0, f1, f2, fun _ => rfl, f4, f5, f6, f7, f8, f9, f10, f11, f12, f13, f14, f15, f16, f17, f18, f19, f20, f21, f22, f23, f24, f25, f26⟩
     · obtain rfl := inj_ ho
       have h3 := after_on haf 3 rfl
       have h2 := after_on haf 2 rfl
       refine ⟨fun _ _ hq => by cases Option.some.inj hq; exact ⟨h2, f2 h2⟩, ?_⟩
       exact op_not _ _ rfl (hev.at_ 3 130 rfl rfl h3 f3) ⟨_, rfl, B3, d3, H3, B4, d4, H4, S, f0, f1, f2, f3, fun _ => rfl, f5, f6, f7, f8, f9, f10, f11, f12, f13, f14, f15, f16, f17, f18, f19, f20, f21, f22, f23, f24, f25, f26⟩
     · obtain rfl := inj_ ho
       have h2 := after_on haf 2 rfl
       have h4 := after_on haf 4 rfl
       refine ⟨fun _ _ hq => (nomatch hq), ?_⟩
       exact op_pick _ _ _ rfl (hev.at_ 2 129 rfl rfl h2 f2) ((hev.at_ 4 131 rfl rfl h4 f4)) ⟨_, rfl, B3, d3, H3, B4, d4, H4, S, f0, f1, f2, f3, f4, fun _ => rfl, f6, f7, f8, f9, f10, f11, f12, f13, f14, f15, f16, f17, f18, f19, f20, f21, f22, f23, f24, f25, f26⟩
     · obtain rfl := inj_ ho
       have h5 := after_on haf 5 rfl
       refine ⟨fun _ _ hq => (nomatch hq), ?_⟩
       exact op_move (.inl rfl) (hev.at_ 5 132 rfl rfl h5 f5) ⟨_, rfl, B3, d3, H3, B4, d4, H4, S, f0, f1, f2, f3, f4, f5, fun _ => rfl, f7, f8, f9, f10, f11, f12, f13, f14, f15, f16, f17, f18, f19, f20, f21, f22, f23, f24, f25, f26⟩
     · obtain rfl := inj_ ho
       have h6 := after_on haf 6 rfl
       refine ⟨fun _ _ hq => by cases Option.some.inj hq; exact ⟨h6, f6 h6⟩, ?_⟩
       exact op_move (.inl rfl) ((hev.old 24 (by kernel_rfl)).trans rfl) ⟨_, rfl, B3, d3, H3, B4, d4, H4, S, f0, f1, f2, f3, f4, f5, f6, fun _ => rfl, f8, f9, f10, f11, f12, f13, f14, f15, f16, f17, f18, f19, f20, f21, f22, f23, f24, f25, f26⟩
     · obtain rfl := inj_ ho
       have h6 := after_on haf 6 rfl
       have h7 := after_on haf 7 rfl
       refine ⟨fun _ _ hq => (nomatch hq), ?_⟩
       exact op_pick _ _ _ rfl (hev.at_ 6 133 rfl rfl h6 f6) ((hev.at_ 7 134 rfl rfl h7 f7)) ⟨_, rfl, B3, d3, H3, B4, d4, H4, S, f0, f1, f2, f3, f4, f5, f6, f7, fun _ => rfl, f9, f10, f11, f12, f13, f14, f15, f16, f17, f18, f19, f20, f21, f22, f23, f24, f25, f26⟩
     · obtain rfl := inj_ ho
       have h8 := after_on haf 8 rfl
       refine ⟨fun _ _ hq => (nomatch hq), ?_⟩
       exact op_move (.inl rfl) (hev.at_ 8 135 rfl rfl h8 f8) ⟨_, rfl, B3, d3, H3, B4, d4, H4, S, f0, f1, f2, f3, f4, f5, f6, f7, f8, fun _ => rfl, f10, f11, f12, f13, f14, f15, f16, f17, f18, f19, f20, f21, f22, f23, f24, f25, f26⟩
     · obtain rfl := inj_ ho
       have h9 := after_on haf 9 rfl
       refine ⟨fun _ _ hq => by cases Option.some.inj hq; exact ⟨h9, f9 h9⟩, ?_⟩
       exact op_row 26 _ rfl S 0 rfl ((hev.old 23 (by kernel_rfl)).trans rfl) Tryz.isAgg26 (by kernel_rfl) ⟨_, rfl, B3, d3, H3, B4, d4, H4, S, f0, f1, f2, f3, f4, f5, f6, f7, f8, f9, fun _ => rfl, f11, f12, f13, f14, f15, f16, f17, f18, f19, f20, f21, f22, f23, f24, f25, f26⟩
     · obtain rfl := inj_ ho
       have h9 := after_on haf 9 rfl
       refine ⟨fun _ _ hq => by cases Option.some.inj hq; exact ⟨h9, f9 h9⟩, ?_⟩
       exact op_row 26 _ rfl S 8 rfl ((hev.old 3 (by kernel_rfl)).trans rfl) Tryz.isAgg26 (by kernel_rfl) ⟨_, rfl, B3, d3, H3, B4, d4, H4, S, f0, f1, f2, f3, f4, f5, f6, f7, f8, f9, f10, fun _ => rfl, f12, f13, f14, f15, f16, f17, f18, f19, f20, f21, f22, f23, f24, f25, f26⟩
     · obtain rfl := inj_ ho
       have h10 := after_on haf 10 rfl
       have h11 := after_on haf 11 rfl
       have h9 := after_on haf 9 rfl
       refine ⟨fun _ _ hq => by cases Option.some.inj hq; exact ⟨h9, f9 h9⟩, ?_⟩
       have hx0 := (hev.at_ 10 137 rfl rfl h10 f10)
       have hx1 := (hev.at_ 11 138 rfl rfl h11 f11)
       refine op_call _ _ _ rfl (enters_of Tryz.func12 (by kernel_rfl) rfl) #[.agg #[jI jZ rl, jS B2 n0 d2], .agg #[jI jZ rl, jS A0 n0 c0]] (by simp [hx0, hx1]) (likeT_yes rl xs B2 A0 n0 d2 c0 w (OwnS.rs (S.get 1 rfl) HX.out) (OwnS.rs (S.get 9 rfl) HX.out) HSM.out) (fun e w2 hh => ?_)
       obtain ⟨rfl, b⟩ := hh
       exact ⟨_, rfl, ⟨_, rfl, B3, d3, H3, B4, d4, H4, S.call b, f0, f1, f2, f3, f4, f5, f6, f7, f8, f9, f10, f11, fun _ => rfl, f13, f14, f15, f16, f17, f18, f19, f20, f21, f22, f23, f24, f25, f26⟩⟩
     · obtain rfl := inj_ ho
       have h9 := after_on haf 9 rfl
       have h12 := after_on haf 12 rfl
       refine ⟨fun _ _ hq => (nomatch hq), ?_⟩
       exact op_pick _ _ _ rfl (hev.at_ 9 136 rfl rfl h9 f9) ((hev.at_ 12 139 rfl rfl h12 f12)) ⟨_, rfl, B3, d3, H3, B4, d4, H4, S, f0, f1, f2, f3, f4, f5, f6, f7, f8, f9, f10, f11, f12, fun _ => rfl, f14, f15, f16, f17, f18, f19, f20, f21, f22, f23, f24, f25, f26⟩
     · obtain rfl := inj_ ho
       have h13 := after_on haf 13 rfl
       refine ⟨fun _ _ hq => (nomatch hq), ?_⟩
       exact op_move (.inl rfl) (hev.at_ 13 140 rfl rfl h13 f13) ⟨_, rfl, B3, d3, H3, B4, d4, H4, S, f0, f1, f2, f3, f4, f5, f6, f7, f8, f9, f10, f11, f12, f13, fun _ => rfl, f15, f16, f17, f18, f19, f20, f21, f22, f23, f24, f25, f26⟩
     · obtain rfl := inj_ ho
       have h14 := after_on haf 14 rfl
       refine ⟨fun _ _ hq => by cases Option.some.inj hq; exact ⟨h14, f14 h14⟩, ?_⟩
       exact op_row 26 _ rfl S 6 rfl ((hev.old 6 (by kernel_rfl)).trans rfl) Tryz.isAgg26 (by kernel_rfl) ⟨_, rfl, B3, d3, H3, B4, d4, H4, S, f0, f1, f2, f3, f4, f5, f6, f7, f8, f9, f10, f11, f12, f13, f14, fun _ => rfl, f16, f17, f18, f19, f20, f21, f22, f23, f24, f25, f26⟩
     · obtain rfl := inj_ ho
       have h14 := after_on haf 14 rfl
       refine ⟨fun _ _ hq => by cases Option.some.inj hq; exact ⟨h14, f14 h14⟩, ?_⟩
       exact op_move (.inl rfl) ((hev.old 5 (by kernel_rfl)).trans rfl) ⟨_, rfl, B3, d3, H3, B4, d4, H4, S, f0, f1, f2, f3, f4, f5, f6, f7, f8, f9, f10, f11, f12, f13, f14, f15, fun _ => rfl, f17, f18, f19, f20, f21, f22, f23, f24, f25, f26⟩
     · obtain rfl := inj_ ho
       have h15 := after_on haf 15 rfl
       have h16 := after_on haf 16 rfl
       have h14 := after_on haf 14 rfl
       refine ⟨fun _ _ hq => by cases Option.some.inj hq; exact ⟨h14, f14 h14⟩, ?_⟩
       have hx0 := (hev.at_ 15 142 rfl rfl h15 f15)
       have hx1 := (hev.at_ 16 143 rfl rfl h16 f16)
       refine op_call _ _ _ rfl (enters_of Tryz.func14 (by kernel_rfl) rfl) #[.agg #[jI jZ rl, jS A1 n1 c1], jI jZ task] (by simp [hx0, hx1]) (IHX.out w (OwnS.rs (S.get 7 rfl) HX1.out)) (fun e w2 hh => ?_)
       obtain ⟨A9, c9, F9, rfl, oo, ff, bb⟩ := hh
       have S2 := S.turn 10 (I := em) (by simp only [gs_, gz_, cnd_f hDi]) (Only.of_below bb) (ow (jS A9 nh1 c9) ht1 F9) oo (fun k hk => ⟨.inr (ff k hk).1, (ff k hk).2⟩)
       exact ⟨_, rfl, ⟨_, rfl, A9, c9, F9, B4, d4, H4, S2, f0, f1, f2, f3, f4, f5, f6, f7, f8, f9, f10, f11, f12, f13, f14, f15, f16, fun _ => rfl, f18, f19, f20, f21, f22, f23, f24, f25, f26⟩⟩
     · obtain rfl := inj_ ho
       have h17 := after_on haf 17 rfl
       have h14 := after_on haf 14 rfl
       refine ⟨fun _ _ hq => by cases Option.some.inj hq; exact ⟨h14, f14 h14⟩, ?_⟩
       exact op_lenN _ _ _ rfl Tryz.underlying35 (hev.at_ 17 144 rfl rfl h17 f17) ⟨_, rfl, B3, d3, H3, B4, d4, H4, S, f0, f1, f2, f3, f4, f5, f6, f7, f8, f9, f10, f11, f12, f13, f14, f15, f16, f17, fun _ => rfl, f19, f20, f21, f22, f23, f24, f25, f26⟩
     · obtain rfl := inj_ ho
       have h14 := after_on haf 14 rfl
       refine ⟨fun _ _ hq => by cases Option.some.inj hq; exact ⟨h14, f14 h14⟩, ?_⟩
       exact op_row 26 _ rfl S 8 rfl ((hev.old 3 (by kernel_rfl)).trans rfl) Tryz.isAgg26 (by kernel_rfl) ⟨_, rfl, B3, d3, H3, B4, d4, H4, S, f0, f1, f2, f3, f4, f5, f6, f7, f8, f9, f10, f11, f12, f13, f14, f15, f16, f17, f18, fun _ => rfl, f20, f21, f22, f23, f24, f25, f26⟩
     · obtain rfl := inj_ ho
       have h14 := after_on haf 14 rfl
       refine ⟨fun _ _ hq => by cases Option.some.inj hq; exact ⟨h14, f14 h14⟩, ?_⟩
       exact op_move (.inl rfl) ((hev.old 5 (by kernel_rfl)).trans rfl) ⟨_, rfl, B3, d3, H3, B4, d4, H4, S, f0, f1, f2, f3, f4, f5, f6, f7, f8, f9, f10, f11, f12, f13, f14, f15, f16, f17, f18, f19, fun _ => rfl, f21, f22, f23, f24, f25, f26⟩
     · obtain rfl := inj_ ho
       have h19 := after_on haf 19 rfl
       have h20 := after_on haf 20 rfl
       have h14 := after_on haf 14 rfl
       refine ⟨fun _ _ hq => by cases Option.some.inj hq; exact ⟨h14, f14 h14⟩, ?_⟩
       have hx0 := (hev.at_ 19 146 rfl rfl h19 f19)
       have hx1 := (hev.at_ 20 147 rfl rfl h20 f20)
       refine op_call _ _ _ rfl (enters_of Tryz.func14 (by kernel_rfl) rfl) #[.agg #[jI jZ rl, jS A0 n0 c0], jI jZ task] (by simp [hx0, hx1]) (IHT.out w (OwnS.rs (S.get 9 rfl) HX.out)) (fun e w2 hh => ?_)
       obtain ⟨A9, c9, F9, rfl, oo, ff, bb⟩ := hh
       have S2 := S.turn 11 (I := em) (by simp only [gs_, gz_, cnd_f hDi]) (Only.of_below bb) (ow (jS A9 nh0 c9) ht0 F9) oo (fun k hk => ⟨.inr (ff k hk).1, (ff k hk).2⟩)
       exact ⟨_, rfl, ⟨_, rfl, B3, d3, H3, A9, c9, F9, S2, f0, f1, f2, f3, f4, f5, f6, f7, f8, f9, f10, f11, f12, f13, f14, f15, f16, f17, f18, f19, f20, fun _ => rfl, f22, f23, f24, f25, f26⟩⟩
     · obtain rfl := inj_ ho
       have h21 := after_on haf 21 rfl
       have h14 := after_on haf 14 rfl
       refine ⟨fun _ _ hq => by cases Option.some.inj hq; exact ⟨h14, f14 h14⟩, ?_⟩
       exact op_lenN _ _ _ rfl Tryz.underlying35 (hev.at_ 21 148 rfl rfl h21 f21) ⟨_, rfl, B3, d3, H3, B4, d4, H4, S, f0, f1, f2, f3, f4, f5, f6, f7, f8, f9, f10, f11, f12, f13, f14, f15, f16, f17, f18, f19, f20, f21, fun _ => rfl, f23, f24, f25, f26⟩
     · obtain rfl := inj_ ho
       have h22 := after_on haf 22 rfl
       have h14 := after_on haf 14 rfl
       refine ⟨fun _ _ hq => by cases Option.some.inj hq; exact ⟨h14, f14 h14⟩, ?_⟩
       exact op_addII _ _ _ rfl Tryz.underlying3 (hev.at_ 22 149 rfl rfl h22 f22) rfl WR.out ⟨_, rfl, B3, d3, H3, B4, d4, H4, S, f0, f1, f2, f3, f4, f5, f6, f7, f8, f9, f10, f11, f12, f13, f14, f15, f16, f17, f18, f19, f20, f21, f22, fun _ => rfl, f24, f25, f26⟩
     · obtain rfl := inj_ ho
       have h18 := after_on haf 18 rfl
       have h23 := after_on haf 23 rfl
       have h14 := after_on haf 14 rfl
       refine ⟨fun _ _ hq => by cases Option.some.inj hq; exact ⟨h14, f14 h14⟩, ?_⟩
       exact op_eqlL _ _ rfl (hev.at_ 18 145 rfl rfl h18 f18) (hev.at_ 23 150 rfl rfl h23 f23) ⟨_, rfl, B3, d3, H3, B4, d4, H4, S, f0, f1, f2, f3, f4, f5, f6, f7, f8, f9, f10, f11, f12, f13, f14, f15, f16, f17, f18, f19, f20, f21, f22, f23, fun _ => rfl, f25, f26⟩
     · obtain rfl := inj_ ho
       have h14 := after_on haf 14 rfl
       have h24 := after_on haf 24 rfl
       refine ⟨fun _ _ hq => (nomatch hq), ?_⟩
       exact op_pick _ _ _ rfl (hev.at_ 14 141 rfl rfl h14 f14) ((hev.at_ 24 151 rfl rfl h24 f24)) ⟨_, rfl, B3, d3, H3, B4, d4, H4, S, f0, f1, f2, f3, f4, f5, f6, f7, f8, f9, f10, f11, f12, f13, f14, f15, f16, f17, f18, f19, f20, f21, f22, f23, f24, fun _ => rfl, f26⟩
     · obtain rfl := inj_ ho
       have h25 := after_on haf 25 rfl
       refine ⟨fun _ _ hq => (nomatch hq), ?_⟩
       exact op_move (.inr rfl) (hev.at_ 25 152 rfl rfl h25 f25) ⟨_, rfl, B3, d3, H3, B4, d4, H4, S, f0, f1, f2, f3, f4, f5, f6, f7, f8, f9, f10, f11, f12, f13, f14, f15, f16, f17, f18, f19, f20, f21, f22, f23, f24, f25, fun _ => rfl⟩
     · exact absurd ho (by simp)
   intro V w hI
   obtain ⟨B3, d3, H3, B4, d4, H4, S, f0, f1, f2, f3, f4, f5, f6, f7, f8, f9, f10, f11, f12, f13, f14, f15, f16, f17, f18, f19, f20, f21, f22, f23, f24, f25, f26⟩ := hI
   replace S : Hid (Sep noX w0 [bx g23 #[jI jZ rl, jS B2 n0 d2] 26, ow (jS B2 n0 d2) xs H2, bx g21 #[jI jZ r5, jS B1 x5.length d1] 26, ow (jS B1 x5.length d1) x5 H1, bx g19 #[jI jZ r4, jS A9 x4.length c9] 26, ow (jS A9 x4.length c9) x4 F9, bx g6 #[jI jZ rl, jS A1 n1 c1] 26, ow (jS A1 n1 c1) xl F1, bx g3 #[jI jZ rl, jS A0 n0 c0] 26, ow (jS A0 n0 c0) xs F0, ow (jS B3 nh1 d3) ht1 H3, ow (jS B4 nh0 d4) ht0 H4] w) := Lib.hid S
   simp only [putF, Act.put, sa_, sb_, sc_, f0 rfl, f1 rfl, f2 rfl, f3 rfl, f4 rfl, f5 rfl, f6 rfl, f7 rfl, f8 rfl, f9 rfl, f10 rfl, f11 rfl, f12 rfl, f13 rfl, f14 rfl, f15 rfl, f16 rfl, f17 rfl, f18 rfl, f19 rfl, f20 rfl, f21 rfl, f22 rfl, f23 rfl, f24 rfl, f25 rfl, f26 rfl]
   clear f0 f1 f2 f3 f4 f5 f6 f7 f8 f9 f10 f11 f12 f13 f14 f15 f16 f17 f18 f19 f20 f21 f22 f23 f24 f25 f26
   go_wp2_with fail
   go_ret
   exact ⟨rfl, S.out.below⟩
end Go.Proofs.YtpffkhjegpddbaaGreat
