/- The walk of the model's Halves, where it is one that can be halved. (Made by genY10.py.) -/
import Derived.Test.YtjookicpmjmdhaaQ31
open Go.Value renaming int → jI, slice → jS
open Go.IntKind renaming i64 → jZ
namespace Go.Proofs.Ytjookicpmjmdhaa
open Go.RowKit

set_option maxRecDepth 100000 in
set_option maxHeartbeats 16000000 in
theorem halves_go (x : Nd) (A : Option Addr) (n c : Nat) (k v at_ : Int) (w0 : World) (hP : RP w0 w0.heap.size A n x.ps) (hn : n ≤ 1048576) (hc : n ≤ c) (hc2 : c ≤ 9223372036854775807) (hg : guardH x k v at_ = true) :
   Calls Try.prog 115 #[ndV x A n c, .agg #[jI jZ k, jI jZ v], jI jZ at_] w0 (GivesNN w0 (loH x k v at_) (upH x k v at_) (halfB x k v at_)) := by
 obtain ⟨h1, h2, h3, h4, h5, h6⟩ : nodeOk x = true ∧ n = 4 ∧ rightB k v = true ∧ hitB x.ps k = false ∧ inside x k = true ∧ numB at_ = true := by
   unfold guardH at hg
   simp only [Bool.and_eq_true, decide_eq_true_eq, Bool.not_eq_true'] at hg
   have := hP.1
   exact ⟨hg.1, by omega, hg.2.2.1, hg.2.2.2.1, hg.2.2.2.2.1, hg.2.2.2.2.2⟩
 subst h2
 have hz : (insL x.ps k v).length = 5 := by rw [insL_length, h4, hP.1]; rfl
 have hb : halfB x k v at_ = (nodeOk (loN x k v at_) && nodeOk (upN x k v)) := by unfold halfB; rw [hg]; rfl
 have HB := Lib.hid hb
 have NK := Lib.hid (fun w h => sNode_any x A 4 c w h hn)
 have PKK := Lib.hid (pair_any k v)
 have WK := Lib.hid (fun w h => where_any A 4 c x.ps k w h hn)
 have IK := Lib.hid (fun w => sInside_any x k A 4 c w)
 have MK := Lib.hid (num_is at_)
 have PUT := Lib.hid (fun w h => sPut_any A 4 c x.ps k v w h hn hc hc2)
 have LK := Lib.hid (fun A c w h => sNode_any (loN x k v at_) A 3 c w h (by omega))
 have UK := Lib.hid (fun A c w h => sNode_any (upN x k v) A 2 c w h (by omega))
 have HP := Lib.hid hP
 have HZ := Lib.hid hz
 rw [h1] at NK
 rw [h3] at PKK
 rw [where_miss x.ps k (nodeOk_pOk h1) h4] at WK
 rw [h5] at IK
 rw [h6] at MK
 have EL : Hid (halfB x k v at_ = true → loH x k v at_ = loN x k v at_ ∧ upH x k v at_ = upN x k v) := Lib.hid (fun h => by unfold loH upH; rw [h]; exact ⟨rfl, rfl⟩)
 have EF : Hid (halfB x k v at_ = false → loH x k v at_ = zeroN ∧ upH x k v at_ = zeroN) := Lib.hid (fun h => by unfold loH upH; rw [h]; exact ⟨rfl, rfl⟩)
 clear hP hn hc hc2 hg h1 h3 h4 h5 h6 hz hb
 unfold loN upN at *
 generalize loH x k v at_ = lo at *
 generalize upH x k v at_ = up at *
 generalize halfB x k v at_ = hb at *
 generalize insL x.ps k v = zs at *
 have S := Lib.hid (Sep.start noX w0)
 have tok0 : True := trivial
 have tok1 : True := trivial
 have tok2 : True := trivial
 have tok3 : True := trivial
 unfold ndV at *
 go_enter Try.func115, Try.ntmps115
 go_wp2_with (first
     | go_skip
     | (clear tok0; refine bx_ 101 S rfl rfl rfl ?_; clear S; intro gn w S)
     | (clear tok1; refine bx_ 86 S rfl rfl rfl ?_; clear S; intro gp w S)
     | (clear tok2; refine nx_ 101 S rfl rfl Try.zeroValue101 ?_; clear S; intro r1 w S)
     | (clear tok3; refine nx_ 101 S rfl rfl Try.zeroValue101 ?_; clear S; intro r2 w S)
     | (refine wpList_op rfl (op_row 101 _ rfl S.out 3 rfl rfl Try.isAgg101 (by kernel_rfl) ?_)))
 refine (NK.out _ (HP.out.on S.out.below)).mono ?_
 rintro e w ⟨rfl, b⟩
 replace S := Lib.hid (S.out.call b)
 clear b
 go_wp2_with (first
     | go_skip
     | (refine wpList_op rfl (op_get 99 _ rfl S.out 3 rfl _ rfl Try.isAgg99 _ rfl ?_))
     | (refine wpList_op rfl (op_row 86 _ rfl S.out 2 rfl rfl Try.isAgg86 (by kernel_rfl) ?_)))
 refine (PKK.out _).mono ?_
 rintro e w ⟨rfl, b⟩
 replace S := Lib.hid (S.out.call b)
 clear b
 go_wp2_with (first
     | go_skip
     | (refine wpList_op rfl (op_get 99 _ rfl S.out 3 rfl _ rfl Try.isAgg99 _ rfl ?_))
     | (refine wpList_op rfl (op_get 2 _ rfl S.out 2 rfl _ rfl Try.isAgg2 _ rfl ?_)))
 refine (WK.out _ (HP.out.on S.out.below)).mono ?_
 rintro e w9 ⟨rfl, rfl⟩
 go_wp2_with (first
     | go_skip
     | (refine wpList_op rfl (op_row 101 _ rfl S.out 3 rfl rfl Try.isAgg101 (by kernel_rfl) ?_))
     | (refine wpList_op rfl (op_get 2 _ rfl S.out 2 rfl _ rfl Try.isAgg2 _ rfl ?_)))
 refine (IK.out _).mono ?_
 rintro e w ⟨rfl, b⟩
 replace S := Lib.hid (S.out.call b)
 clear b
 go_wp2_with fail
 refine (MK.out _).mono ?_
 rintro e w9 ⟨rfl, rfl⟩
 go_wp2_with (first
     | go_skip
     | (refine wpList_op rfl (op_get 99 _ rfl S.out 3 rfl _ rfl Try.isAgg99 _ rfl ?_))
     | (refine wpList_op rfl (op_row 86 _ rfl S.out 2 rfl rfl Try.isAgg86 (by kernel_rfl) ?_)))
 refine (PUT.out _ (HP.out.on S.out.below)).mono ?_
 rintro e w hh
 obtain ⟨A5, ca, rfl, own, b⟩ := own_form hh
 rw [HZ.out] at own
 obtain ⟨ga, cap, hv, _, _⟩ := own.form (by omega)
 obtain ⟨rfl, rfl⟩ : A5 = some ⟨ga, 0, none⟩ ∧ ca = cap := by simpa using hv
 have HCA : Hid (5 ≤ ca ∧ ca ≤ 9223372036854775807) := Lib.hid (by
   obtain ⟨A9, c9, h9, h8, h7⟩ := own_shape own
   cases h9
   unfold maxLen at h7
   omega)
 rw [HZ.out]
 replace S := Lib.hid (S.out.own b (F := fun k => k = ga) (OwnS.of_pairs own (fun k hk => by simpa [Value.ownBlock] using hk.symm)) (fun k hk => by have := own.lt ga rfl; subst hk; exact this))
 obtain ⟨FA, hFA⟩ : ∃ FA : FP, FA = fun k => k = ga := ⟨_, rfl⟩
 rw [← hFA] at S
 clear hh own hv b hFA
 go_wp2_with fail
 refine wp_region_ev (by kernel_rfl) _ (by kernel_rfl) (by kernel_rfl) 89 rfl (by kernel_rfl) (fun D V w => ∃ gb : Nat, ∃ A6 : Option Addr, ∃ c6 : Nat, ∃ F6 : FP, ∃ ga11 : Nat, Sep noX w0 [ow (jS (some ⟨ga, 0, none⟩) 5 ca) zs FA, bx r2 #[jI jZ 0, jS none 0 0, jI jZ 0, jI jZ 0, jI jZ 0] 101, bx r1 #[jI jZ 0, jS none 0 0, jI jZ 0, jI jZ 0, jI jZ 0] 101, bx gp #[jI jZ k, jI jZ v] 86, bx gn #[jI jZ x.lv, jS A 4 c, jI jZ x.hi, jI jZ x.ri, jI jZ x.ow] 101, cnd (D 2) em (cnd (D 5) (ow (jS (some ⟨gb, 0, none⟩) 0 0) ([] : List Pr) (fun k => k = gb)) (ow (jS A6 2 c6) (zs.drop 3) F6)), cnd (D 11) em (cnd (D 12) (bx ga11 #[jI jZ 0, jS none 0 0, jI jZ 0, jI jZ 0, jI jZ 0] 101) (bx ga11 #[jI jZ x.lv, jS A6 2 c6, jI jZ x.hi, jI jZ x.ri, jI jZ 0] 101))] w ∧ (D 0 = true → V 0 = .pointer (some ⟨gn, 0, none⟩)) ∧ (D 1 = true → V 1 = jI jZ x.lv) ∧ (D 2 = true → V 2 = jS (some ⟨gb, 0, none⟩) 0 0) ∧ (D 3 = true → V 3 = jS (some ⟨ga, 0, none⟩) 5 ca) ∧ (D 4 = true → V 4 = jS (some ⟨ga, 0 + 3 * 2, none⟩) (5 - 3) (ca - 3)) ∧ (D 5 = true → V 5 = jS A6 2 c6) ∧ (D 6 = true → V 6 = .pointer (some ⟨gn, 2, none⟩)) ∧ (D 7 = true → V 7 = jI jZ x.hi) ∧ (D 8 = true → V 8 = .pointer (some ⟨gn, 3, none⟩)) ∧ (D 9 = true → V 9 = jI jZ x.ri) ∧ (D 10 = true → V 10 = .agg #[jI jZ x.lv, jS A6 2 c6, jI jZ x.hi, jI jZ x.ri, jI jZ 0]) ∧ (D 11 = true → V 11 = .pointer (some ⟨ga11, 0, none⟩)) ∧ (D 5 = true → D 2 = true) ∧ (D 10 = true → D 5 = true) ∧ (D 12 = true → D 5 = true) ∧ (D 12 = true → D 11 = true)) ?_ ?_ ?_
 · intro D hD
   have d2 := hD 2 (by decide)
   have d11 := hD 11 (by decide)
   have d12 := hD 12 (by decide)
   exact ⟨0, none, 0, fun _ => False, 0, by rw [cnd_f d2, cnd_f d11]; exact S.out.drew.ems 2, (nof (hD 0 (by decide))), (nof (hD 1 (by decide))), (nof (hD 2 (by decide))), (nof (hD 3 (by decide))), (nof (hD 4 (by decide))), (nof (hD 5 (by decide))), (nof (hD 6 (by decide))), (nof (hD 7 (by decide))), (nof (hD 8 (by decide))), (nof (hD 9 (by decide))), (nof (hD 10 (by decide))), (nof (hD 11 (by decide))), (nof (hD 5 (by decide))), (nof (hD 10 (by decide))), (nof (hD 12 (by decide))), (nof (hD 12 (by decide)))⟩
 · intro i o D V w a ho hI hDi haf hev
   obtain ⟨gb, A6, c6, F6, ga11, S, f0, f1, f2, f3, f4, f5, f6, f7, f8, f9, f10, f11, o5_2, o10_5, o12_5, o12_11⟩ := hI
   rcases i with _ | _ | _ | _ | _ | _ | _ | _ | _ | _ | _ | _ | _ | i
   · obtain rfl := inj_ ho
     exact op_field _ _ _ rfl ((hev.old 3 (by kernel_rfl)).trans rfl) (by kernel_rfl) ⟨_, rfl, gb, A6, c6, F6, ga11, S, fun _ => rfl, f1, f2, f3, f4, f5, f6, f7, f8, f9, f10, f11, o5_2, o10_5, o12_5, o12_11⟩
   · obtain rfl := inj_ ho
     have h0 := aft_ haf 0 rfl
     exact op_get 2 _ rfl S 4 rfl 0 (hev.at_ 0 52 rfl rfl h0 f0) Try.isAgg2 _ rfl ⟨_, rfl, gb, A6, c6, F6, ga11, S, f0, fun _ => rfl, f2, f3, f4, f5, f6, f7, f8, f9, f10, f11, o5_2, o10_5, o12_5, o12_11⟩
   · obtain rfl := inj_ ho
     have nn := nofb hDi o5_2
     exact op_bsP0 rfl S 5 (by simp only [gs_, gz_, cnd_f hDi]) (fun g w S => ⟨_, rfl, g, A6, c6, F6, ga11, (by rw [show updB D 2 5 = false from nn]; exact S), f0, f1, fun _ => rfl, f3, f4, f5, f6, f7, f8, f9, f10, f11, fun _ => rfl, o10_5, o12_5, o12_11⟩)
   · obtain rfl := inj_ ho
     exact op_move (.inl rfl) ((hev.old 9 (by kernel_rfl)).trans rfl) ⟨_, rfl, gb, A6, c6, F6, ga11, S, f0, f1, f2, fun _ => rfl, f4, f5, f6, f7, f8, f9, f10, f11, o5_2, o10_5, o12_5, o12_11⟩
   · obtain rfl := inj_ ho
     have h3 := aft_ haf 3 rfl
     exact op_slFrom _ 86 2 3 _ rfl Try.underlying99 Try.sizeOf86 (hev.at_ 3 55 rfl rfl h3 f3) (by omega) (by have := HCA.out; omega) (by have := HCA.out; omega) ⟨_, rfl, gb, A6, c6, F6, ga11, S, f0, f1, f2, f3, fun _ => rfl, f5, f6, f7, f8, f9, f10, f11, o5_2, o10_5, o12_5, o12_11⟩
   · obtain rfl := inj_ ho
     have h2 := aft_ haf 2 rfl
     have h4 := aft_ haf 4 rfl
     have ns12 := nofb hDi o12_5
     have hx0 := (hev.at_ 2 54 rfl rfl h2 f2)
     have hx1 := (hev.at_ 4 56 rfl rfl h4 f4)
     have rp := (OwnS.rp (S.get 0 rfl) HZ.out).drop3
     exact op_appP _ _ rfl S 5 (v := jS (some ⟨gb, 0, none⟩) 0 0) (xs := ([] : List Pr)) (F := fun k => k = gb) (by simp only [gs_, gz_, cnd_t h2, cnd_f hDi]) hx0 _ _ _ _ rp (by omega) hx1 (by simp) (fun A c F w S => ⟨_, rfl, gb, A, c, F, ga11, (by rw [show updB D 5 2 = true from h2]; rw [cnd_f ns12] at S; rw [show updB D 5 12 = false from ns12]; exact S), f0, f1, f2, f3, f4, fun _ => rfl, f6, f7, f8, f9, (fun h => nof hDi (o10_5 h)), f11, fun _ => h2, fun _ => rfl, fun _ => rfl, o12_11⟩)
   · obtain rfl := inj_ ho
     exact op_field _ _ _ rfl ((hev.old 3 (by kernel_rfl)).trans rfl) (by kernel_rfl) ⟨_, rfl, gb, A6, c6, F6, ga11, S, f0, f1, f2, f3, f4, f5, fun _ => rfl, f7, f8, f9, f10, f11, o5_2, o10_5, o12_5, o12_11⟩
   · obtain rfl := inj_ ho
     have h6 := aft_ haf 6 rfl
     exact op_get 2 _ rfl S 4 rfl 2 (hev.at_ 6 58 rfl rfl h6 f6) Try.isAgg2 _ rfl ⟨_, rfl, gb, A6, c6, F6, ga11, S, f0, f1, f2, f3, f4, f5, f6, fun _ => rfl, f8, f9, f10, f11, o5_2, o10_5, o12_5, o12_11⟩
   · obtain rfl := inj_ ho
     exact op_field _ _ _ rfl ((hev.old 3 (by kernel_rfl)).trans rfl) (by kernel_rfl) ⟨_, rfl, gb, A6, c6, F6, ga11, S, f0, f1, f2, f3, f4, f5, f6, f7, fun _ => rfl, f9, f10, f11, o5_2, o10_5, o12_5, o12_11⟩
   · obtain rfl := inj_ ho
     have h8 := aft_ haf 8 rfl
     exact op_get 2 _ rfl S 4 rfl 3 (hev.at_ 8 60 rfl rfl h8 f8) Try.isAgg2 _ rfl ⟨_, rfl, gb, A6, c6, F6, ga11, S, f0, f1, f2, f3, f4, f5, f6, f7, f8, fun _ => rfl, f10, f11, o5_2, o10_5, o12_5, o12_11⟩
   · obtain rfl := inj_ ho
     have h1 := aft_ haf 1 rfl
     have h5 := aft_ haf 5 rfl
     have h7 := aft_ haf 7 rfl
     have h9 := aft_ haf 9 rfl
     have hx0 := (hev.at_ 1 53 rfl rfl h1 f1)
     have hx1 := (hev.at_ 5 57 rfl rfl h5 f5)
     have hx2 := (hev.at_ 7 59 rfl rfl h7 f7)
     have hx3 := (hev.at_ 9 61 rfl rfl h9 f9)
     exact op_build _ _ rfl [(0, jI jZ x.lv), (1, jS A6 2 c6), (2, jI jZ x.hi), (3, jI jZ x.ri)] (by simp [hx0, hx1, hx2, hx3]) _ (by kernel_rfl) ⟨_, rfl, gb, A6, c6, F6, ga11, S, f0, f1, f2, f3, f4, f5, f6, f7, f8, f9, fun _ => rfl, f11, o5_2, fun _ => h5, o12_5, o12_11⟩
   · obtain rfl := inj_ ho
     have nst := nofb hDi o12_11
     refine op_nxAt 101 rfl S 6 (by simp only [gs_, gz_, cnd_f hDi]) _ Try.zeroValue101 (fun g w S => ⟨_, rfl, gb, A6, c6, F6, g, (by have e : updB D 11 12 = false := nst; rw [e]; exact S), f0, f1, f2, f3, f4, f5, f6, f7, f8, f9, f10, fun _ => rfl, o5_2, o10_5, o12_5, fun _ => rfl⟩)
   · obtain rfl := inj_ ho
     have h11 := aft_ haf 11 rfl
     have h10 := aft_ haf 10 rfl
     have h5 : D 5 = true := o10_5 h10
     have ha : D 11 = true := aft_ haf 11 rfl
     exact op_putR 101 _ _ rfl S 6 (g := ga11) (C := #[jI jZ 0, jS none 0 0, jI jZ 0, jI jZ 0, jI jZ 0]) (t := 101) (by simp only [gs_, gz_, cnd_t ha, cnd_f hDi]) (hev.at_ 11 10 rfl rfl h11 f11) _ (hev.at_ 10 62 rfl rfl h10 f10) rfl (by kernel_rfl) rfl (fun w S => ⟨_, rfl, gb, A6, c6, F6, ga11, (by have e : updB D 12 11 = true := ha; rw [e]; exact S), f0, f1, f2, f3, f4, f5, f6, f7, f8, f9, f10, f11, o5_2, o10_5, fun _ => h5, fun _ => h11⟩)
   · exact absurd ho (by simp)
 intro V w hI
 obtain ⟨gb, A6, c6, F6, ga11, S, f0, f1, f2, f3, f4, f5, f6, f7, f8, f9, f10, f11, o5_2, o10_5, o12_5, o12_11⟩ := hI
 replace S : Hid (Sep noX w0 [ow (jS (some ⟨ga, 0, none⟩) 5 ca) zs FA, bx r2 #[jI jZ 0, jS none 0 0, jI jZ 0, jI jZ 0, jI jZ 0] 101, bx r1 #[jI jZ 0, jS none 0 0, jI jZ 0, jI jZ 0, jI jZ 0] 101, bx gp #[jI jZ k, jI jZ v] 86, bx gn #[jI jZ x.lv, jS A 4 c, jI jZ x.hi, jI jZ x.ri, jI jZ x.ow] 101, ow (jS A6 2 c6) (zs.drop 3) F6, bx ga11 #[jI jZ x.lv, jS A6 2 c6, jI jZ x.hi, jI jZ x.ri, jI jZ 0] 101] w) := Lib.hid S
 simp only [putF, Act.put, sa_, sb_, sc_, f0 rfl, f1 rfl, f2 rfl, f3 rfl, f4 rfl, f5 rfl, f6 rfl, f7 rfl, f8 rfl, f9 rfl, f10 rfl, f11 rfl]
 clear f0 f1 f2 f3 f4 f5 f6 f7 f8 f9 f10 f11 o5_2 o10_5 o12_5 o12_11
 go_wp2_with fail
 refine wp_region_ev (by kernel_rfl) _ (by kernel_rfl) (by kernel_rfl) 89 rfl (by kernel_rfl) (fun D V w => ∃ gb2 : Nat, ∃ A7 : Option Addr, ∃ c7 : Nat, ∃ F7 : FP, ∃ ga14 : Nat, Sep noX w0 [ow (jS (some ⟨ga, 0, none⟩) 5 ca) zs FA, bx r2 #[jI jZ 0, jS none 0 0, jI jZ 0, jI jZ 0, jI jZ 0] 101, bx r1 #[jI jZ 0, jS none 0 0, jI jZ 0, jI jZ 0, jI jZ 0] 101, bx gp #[jI jZ k, jI jZ v] 86, bx gn #[jI jZ x.lv, jS A 4 c, jI jZ x.hi, jI jZ x.ri, jI jZ x.ow] 101, ow (jS A6 2 c6) (zs.drop 3) F6, bx ga11 #[jI jZ x.lv, jS A6 2 c6, jI jZ x.hi, jI jZ x.ri, jI jZ 0] 101, cnd (D 2) em (cnd (D 5) (ow (jS (some ⟨gb2, 0, none⟩) 0 0) ([] : List Pr) (fun k => k = gb2)) (ow (jS A7 3 c7) (zs.take 3) F7)), cnd (D 14) em (cnd (D 15) (bx ga14 #[jI jZ 0, jS none 0 0, jI jZ 0, jI jZ 0, jI jZ 0] 101) (bx ga14 #[jI jZ x.lv, jS A7 3 c7, jI jZ (kAt zs 3), jI jZ at_, jI jZ x.ow] 101))] w ∧ (D 0 = true → V 0 = .pointer (some ⟨gn, 0, none⟩)) ∧ (D 1 = true → V 1 = jI jZ x.lv) ∧ (D 2 = true → V 2 = jS (some ⟨gb2, 0, none⟩) 0 0) ∧ (D 3 = true → V 3 = jS (some ⟨ga, 0, none⟩) 5 ca) ∧ (D 4 = true → V 4 = jS (some ⟨ga, 0, none⟩) 3 ca) ∧ (D 5 = true → V 5 = jS A7 3 c7) ∧ (D 6 = true → V 6 = jS (some ⟨ga, 0, none⟩) 5 ca) ∧ (D 7 = true → V 7 = .pointer (some ⟨ga, 0 + 3 * 2, none⟩)) ∧ (D 8 = true → V 8 = .pointer (some ⟨ga, 0 + 3 * 2, none⟩)) ∧ (D 9 = true → V 9 = jI jZ (kAt zs 3)) ∧ (D 10 = true → V 10 = jI jZ at_) ∧ (D 11 = true → V 11 = .pointer (some ⟨gn, 4, none⟩)) ∧ (D 12 = true → V 12 = jI jZ x.ow) ∧ (D 13 = true → V 13 = .agg #[jI jZ x.lv, jS A7 3 c7, jI jZ (kAt zs 3), jI jZ at_, jI jZ x.ow]) ∧ (D 14 = true → V 14 = .pointer (some ⟨ga14, 0, none⟩)) ∧ (D 5 = true → D 2 = true) ∧ (D 13 = true → D 5 = true) ∧ (D 15 = true → D 5 = true) ∧ (D 15 = true → D 14 = true)) ?_ ?_ ?_
 · intro D hD
   have d2 := hD 2 (by decide)
   have d14 := hD 14 (by decide)
   have d15 := hD 15 (by decide)
   exact ⟨0, none, 0, fun _ => False, 0, by rw [cnd_f d2, cnd_f d14]; exact S.out.drew.ems 2, (nof (hD 0 (by decide))), (nof (hD 1 (by decide))), (nof (hD 2 (by decide))), (nof (hD 3 (by decide))), (nof (hD 4 (by decide))), (nof (hD 5 (by decide))), (nof (hD 6 (by decide))), (nof (hD 7 (by decide))), (nof (hD 8 (by decide))), (nof (hD 9 (by decide))), (nof (hD 10 (by decide))), (nof (hD 11 (by decide))), (nof (hD 12 (by decide))), (nof (hD 13 (by decide))), (nof (hD 14 (by decide))), (nof (hD 5 (by decide))), (nof (hD 13 (by decide))), (nof (hD 15 (by decide))), (nof (hD 15 (by decide)))⟩
 · intro i o D V w a ho hI hDi haf hev
   obtain ⟨gb2, A7, c7, F7, ga14, S, f0, f1, f2, f3, f4, f5, f6, f7, f8, f9, f10, f11, f12, f13, f14, o5_2, o13_5, o15_5, o15_14⟩ := hI
   rcases i with _ | _ | _ | _ | _ | _ | _ | _ | _ | _ | _ | _ | _ | _ | _ | _ | i
   · obtain rfl := inj_ ho
     exact op_field _ _ _ rfl ((hev.old 3 (by kernel_rfl)).trans rfl) (by kernel_rfl) ⟨_, rfl, gb2, A7, c7, F7, ga14, S, fun _ => rfl, f1, f2, f3, f4, f5, f6, f7, f8, f9, f10, f11, f12, f13, f14, o5_2, o13_5, o15_5, o15_14⟩
   · obtain rfl := inj_ ho
     have h0 := aft_ haf 0 rfl
     exact op_get 2 _ rfl S 4 rfl 0 (hev.at_ 0 63 rfl rfl h0 f0) Try.isAgg2 _ rfl ⟨_, rfl, gb2, A7, c7, F7, ga14, S, f0, fun _ => rfl, f2, f3, f4, f5, f6, f7, f8, f9, f10, f11, f12, f13, f14, o5_2, o13_5, o15_5, o15_14⟩
   · obtain rfl := inj_ ho
     have nn := nofb hDi o5_2
     exact op_bsP0 rfl S 7 (by simp only [gs_, gz_, cnd_f hDi]) (fun g w S => ⟨_, rfl, g, A7, c7, F7, ga14, (by rw [show updB D 2 5 = false from nn]; exact S), f0, f1, fun _ => rfl, f3, f4, f5, f6, f7, f8, f9, f10, f11, f12, f13, f14, fun _ => rfl, o13_5, o15_5, o15_14⟩)
   · obtain rfl := inj_ ho
     exact op_move (.inl rfl) ((hev.old 9 (by kernel_rfl)).trans rfl) ⟨_, rfl, gb2, A7, c7, F7, ga14, S, f0, f1, f2, fun _ => rfl, f4, f5, f6, f7, f8, f9, f10, f11, f12, f13, f14, o5_2, o13_5, o15_5, o15_14⟩
   · obtain rfl := inj_ ho
     have h3 := aft_ haf 3 rfl
     exact op_slTo _ 86 2 3 _ rfl Try.underlying99 Try.sizeOf86 (hev.at_ 3 66 rfl rfl h3 f3) (by have := HCA.out; omega) (by have := HCA.out; omega) ⟨_, rfl, gb2, A7, c7, F7, ga14, S, f0, f1, f2, f3, fun _ => rfl, f5, f6, f7, f8, f9, f10, f11, f12, f13, f14, o5_2, o13_5, o15_5, o15_14⟩
   · obtain rfl := inj_ ho
     have h2 := aft_ haf 2 rfl
     have h4 := aft_ haf 4 rfl
     have ns15 := nofb hDi o15_5
     have hx0 := (hev.at_ 2 65 rfl rfl h2 f2)
     have hx1 := (hev.at_ 4 67 rfl rfl h4 f4)
     have rp := (OwnS.rp (S.get 0 rfl) HZ.out).take (k := 3) (by omega)
     exact op_appP _ _ rfl S 7 (v := jS (some ⟨gb2, 0, none⟩) 0 0) (xs := ([] : List Pr)) (F := fun k => k = gb2) (by simp only [gs_, gz_, cnd_t h2, cnd_f hDi]) hx0 _ _ _ _ rp (by omega) hx1 (by simp) (fun A c F w S => ⟨_, rfl, gb2, A, c, F, ga14, (by rw [show updB D 5 2 = true from h2]; rw [cnd_f ns15] at S; rw [show updB D 5 15 = false from ns15]; exact S), f0, f1, f2, f3, f4, fun _ => rfl, f6, f7, f8, f9, f10, f11, f12, (fun h => nof hDi (o13_5 h)), f14, fun _ => h2, fun _ => rfl, fun _ => rfl, o15_14⟩)
   · obtain rfl := inj_ ho
     exact op_move (.inl rfl) ((hev.old 9 (by kernel_rfl)).trans rfl) ⟨_, rfl, gb2, A7, c7, F7, ga14, S, f0, f1, f2, f3, f4, f5, fun _ => rfl, f7, f8, f9, f10, f11, f12, f13, f14, o5_2, o13_5, o15_5, o15_14⟩
   · obtain rfl := inj_ ho
     have h6 := aft_ haf 6 rfl
     exact op_idx _ _ _ rfl 86 2 Try.underlying99 Try.sizeOf86 (hev.at_ 6 69 rfl rfl h6 f6) (k := 3) rfl (by omega) ⟨_, rfl, gb2, A7, c7, F7, ga14, S, f0, f1, f2, f3, f4, f5, f6, fun _ => rfl, f8, f9, f10, f11, f12, f13, f14, o5_2, o13_5, o15_5, o15_14⟩
   · obtain rfl := inj_ ho
     have h7 := aft_ haf 7 rfl
     exact op_field _ _ _ rfl (hev.at_ 7 70 rfl rfl h7 f7) (by kernel_rfl) ⟨_, rfl, gb2, A7, c7, F7, ga14, S, f0, f1, f2, f3, f4, f5, f6, f7, fun _ => rfl, f9, f10, f11, f12, f13, f14, o5_2, o13_5, o15_5, o15_14⟩
   · obtain rfl := inj_ ho
     have h8 := aft_ haf 8 rfl
     exact op_cell 2 _ rfl (hev.at_ 8 71 rfl rfl h8 f8) Try.isAgg2 (OwnS.rp (S.get 0 rfl) HZ.out).key3 ⟨_, rfl, gb2, A7, c7, F7, ga14, S, f0, f1, f2, f3, f4, f5, f6, f7, f8, fun _ => rfl, f10, f11, f12, f13, f14, o5_2, o13_5, o15_5, o15_14⟩
   · obtain rfl := inj_ ho
     exact op_move (.inl rfl) ((hev.old 2 (by kernel_rfl)).trans rfl) ⟨_, rfl, gb2, A7, c7, F7, ga14, S, f0, f1, f2, f3, f4, f5, f6, f7, f8, f9, fun _ => rfl, f11, f12, f13, f14, o5_2, o13_5, o15_5, o15_14⟩
   · obtain rfl := inj_ ho
     exact op_field _ _ _ rfl ((hev.old 3 (by kernel_rfl)).trans rfl) (by kernel_rfl) ⟨_, rfl, gb2, A7, c7, F7, ga14, S, f0, f1, f2, f3, f4, f5, f6, f7, f8, f9, f10, fun _ => rfl, f12, f13, f14, o5_2, o13_5, o15_5, o15_14⟩
   · obtain rfl := inj_ ho
     have h11 := aft_ haf 11 rfl
     exact op_get 2 _ rfl S 4 rfl 4 (hev.at_ 11 74 rfl rfl h11 f11) Try.isAgg2 _ rfl ⟨_, rfl, gb2, A7, c7, F7, ga14, S, f0, f1, f2, f3, f4, f5, f6, f7, f8, f9, f10, f11, fun _ => rfl, f13, f14, o5_2, o13_5, o15_5, o15_14⟩
   · obtain rfl := inj_ ho
     have h1 := aft_ haf 1 rfl
     have h5 := aft_ haf 5 rfl
     have h9 := aft_ haf 9 rfl
     have h10 := aft_ haf 10 rfl
     have h12 := aft_ haf 12 rfl
     have hx0 := (hev.at_ 1 64 rfl rfl h1 f1)
     have hx1 := (hev.at_ 5 68 rfl rfl h5 f5)
     have hx2 := (hev.at_ 9 72 rfl rfl h9 f9)
     have hx3 := (hev.at_ 10 73 rfl rfl h10 f10)
     have hx4 := (hev.at_ 12 75 rfl rfl h12 f12)
     exact op_build _ _ rfl [(0, jI jZ x.lv), (1, jS A7 3 c7), (2, jI jZ (kAt zs 3)), (3, jI jZ at_), (4, jI jZ x.ow)] (by simp [hx0, hx1, hx2, hx3, hx4]) _ (by kernel_rfl) ⟨_, rfl, gb2, A7, c7, F7, ga14, S, f0, f1, f2, f3, f4, f5, f6, f7, f8, f9, f10, f11, f12, fun _ => rfl, f14, o5_2, fun _ => h5, o15_5, o15_14⟩
   · obtain rfl := inj_ ho
     have nst := nofb hDi o15_14
     refine op_nxAt 101 rfl S 8 (by simp only [gs_, gz_, cnd_f hDi]) _ Try.zeroValue101 (fun g w S => ⟨_, rfl, gb2, A7, c7, F7, g, (by have e : updB D 14 15 = false := nst; rw [e]; exact S), f0, f1, f2, f3, f4, f5, f6, f7, f8, f9, f10, f11, f12, f13, fun _ => rfl, o5_2, o13_5, o15_5, fun _ => rfl⟩)
   · obtain rfl := inj_ ho
     have h14 := aft_ haf 14 rfl
     have h13 := aft_ haf 13 rfl
     have h5 : D 5 = true := o13_5 h13
     have ha : D 14 = true := aft_ haf 14 rfl
     exact op_putR 101 _ _ rfl S 8 (g := ga14) (C := #[jI jZ 0, jS none 0 0, jI jZ 0, jI jZ 0, jI jZ 0]) (t := 101) (by simp only [gs_, gz_, cnd_t ha, cnd_f hDi]) (hev.at_ 14 11 rfl rfl h14 f14) _ (hev.at_ 13 76 rfl rfl h13 f13) rfl (by kernel_rfl) rfl (fun w S => ⟨_, rfl, gb2, A7, c7, F7, ga14, (by have e : updB D 15 14 = true := ha; rw [e]; exact S), f0, f1, f2, f3, f4, f5, f6, f7, f8, f9, f10, f11, f12, f13, f14, o5_2, o13_5, fun _ => h5, fun _ => h14⟩)
   · exact absurd ho (by simp)
 intro V w hI
 obtain ⟨gb2, A7, c7, F7, ga14, S, f0, f1, f2, f3, f4, f5, f6, f7, f8, f9, f10, f11, f12, f13, f14, o5_2, o13_5, o15_5, o15_14⟩ := hI
 replace S : Hid (Sep noX w0 [ow (jS (some ⟨ga, 0, none⟩) 5 ca) zs FA, bx r2 #[jI jZ 0, jS none 0 0, jI jZ 0, jI jZ 0, jI jZ 0] 101, bx r1 #[jI jZ 0, jS none 0 0, jI jZ 0, jI jZ 0, jI jZ 0] 101, bx gp #[jI jZ k, jI jZ v] 86, bx gn #[jI jZ x.lv, jS A 4 c, jI jZ x.hi, jI jZ x.ri, jI jZ x.ow] 101, ow (jS A6 2 c6) (zs.drop 3) F6, bx ga11 #[jI jZ x.lv, jS A6 2 c6, jI jZ x.hi, jI jZ x.ri, jI jZ 0] 101, ow (jS A7 3 c7) (zs.take 3) F7, bx ga14 #[jI jZ x.lv, jS A7 3 c7, jI jZ (kAt zs 3), jI jZ at_, jI jZ x.ow] 101] w) := Lib.hid S
 simp only [putF, Act.put, sa_, sb_, sc_, f0 rfl, f1 rfl, f2 rfl, f3 rfl, f4 rfl, f5 rfl, f6 rfl, f7 rfl, f8 rfl, f9 rfl, f10 rfl, f11 rfl, f12 rfl, f13 rfl, f14 rfl]
 clear f0 f1 f2 f3 f4 f5 f6 f7 f8 f9 f10 f11 f12 f13 f14 o5_2 o13_5 o15_5 o15_14
 go_wp2_with (first
     | go_skip
     | (refine wpList_op rfl (op_row 101 _ rfl S.out 8 rfl rfl Try.isAgg101 (by kernel_rfl) ?_)))
 refine (LK.out A7 c7 _ (OwnS.rp (S.out.get 7 rfl) (by rw [List.length_take, HZ.out]; rfl))).mono ?_
 rintro e w ⟨rfl, b⟩
 replace S := Lib.hid (S.out.call b)
 clear b
 generalize nodeOk ⟨x.lv, zs.take 3, kAt zs 3, at_, x.ow⟩ = q1 at *
 cases q1
 · have HF : Hid (hb = false) := Lib.hid (by rw [HB.out]; rfl)
   go_wp2_with (first
       | go_skip
       | (refine wpList_op rfl (op_putR_2 101 _ _ rfl S rfl _ rfl rfl (by kernel_rfl) rfl ?_); clear S; intro w S)
       | (refine wpList_op rfl (op_putR_1 101 _ _ rfl S rfl _ rfl rfl (by kernel_rfl) rfl ?_); clear S; intro w S))
   exact bodyPost_ret (results_ccs rfl _ S.out 2 1 rfl rfl rfl rfl Try.isAgg101 Try.isAgg101 (by kernel_rfl) (by kernel_rfl)) rfl (by obtain ⟨e1, e2⟩ := EF.out HF.out; rw [e1, e2, HF.out]; exact none_NN S.out.below)
 go_wp2_with (first
     | go_skip
     | (refine wpList_op rfl (op_row 101 _ rfl S.out 6 rfl rfl Try.isAgg101 (by kernel_rfl) ?_)))
 refine (UK.out A6 c6 _ (OwnS.rp (S.out.get 5 rfl) (by rw [List.length_drop, HZ.out]))).mono ?_
 rintro e w ⟨rfl, b⟩
 replace S := Lib.hid (S.out.call b)
 clear b
 generalize nodeOk ⟨x.lv, zs.drop 3, x.hi, x.ri, 0⟩ = q2 at *
 cases q2
 · have HF : Hid (hb = false) := Lib.hid (by rw [HB.out]; rfl)
   go_wp2_with (first
       | go_skip
       | (refine wpList_op rfl (op_putR_2 101 _ _ rfl S rfl _ rfl rfl (by kernel_rfl) rfl ?_); clear S; intro w S)
       | (refine wpList_op rfl (op_putR_1 101 _ _ rfl S rfl _ rfl rfl (by kernel_rfl) rfl ?_); clear S; intro w S))
   exact bodyPost_ret (results_ccs rfl _ S.out 2 1 rfl rfl rfl rfl Try.isAgg101 Try.isAgg101 (by kernel_rfl) (by kernel_rfl)) rfl (by obtain ⟨e1, e2⟩ := EF.out HF.out; rw [e1, e2, HF.out]; exact none_NN S.out.below)
 have HF : Hid (hb = true) := Lib.hid (by rw [HB.out]; rfl)
 go_wp2_with fail
 refine wp_region_ev (by kernel_rfl) _ (by kernel_rfl) (by kernel_rfl) 89 rfl (by kernel_rfl) (fun D V w => Sep noX w0 [ow (jS (some ⟨ga, 0, none⟩) 5 ca) zs FA, cnd (D 3) (bx r2 #[jI jZ 0, jS none 0 0, jI jZ 0, jI jZ 0, jI jZ 0] 101) (bx r2 #[jI jZ x.lv, jS A6 2 c6, jI jZ x.hi, jI jZ x.ri, jI jZ 0] 101), cnd (D 2) (bx r1 #[jI jZ 0, jS none 0 0, jI jZ 0, jI jZ 0, jI jZ 0] 101) (bx r1 #[jI jZ x.lv, jS A7 3 c7, jI jZ (kAt zs 3), jI jZ at_, jI jZ x.ow] 101), bx gp #[jI jZ k, jI jZ v] 86, bx gn #[jI jZ x.lv, jS A 4 c, jI jZ x.hi, jI jZ x.ri, jI jZ x.ow] 101, ow (jS A6 2 c6) (zs.drop 3) F6, bx ga11 #[jI jZ x.lv, jS A6 2 c6, jI jZ x.hi, jI jZ x.ri, jI jZ 0] 101, ow (jS A7 3 c7) (zs.take 3) F7, bx ga14 #[jI jZ x.lv, jS A7 3 c7, jI jZ (kAt zs 3), jI jZ at_, jI jZ x.ow] 101] w ∧ (D 0 = true → V 0 = .agg #[jI jZ x.lv, jS A7 3 c7, jI jZ (kAt zs 3), jI jZ at_, jI jZ x.ow]) ∧ (D 1 = true → V 1 = .agg #[jI jZ x.lv, jS A6 2 c6, jI jZ x.hi, jI jZ x.ri, jI jZ 0]) ∧ (D 4 = true → V 4 = .bool true)) ?_ ?_ ?_
 · intro D hD
   have d2 := hD 2 (by decide)
   have d3 := hD 3 (by decide)
   exact ⟨by rw [cnd_f d3, cnd_f d2]; exact S.out.drew.ems 0, (nof (hD 0 (by decide))), (nof (hD 1 (by decide))), (nof (hD 4 (by decide)))⟩
 · intro i o D V w a ho hI hDi haf hev
   obtain ⟨S, f0, f1, f4⟩ := hI
   rcases i with _ | _ | _ | _ | _ | i
   · obtain rfl := inj_ ho
     exact op_row 101 _ rfl S 8 rfl ((hev.old 11 (by kernel_rfl)).trans rfl) Try.isAgg101 (by kernel_rfl) ⟨_, rfl, S, fun _ => rfl, f1, f4⟩
   · obtain rfl := inj_ ho
     exact op_row 101 _ rfl S 6 rfl ((hev.old 10 (by kernel_rfl)).trans rfl) Try.isAgg101 (by kernel_rfl) ⟨_, rfl, S, f0, fun _ => rfl, f4⟩
   · obtain rfl := inj_ ho
     have h0 := aft_ haf 0 rfl
     exact op_putR 101 _ _ rfl S 2 (g := r1) (C := #[jI jZ 0, jS none 0 0, jI jZ 0, jI jZ 0, jI jZ 0]) (t := 101) (by simp only [gs_, gz_, cnd_f hDi]) ((hev.old 6 (by kernel_rfl)).trans rfl) _ (hev.at_ 0 87 rfl rfl h0 f0) rfl (by kernel_rfl) rfl (fun w S => ⟨_, rfl, S, f0, f1, f4⟩)
   · obtain rfl := inj_ ho
     have h1 := aft_ haf 1 rfl
     exact op_putR 101 _ _ rfl S 1 (g := r2) (C := #[jI jZ 0, jS none 0 0, jI jZ 0, jI jZ 0, jI jZ 0]) (t := 101) (by simp only [gs_, gz_, cnd_f hDi]) ((hev.old 7 (by kernel_rfl)).trans rfl) _ (hev.at_ 1 88 rfl rfl h1 f1) rfl (by kernel_rfl) rfl (fun w S => ⟨_, rfl, S, f0, f1, f4⟩)
   · obtain rfl := inj_ ho
     exact op_move (.inr rfl) rfl ⟨_, rfl, S, f0, f1, fun _ => rfl⟩
   · exact absurd ho (by simp)
 intro V w hI
 obtain ⟨S, f0, f1, f4⟩ := hI
 replace S : Hid (Sep noX w0 [ow (jS (some ⟨ga, 0, none⟩) 5 ca) zs FA, bx r2 #[jI jZ x.lv, jS A6 2 c6, jI jZ x.hi, jI jZ x.ri, jI jZ 0] 101, bx r1 #[jI jZ x.lv, jS A7 3 c7, jI jZ (kAt zs 3), jI jZ at_, jI jZ x.ow] 101, bx gp #[jI jZ k, jI jZ v] 86, bx gn #[jI jZ x.lv, jS A 4 c, jI jZ x.hi, jI jZ x.ri, jI jZ x.ow] 101, ow (jS A6 2 c6) (zs.drop 3) F6, bx ga11 #[jI jZ x.lv, jS A6 2 c6, jI jZ x.hi, jI jZ x.ri, jI jZ 0] 101, ow (jS A7 3 c7) (zs.take 3) F7, bx ga14 #[jI jZ x.lv, jS A7 3 c7, jI jZ (kAt zs 3), jI jZ at_, jI jZ x.ow] 101] w) := Lib.hid S
 simp only [putF, Act.put, sa_, sb_, sc_, f0 rfl, f1 rfl, f4 rfl]
 clear f0 f1 f4
 go_wp2_with fail
 exact bodyPost_ret (results_ccs rfl _ S.out 2 1 rfl rfl rfl rfl Try.isAgg101 Try.isAgg101 (by kernel_rfl) (by kernel_rfl)) rfl (by obtain ⟨e1, e2⟩ := EL.out HF.out; rw [e1, e2, HF.out]; exact S.out.givesNN 7 5 (by omega) rfl rfl (by rw [List.length_take, HZ.out]; rfl) (by rw [List.length_drop, HZ.out]))

theorem halves_any (x : Nd) (A : Option Addr) (n c : Nat) (k v at_ : Int) (w0 : World) (hP : RP w0 w0.heap.size A n x.ps) (hn : n ≤ 1048576) (hc : n ≤ c) (hc2 : c ≤ 9223372036854775807) :
   Calls Try.prog 115 #[ndV x A n c, .agg #[jI jZ k, jI jZ v], jI jZ at_] w0 (GivesNN w0 (loH x k v at_) (upH x k v at_) (halfB x k v at_)) := by
 by_cases hg : guardH x k v at_ = true
 · exact halves_go x A n c k v at_ w0 hP hn hc hc2 hg
 · exact halves_no x A n c k v at_ w0 hP hn hc hc2 (by simpa using hg)
end Go.Proofs.Ytjookicpmjmdhaa
