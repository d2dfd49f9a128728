/- The walk of the model's l3DrawAny. (Made by genY31.py.) -/
import Derived.Test.YtpffkhjegpddbaaGreatV45
import Derived.Test.YtpffkhjegpddbaaGreatV46
open Go.Value renaming int → jI, slice → jS
open Go.IntKind renaming i64 → jZ
namespace Go.Proofs.YtpffkhjegpddbaaGreat
open Go.RowKit

theorem Sep.drawnGain {w0 w w' : World} {L : List Item} {g : Nat} {A : Option Addr} {n c : Nat} (h : Sep (cuX g) w0 L w) (p : Nat) (e : L[p]? = some (cuI g A n c)) (hc : Cur w' g A n c) (hg : w.grownBy w' (some g)) (I : Item) (pI : I.P w') (f : ∀ k, I.F k → w.heap.size ≤ k ∧ k < w'.heap.size) : Sep (cuX g) w0 (I :: L) w' := by
 have hL : L.set p (cuI g A n c) = L := by
   apply List.ext_getElem?
   intro i
   by_cases hi : p = i
   · subst hi
     rw [List.getElem?_set_self (List.getElem?_eq_some_iff.1 e).1, e]
   · rw [List.getElem?_set_ne hi]
 have h2 := h.drawn p e hc hg
 rw [hL] at h2
 refine ⟨h2.only, fun i hi => ?_, fun i hi k hk => ?_, List.pairwise_cons.2 ⟨fun j hj => ?_, h2.apart⟩⟩
 · rcases List.mem_cons.1 hi with rfl | hi
   · exact pI
   · exact h2.holds i hi
 · rcases List.mem_cons.1 hi with rfl | hi
   · have := f k hk; have := h.size; exact ⟨.inr (by omega), by omega⟩
   · exact h2.fresh i hi k hk
 · exact fun k hk hk2 => by have := f k hk; have := (h.fresh j hj k hk2).2; omega

theorem kd_node : Kd 53 5 56 := ⟨by
 obtain ⟨i0, hi0, hz0, hz1, hz2⟩ := info_parts node_info
 exact ⟨i0, _, hi0, hz0, hz1, hz2, rfl⟩⟩
def lenOf (v : Option Value) : Nat := match v with | some (.slice _ n _) => n | _ => 0
theorem el_new : ∀ w, em.P w → encNd.Own w [jI jZ 0, jS none 0 0, jI jZ (-1), jI jZ (-1), jI jZ 0] newNd em.F := fun _ _ => ⟨jS none 0 0, rfl, World.ownsRow_nil _ _ _ _, fun k hk => by simp [Value.ownBlock] at hk⟩
theorem op_ltII {w : World} {o : Oper} {a : Act} {K : Act → World → Prop} {Q : Exit → Act → World → Prop} (x y : Operand) (ho : o.op = .binOp .lss 2 x y 2) {p q : Int} (hx : a.eval x = jI jZ p) (hy : a.eval y = jI jZ q)
   (hK : K (a.put o.dst (.bool (decide (p < q)))) w) : o.wp Tryz.prog a w K Q := by
 refine op_val ?_ hK
 generalize a.eval = E at hx hy ⊢
 simp [execOp, ho, hx, hy, go_sem]
theorem pinNd {w1 w : World} {gN n c k : Nat} {xs : List Nd} {F : FP} {A2 : Option Addr} {n2 c2 : Nat} (hO : OwnS w1 (jS (some ⟨gN, 0, none⟩) n c) xs F) (hk : k < xs.length) (hnd : NdAt w1 gN (0 + k * 5) (ndAt xs k) A2 n2 c2) (hp : (pin F w1).P w) : NdAt w gN (0 + k * 5) (ndAt xs k) A2 n2 c2 ∧ RP w w.heap.size A2 n2 (ndAt xs k).ps := by
 have hOw : OwnS w (jS (some ⟨gN, 0, none⟩) n c) xs F := hO.keep (fun k hF _ => (hp k hF).2)
 obtain ⟨g', cap, pre, cs, post, Fi, hv, hFg, _⟩ := hO.open k hk
 obtain ⟨rfl, rfl, rfl⟩ : gN = g' ∧ n = xs.length ∧ c = cap := by simpa using hv
 have hn : NdAt w gN (0 + k * 5) (ndAt xs k) A2 n2 c2 := hnd.keep (fun j => World.cell?_of_block (hp gN hFg).2)
 refine ⟨hn, ?_⟩
 obtain ⟨b, off, hA, hb, A3, n3, c3, hnd3, hP3, _⟩ := (OwnS.rs hOw rfl).ndAt k hk
 obtain ⟨rfl, rfl⟩ : gN = b ∧ 0 = off := by simpa using hA
 have h1 := hn.2.1
 rw [hnd3.2.1] at h1
 obtain ⟨rfl, rfl, rfl⟩ : A3 = A2 ∧ n3 = n2 ∧ c3 = c2 := by simpa using h1
 exact hP3
theorem sm_take {xs : List Nd} (h : Small.sm xs) (k : Nat) : Small.sm (xs.take k) := by
 refine ⟨by rw [List.length_take]; have := h.1; omega, fun i hi => ?_⟩
 rw [List.length_take] at hi
 have e : ndAt (xs.take k) i = ndAt xs i := by unfold ndAt; simp only [List.getD_eq_getElem?_getD]; rw [List.getElem?_take_of_lt (by omega)]
 rw [e]; exact h.2 i (by omega)
set_option maxRecDepth 100000 in
set_option maxHeartbeats 16000000 in
theorem drawT_any (g : Nat) (A : Option Addr) (n c : Nat) (w0 : World) (hC : Cur w0 g A n c) :
   Calls Tryz.prog 17 #[.pointer (some ⟨g, 0, none⟩)] w0 (DrawnT g A n c w0) := by
 have HCU := Lib.hid hC
 have S := Lib.hid (Sep.startCur hC)
 clear hC
 unfold DrawnT
 have tok0 : True := trivial
 have tokt : True := trivial
 go_enter Tryz.func17, Tryz.ntmps17
 go_wp2_with (first
     | go_skip
     | (clear tok0; refine nx_ 26 S rfl rfl Tryz.zeroValue26 ?_; clear S; intro rt w S))
 refine (draw14_any g A n c _ (S.out.cur 1 rfl HCU.out)).mono ?_
 rintro e w ⟨U, A0, c0, F0, A1, c1, F1, A2, c2, F2, rfl, hw, ⟨o1, _⟩, f1, _, _, hc9, hg9⟩
 replace S := Lib.hid (S.out.drawnGain 1 rfl hc9 hg9 (ow (jS A0 U.ns.length c0) U.ns F0) o1 f1)
 obtain ⟨q1, _⟩ := world_of hw
 have hRt := right_of q1
 have HSM := Lib.hid (sm_right hRt)
 have H40 : Hid (1 ≤ U.ns.length ∧ U.ns.length ≤ 40) := Lib.hid ⟨by have := hRt.root; omega, hRt.most⟩
 have HPS : Hid (∀ i, i < U.ns.length → (ndAt U.ns i).ps.length ≤ 4) := Lib.hid (fun i hi => nodeOk_four (hRt.good i hi).1)
 obtain ⟨gN, rfl⟩ : ∃ gN, A0 = some ⟨gN, 0, none⟩ := by
   obtain ⟨g9, cap, _, _, _, _, hv, _⟩ := OwnS.open o1 0 (by have := H40.out; omega)
   refine ⟨g9, ?_⟩
   simp only [Value.slice.injEq] at hv
   exact hv.1
 unfold wdV
 clear hw o1 f1 hc9 hg9 q1 hRt
 generalize U.ns = xs at *
 generalize U.root = r at *
 go_wp2_with (first
     | go_skip
     | (refine wpList_op rfl (op_fld _ _ _ rfl rfl (u := .agg #[jI jZ r, jS (some ⟨gN, 0, none⟩) xs.length c0]) (by kernel_rfl) ?_))
     | (clear tokt; refine nx_ 26 S rfl rfl Tryz.zeroValue26 ?_; clear S; intro gt w S)
     | (refine wpList_op rfl (op_putR_0 26 _ _ rfl S rfl _ rfl rfl (by kernel_rfl) rfl ?_); clear S; intro w S))
 refine (once_any g A n c 5 _ (S.out.cur 3 rfl HCU.out)).mono ?_
 rintro e w ⟨bb, rfl, hc9, hg9⟩
 replace S : Hid (Sep (cuX g) w0 [bx gt #[jI jZ r, jS (some ⟨gN, 0, none⟩) xs.length c0] 26, ow (jS (some ⟨gN, 0, none⟩) xs.length c0) xs F0, bx rt #[jI jZ 0, jS none 0 0] 26, cuI g A n c] w) := Lib.hid (S.out.drawn 3 rfl hc9 hg9)
 clear hc9 hg9
 cases bb
 ·
   go_wp2_with (first
       | go_skip
       | (refine wpList_op rfl (op_row 26 _ rfl S.out 0 rfl rfl Tryz.isAgg26 (by kernel_rfl) ?_))
       | (refine wpList_op rfl (op_putR_2 26 _ _ rfl S rfl _ rfl rfl (by kernel_rfl) rfl ?_); clear S; intro w S))
   exact bodyPost_ret (results_c rfl _ S.out 2 rfl rfl Tryz.isAgg26 (by kernel_rfl)) rfl ⟨r, xs, some ⟨gN, 0, none⟩, c0, _, by rw [show (xs).length = xs.length from rfl], HSM.out, by rw [show (xs).length = xs.length from rfl]; exact S.out.get 1 rfl, S.out.freshCu 1 3 (by omega) rfl rfl, S.out.cur 3 rfl HCU.out, S.out.grown⟩
 ·
   go_wp2_with (first
       | go_skip
       | (refine wpList_op rfl (op_get 24 _ rfl S.out 0 rfl _ rfl Tryz.isAgg24 _ rfl ?_)))
   refine (below_any g A n c (xs.length : Int) _ (S.out.cur 3 rfl HCU.out)).mono ?_
   rintro e w ⟨r9, rfl, hp9, hc9, hg9⟩
   have hp8 := hp9.2 (by have := H40.out; omega)
   obtain ⟨kq, rfl⟩ : ∃ q9 : Nat, r9 = q9 := ⟨r9.toNat, by omega⟩
   have HKQ : Hid (kq < xs.length) := Lib.hid (by omega)
   replace S : Hid (Sep (cuX g) w0 [bx gt #[jI jZ r, jS (some ⟨gN, 0, none⟩) xs.length c0] 26, ow (jS (some ⟨gN, 0, none⟩) xs.length c0) xs F0, bx rt #[jI jZ 0, jS none 0 0] 26, cuI g A n c] w) := Lib.hid (S.out.drawn 3 rfl hc9 hg9)
   clear hp9 hp8 hc9 hg9
   go_wp2_with fail
   refine (below_any g A n c 8 _ (S.out.cur 3 rfl HCU.out)).mono ?_
   rintro e w ⟨r9, rfl, hp9, hc9, hg9⟩
   have hp8 := hp9.2 (by omega)
   obtain ⟨q, rfl⟩ : ∃ q9 : Nat, r9 = q9 := ⟨r9.toNat, by omega⟩
   have HBq : Hid (q < 8) := Lib.hid (by omega)
   replace S : Hid (Sep (cuX g) w0 [bx gt #[jI jZ r, jS (some ⟨gN, 0, none⟩) xs.length c0] 26, ow (jS (some ⟨gN, 0, none⟩) xs.length c0) xs F0, bx rt #[jI jZ 0, jS none 0 0] 26, cuI g A n c] w) := Lib.hid (S.out.drawn 3 rfl hc9 hg9)
   clear hp9 hp8 hc9 hg9
   have hq8 := HBq.out
   obtain ⟨y, hy⟩ : ∃ y, y = ndAt xs kq := ⟨_, rfl⟩
   have HY := Lib.hid hy
   have HY4 : Hid (y.ps.length ≤ 4) := Lib.hid (by rw [hy]; exact HPS.out kq HKQ.out)
   clear hy
   by_cases q0 : q = 0
   · have g0 : ((q : Int) == 0) = true := by simp [q0]
     clear hq8 q0
     have W1 : IntKind.i64.wrap ((xs.length : Int) + 1) = (xs.length : Int) + 1 := IntWalk.i64_in _ (by have := H40.out; omega)
     go_wp2_with (first
         | go_skip
         | (refine wpList_op rfl (op_get 24 _ rfl S.out 0 rfl _ rfl Tryz.isAgg24 _ rfl ?_)))
     refine (below_any g A n c ((xs.length : Int) + 1) _ (S.out.cur 3 rfl HCU.out)).mono ?_
     rintro e w ⟨z, rfl, _, hc9, hg9⟩
     replace S : Hid (Sep (cuX g) w0 [bx gt #[jI jZ r, jS (some ⟨gN, 0, none⟩) xs.length c0] 26, ow (jS (some ⟨gN, 0, none⟩) xs.length c0) xs F0, bx rt #[jI jZ 0, jS none 0 0] 26, cuI g A n c] w) := Lib.hid (S.out.drawn 3 rfl hc9 hg9)
     clear hc9 hg9 W1
     go_wp2_with (first
         | go_skip
         | (refine wpList_op rfl (op_put1_0 2 _ _ rfl S _ rfl _ rfl rfl (by kernel_rfl) (of_decide_eq_true rfl) ?_); clear S; intro w S)
         | (refine wpList_op rfl (op_row 26 _ rfl S.out 0 rfl rfl Tryz.isAgg26 (by kernel_rfl) ?_))
         | (refine wpList_op rfl (op_putR_2 26 _ _ rfl S rfl _ rfl rfl (by kernel_rfl) rfl ?_); clear S; intro w S))
     exact bodyPost_ret (results_c rfl _ S.out 2 rfl rfl Tryz.isAgg26 (by kernel_rfl)) rfl ⟨z, xs, some ⟨gN, 0, none⟩, c0, _, rfl, HSM.out, S.out.get 1 rfl, S.out.freshCu 1 3 (by omega) rfl rfl, S.out.cur 3 rfl HCU.out, S.out.grown⟩
   by_cases q1 : q = 1
   · have g0 : ((q : Int) == 0) = false := by simp; omega
     have g1 : ((q : Int) == 1) = true := by simp [q1]
     clear hq8 q0 q1
     go_wp2_with fail
     refine wp_region_ev (by kernel_rfl) _ (by kernel_rfl) (by kernel_rfl) 109 rfl (by kernel_rfl) (fun D V w => ∃ x : Nd, ∃ AP : Option Addr, ∃ cP : Nat, ∃ FP9 : FP, Sep (cuX g) w0 [bx gt #[jI jZ r, jS (some ⟨gN, 0, none⟩) xs.length c0] 26, cnd (D 6) (ow (jS (some ⟨gN, 0, none⟩) xs.length c0) xs F0) (ow (jS (some ⟨gN, 0, none⟩) xs.length c0) (xs.set kq x) (fun q => F0 q ∨ FP9 q)), bx rt #[jI jZ 0, jS none 0 0] 26, cuI g A n c, cnd (D 4) em (cnd (D 6) (ow (jS AP x.ps.length cP) x.ps FP9) em)] w ∧ (D 0 = true → V 0 = .pointer (some ⟨gt, 1, none⟩)) ∧ (D 1 = true → V 1 = jS (some ⟨gN, 0, none⟩) xs.length c0) ∧ (D 2 = true → V 2 = jI jZ kq) ∧ (D 3 = true → V 3 = .pointer (some ⟨g, 0, none⟩)) ∧ (D 4 = true → V 4 = .agg #[jI jZ x.lv, jS AP x.ps.length cP, jI jZ x.hi, jI jZ x.ri, jI jZ x.ow]) ∧ (D 5 = true → V 5 = .pointer (some ⟨gN, 0 + kq * 5, none⟩)) ∧ (D 6 = true → D 4 = true) ∧ (D 4 = true → x.ps.length ≤ 41)) ?_ ?_ ?_
     · intro D hD
       have d4 := hD 4 (by decide)
       have d6 := hD 6 (by decide)
       exact ⟨zeroN, none, 0, fun _ => False, by simp only [cnd_f d4, cnd_f d6]; exact S.out.drew.ems 1, (nof (hD 0 (by decide))), (nof (hD 1 (by decide))), (nof (hD 2 (by decide))), (nof (hD 3 (by decide))), (nof (hD 4 (by decide))), (nof (hD 5 (by decide))), (nof (hD 6 (by decide))), (nof (hD 4 (by decide)))⟩
     · intro i o D V w a ho hI hDi haf hev
       obtain ⟨x, AP, cP, FP9, S, f0, f1, f2, f3, f4, f5, o6_4, k0⟩ := hI
       rcases i with _ | _ | _ | _ | _ | _ | _ | i
       · obtain rfl := inj_ ho
         exact op_field _ _ _ rfl ((hev.old 3 (by kernel_rfl)).trans rfl) (by kernel_rfl) ⟨_, rfl, x, AP, cP, FP9, S, fun _ => rfl, f1, f2, f3, f4, f5, o6_4, k0⟩
       · obtain rfl := inj_ ho
         have h0 := aft_ haf 0 rfl
         exact op_get 24 _ rfl S 0 rfl 1 (hev.at_ 0 28 rfl rfl h0 f0) Tryz.isAgg24 _ rfl ⟨_, rfl, x, AP, cP, FP9, S, f0, fun _ => rfl, f2, f3, f4, f5, o6_4, k0⟩
       · obtain rfl := inj_ ho
         exact op_move (.inl rfl) ((hev.old 4 (by kernel_rfl)).trans rfl) ⟨_, rfl, x, AP, cP, FP9, S, f0, f1, fun _ => rfl, f3, f4, f5, o6_4, k0⟩
       · obtain rfl := inj_ ho
         exact op_move (.inl rfl) ((hev.old 0 (by kernel_rfl)).trans rfl) ⟨_, rfl, x, AP, cP, FP9, S, f0, f1, f2, fun _ => rfl, f4, f5, o6_4, k0⟩
       · obtain rfl := inj_ ho
         have h3 := aft_ haf 3 rfl
         have hx0 := (hev.at_ 3 31 rfl rfl h3 f3)
         refine op_call _ _ _ rfl (enters_of Tryz.func35 (by kernel_rfl) rfl) #[.pointer (some ⟨g, 0, none⟩)] (by simp [hx0]) (nDrawAny_any g A n c w (S.cur 3 rfl HCU.out)) (fun e w2 hh => ?_)
         obtain ⟨x9, A9, c9, rfl, ho9, hl9, hc9, hg9⟩ := hh
         have nn := nofb hDi o6_4
         have S2 := (S.drawnGain 3 rfl hc9 hg9 (ow (jS A9 x9.ps.length c9) x9.ps (blkF (Value.slice A9 x9.ps.length c9).ownBlock)) (OwnS.of_pairs ho9 (fun k hk => hk)) (fun k hk => ho9.lt k hk)).toAt 4 (by simp only [gs_, gz_, cnd_f hDi])
         exact ⟨_, rfl, ⟨_, rfl, x9, A9, c9, (blkF (Value.slice A9 x9.ps.length c9).ownBlock), (by have S3 := S2; rw [nn] at S3; rw [show updB D 4 6 = false from nn]; exact S3), f0, f1, f2, f3, fun _ => rfl, f5, fun _ => rfl, (fun _ => hl9)⟩⟩
       · obtain rfl := inj_ ho
         have h1 := aft_ haf 1 rfl
         have h2 := aft_ haf 2 rfl
         exact op_idx _ _ _ rfl 53 5 Tryz.underlying24 Tryz.sizeOf53 (hev.at_ 1 29 rfl rfl h1 f1) (hev.at_ 2 30 rfl rfl h2 f2) HKQ.out ⟨_, rfl, x, AP, cP, FP9, S, f0, f1, f2, f3, f4, fun _ => rfl, o6_4, k0⟩
       · obtain rfl := inj_ ho
         have h5 := aft_ haf 5 rfl
         have h4 := aft_ haf 4 rfl
         have hx0 := (hev.at_ 5 33 rfl rfl h5 f5)
         have hx1 := (hev.at_ 4 32 rfl rfl h4 f4)
         exact op_putEl (α := Nd) 53 (by kernel_rfl) _ _ rfl S (xs := xs) (F := F0) (c := c0) (C := #[jI jZ x.lv, jS AP x.ps.length cP, jI jZ x.hi, jI jZ x.ri, jI jZ x.ow]) (J := ow (jS AP x.ps.length cP) x.ps FP9) x 1 4 (by omega) (by simp only [gs_, gz_, cnd_f hDi]) (by simp only [gs_, gz_, cnd_t h4, cnd_f hDi]) (fun w hw => (show encNd.Own w _ x FP9 from ⟨jS AP x.ps.length cP, rfl, (OwnS.pairs hw).1, (OwnS.pairs hw).2⟩)) (by simp [Value.oneCell']) HKQ.out hx0 (by show _ = kq * 5; omega) hx1 (fun w S => ⟨_, rfl, x, AP, cP, FP9, (by rw [show updB D 6 4 = true from h4]; exact S), f0, f1, f2, f3, f4, f5, fun _ => h4, k0⟩)
       · exact absurd ho (by simp)
     intro V w hI
     obtain ⟨x, AP, cP, FP9, S, f0, f1, f2, f3, f4, f5, o6_4, k0⟩ := hI
     replace S : Hid (Sep (cuX g) w0 [bx gt #[jI jZ r, jS (some ⟨gN, 0, none⟩) xs.length c0] 26, ow (jS (some ⟨gN, 0, none⟩) xs.length c0) (xs.set kq x) (fun q => F0 q ∨ FP9 q), bx rt #[jI jZ 0, jS none 0 0] 26, cuI g A n c, em] w) := Lib.hid S
     simp only [putF, Act.put, sa_, sb_, sc_, f0 rfl, f1 rfl, f2 rfl, f3 rfl, f4 rfl, f5 rfl]
     clear f0 f1 f2 f3 f4 f5 o6_4
     have HX := Lib.hid (k0 rfl)
     clear k0
     go_wp2_with (first
         | go_skip
         | (refine wpList_op rfl (op_row 26 _ rfl S.out 0 rfl rfl Tryz.isAgg26 (by kernel_rfl) ?_))
         | (refine wpList_op rfl (op_putR_2 26 _ _ rfl S rfl _ rfl rfl (by kernel_rfl) rfl ?_); clear S; intro w S))
     exact bodyPost_ret (results_c rfl _ S.out 2 rfl rfl Tryz.isAgg26 (by kernel_rfl)) rfl ⟨r, xs.set kq x, some ⟨gN, 0, none⟩, c0, _, by rw [show (xs.set kq x).length = xs.length from by simp], sm_set HSM.out _ (by have := HX.out; omega), by rw [show (xs.set kq x).length = xs.length from by simp]; exact S.out.get 1 rfl, S.out.freshCu 1 3 (by omega) rfl rfl, S.out.cur 3 rfl HCU.out, S.out.grown⟩
   by_cases q2 : q = 2
   · have g0 : ((q : Int) == 0) = false := by simp; omega
     have g1 : ((q : Int) == 1) = false := by simp; omega
     have g2 : ((q : Int) == 2) = true := by simp [q2]
     clear hq8 q0 q1 q2
     go_wp2_with fail
     refine wp_region_ev (by kernel_rfl) _ (by kernel_rfl) (by kernel_rfl) 109 rfl (by kernel_rfl) (fun D V w => ∃ z : Int, Sep (cuX g) w0 [bx gt #[jI jZ r, jS (some ⟨gN, 0, none⟩) xs.length c0] 26, cnd (D 10) (ow (jS (some ⟨gN, 0, none⟩) xs.length c0) xs F0) (ow (jS (some ⟨gN, 0, none⟩) xs.length c0) (xs.set kq { y with ri := z }) F0), bx rt #[jI jZ 0, jS none 0 0] 26, cuI g A n c] w ∧ (D 0 = true → V 0 = .pointer (some ⟨gt, 1, none⟩)) ∧ (D 1 = true → V 1 = jS (some ⟨gN, 0, none⟩) xs.length c0) ∧ (D 2 = true → V 2 = jI jZ kq) ∧ (D 3 = true → V 3 = .pointer (some ⟨g, 0, none⟩)) ∧ (D 4 = true → V 4 = .pointer (some ⟨gt, 1, none⟩)) ∧ (D 5 = true → V 5 = jS (some ⟨gN, 0, none⟩) xs.length c0) ∧ (D 6 = true → V 6 = jI jZ xs.length) ∧ (D 7 = true → V 7 = jI jZ z) ∧ (D 8 = true → V 8 = .pointer (some ⟨gN, 0 + kq * 5, none⟩)) ∧ (D 9 = true → V 9 = .pointer (some ⟨gN, 0 + kq * 5 + 3, none⟩)) ∧ (D 10 = true → D 7 = true)) ?_ ?_ ?_
     · intro D hD
       have d10 := hD 10 (by decide)
       exact ⟨0, by simp only [cnd_f d10]; exact S.out.drew.ems 0, (nof (hD 0 (by decide))), (nof (hD 1 (by decide))), (nof (hD 2 (by decide))), (nof (hD 3 (by decide))), (nof (hD 4 (by decide))), (nof (hD 5 (by decide))), (nof (hD 6 (by decide))), (nof (hD 7 (by decide))), (nof (hD 8 (by decide))), (nof (hD 9 (by decide))), (nof (hD 10 (by decide)))⟩
     · intro i o D V w a ho hI hDi haf hev
       obtain ⟨z, S, f0, f1, f2, f3, f4, f5, f6, f7, f8, f9, o10_7⟩ := hI
       rcases i with _ | _ | _ | _ | _ | _ | _ | _ | _ | _ | _ | i
       · obtain rfl := inj_ ho
         exact op_field _ _ _ rfl ((hev.old 3 (by kernel_rfl)).trans rfl) (by kernel_rfl) ⟨_, rfl, z, S, fun _ => rfl, f1, f2, f3, f4, f5, f6, f7, f8, f9, o10_7⟩
       · obtain rfl := inj_ ho
         have h0 := aft_ haf 0 rfl
         exact op_get 24 _ rfl S 0 rfl 1 (hev.at_ 0 36 rfl rfl h0 f0) Tryz.isAgg24 _ rfl ⟨_, rfl, z, S, f0, fun _ => rfl, f2, f3, f4, f5, f6, f7, f8, f9, o10_7⟩
       · obtain rfl := inj_ ho
         exact op_move (.inl rfl) ((hev.old 4 (by kernel_rfl)).trans rfl) ⟨_, rfl, z, S, f0, f1, fun _ => rfl, f3, f4, f5, f6, f7, f8, f9, o10_7⟩
       · obtain rfl := inj_ ho
         exact op_move (.inl rfl) ((hev.old 0 (by kernel_rfl)).trans rfl) ⟨_, rfl, z, S, f0, f1, f2, fun _ => rfl, f4, f5, f6, f7, f8, f9, o10_7⟩
       · obtain rfl := inj_ ho
         exact op_field _ _ _ rfl ((hev.old 3 (by kernel_rfl)).trans rfl) (by kernel_rfl) ⟨_, rfl, z, S, f0, f1, f2, f3, fun _ => rfl, f5, f6, f7, f8, f9, o10_7⟩
       · obtain rfl := inj_ ho
         have h4 := aft_ haf 4 rfl
         exact op_get 24 _ rfl S 0 rfl 1 (hev.at_ 4 40 rfl rfl h4 f4) Tryz.isAgg24 _ rfl ⟨_, rfl, z, S, f0, f1, f2, f3, f4, fun _ => rfl, f6, f7, f8, f9, o10_7⟩
       · obtain rfl := inj_ ho
         have h5 := aft_ haf 5 rfl
         exact op_lenN _ _ _ rfl Tryz.underlying24 (hev.at_ 5 41 rfl rfl h5 f5) ⟨_, rfl, z, S, f0, f1, f2, f3, f4, f5, fun _ => rfl, f7, f8, f9, o10_7⟩
       · obtain rfl := inj_ ho
         have h3 := aft_ haf 3 rfl
         have h6 := aft_ haf 6 rfl
         have hx0 := (hev.at_ 3 39 rfl rfl h3 f3)
         have hx1 := (hev.at_ 6 42 rfl rfl h6 f6)
         refine op_call _ _ _ rfl (enters_of Tryz.func18 (by kernel_rfl) rfl) #[.pointer (some ⟨g, 0, none⟩), jI jZ (-1), jI jZ xs.length] (by simp [hx0, hx1, eval_const]) (from_any g A n c (-1) xs.length w (S.cur 3 rfl HCU.out)) (fun e w2 hh => ?_)
         obtain ⟨r9, rfl, _, hc9, hg9⟩ := hh
         have nn := nofb hDi o10_7
         have S2 := S.drawn 3 rfl hc9 hg9
         exact ⟨_, rfl, ⟨_, rfl, r9, (by have S3 := S2; rw [nn] at S3; rw [show updB D 7 10 = false from nn]; exact S3), f0, f1, f2, f3, f4, f5, f6, fun _ => rfl, f8, f9, fun _ => rfl⟩⟩
       · obtain rfl := inj_ ho
         have h1 := aft_ haf 1 rfl
         have h2 := aft_ haf 2 rfl
         exact op_idx _ _ _ rfl 53 5 Tryz.underlying24 Tryz.sizeOf53 (hev.at_ 1 37 rfl rfl h1 f1) (hev.at_ 2 38 rfl rfl h2 f2) HKQ.out ⟨_, rfl, z, S, f0, f1, f2, f3, f4, f5, f6, f7, fun _ => rfl, f9, o10_7⟩
       · obtain rfl := inj_ ho
         have h8 := aft_ haf 8 rfl
         exact op_field _ _ _ rfl (hev.at_ 8 44 rfl rfl h8 f8) (by kernel_rfl) ⟨_, rfl, z, S, f0, f1, f2, f3, f4, f5, f6, f7, f8, fun _ => rfl, o10_7⟩
       · obtain rfl := inj_ ho
         have h9 := aft_ haf 9 rfl
         have h7 := aft_ haf 7 rfl
         exact op_ndPut1 3 _ _ _ rfl S (xs := xs) (F := F0) (c := c0) { y with ri := z } 1 (by simp only [gs_, gz_, cnd_f hDi]) (by rw [← HY.out]) HKQ.out (hev.at_ 9 45 rfl rfl h9 f9) (by omega) _ (hev.at_ 7 43 rfl rfl h7 f7) rfl rfl (by kernel_rfl) (by omega) (fun u => by rw [← HY.out]; rfl) (fun w S => ⟨_, rfl, z, S, f0, f1, f2, f3, f4, f5, f6, f7, f8, f9, fun _ => h7⟩)
       · exact absurd ho (by simp)
     intro V w hI
     obtain ⟨z, S, f0, f1, f2, f3, f4, f5, f6, f7, f8, f9, o10_7⟩ := hI
     replace S : Hid (Sep (cuX g) w0 [bx gt #[jI jZ r, jS (some ⟨gN, 0, none⟩) xs.length c0] 26, ow (jS (some ⟨gN, 0, none⟩) xs.length c0) (xs.set kq { y with ri := z }) F0, bx rt #[jI jZ 0, jS none 0 0] 26, cuI g A n c] w) := Lib.hid S
     simp only [putF, Act.put, sa_, sb_, sc_, f0 rfl, f1 rfl, f2 rfl, f3 rfl, f4 rfl, f5 rfl, f6 rfl, f7 rfl, f8 rfl, f9 rfl]
     clear f0 f1 f2 f3 f4 f5 f6 f7 f8 f9 o10_7
     go_wp2_with (first
         | go_skip
         | (refine wpList_op rfl (op_row 26 _ rfl S.out 0 rfl rfl Tryz.isAgg26 (by kernel_rfl) ?_))
         | (refine wpList_op rfl (op_putR_2 26 _ _ rfl S rfl _ rfl rfl (by kernel_rfl) rfl ?_); clear S; intro w S))
     exact bodyPost_ret (results_c rfl _ S.out 2 rfl rfl Tryz.isAgg26 (by kernel_rfl)) rfl ⟨r, xs.set kq { y with ri := z }, some ⟨gN, 0, none⟩, c0, _, by rw [show (xs.set kq { y with ri := z }).length = xs.length from by simp], sm_set HSM.out _ (by show y.ps.length ≤ _; have := HY4.out; omega), by rw [show (xs.set kq { y with ri := z }).length = xs.length from by simp]; exact S.out.get 1 rfl, S.out.freshCu 1 3 (by omega) rfl rfl, S.out.cur 3 rfl HCU.out, S.out.grown⟩
   by_cases q3 : q = 3
   · have g0 : ((q : Int) == 0) = false := by simp; omega
     have g1 : ((q : Int) == 1) = false := by simp; omega
     have g2 : ((q : Int) == 2) = false := by simp; omega
     have g3 : ((q : Int) == 3) = true := by simp [q3]
     clear hq8 q0 q1 q2 q3
     go_wp2_with fail
     refine wp_region_ev (by kernel_rfl) _ (by kernel_rfl) (by kernel_rfl) 109 rfl (by kernel_rfl) (fun D V w => ∃ z : Int, Sep (cuX g) w0 [bx gt #[jI jZ r, jS (some ⟨gN, 0, none⟩) xs.length c0] 26, cnd (D 7) (ow (jS (some ⟨gN, 0, none⟩) xs.length c0) xs F0) (ow (jS (some ⟨gN, 0, none⟩) xs.length c0) (xs.set kq { y with hi := z }) F0), bx rt #[jI jZ 0, jS none 0 0] 26, cuI g A n c] w ∧ (D 0 = true → V 0 = .pointer (some ⟨gt, 1, none⟩)) ∧ (D 1 = true → V 1 = jS (some ⟨gN, 0, none⟩) xs.length c0) ∧ (D 2 = true → V 2 = jI jZ kq) ∧ (D 3 = true → V 3 = .pointer (some ⟨g, 0, none⟩)) ∧ (D 4 = true → V 4 = jI jZ z) ∧ (D 5 = true → V 5 = .pointer (some ⟨gN, 0 + kq * 5, none⟩)) ∧ (D 6 = true → V 6 = .pointer (some ⟨gN, 0 + kq * 5 + 2, none⟩)) ∧ (D 7 = true → D 4 = true)) ?_ ?_ ?_
     · intro D hD
       have d7 := hD 7 (by decide)
       exact ⟨0, by simp only [cnd_f d7]; exact S.out.drew.ems 0, (nof (hD 0 (by decide))), (nof (hD 1 (by decide))), (nof (hD 2 (by decide))), (nof (hD 3 (by decide))), (nof (hD 4 (by decide))), (nof (hD 5 (by decide))), (nof (hD 6 (by decide))), (nof (hD 7 (by decide)))⟩
     · intro i o D V w a ho hI hDi haf hev
       obtain ⟨z, S, f0, f1, f2, f3, f4, f5, f6, o7_4⟩ := hI
       rcases i with _ | _ | _ | _ | _ | _ | _ | _ | i
       · obtain rfl := inj_ ho
         exact op_field _ _ _ rfl ((hev.old 3 (by kernel_rfl)).trans rfl) (by kernel_rfl) ⟨_, rfl, z, S, fun _ => rfl, f1, f2, f3, f4, f5, f6, o7_4⟩
       · obtain rfl := inj_ ho
         have h0 := aft_ haf 0 rfl
         exact op_get 24 _ rfl S 0 rfl 1 (hev.at_ 0 48 rfl rfl h0 f0) Tryz.isAgg24 _ rfl ⟨_, rfl, z, S, f0, fun _ => rfl, f2, f3, f4, f5, f6, o7_4⟩
       · obtain rfl := inj_ ho
         exact op_move (.inl rfl) ((hev.old 4 (by kernel_rfl)).trans rfl) ⟨_, rfl, z, S, f0, f1, fun _ => rfl, f3, f4, f5, f6, o7_4⟩
       · obtain rfl := inj_ ho
         exact op_move (.inl rfl) ((hev.old 0 (by kernel_rfl)).trans rfl) ⟨_, rfl, z, S, f0, f1, f2, fun _ => rfl, f4, f5, f6, o7_4⟩
       · obtain rfl := inj_ ho
         have h3 := aft_ haf 3 rfl
         have hx0 := (hev.at_ 3 51 rfl rfl h3 f3)
         refine op_call _ _ _ rfl (enters_of Tryz.func18 (by kernel_rfl) rfl) #[.pointer (some ⟨g, 0, none⟩), jI jZ (-1), jI jZ 20] (by simp [hx0, eval_const]) (from_any g A n c (-1) 20 w (S.cur 3 rfl HCU.out)) (fun e w2 hh => ?_)
         obtain ⟨r9, rfl, _, hc9, hg9⟩ := hh
         have nn := nofb hDi o7_4
         have S2 := S.drawn 3 rfl hc9 hg9
         exact ⟨_, rfl, ⟨_, rfl, r9, (by have S3 := S2; rw [nn] at S3; rw [show updB D 4 7 = false from nn]; exact S3), f0, f1, f2, f3, fun _ => rfl, f5, f6, fun _ => rfl⟩⟩
       · obtain rfl := inj_ ho
         have h1 := aft_ haf 1 rfl
         have h2 := aft_ haf 2 rfl
         exact op_idx _ _ _ rfl 53 5 Tryz.underlying24 Tryz.sizeOf53 (hev.at_ 1 49 rfl rfl h1 f1) (hev.at_ 2 50 rfl rfl h2 f2) HKQ.out ⟨_, rfl, z, S, f0, f1, f2, f3, f4, fun _ => rfl, f6, o7_4⟩
       · obtain rfl := inj_ ho
         have h5 := aft_ haf 5 rfl
         exact op_field _ _ _ rfl (hev.at_ 5 53 rfl rfl h5 f5) (by kernel_rfl) ⟨_, rfl, z, S, f0, f1, f2, f3, f4, f5, fun _ => rfl, o7_4⟩
       · obtain rfl := inj_ ho
         have h6 := aft_ haf 6 rfl
         have h4 := aft_ haf 4 rfl
         exact op_ndPut1 2 _ _ _ rfl S (xs := xs) (F := F0) (c := c0) { y with hi := z } 1 (by simp only [gs_, gz_, cnd_f hDi]) (by rw [← HY.out]) HKQ.out (hev.at_ 6 54 rfl rfl h6 f6) (by omega) _ (hev.at_ 4 52 rfl rfl h4 f4) rfl rfl (by kernel_rfl) (by omega) (fun u => by rw [← HY.out]; rfl) (fun w S => ⟨_, rfl, z, S, f0, f1, f2, f3, f4, f5, f6, fun _ => h4⟩)
       · exact absurd ho (by simp)
     intro V w hI
     obtain ⟨z, S, f0, f1, f2, f3, f4, f5, f6, o7_4⟩ := hI
     replace S : Hid (Sep (cuX g) w0 [bx gt #[jI jZ r, jS (some ⟨gN, 0, none⟩) xs.length c0] 26, ow (jS (some ⟨gN, 0, none⟩) xs.length c0) (xs.set kq { y with hi := z }) F0, bx rt #[jI jZ 0, jS none 0 0] 26, cuI g A n c] w) := Lib.hid S
     simp only [putF, Act.put, sa_, sb_, sc_, f0 rfl, f1 rfl, f2 rfl, f3 rfl, f4 rfl, f5 rfl, f6 rfl]
     clear f0 f1 f2 f3 f4 f5 f6 o7_4
     go_wp2_with (first
         | go_skip
         | (refine wpList_op rfl (op_row 26 _ rfl S.out 0 rfl rfl Tryz.isAgg26 (by kernel_rfl) ?_))
         | (refine wpList_op rfl (op_putR_2 26 _ _ rfl S rfl _ rfl rfl (by kernel_rfl) rfl ?_); clear S; intro w S))
     exact bodyPost_ret (results_c rfl _ S.out 2 rfl rfl Tryz.isAgg26 (by kernel_rfl)) rfl ⟨r, xs.set kq { y with hi := z }, some ⟨gN, 0, none⟩, c0, _, by rw [show (xs.set kq { y with hi := z }).length = xs.length from by simp], sm_set HSM.out _ (by show y.ps.length ≤ _; have := HY4.out; omega), by rw [show (xs.set kq { y with hi := z }).length = xs.length from by simp]; exact S.out.get 1 rfl, S.out.freshCu 1 3 (by omega) rfl rfl, S.out.cur 3 rfl HCU.out, S.out.grown⟩
   by_cases q4 : q = 4
   · have g0 : ((q : Int) == 0) = false := by simp; omega
     have g1 : ((q : Int) == 1) = false := by simp; omega
     have g2 : ((q : Int) == 2) = false := by simp; omega
     have g3 : ((q : Int) == 3) = false := by simp; omega
     have g4 : ((q : Int) == 4) = true := by simp [q4]
     clear hq8 q0 q1 q2 q3 q4
     go_wp2_with fail
     refine wp_region_ev (by kernel_rfl) _ (by kernel_rfl) (by kernel_rfl) 109 rfl (by kernel_rfl) (fun D V w => ∃ z : Int, Sep (cuX g) w0 [bx gt #[jI jZ r, jS (some ⟨gN, 0, none⟩) xs.length c0] 26, cnd (D 7) (ow (jS (some ⟨gN, 0, none⟩) xs.length c0) xs F0) (ow (jS (some ⟨gN, 0, none⟩) xs.length c0) (xs.set kq { y with lv := z }) F0), bx rt #[jI jZ 0, jS none 0 0] 26, cuI g A n c] w ∧ (D 0 = true → V 0 = .pointer (some ⟨gt, 1, none⟩)) ∧ (D 1 = true → V 1 = jS (some ⟨gN, 0, none⟩) xs.length c0) ∧ (D 2 = true → V 2 = jI jZ kq) ∧ (D 3 = true → V 3 = .pointer (some ⟨g, 0, none⟩)) ∧ (D 4 = true → V 4 = jI jZ z) ∧ (D 5 = true → V 5 = .pointer (some ⟨gN, 0 + kq * 5, none⟩)) ∧ (D 6 = true → V 6 = .pointer (some ⟨gN, 0 + kq * 5, none⟩)) ∧ (D 7 = true → D 4 = true)) ?_ ?_ ?_
     · intro D hD
       have d7 := hD 7 (by decide)
       exact ⟨0, by simp only [cnd_f d7]; exact S.out.drew.ems 0, (nof (hD 0 (by decide))), (nof (hD 1 (by decide))), (nof (hD 2 (by decide))), (nof (hD 3 (by decide))), (nof (hD 4 (by decide))), (nof (hD 5 (by decide))), (nof (hD 6 (by decide))), (nof (hD 7 (by decide)))⟩
     · intro i o D V w a ho hI hDi haf hev
       obtain ⟨z, S, f0, f1, f2, f3, f4, f5, f6, o7_4⟩ := hI
       rcases i with _ | _ | _ | _ | _ | _ | _ | _ | i
       · obtain rfl := inj_ ho
         exact op_field _ _ _ rfl ((hev.old 3 (by kernel_rfl)).trans rfl) (by kernel_rfl) ⟨_, rfl, z, S, fun _ => rfl, f1, f2, f3, f4, f5, f6, o7_4⟩
       · obtain rfl := inj_ ho
         have h0 := aft_ haf 0 rfl
         exact op_get 24 _ rfl S 0 rfl 1 (hev.at_ 0 57 rfl rfl h0 f0) Tryz.isAgg24 _ rfl ⟨_, rfl, z, S, f0, fun _ => rfl, f2, f3, f4, f5, f6, o7_4⟩
       · obtain rfl := inj_ ho
         exact op_move (.inl rfl) ((hev.old 4 (by kernel_rfl)).trans rfl) ⟨_, rfl, z, S, f0, f1, fun _ => rfl, f3, f4, f5, f6, o7_4⟩
       · obtain rfl := inj_ ho
         exact op_move (.inl rfl) ((hev.old 0 (by kernel_rfl)).trans rfl) ⟨_, rfl, z, S, f0, f1, f2, fun _ => rfl, f4, f5, f6, o7_4⟩
       · obtain rfl := inj_ ho
         have h3 := aft_ haf 3 rfl
         have hx0 := (hev.at_ 3 60 rfl rfl h3 f3)
         refine op_call _ _ _ rfl (enters_of Tryz.func34 (by kernel_rfl) rfl) #[.pointer (some ⟨g, 0, none⟩), jI jZ 3] (by simp [hx0, eval_const]) ((below_any g A n c 3 w (S.cur 3 rfl HCU.out)).mono (fun _ _ h => h.mono (fun _ _ => trivial))) (fun e w2 hh => ?_)
         obtain ⟨r9, rfl, _, hc9, hg9⟩ := hh
         have nn := nofb hDi o7_4
         have S2 := S.drawn 3 rfl hc9 hg9
         exact ⟨_, rfl, ⟨_, rfl, r9, (by have S3 := S2; rw [nn] at S3; rw [show updB D 4 7 = false from nn]; exact S3), f0, f1, f2, f3, fun _ => rfl, f5, f6, fun _ => rfl⟩⟩
       · obtain rfl := inj_ ho
         have h1 := aft_ haf 1 rfl
         have h2 := aft_ haf 2 rfl
         exact op_idx _ _ _ rfl 53 5 Tryz.underlying24 Tryz.sizeOf53 (hev.at_ 1 58 rfl rfl h1 f1) (hev.at_ 2 59 rfl rfl h2 f2) HKQ.out ⟨_, rfl, z, S, f0, f1, f2, f3, f4, fun _ => rfl, f6, o7_4⟩
       · obtain rfl := inj_ ho
         have h5 := aft_ haf 5 rfl
         exact op_field _ _ _ rfl (hev.at_ 5 62 rfl rfl h5 f5) (by kernel_rfl) ⟨_, rfl, z, S, f0, f1, f2, f3, f4, f5, fun _ => rfl, o7_4⟩
       · obtain rfl := inj_ ho
         have h6 := aft_ haf 6 rfl
         have h4 := aft_ haf 4 rfl
         exact op_ndPut1 0 _ _ _ rfl S (xs := xs) (F := F0) (c := c0) { y with lv := z } 1 (by simp only [gs_, gz_, cnd_f hDi]) (by rw [← HY.out]) HKQ.out (hev.at_ 6 63 rfl rfl h6 f6) (by omega) _ (hev.at_ 4 61 rfl rfl h4 f4) rfl rfl (by kernel_rfl) (by omega) (fun u => by rw [← HY.out]; rfl) (fun w S => ⟨_, rfl, z, S, f0, f1, f2, f3, f4, f5, f6, fun _ => h4⟩)
       · exact absurd ho (by simp)
     intro V w hI
     obtain ⟨z, S, f0, f1, f2, f3, f4, f5, f6, o7_4⟩ := hI
     replace S : Hid (Sep (cuX g) w0 [bx gt #[jI jZ r, jS (some ⟨gN, 0, none⟩) xs.length c0] 26, ow (jS (some ⟨gN, 0, none⟩) xs.length c0) (xs.set kq { y with lv := z }) F0, bx rt #[jI jZ 0, jS none 0 0] 26, cuI g A n c] w) := Lib.hid S
     simp only [putF, Act.put, sa_, sb_, sc_, f0 rfl, f1 rfl, f2 rfl, f3 rfl, f4 rfl, f5 rfl, f6 rfl]
     clear f0 f1 f2 f3 f4 f5 f6 o7_4
     go_wp2_with (first
         | go_skip
         | (refine wpList_op rfl (op_row 26 _ rfl S.out 0 rfl rfl Tryz.isAgg26 (by kernel_rfl) ?_))
         | (refine wpList_op rfl (op_putR_2 26 _ _ rfl S rfl _ rfl rfl (by kernel_rfl) rfl ?_); clear S; intro w S))
     exact bodyPost_ret (results_c rfl _ S.out 2 rfl rfl Tryz.isAgg26 (by kernel_rfl)) rfl ⟨r, xs.set kq { y with lv := z }, some ⟨gN, 0, none⟩, c0, _, by rw [show (xs.set kq { y with lv := z }).length = xs.length from by simp], sm_set HSM.out _ (by show y.ps.length ≤ _; have := HY4.out; omega), by rw [show (xs.set kq { y with lv := z }).length = xs.length from by simp]; exact S.out.get 1 rfl, S.out.freshCu 1 3 (by omega) rfl rfl, S.out.cur 3 rfl HCU.out, S.out.grown⟩
   by_cases q5 : q = 5
   · have g0 : ((q : Int) == 0) = false := by simp; omega
     have g1 : ((q : Int) == 1) = false := by simp; omega
     have g2 : ((q : Int) == 2) = false := by simp; omega
     have g3 : ((q : Int) == 3) = false := by simp; omega
     have g4 : ((q : Int) == 4) = false := by simp; omega
     have g5 : ((q : Int) == 5) = true := by simp [q5]
     clear hq8 q0 q1 q2 q3 q4 q5
     have HC5 : Hid (xs.length ≤ c0) := by
       obtain ⟨A9, c9, hv, hle, _⟩ := OwnS.form (S.out.get 1 rfl : OwnS w (jS (some ⟨gN, 0, none⟩) xs.length c0) xs F0)
       simp only [Value.slice.injEq] at hv
       exact Lib.hid (by have := hv.2.2; omega)
     have W1 : IntKind.i64.wrap ((xs.length : Int) - 1) = ((xs.length - 1 : Nat) : Int) := by rw [IntWalk.i64_in _ (by have := H40.out; omega)]; have := H40.out; omega
     have S5 := S.out.turn 1 rfl (Only.refl _ _) (ow (jS (some ⟨gN, 0, none⟩) (xs.length - 1) c0) (xs.take (xs.length - 1)) F0) (OwnS.frontE (S.out.get 1 rfl) (by omega)) (fun k hk => ⟨.inl hk, S.out.lt 1 rfl k hk⟩)
     replace S : Hid (Sep (cuX g) w0 [bx gt #[jI jZ r, jS (some ⟨gN, 0, none⟩) xs.length c0] 26, ow (jS (some ⟨gN, 0, none⟩) (xs.length - 1) c0) (xs.take (xs.length - 1)) F0, bx rt #[jI jZ 0, jS none 0 0] 26, cuI g A n c] w) := Lib.hid S5
     clear S5
     go_wp2_with (first
         | go_skip
         | (refine wpList_op rfl (op_slToT _ 53 5 (xs.length - 1) _ _ rfl Tryz.underlying24 Tryz.sizeOf53 rfl rfl (by have := HC5.out; omega) (by have := HC5.out; have := H40.out; omega) ?_))
         | (refine wpList_op rfl (op_get 24 _ rfl S.out 0 rfl _ rfl Tryz.isAgg24 _ rfl ?_))
         | (refine wpList_op rfl (op_put1_0 24 _ _ rfl S _ rfl _ rfl rfl (by kernel_rfl) (of_decide_eq_true rfl) ?_); clear S; intro w S)
         | (refine wpList_op rfl (op_row 26 _ rfl S.out 0 rfl rfl Tryz.isAgg26 (by kernel_rfl) ?_))
         | (refine wpList_op rfl (op_putR_2 26 _ _ rfl S rfl _ rfl rfl (by kernel_rfl) rfl ?_); clear S; intro w S))
     exact bodyPost_ret (results_c rfl _ S.out 2 rfl rfl Tryz.isAgg26 (by kernel_rfl)) rfl ⟨r, xs.take (xs.length - 1), some ⟨gN, 0, none⟩, c0, F0, by rw [show (xs.take (xs.length - 1)).length = xs.length - 1 by rw [List.length_take]; omega]; rfl, sm_take HSM.out _, by rw [show (xs.take (xs.length - 1)).length = xs.length - 1 by rw [List.length_take]; omega]; exact S.out.get 1 rfl, S.out.freshCu 1 3 (by omega) rfl rfl, S.out.cur 3 rfl HCU.out, S.out.grown⟩
   by_cases q6 : q = 6
   · have g0 : ((q : Int) == 0) = false := by simp; omega
     have g1 : ((q : Int) == 1) = false := by simp; omega
     have g2 : ((q : Int) == 2) = false := by simp; omega
     have g3 : ((q : Int) == 3) = false := by simp; omega
     have g4 : ((q : Int) == 4) = false := by simp; omega
     have g5 : ((q : Int) == 5) = false := by simp; omega
     have g6 : ((q : Int) == 6) = true := by simp [q6]
     clear hq8 q0 q1 q2 q3 q4 q5 q6
     go_wp2_with fail
     obtain ⟨w1, ho1, S6⟩ : ∃ w1, OwnS w1 (jS (some ⟨gN, 0, none⟩) xs.length c0) xs F0 ∧ Sep (cuX g) w0 [bx gt #[jI jZ r, jS (some ⟨gN, 0, none⟩) xs.length c0] 26, pin F0 w1, bx rt #[jI jZ 0, jS none 0 0] 26, cuI g A n c] w := ⟨w, S.out.get 1 rfl, S.out.turn 1 rfl (Only.refl _ _) (pin F0 w) (fun k hk => ⟨S.out.lt 1 rfl k hk, rfl⟩) (fun k hk => ⟨.inl hk, S.out.lt 1 rfl k hk⟩)⟩
     replace S := Lib.hid S6
     obtain ⟨b, off, hA, hb, A2, n2, c2, hnd, hP, hc2, hc3⟩ := (OwnS.rs ho1 rfl).ndAt kq HKQ.out
     obtain ⟨rfl, rfl⟩ : gN = b ∧ 0 = off := by simpa using hA
     have HO1 := Lib.hid ho1
     have ND := Lib.hid hnd
     have HN2 : Hid (n2 ≤ 1048576 ∧ n2 ≤ c2 ∧ c2 ≤ 9223372036854775807) := Lib.hid ⟨by have := HPS.out kq HKQ.out; have := hP.1; omega, hc2, hc3⟩
     clear S6 ho1 hA hb hnd hP hc2 hc3
     refine wp_region_ev (by kernel_rfl) _ (by kernel_rfl) (by kernel_rfl) 109 rfl (by kernel_rfl) (fun D V w => ∃ z1 : Int, ∃ z2 : Int, ∃ zs : List Pr, ∃ AZ : Option Addr, ∃ cZ : Nat, ∃ FZ : FP, Sep (cuX g) w0 [bx gt #[jI jZ r, jS (some ⟨gN, 0, none⟩) xs.length c0] 26, cnd (D 17) (pin F0 w1) (ow (jS (some ⟨gN, 0, none⟩) xs.length c0) (xs.set kq (⟨(ndAt xs kq).lv, zs, (ndAt xs kq).hi, (ndAt xs kq).ri, (ndAt xs kq).ow⟩ : Nd)) (fun q => F0 q ∨ FZ q)), bx rt #[jI jZ 0, jS none 0 0] 26, cuI g A n c, cnd (D 14) em (cnd (D 17) (ow (jS AZ zs.length cZ) zs FZ) em)] w ∧ (D 0 = true → V 0 = .pointer (some ⟨gt, 1, none⟩)) ∧ (D 1 = true → V 1 = jS (some ⟨gN, 0, none⟩) xs.length c0) ∧ (D 2 = true → V 2 = jI jZ kq) ∧ (D 3 = true → V 3 = .pointer (some ⟨gt, 1, none⟩)) ∧ (D 4 = true → V 4 = jS (some ⟨gN, 0, none⟩) xs.length c0) ∧ (D 5 = true → V 5 = jI jZ kq) ∧ (D 6 = true → V 6 = .pointer (some ⟨gN, 0 + kq * 5, none⟩)) ∧ (D 7 = true → V 7 = .pointer (some ⟨gN, 0 + kq * 5 + 1, none⟩)) ∧ (D 8 = true → V 8 = jS A2 n2 c2) ∧ (D 9 = true → V 9 = .pointer (some ⟨g, 0, none⟩)) ∧ (D 10 = true → V 10 = jI jZ z1) ∧ (D 11 = true → V 11 = .pointer (some ⟨g, 0, none⟩)) ∧ (D 12 = true → V 12 = jI jZ z2) ∧ (D 13 = true → V 13 = .agg #[jI jZ z1, jI jZ z2]) ∧ (D 14 = true → V 14 = jS AZ zs.length cZ) ∧ (D 15 = true → V 15 = .pointer (some ⟨gN, 0 + kq * 5, none⟩)) ∧ (D 16 = true → V 16 = .pointer (some ⟨gN, 0 + kq * 5 + 1, none⟩)) ∧ (D 13 = true → D 10 = true) ∧ (D 13 = true → D 12 = true) ∧ (D 14 = true → D 8 = true) ∧ (D 17 = true → D 8 = true) ∧ (D 17 = true → D 14 = true) ∧ (D 14 = true → zs.length ≤ 5)) ?_ ?_ ?_
     · intro D hD
       have d14 := hD 14 (by decide)
       have d17 := hD 17 (by decide)
       exact ⟨0, 0, [], none, 0, fun _ => False, by simp only [cnd_f d14, cnd_f d17]; exact S.out.drew.ems 1, (nof (hD 0 (by decide))), (nof (hD 1 (by decide))), (nof (hD 2 (by decide))), (nof (hD 3 (by decide))), (nof (hD 4 (by decide))), (nof (hD 5 (by decide))), (nof (hD 6 (by decide))), (nof (hD 7 (by decide))), (nof (hD 8 (by decide))), (nof (hD 9 (by decide))), (nof (hD 10 (by decide))), (nof (hD 11 (by decide))), (nof (hD 12 (by decide))), (nof (hD 13 (by decide))), (nof (hD 14 (by decide))), (nof (hD 15 (by decide))), (nof (hD 16 (by decide))), (nof (hD 13 (by decide))), (nof (hD 13 (by decide))), (nof (hD 14 (by decide))), (nof (hD 17 (by decide))), (nof (hD 17 (by decide))), (nof (hD 14 (by decide)))⟩
     · intro i o D V w a ho hI hDi haf hev
       obtain ⟨z1, z2, zs, AZ, cZ, FZ, S, f0, f1, f2, f3, f4, f5, f6, f7, f8, f9, f10, f11, f12, f13, f14, f15, f16, o13_10, o13_12, o14_8, o17_8, o17_14, k0⟩ := hI
       rcases i with _ | _ | _ | _ | _ | _ | _ | _ | _ | _ | _ | _ | _ | _ | _ | _ | _ | _ | i
       · obtain rfl := inj_ ho
         exact op_field _ _ _ rfl ((hev.old 3 (by kernel_rfl)).trans rfl) (by kernel_rfl) ⟨_, rfl, z1, z2, zs, AZ, cZ, FZ, S, fun _ => rfl, f1, f2, f3, f4, f5, f6, f7, f8, f9, f10, f11, f12, f13, f14, f15, f16, o13_10, o13_12, o14_8, o17_8, o17_14, k0⟩
       · obtain rfl := inj_ ho
         have h0 := aft_ haf 0 rfl
         exact op_get 24 _ rfl S 0 rfl 1 (hev.at_ 0 76 rfl rfl h0 f0) Tryz.isAgg24 _ rfl ⟨_, rfl, z1, z2, zs, AZ, cZ, FZ, S, f0, fun _ => rfl, f2, f3, f4, f5, f6, f7, f8, f9, f10, f11, f12, f13, f14, f15, f16, o13_10, o13_12, o14_8, o17_8, o17_14, k0⟩
       · obtain rfl := inj_ ho
         exact op_move (.inl rfl) ((hev.old 4 (by kernel_rfl)).trans rfl) ⟨_, rfl, z1, z2, zs, AZ, cZ, FZ, S, f0, f1, fun _ => rfl, f3, f4, f5, f6, f7, f8, f9, f10, f11, f12, f13, f14, f15, f16, o13_10, o13_12, o14_8, o17_8, o17_14, k0⟩
       · obtain rfl := inj_ ho
         exact op_field _ _ _ rfl ((hev.old 3 (by kernel_rfl)).trans rfl) (by kernel_rfl) ⟨_, rfl, z1, z2, zs, AZ, cZ, FZ, S, f0, f1, f2, fun _ => rfl, f4, f5, f6, f7, f8, f9, f10, f11, f12, f13, f14, f15, f16, o13_10, o13_12, o14_8, o17_8, o17_14, k0⟩
       · obtain rfl := inj_ ho
         have h3 := aft_ haf 3 rfl
         exact op_get 24 _ rfl S 0 rfl 1 (hev.at_ 3 79 rfl rfl h3 f3) Tryz.isAgg24 _ rfl ⟨_, rfl, z1, z2, zs, AZ, cZ, FZ, S, f0, f1, f2, f3, fun _ => rfl, f5, f6, f7, f8, f9, f10, f11, f12, f13, f14, f15, f16, o13_10, o13_12, o14_8, o17_8, o17_14, k0⟩
       · obtain rfl := inj_ ho
         exact op_move (.inl rfl) ((hev.old 4 (by kernel_rfl)).trans rfl) ⟨_, rfl, z1, z2, zs, AZ, cZ, FZ, S, f0, f1, f2, f3, f4, fun _ => rfl, f6, f7, f8, f9, f10, f11, f12, f13, f14, f15, f16, o13_10, o13_12, o14_8, o17_8, o17_14, k0⟩
       · obtain rfl := inj_ ho
         have h4 := aft_ haf 4 rfl
         have h5 := aft_ haf 5 rfl
         exact op_idx _ _ _ rfl 53 5 Tryz.underlying24 Tryz.sizeOf53 (hev.at_ 4 80 rfl rfl h4 f4) (hev.at_ 5 81 rfl rfl h5 f5) HKQ.out ⟨_, rfl, z1, z2, zs, AZ, cZ, FZ, S, f0, f1, f2, f3, f4, f5, fun _ => rfl, f7, f8, f9, f10, f11, f12, f13, f14, f15, f16, o13_10, o13_12, o14_8, o17_8, o17_14, k0⟩
       · obtain rfl := inj_ ho
         have h6 := aft_ haf 6 rfl
         exact op_field _ _ _ rfl (hev.at_ 6 82 rfl rfl h6 f6) (by kernel_rfl) ⟨_, rfl, z1, z2, zs, AZ, cZ, FZ, S, f0, f1, f2, f3, f4, f5, f6, fun _ => rfl, f8, f9, f10, f11, f12, f13, f14, f15, f16, o13_10, o13_12, o14_8, o17_8, o17_14, k0⟩
       · obtain rfl := inj_ ho
         have h7 := aft_ haf 7 rfl
         have nq := nofb hDi o17_8
         exact op_ndCell 1 51 _ rfl (hev.at_ 7 83 rfl rfl h7 f7) (pinNd HO1.out HKQ.out ND.out (S.get 1 (by simp only [gs_, gz_, cnd_f (show D 17 = false from nq)]))).1 Tryz.isAgg51 _ rfl ⟨_, rfl, z1, z2, zs, AZ, cZ, FZ, S, f0, f1, f2, f3, f4, f5, f6, f7, fun _ => rfl, f9, f10, f11, f12, f13, f14, f15, f16, o13_10, o13_12, fun _ => rfl, fun _ => rfl, o17_14, k0⟩
       · obtain rfl := inj_ ho
         exact op_move (.inl rfl) ((hev.old 0 (by kernel_rfl)).trans rfl) ⟨_, rfl, z1, z2, zs, AZ, cZ, FZ, S, f0, f1, f2, f3, f4, f5, f6, f7, f8, fun _ => rfl, f10, f11, f12, f13, f14, f15, f16, o13_10, o13_12, o14_8, o17_8, o17_14, k0⟩
       · obtain rfl := inj_ ho
         have h9 := aft_ haf 9 rfl
         have hx0 := (hev.at_ 9 85 rfl rfl h9 f9)
         refine op_call _ _ _ rfl (enters_of Tryz.func34 (by kernel_rfl) rfl) #[.pointer (some ⟨g, 0, none⟩), jI jZ 30] (by simp [hx0, eval_const]) (below_any g A n c 30 w (S.cur 3 rfl HCU.out)) (fun e w2 hh => ?_)
         obtain ⟨r9, rfl, _, hc9, hg9⟩ := hh
         exact ⟨_, rfl, ⟨_, rfl, r9, z2, zs, AZ, cZ, FZ, (S.drawn 3 rfl hc9 hg9), f0, f1, f2, f3, f4, f5, f6, f7, f8, f9, fun _ => rfl, f11, f12, (fun h => nof hDi (o13_10 h)), f14, f15, f16, fun _ => rfl, o13_12, o14_8, o17_8, o17_14, k0⟩⟩
       · obtain rfl := inj_ ho
         exact op_move (.inl rfl) ((hev.old 0 (by kernel_rfl)).trans rfl) ⟨_, rfl, z1, z2, zs, AZ, cZ, FZ, S, f0, f1, f2, f3, f4, f5, f6, f7, f8, f9, f10, fun _ => rfl, f12, f13, f14, f15, f16, o13_10, o13_12, o14_8, o17_8, o17_14, k0⟩
       · obtain rfl := inj_ ho
         have h11 := aft_ haf 11 rfl
         have hx0 := (hev.at_ 11 87 rfl rfl h11 f11)
         refine op_call _ _ _ rfl (enters_of Tryz.func34 (by kernel_rfl) rfl) #[.pointer (some ⟨g, 0, none⟩), jI jZ 5] (by simp [hx0, eval_const]) (below_any g A n c 5 w (S.cur 3 rfl HCU.out)) (fun e w2 hh => ?_)
         obtain ⟨r9, rfl, _, hc9, hg9⟩ := hh
         exact ⟨_, rfl, ⟨_, rfl, z1, r9, zs, AZ, cZ, FZ, (S.drawn 3 rfl hc9 hg9), f0, f1, f2, f3, f4, f5, f6, f7, f8, f9, f10, f11, fun _ => rfl, (fun h => nof hDi (o13_12 h)), f14, f15, f16, o13_10, fun _ => rfl, o14_8, o17_8, o17_14, k0⟩⟩
       · obtain rfl := inj_ ho
         have h10 := aft_ haf 10 rfl
         have h12 := aft_ haf 12 rfl
         have hx0 := (hev.at_ 10 86 rfl rfl h10 f10)
         have hx1 := (hev.at_ 12 88 rfl rfl h12 f12)
         exact op_build _ _ rfl [(0, jI jZ z1), (1, jI jZ z2)] (by simp [hx0, hx1]) _ (by kernel_rfl) ⟨_, rfl, z1, z2, zs, AZ, cZ, FZ, S, f0, f1, f2, f3, f4, f5, f6, f7, f8, f9, f10, f11, f12, fun _ => rfl, f14, f15, f16, fun _ => h10, fun _ => h12, o14_8, o17_8, o17_14, k0⟩
       · obtain rfl := inj_ ho
         have h8 := aft_ haf 8 rfl
         have h13 := aft_ haf 13 rfl
         have nq := nofb hDi o17_14
         have hx0 := (hev.at_ 8 84 rfl rfl h8 f8)
         have hx1 := (hev.at_ 13 89 rfl rfl h13 f13)
         refine op_call _ _ _ rfl (enters_of Tryz.func36 (by kernel_rfl) rfl) #[jS A2 n2 c2, .agg #[jI jZ z1, jI jZ z2]] (by simp [hx0, hx1]) (sPut_any A2 n2 c2 (ndAt xs kq).ps z1 z2 w (pinNd HO1.out HKQ.out ND.out (S.get 1 (by simp only [gs_, gz_, cnd_f (show D 17 = false from nq)]))).2 HN2.out.1 HN2.out.2.1 HN2.out.2.2) (fun e w2 hh => ?_)
         obtain ⟨A9, c9, rfl, own, b⟩ := own_form hh
         have hl9 := insL_length (ndAt xs kq).ps z1 z2
         have hl8 : (insL (ndAt xs kq).ps z1 z2).length ≤ 5 := by have := HPS.out kq HKQ.out; split at hl9 <;> omega
         have S2 := S.turn 4 (I := em) (by simp only [gs_, gz_, cnd_f hDi]) (Only.of_below b) (ow (jS A9 (insL (ndAt xs kq).ps z1 z2).length c9) (insL (ndAt xs kq).ps z1 z2) (blkF (Value.slice A9 (insL (ndAt xs kq).ps z1 z2).length c9).ownBlock)) (OwnS.of_pairs own (fun k hk => hk)) (fun k hk => by have := own.lt k hk; exact ⟨.inr this.1, this.2⟩)
         exact ⟨_, rfl, ⟨_, rfl, z1, z2, (insL (ndAt xs kq).ps z1 z2), A9, c9, (blkF (Value.slice A9 (insL (ndAt xs kq).ps z1 z2).length c9).ownBlock), (by have S3 := S2; rw [nq] at S3; rw [show updB D 14 17 = false from nq]; exact S3), f0, f1, f2, f3, f4, f5, f6, f7, f8, f9, f10, f11, f12, f13, fun _ => rfl, f15, f16, o13_10, o13_12, fun _ => h8, o17_8, fun _ => rfl, (fun _ => hl8)⟩⟩
       · obtain rfl := inj_ ho
         have h1 := aft_ haf 1 rfl
         have h2 := aft_ haf 2 rfl
         exact op_idx _ _ _ rfl 53 5 Tryz.underlying24 Tryz.sizeOf53 (hev.at_ 1 77 rfl rfl h1 f1) (hev.at_ 2 78 rfl rfl h2 f2) HKQ.out ⟨_, rfl, z1, z2, zs, AZ, cZ, FZ, S, f0, f1, f2, f3, f4, f5, f6, f7, f8, f9, f10, f11, f12, f13, f14, fun _ => rfl, f16, o13_10, o13_12, o14_8, o17_8, o17_14, k0⟩
       · obtain rfl := inj_ ho
         have h15 := aft_ haf 15 rfl
         exact op_field _ _ _ rfl (hev.at_ 15 91 rfl rfl h15 f15) (by kernel_rfl) ⟨_, rfl, z1, z2, zs, AZ, cZ, FZ, S, f0, f1, f2, f3, f4, f5, f6, f7, f8, f9, f10, f11, f12, f13, f14, f15, fun _ => rfl, o13_10, o13_12, o14_8, o17_8, o17_14, k0⟩
       · obtain rfl := inj_ ho
         have h16 := aft_ haf 16 rfl
         have h14 := aft_ haf 14 rfl
         have h8 : D 8 = true := o14_8 h14
         have hx0 := (hev.at_ 16 92 rfl rfl h16 f16)
         have hx1 := (hev.at_ 14 90 rfl rfl h14 f14)
         have hp := S.get 1 (I := pin F0 w1) (by simp only [gs_, gz_, cnd_f hDi])
         have hOw : OwnS w (jS (some ⟨gN, 0, none⟩) xs.length c0) xs F0 := HO1.out.keep (fun k hF _ => (hp k hF).2)
         have S7 := S.turn 1 (I := pin F0 w1) (by simp only [gs_, gz_, cnd_f hDi]) (Only.refl _ _) (ow (jS (some ⟨gN, 0, none⟩) xs.length c0) xs F0) hOw (fun k hk => ⟨.inl hk, (Array.getElem?_eq_some_iff.1 ((hp k hk).2.trans (Array.getElem?_eq_getElem (hp k hk).1))).1⟩)
         exact op_ndPutL _ _ _ rfl S7 (xs := xs) (F := F0) (c := c0) (vz := jS AZ zs.length cZ) (zs := zs) (FZ := FZ) 1 4 (by omega) rfl (by simp only [sb_, sc_, gs_, gz_, cnd_t h14, cnd_f hDi]) HKQ.out hx0 (by omega) hx1 rfl rfl (by kernel_rfl) (fun w S => ⟨_, rfl, z1, z2, zs, AZ, cZ, FZ, (by rw [show updB D 17 14 = true from h14]; exact S), f0, f1, f2, f3, f4, f5, f6, f7, f8, f9, f10, f11, f12, f13, f14, f15, f16, o13_10, o13_12, o14_8, fun _ => h8, fun _ => h14, k0⟩)
       · exact absurd ho (by simp)
     intro V w hI
     obtain ⟨z1, z2, zs, AZ, cZ, FZ, S, f0, f1, f2, f3, f4, f5, f6, f7, f8, f9, f10, f11, f12, f13, f14, f15, f16, o13_10, o13_12, o14_8, o17_8, o17_14, k0⟩ := hI
     replace S : Hid (Sep (cuX g) w0 [bx gt #[jI jZ r, jS (some ⟨gN, 0, none⟩) xs.length c0] 26, ow (jS (some ⟨gN, 0, none⟩) xs.length c0) (xs.set kq (⟨(ndAt xs kq).lv, zs, (ndAt xs kq).hi, (ndAt xs kq).ri, (ndAt xs kq).ow⟩ : Nd)) (fun q => F0 q ∨ FZ q), bx rt #[jI jZ 0, jS none 0 0] 26, cuI g A n c, em] w) := Lib.hid S
     simp only [putF, Act.put, sa_, sb_, sc_, f0 rfl, f1 rfl, f2 rfl, f3 rfl, f4 rfl, f5 rfl, f6 rfl, f7 rfl, f8 rfl, f9 rfl, f10 rfl, f11 rfl, f12 rfl, f13 rfl, f14 rfl, f15 rfl, f16 rfl]
     clear f0 f1 f2 f3 f4 f5 f6 f7 f8 f9 f10 f11 f12 f13 f14 f15 f16 o13_10 o13_12 o14_8 o17_8 o17_14
     have HX := Lib.hid (k0 rfl)
     clear k0
     go_wp2_with (first
         | go_skip
         | (refine wpList_op rfl (op_row 26 _ rfl S.out 0 rfl rfl Tryz.isAgg26 (by kernel_rfl) ?_))
         | (refine wpList_op rfl (op_putR_2 26 _ _ rfl S rfl _ rfl rfl (by kernel_rfl) rfl ?_); clear S; intro w S))
     exact bodyPost_ret (results_c rfl _ S.out 2 rfl rfl Tryz.isAgg26 (by kernel_rfl)) rfl ⟨r, xs.set kq (⟨(ndAt xs kq).lv, zs, (ndAt xs kq).hi, (ndAt xs kq).ri, (ndAt xs kq).ow⟩ : Nd), some ⟨gN, 0, none⟩, c0, _, by rw [show (xs.set kq (⟨(ndAt xs kq).lv, zs, (ndAt xs kq).hi, (ndAt xs kq).ri, (ndAt xs kq).ow⟩ : Nd)).length = xs.length from by simp], sm_set HSM.out _ (by show zs.length ≤ _; have := HX.out; omega), by rw [show (xs.set kq (⟨(ndAt xs kq).lv, zs, (ndAt xs kq).hi, (ndAt xs kq).ri, (ndAt xs kq).ow⟩ : Nd)).length = xs.length from by simp]; exact S.out.get 1 rfl, S.out.freshCu 1 3 (by omega) rfl rfl, S.out.cur 3 rfl HCU.out, S.out.grown⟩
   · have g0 : ((q : Int) == 0) = false := by simp; omega
     have g1 : ((q : Int) == 1) = false := by simp; omega
     have g2 : ((q : Int) == 2) = false := by simp; omega
     have g3 : ((q : Int) == 3) = false := by simp; omega
     have g4 : ((q : Int) == 4) = false := by simp; omega
     have g5 : ((q : Int) == 5) = false := by simp; omega
     have g6 : ((q : Int) == 6) = false := by simp; omega
     have g7 : ((q : Int) == 7) = true := by
       have h9 : (q : Int) = 7 := by omega
       simp [h9]
     clear hq8 q0 q1 q2 q3 q4 q5 q6
     go_wp2_with fail
     go_loopw [] (fun wr => ∃ (ys : List Nd) (Ay : Option Addr) (cy : Nat) (Fy : FP), Small.sm ys ∧ ys.length ≤ 41 ∧ Hid (Sep (cuX g) w0 [bx gt #[jI jZ r, jS Ay ys.length cy] 26, ow (jS Ay ys.length cy) ys Fy, bx rt #[jI jZ 0, jS none 0 0] 26, cuI g A n c] wr)) (fun w => 41 - lenOf (w.cell? ⟨gt, 1, none⟩))
     case atStart => exact ⟨xs, some ⟨gN, 0, none⟩, c0, F0, HSM.out, by have := H40.out; omega, S⟩
     case round =>
       clear S
       obtain ⟨ys, Ay, cy, Fy, hsy, hly, S⟩ := hrel
       have hc1 : wr.cell? ⟨gt, 1, none⟩ = some (.slice Ay ys.length cy) := by rw [cell_of_row _ _ 1 _ _ _ (S.out.get 0 rfl : wr.heap[gt]? = some (.cells #[jI jZ r, jS Ay ys.length cy] 26 (0, 0)))]; rfl
       have HC1 := Lib.hid hc1
       have HSY := Lib.hid hsy
       clear hc1 hsy
       go_wp2_with fail
       refine wp_region_ev (by kernel_rfl) _ (by kernel_rfl) (by kernel_rfl) 109 rfl (by kernel_rfl) (fun D V w => ∃ z : Int, Sep (cuX g) w0 [bx gt #[jI jZ r, jS Ay ys.length cy] 26, ow (jS Ay ys.length cy) ys Fy, bx rt #[jI jZ 0, jS none 0 0] 26, cuI g A n c] w ∧ (D 0 = true → V 0 = .pointer (some ⟨gt, 1, none⟩)) ∧ (D 1 = true → V 1 = jS Ay ys.length cy) ∧ (D 2 = true → V 2 = jI jZ ys.length) ∧ (D 3 = true → V 3 = .pointer (some ⟨g, 0, none⟩)) ∧ (D 4 = true → V 4 = jI jZ z) ∧ (D 5 = true → V 5 = jI jZ (40 + z)) ∧ (D 6 = true → V 6 = .bool (decide ((ys.length : Int) < 40 + z))) ∧ (D 5 = true → D 4 = true) ∧ (D 6 = true → D 4 = true) ∧ (D 4 = true → 0 ≤ z ∧ z < 2)) ?_ ?_ ?_
       · intro D hD
         exact ⟨0, by exact S.out.drew.ems 0, (nof (hD 0 (by decide))), (nof (hD 1 (by decide))), (nof (hD 2 (by decide))), (nof (hD 3 (by decide))), (nof (hD 4 (by decide))), (nof (hD 5 (by decide))), (nof (hD 6 (by decide))), (nof (hD 5 (by decide))), (nof (hD 6 (by decide))), (nof (hD 4 (by decide)))⟩
       · intro i o D V w a ho hI hDi haf hev
         obtain ⟨z, S, f0, f1, f2, f3, f4, f5, f6, o5_4, o6_4, k0⟩ := hI
         rcases i with _ | _ | _ | _ | _ | _ | _ | i
         · obtain rfl := inj_ ho
           exact op_field _ _ _ rfl ((hev.old 3 (by kernel_rfl)).trans rfl) (by kernel_rfl) ⟨_, rfl, z, S, fun _ => rfl, f1, f2, f3, f4, f5, f6, o5_4, o6_4, k0⟩
         · obtain rfl := inj_ ho
           have h0 := aft_ haf 0 rfl
           exact op_get 24 _ rfl S 0 rfl 1 (hev.at_ 0 95 rfl rfl h0 f0) Tryz.isAgg24 _ rfl ⟨_, rfl, z, S, f0, fun _ => rfl, f2, f3, f4, f5, f6, o5_4, o6_4, k0⟩
         · obtain rfl := inj_ ho
           have h1 := aft_ haf 1 rfl
           exact op_lenN _ _ _ rfl Tryz.underlying24 (hev.at_ 1 96 rfl rfl h1 f1) ⟨_, rfl, z, S, f0, f1, fun _ => rfl, f3, f4, f5, f6, o5_4, o6_4, k0⟩
         · obtain rfl := inj_ ho
           exact op_move (.inl rfl) ((hev.old 0 (by kernel_rfl)).trans rfl) ⟨_, rfl, z, S, f0, f1, f2, fun _ => rfl, f4, f5, f6, o5_4, o6_4, k0⟩
         · obtain rfl := inj_ ho
           have h3 := aft_ haf 3 rfl
           have hx0 := (hev.at_ 3 98 rfl rfl h3 f3)
           refine op_call _ _ _ rfl (enters_of Tryz.func34 (by kernel_rfl) rfl) #[.pointer (some ⟨g, 0, none⟩), jI jZ 2] (by simp [hx0, eval_const]) (below_any g A n c 2 w (S.cur 3 rfl HCU.out)) (fun e w2 hh => ?_)
           obtain ⟨r9, rfl, hp9, hc9, hg9⟩ := hh
           exact ⟨_, rfl, ⟨_, rfl, r9, (S.drawn 3 rfl hc9 hg9), f0, f1, f2, f3, fun _ => rfl, (fun h => nof hDi (o5_4 h)), (fun h => nof hDi (o6_4 h)), fun _ => rfl, fun _ => rfl, (fun _ => hp9.2 (by omega))⟩⟩
         · obtain rfl := inj_ ho
           have h4 := aft_ haf 4 rfl
           exact op_addII _ _ _ rfl (by kernel_rfl) rfl (hev.at_ 4 99 rfl rfl h4 f4) (IntWalk.i64_in _ (by have := k0 h4; omega)) ⟨_, rfl, z, S, f0, f1, f2, f3, f4, fun _ => rfl, f6, fun _ => h4, o6_4, k0⟩
         · obtain rfl := inj_ ho
           have h2 := aft_ haf 2 rfl
           have h5 := aft_ haf 5 rfl
           have h4 : D 4 = true := o5_4 h5
           exact op_ltII _ _ rfl (hev.at_ 2 97 rfl rfl h2 f2) (hev.at_ 5 100 rfl rfl h5 f5) ⟨_, rfl, z, S, f0, f1, f2, f3, f4, f5, fun _ => rfl, o5_4, fun _ => h4, k0⟩
         · exact absurd ho (by simp)
       intro V w hI
       obtain ⟨z, S, f0, f1, f2, f3, f4, f5, f6, o5_4, o6_4, k0⟩ := hI
       replace S : Hid (Sep (cuX g) w0 [bx gt #[jI jZ r, jS Ay ys.length cy] 26, ow (jS Ay ys.length cy) ys Fy, bx rt #[jI jZ 0, jS none 0 0] 26, cuI g A n c] w) := Lib.hid S
       simp only [putF, Act.put, sa_, sb_, sc_, f0 rfl, f1 rfl, f2 rfl, f3 rfl, f4 rfl, f5 rfl, f6 rfl]
       clear f0 f1 f2 f3 f4 f5 f6 o5_4 o6_4
       have HZ := Lib.hid (k0 rfl)
       clear k0
       by_cases hlt : (ys.length : Int) < 40 + z
       · have d1 : decide ((ys.length : Int) < 40 + z) = true := by rw [decide_eq_true_eq]; exact hlt
         rw [d1]
         have hl41 : ys.length ≤ 40 := by have := HZ.out; omega
         replace S := Lib.hid S.out.emI
         clear hlt d1
         go_wp2_with (first
             | go_skip
             | (refine wpList_op rfl (op_build 53 _ rfl [(2, jI jZ (-1)), (3, jI jZ (-1))] rfl #[jI jZ 0, jS none 0 0, jI jZ (-1), jI jZ (-1), jI jZ 0] (by kernel_rfl) ?_); simp only [Act.put, sa_, sb_, sc_])
             | (refine wpList_op rfl (op_bsN1 _ rfl S.out rfl ?_); clear S; intro gq w S; replace S := Lib.hid S; simp only [Act.put, sa_, sb_, sc_])
             | (refine wpList_op rfl (op_appEl (α := Nd) 24 5 56 kd_node rfl Tryz.underlying24 (by omega) _ _ rfl S.out (v := jS Ay ys.length cy) (xs := ys) (F := Fy) (C := #[jI jZ 0, jS none 0 0, jI jZ (-1), jI jZ (-1), jI jZ 0]) (J := em) (y := newNd) 3 1 0 (by omega) rfl rfl rfl el_new (by simp [Value.oneCell']) rfl (by omega) (by omega) rfl rfl ?_); clear S; intro A7 c7 F7 w S; replace S : Hid (Sep (cuX g) w0 [bx gq #[jI jZ 0, jS none 0 0, jI jZ (-1), jI jZ (-1), jI jZ 0] 53, em, bx gt #[jI jZ r, jS Ay ys.length cy] 26, ow (jS A7 (ys.length + 1) c7) (ys ++ [newNd]) F7, bx rt #[jI jZ 0, jS none 0 0] 26, cuI g A n c] w) := Lib.hid S; simp only [Act.put, sa_, sb_, sc_])
             | (refine wpList_op rfl (op_get 24 _ rfl S.out 2 rfl _ rfl Tryz.isAgg24 _ rfl ?_); simp only [Act.put, sa_, sb_, sc_])
             | (refine wpList_op rfl (op_get 24 _ rfl S.out 1 rfl _ rfl Tryz.isAgg24 _ rfl ?_); simp only [Act.put, sa_, sb_, sc_])
             | (refine wpList_op rfl (op_get 24 _ rfl S.out 0 rfl _ rfl Tryz.isAgg24 _ rfl ?_); simp only [Act.put, sa_, sb_, sc_])
             | (refine wpList_op rfl (op_put1_2 24 _ _ rfl S _ rfl _ rfl rfl (by kernel_rfl) (of_decide_eq_true rfl) ?_); clear S; intro w S; replace S : Hid (Sep (cuX g) w0 [bx gq #[jI jZ 0, jS none 0 0, jI jZ (-1), jI jZ (-1), jI jZ 0] 53, em, bx gt #[jI jZ r, jS A7 (ys.length + 1) c7] 26, ow (jS A7 (ys.length + 1) c7) (ys ++ [newNd]) F7, bx rt #[jI jZ 0, jS none 0 0] 26, cuI g A n c] w) := S; simp only [Act.put]))
         have S9 : Sep (cuX g) w0 [bx gt #[jI jZ r, jS A7 (ys.length + 1) c7] 26, ow (jS A7 (ys.length + 1) c7) (ys ++ [newNd]) F7, bx rt #[jI jZ 0, jS none 0 0] 26, cuI g A n c] w := S.out.drop (List.Sublist.cons _ (List.Sublist.cons _ (List.Sublist.refl _)))
         have hc2 : w.cell? ⟨gt, 1, none⟩ = some (.slice A7 (ys.length + 1) c7) := by rw [cell_of_row _ _ 1 _ _ _ (S9.get 0 rfl : w.heap[gt]? = some (.cells #[jI jZ r, jS A7 (ys.length + 1) c7] 26 (0, 0)))]; rfl
         go_roundw
         case rel => exact ⟨ys ++ [newNd], A7, c7, F7, sm_snoc HSY.out (by omega) (by decide), by simp; omega, by rw [show (ys ++ [newNd]).length = ys.length + 1 by simp]; exact Lib.hid S9⟩
         case measure => rw [hc2, HC1.out]; simp only [lenOf]; omega
       · have d1 : decide ((ys.length : Int) < 40 + z) = false := by rw [decide_eq_false_iff_not]; exact hlt
         rw [d1]
         clear hlt d1
         go_wp2_with (first
             | go_skip
             | (refine wpList_op rfl (op_row 26 _ rfl S.out 0 rfl rfl Tryz.isAgg26 (by kernel_rfl) ?_))
             | (refine wpList_op rfl (op_putR_2 26 _ _ rfl S rfl _ rfl rfl (by kernel_rfl) rfl ?_); clear S; intro w S))
         exact bodyPost_ret (results_c rfl _ S.out 2 rfl rfl Tryz.isAgg26 (by kernel_rfl)) rfl ⟨r, ys, Ay, cy, Fy, rfl, HSY.out, S.out.get 1 rfl, S.out.freshCu 1 3 (by omega) rfl rfl, S.out.cur 3 rfl HCU.out, S.out.grown⟩
end Go.Proofs.YtpffkhjegpddbaaGreat
