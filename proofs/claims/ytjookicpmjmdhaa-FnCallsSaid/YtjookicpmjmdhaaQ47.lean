/- The walk of the model's l14Draw: its parts. (Made by genY30.py.) -/
import Derived.Test.YtjookicpmjmdhaaQ46
open Go.Value renaming int → jI, slice → jS
open Go.IntKind renaming i64 → jZ
namespace Go.Proofs.Ytjookicpmjmdhaa
open Go.RowKit

theorem hasB0 {W : Wd} (h : worldOk W = true) : hasB W.hs.length 0 = true := by
 obtain ⟨_, q2, _⟩ := world_of h
 exact (hasB_iff _ 0).2 ⟨by omega, by omega⟩
theorem Sep.freshCu {w0 w : World} {L : List Item} {g : Nat} {A : Option Addr} {n c : Nat} (h : Sep (cuX g) w0 L w) (i p : Nat) (hip : i ≠ p) {α : Type} [Enc α] {v : Value} {xs : List α} {F : FP} (e : L[i]? = some (ow v xs F)) (e' : L[p]? = some (cuI g A n c)) : Fresh F w0 w := fun k hk => by
 obtain ⟨h1, h2⟩ := h.fresh _ (List.mem_of_getElem? e) k hk
 refine ⟨?_, h2⟩
 rcases h1 with h1 | h1
 · exact absurd h1 (h.apart_at i p hip e e' k hk)
 · exact h1
theorem newW_in {q : Nat} (h : q < 4) : inB (1 + (q : Int)) 1 6 = true := by unfold inB; simp; omega

set_option maxRecDepth 100000 in
set_option maxHeartbeats 16000000 in
theorem draw14_any (g : Nat) (A : Option Addr) (n c : Nat) (w0 : World) (hC : Cur w0 g A n c) :
   Calls Try.prog 58 #[.pointer (some ⟨g, 0, none⟩)] w0 (DrawnW g A n c w0) := by
 have HCU := Lib.hid hC
 have S := Lib.hid (Sep.startCur hC)
 clear hC
 unfold DrawnW
 have tok0 : True := trivial
 have tokv : True := trivial
 go_enter Try.func58, Try.ntmps58
 go_wp2_with (first
     | go_skip
     | (clear tok0; refine nx_ 81 S rfl rfl Try.zeroValue81 ?_; clear S; intro rw w S))
 refine (below_any g A n c 4 _ (S.out.cur 1 rfl HCU.out)).mono ?_
 rintro e w ⟨r9, rfl, hp9, hc9, hg9⟩
 have hp8 := hp9.2 (by omega)
 obtain ⟨q, rfl⟩ : ∃ q9 : Nat, r9 = q9 := ⟨r9.toNat, by omega⟩
 have HBq : Hid (q < 4) := Lib.hid (by omega)
 replace S : Hid (Sep (cuX g) w0 [bx rw #[jI jZ 0, jS none 0 0, jS none 0 0, jS none 0 0, jI jZ 0] 81, cuI g A n c] w) := Lib.hid (S.out.drawn 1 rfl hc9 hg9)
 clear hp9 hp8 hc9 hg9
 have W1 : IntKind.i64.wrap (1 + (q : Int)) = 1 + (q : Int) := IntWalk.i64_in _ (by have := HBq.out; omega)
 go_wp2_with fail
 have hv0 := (newW_ok (newW_in HBq.out)).1
 have NW := Lib.hid (newW_any (1 + (q : Int)))
 generalize newW (1 + (q : Int)) = U0 at *
 unfold GivesWB wdV at NW
 refine (NW.out _).mono ?_
 rintro e w ⟨AN, cN, FN, AH, cH, FH, AD, cD, FD, rfl, ⟨o1, o2, o3, a1, a2, a3⟩, f1, f2, f3, b9⟩
 replace S := Lib.hid S.out.emI
 replace S := Lib.hid (S.out.gain3 b9 (ow (jS AN U0.ns.length cN) U0.ns FN) (ow (jS AH U0.hs.length cH) U0.hs FH) (ow (jS AD U0.ds.length cD) U0.ds FD) o1 o2 o3 f1 f2 f3 a1 a2 a3)
 clear o1 o2 o3 a1 a2 a3 f1 f2 f3 b9
 have HV0 := Lib.hid hv0
 clear hv0 NW W1
 go_wp2_with (first
     | go_skip
     | (have _t := tokv; clear _t; refine wpList_op rfl (op_nxAt 81 rfl S.out 3 rfl _ Try.zeroValue81 ?_); clear S tokv; intro gv w S; replace S : Hid (Sep (cuX g) w0 [ow (jS AN U0.ns.length cN) U0.ns FN, ow (jS AH U0.hs.length cH) U0.hs FH, ow (jS AD U0.ds.length cD) U0.ds FD, bx gv #[jI jZ 0, jS none 0 0, jS none 0 0, jS none 0 0, jI jZ 0] 81, bx rw #[jI jZ 0, jS none 0 0, jS none 0 0, jS none 0 0, jI jZ 0] 81, cuI g A n c] w) := Lib.hid S)
     | (refine wpList_op rfl (op_putR_3 81 _ _ rfl S rfl _ rfl rfl (by kernel_rfl) rfl ?_); clear S; intro w S))
 refine (below_any g A n c 20 _ (S.out.cur 5 rfl HCU.out)).mono ?_
 rintro e w ⟨r9, rfl, hp9, hc9, hg9⟩
 have hp8 := hp9.2 (by omega)
 obtain ⟨q2, rfl⟩ : ∃ q9 : Nat, r9 = q9 := ⟨r9.toNat, by omega⟩
 have HBq2 : Hid (q2 < 20) := Lib.hid (by omega)
 replace S : Hid (Sep (cuX g) w0 [ow (jS AN U0.ns.length cN) U0.ns FN, ow (jS AH U0.hs.length cH) U0.hs FH, ow (jS AD U0.ds.length cD) U0.ds FD, bx gv #[jI jZ U0.root, jS AN U0.ns.length cN, jS AH U0.hs.length cH, jS AD U0.ds.length cD, jI jZ U0.now] 81, bx rw #[jI jZ 0, jS none 0 0, jS none 0 0, jS none 0 0, jI jZ 0] 81, cuI g A n c] w) := Lib.hid (S.out.drawn 5 rfl hc9 hg9)
 clear hp9 hp8 hc9 hg9
 go_wp2_with fail
 go_loopw [5] (fun i wr => ∃ (m : Nat) (U : Wd) (AN : Option Addr) (cN : Nat) (FN : FP) (AH : Option Addr) (cH : Nat) (FH : FP) (AD : Option Addr) (cD : Nat) (FD : FP), i = jI jZ m ∧ m ≤ 20 ∧ Hid (worldOk U = true) ∧ Hid (Sep (cuX g) w0 [ow (jS AN U.ns.length cN) U.ns FN, ow (jS AH U.hs.length cH) U.hs FH, ow (jS AD U.ds.length cD) U.ds FD, bx gv #[jI jZ U.root, jS AN U.ns.length cN, jS AH U.hs.length cH, jS AD U.ds.length cD, jI jZ U.now] 81, bx rw #[jI jZ 0, jS none 0 0, jS none 0 0, jS none 0 0, jI jZ 0] 81, cuI g A n c] wr)) (fun i _ => (intOf i).toNat)
 case atStart => exact ⟨q2, U0, AN, cN, FN, AH, cH, FH, AD, cD, FD, rfl, by have := HBq2.out; omega, HV0, S⟩
 case round =>
   clear S HV0
   obtain ⟨m, U, AN, cN, FN, AH, cH, FH, AD, cD, FD, rfl, hm, HV, S⟩ := hrel
   by_cases hm0 : 0 < m
   · have d1 : decide ((0 : Int) < (m : Int)) = true := by rw [decide_eq_true_eq]; omega
     have d2 : decide (0 < m) = true := by rw [decide_eq_true_eq]; omega
     go_wp2_with fail
     refine wp_region_ev (by kernel_rfl) _ (by kernel_rfl) (by kernel_rfl) 88 rfl (by kernel_rfl) (fun D V w => ∃ q1 : Int, ∃ q2 : Int, ∃ U2 : Wd, ∃ kx : Int, ∃ A5 : Option Addr, ∃ c5 : Nat, ∃ F5 : FP, ∃ A6 : Option Addr, ∃ c6 : Nat, ∃ F6 : FP, ∃ A7 : Option Addr, ∃ c7 : Nat, ∃ F7 : FP, Sep (cuX g) w0 [ow (jS AN U.ns.length cN) U.ns FN, ow (jS AH U.hs.length cH) U.hs FH, ow (jS AD U.ds.length cD) U.ds FD, cnd (D 10) (bx gv #[jI jZ U.root, jS AN U.ns.length cN, jS AH U.hs.length cH, jS AD U.ds.length cD, jI jZ U.now] 81) (bx gv #[jI jZ U2.root, jS A5 U2.ns.length c5, jS A6 U2.hs.length c6, jS A7 U2.ds.length c7, jI jZ U2.now] 81), bx rw #[jI jZ 0, jS none 0 0, jS none 0 0, jS none 0 0, jI jZ 0] 81, cuI g A n c, cnd (D 6) em (ow (jS A5 U2.ns.length c5) U2.ns F5), cnd (D 6) em (ow (jS A6 U2.hs.length c6) U2.hs F6), cnd (D 6) em (ow (jS A7 U2.ds.length c7) U2.ds F7)] w ∧ (D 0 = true → V 0 = .agg #[jI jZ U.root, jS AN U.ns.length cN, jS AH U.hs.length cH, jS AD U.ds.length cD, jI jZ U.now]) ∧ (D 1 = true → V 1 = .pointer (some ⟨g, 0, none⟩)) ∧ (D 2 = true → V 2 = jI jZ q1) ∧ (D 3 = true → V 3 = .pointer (some ⟨g, 0, none⟩)) ∧ (D 4 = true → V 4 = jI jZ q2) ∧ (D 5 = true → V 5 = .agg #[jI jZ 2, jI jZ q1, jI jZ q2]) ∧ (D 6 = true → V 6 = .tuple #[.agg #[jI jZ U2.root, jS A5 U2.ns.length c5, jS A6 U2.hs.length c6, jS A7 U2.ds.length c7, jI jZ U2.now], jI jZ kx]) ∧ (D 7 = true → V 7 = .tuple #[.agg #[jI jZ U2.root, jS A5 U2.ns.length c5, jS A6 U2.hs.length c6, jS A7 U2.ds.length c7, jI jZ U2.now], jI jZ kx]) ∧ (D 8 = true → V 8 = .agg #[jI jZ U2.root, jS A5 U2.ns.length c5, jS A6 U2.hs.length c6, jS A7 U2.ds.length c7, jI jZ U2.now]) ∧ (D 9 = true → V 9 = jI jZ kx) ∧ (D 5 = true → D 2 = true) ∧ (D 5 = true → D 4 = true) ∧ (D 6 = true → D 0 = true) ∧ (D 7 = true → D 0 = true) ∧ (D 7 = true → D 6 = true) ∧ (D 8 = true → D 0 = true) ∧ (D 8 = true → D 6 = true) ∧ (D 9 = true → D 6 = true) ∧ (D 10 = true → D 0 = true) ∧ (D 10 = true → D 6 = true) ∧ (D 6 = true → worldOk U2 = true)) ?_ ?_ ?_
     · intro D hD
       have d6 := hD 6 (by decide)
       have d10 := hD 10 (by decide)
       exact ⟨0, 0, zeroW, 0, none, 0, fun _ => False, none, 0, fun _ => False, none, 0, fun _ => False, by rw [cnd_f d10, cnd_f d6, cnd_f d6, cnd_f d6]; exact S.out.drew.ems 3, (nof (hD 0 (by decide))), (nof (hD 1 (by decide))), (nof (hD 2 (by decide))), (nof (hD 3 (by decide))), (nof (hD 4 (by decide))), (nof (hD 5 (by decide))), (nof (hD 6 (by decide))), (nof (hD 7 (by decide))), (nof (hD 8 (by decide))), (nof (hD 9 (by decide))), (nof (hD 5 (by decide))), (nof (hD 5 (by decide))), (nof (hD 6 (by decide))), (nof (hD 7 (by decide))), (nof (hD 7 (by decide))), (nof (hD 8 (by decide))), (nof (hD 8 (by decide))), (nof (hD 9 (by decide))), (nof (hD 10 (by decide))), (nof (hD 10 (by decide))), (nof (hD 6 (by decide)))⟩
     · intro i o D V w a ho hI hDi haf hev
       obtain ⟨q1, q2, U2, kx, A5, c5, F5, A6, c6, F6, A7, c7, F7, S, f0, f1, f2, f3, f4, f5, f6, f7, f8, f9, o5_2, o5_4, o6_0, o7_0, o7_6, o8_0, o8_6, o9_6, o10_0, o10_6, k0⟩ := hI
       rcases i with _ | _ | _ | _ | _ | _ | _ | _ | _ | _ | _ | i
       · obtain rfl := inj_ ho
         have nn := nofb hDi o10_0
         exact op_row 81 _ rfl S 3 (g := gv) (C := #[jI jZ U.root, jS AN U.ns.length cN, jS AH U.hs.length cH, jS AD U.ds.length cD, jI jZ U.now]) (t := 81) (by simp only [gs_, gz_, cnd_f nn]) ((hev.old 3 (by kernel_rfl)).trans rfl) Try.isAgg81 (by kernel_rfl) ⟨_, rfl, q1, q2, U2, kx, A5, c5, F5, A6, c6, F6, A7, c7, F7, S, fun _ => rfl, f1, f2, f3, f4, f5, f6, f7, f8, f9, o5_2, o5_4, fun _ => rfl, fun _ => rfl, o7_6, fun _ => rfl, o8_6, o9_6, fun _ => rfl, o10_6, k0⟩
       · obtain rfl := inj_ ho
         exact op_move (.inl rfl) ((hev.old 0 (by kernel_rfl)).trans rfl) ⟨_, rfl, q1, q2, U2, kx, A5, c5, F5, A6, c6, F6, A7, c7, F7, S, f0, fun _ => rfl, f2, f3, f4, f5, f6, f7, f8, f9, o5_2, o5_4, o6_0, o7_0, o7_6, o8_0, o8_6, o9_6, o10_0, o10_6, k0⟩
       · obtain rfl := inj_ ho
         have h1 := aft_ haf 1 rfl
         have hx0 := (hev.at_ 1 25 rfl rfl h1 f1)
         refine op_call _ _ _ rfl (enters_of Try.func36 (by kernel_rfl) rfl) #[.pointer (some ⟨g, 0, none⟩), jI jZ 100] (by simp [hx0, eval_const]) (below_any g A n c 100 w (S.cur 5 rfl HCU.out)) (fun e w2 hh => ?_)
         obtain ⟨r9, rfl, hp9, hc9, hg9⟩ := hh
         exact ⟨_, rfl, ⟨_, rfl, r9, q2, U2, kx, A5, c5, F5, A6, c6, F6, A7, c7, F7, (S.drawn 5 rfl hc9 hg9), f0, f1, fun _ => rfl, f3, f4, (fun h => nof hDi (o5_2 h)), f6, f7, f8, f9, fun _ => rfl, o5_4, o6_0, o7_0, o7_6, o8_0, o8_6, o9_6, o10_0, o10_6, k0⟩⟩
       · obtain rfl := inj_ ho
         exact op_move (.inl rfl) ((hev.old 0 (by kernel_rfl)).trans rfl) ⟨_, rfl, q1, q2, U2, kx, A5, c5, F5, A6, c6, F6, A7, c7, F7, S, f0, f1, f2, fun _ => rfl, f4, f5, f6, f7, f8, f9, o5_2, o5_4, o6_0, o7_0, o7_6, o8_0, o8_6, o9_6, o10_0, o10_6, k0⟩
       · obtain rfl := inj_ ho
         have h3 := aft_ haf 3 rfl
         have hx0 := (hev.at_ 3 27 rfl rfl h3 f3)
         refine op_call _ _ _ rfl (enters_of Try.func36 (by kernel_rfl) rfl) #[.pointer (some ⟨g, 0, none⟩), jI jZ 100] (by simp [hx0, eval_const]) (below_any g A n c 100 w (S.cur 5 rfl HCU.out)) (fun e w2 hh => ?_)
         obtain ⟨r9, rfl, hp9, hc9, hg9⟩ := hh
         exact ⟨_, rfl, ⟨_, rfl, q1, r9, U2, kx, A5, c5, F5, A6, c6, F6, A7, c7, F7, (S.drawn 5 rfl hc9 hg9), f0, f1, f2, f3, fun _ => rfl, (fun h => nof hDi (o5_4 h)), f6, f7, f8, f9, o5_2, fun _ => rfl, o6_0, o7_0, o7_6, o8_0, o8_6, o9_6, o10_0, o10_6, k0⟩⟩
       · obtain rfl := inj_ ho
         have h2 := aft_ haf 2 rfl
         have h4 := aft_ haf 4 rfl
         have hx1 := (hev.at_ 2 26 rfl rfl h2 f2)
         have hx2 := (hev.at_ 4 28 rfl rfl h4 f4)
         exact op_build _ _ rfl [(0, jI jZ 2), (1, jI jZ q1), (2, jI jZ q2)] (by simp [hx1, hx2, eval_const]) _ (by kernel_rfl) ⟨_, rfl, q1, q2, U2, kx, A5, c5, F5, A6, c6, F6, A7, c7, F7, S, f0, f1, f2, f3, f4, fun _ => rfl, f6, f7, f8, f9, fun _ => h2, fun _ => h4, o6_0, o7_0, o7_6, o8_0, o8_6, o9_6, o10_0, o10_6, k0⟩
       · obtain rfl := inj_ ho
         have h0 := aft_ haf 0 rfl
         have h5 := aft_ haf 5 rfl
         have ns10 := nofb hDi o10_6
         have hx0 := (hev.at_ 0 24 rfl rfl h0 f0)
         have hx1 := (hev.at_ 5 29 rfl rfl h5 f5)
         have okV := asked_ok (c := 2) (k := q1) (v := q2) HV.out (hasB0 HV.out)
         refine op_call _ _ _ rfl (enters_of Try.func70 (by kernel_rfl) rfl) #[.agg #[jI jZ U.root, jS AN U.ns.length cN, jS AH U.hs.length cH, jS AD U.ds.length cD, jI jZ U.now], jI jZ 0, .agg #[jI jZ 2, jI jZ q1, jI jZ q2]] (by simp [hx0, hx1, eval_const]) (sAsked_any U AN U.ns.length cN AH U.hs.length cH AD U.ds.length cD 0 2 q1 q2 w (isW_own HV.out (S.get 0 rfl) (S.get 1 rfl) (S.get 2 rfl))) (fun e w2 hh => ?_)
         obtain ⟨A9, c9, F9, B9, d9, G9, C9, e9, H9, rfl, ⟨o1, o2, o3, a1, a2, a3⟩, u1, u2, u3, b9⟩ := hh
         have S2 := S.gainAt3 b9 6 7 8 (by omega) (by omega) (by omega) (by simp only [gs_, gz_, cnd_f hDi]) (by simp only [gs_, gz_, cnd_f hDi]) (by simp only [gs_, gz_, cnd_f hDi]) (ow (jS A9 (askedW U 0 2 q1 q2).ns.length c9) (askedW U 0 2 q1 q2).ns F9) (ow (jS B9 (askedW U 0 2 q1 q2).hs.length d9) (askedW U 0 2 q1 q2).hs G9) (ow (jS C9 (askedW U 0 2 q1 q2).ds.length e9) (askedW U 0 2 q1 q2).ds H9) o1 o2 o3 (fun k hk => u1 k hk) (fun k hk => u2 k hk) (fun k hk => u3 k hk) (fun k hk => a1 k hk) (fun k hk => a2 k hk) (fun k hk => a3 k hk)
         exact ⟨_, rfl, ⟨_, rfl, q1, q2, (askedW U 0 2 q1 q2), (askedC U 0 2 q1 q2), A9, c9, F9, B9, d9, G9, C9, e9, H9, (by have SS := S2; rw [cnd_f ns10] at SS; rw [show updB D 6 10 = false from ns10]; exact SS), f0, f1, f2, f3, f4, f5, fun _ => rfl, (fun h => nof hDi (o7_6 h)), (fun h => nof hDi (o8_6 h)), (fun h => nof hDi (o9_6 h)), o5_2, o5_4, fun _ => h0, o7_0, fun _ => rfl, o8_0, fun _ => rfl, fun _ => rfl, o10_0, fun _ => rfl, (fun _ => okV.1)⟩⟩
       · obtain rfl := inj_ ho
         have h6 := aft_ haf 6 rfl
         have h0 : D 0 = true := o6_0 h6
         exact op_move (.inl rfl) (hev.at_ 6 30 rfl rfl h6 f6) ⟨_, rfl, q1, q2, U2, kx, A5, c5, F5, A6, c6, F6, A7, c7, F7, S, f0, f1, f2, f3, f4, f5, f6, fun _ => rfl, f8, f9, o5_2, o5_4, o6_0, fun _ => h0, fun _ => h6, o8_0, o8_6, o9_6, o10_0, o10_6, k0⟩
       · obtain rfl := inj_ ho
         have h7 := aft_ haf 7 rfl
         have h0 : D 0 = true := o7_0 h7
         have h6 : D 6 = true := o7_6 h7
         exact op_extract _ _ rfl (hev.at_ 7 23 rfl rfl h7 f7) rfl ⟨_, rfl, q1, q2, U2, kx, A5, c5, F5, A6, c6, F6, A7, c7, F7, S, f0, f1, f2, f3, f4, f5, f6, f7, fun _ => rfl, f9, o5_2, o5_4, o6_0, o7_0, o7_6, fun _ => h0, fun _ => h6, o9_6, o10_0, o10_6, k0⟩
       · obtain rfl := inj_ ho
         have h7 := aft_ haf 7 rfl
         have h6 : D 6 = true := o7_6 h7
         exact op_extract _ _ rfl (hev.at_ 7 23 rfl rfl h7 f7) rfl ⟨_, rfl, q1, q2, U2, kx, A5, c5, F5, A6, c6, F6, A7, c7, F7, S, f0, f1, f2, f3, f4, f5, f6, f7, f8, fun _ => rfl, o5_2, o5_4, o6_0, o7_0, o7_6, o8_0, o8_6, fun _ => h6, o10_0, o10_6, k0⟩
       · obtain rfl := inj_ ho
         have h8 := aft_ haf 8 rfl
         have h0 : D 0 = true := o8_0 h8
         have h6 : D 6 = true := o8_6 h8
         exact op_putR 81 _ _ rfl S 3 (g := gv) (C := #[jI jZ U.root, jS AN U.ns.length cN, jS AH U.hs.length cH, jS AD U.ds.length cD, jI jZ U.now]) (t := 81) (by simp only [gs_, gz_, cnd_f hDi]) ((hev.old 3 (by kernel_rfl)).trans rfl) _ (hev.at_ 8 31 rfl rfl h8 f8) rfl (by kernel_rfl) rfl (fun w S => ⟨_, rfl, q1, q2, U2, kx, A5, c5, F5, A6, c6, F6, A7, c7, F7, S, f0, f1, f2, f3, f4, f5, f6, f7, f8, f9, o5_2, o5_4, o6_0, o7_0, o7_6, o8_0, o8_6, o9_6, fun _ => h0, fun _ => h6, k0⟩)
       · exact absurd ho (by simp)
     intro V w hI
     obtain ⟨q1, q2, U2, kx, A5, c5, F5, A6, c6, F6, A7, c7, F7, S, f0, f1, f2, f3, f4, f5, f6, f7, f8, f9, o5_2, o5_4, o6_0, o7_0, o7_6, o8_0, o8_6, o9_6, o10_0, o10_6, k0⟩ := hI
     replace S : Hid (Sep (cuX g) w0 [ow (jS AN U.ns.length cN) U.ns FN, ow (jS AH U.hs.length cH) U.hs FH, ow (jS AD U.ds.length cD) U.ds FD, bx gv #[jI jZ U2.root, jS A5 U2.ns.length c5, jS A6 U2.hs.length c6, jS A7 U2.ds.length c7, jI jZ U2.now] 81, bx rw #[jI jZ 0, jS none 0 0, jS none 0 0, jS none 0 0, jI jZ 0] 81, cuI g A n c, ow (jS A5 U2.ns.length c5) U2.ns F5, ow (jS A6 U2.hs.length c6) U2.hs F6, ow (jS A7 U2.ds.length c7) U2.ds F7] w) := Lib.hid S
     simp only [putF, Act.put, sa_, sb_, sc_, f0 rfl, f1 rfl, f2 rfl, f3 rfl, f4 rfl, f5 rfl, f6 rfl, f7 rfl, f8 rfl, f9 rfl]
     clear f0 f1 f2 f3 f4 f5 f6 f7 f8 f9 o5_2 o5_4 o6_0 o7_0 o7_6 o8_0 o8_6 o9_6 o10_0 o10_6
     have HU2 := Lib.hid (k0 rfl)
     clear k0
     go_wp2_with (first
         | go_skip
         | (refine wpList_op rfl (op_row 81 _ rfl S.out 3 rfl rfl Try.isAgg81 (by kernel_rfl) ?_)))
     have AL := Lib.hid (sAlone_any U2 A5 U2.ns.length c5 A6 U2.hs.length c6 A7 U2.ds.length c7 0 60 w (isW_own HU2.out (S.out.get 6 rfl) (S.out.get 7 rfl) (S.out.get 8 rfl)))
     have okV := alone_ok (most := 60) HU2.out (hasB0 HU2.out)
     unfold GivesWI wdV at AL
     refine AL.out.mono ?_
     clear AL
     generalize aloneW U2 0 60 = V9 at *
     rintro e w ⟨A8, c8, F8, A9, c9, F9, B9, d9, G9, rfl, ⟨o1, o2, o3, a1, a2, a3⟩, f1, f2, f3, b9⟩
     replace S := Lib.hid (S.out.gain3 b9 (ow (jS A8 V9.ns.length c8) V9.ns F8) (ow (jS A9 V9.hs.length c9) V9.hs F9) (ow (jS B9 V9.ds.length d9) V9.ds G9) o1 o2 o3 f1 f2 f3 a1 a2 a3)
     clear o1 o2 o3 a1 a2 a3 f1 f2 f3 b9
     have HV9 := Lib.hid okV.1
     have W2 : IntKind.i64.wrap ((m : Int) - 1) = ((m - 1 : Nat) : Int) := by rw [IntWalk.i64_in _ (by omega)]; omega
     clear okV
     go_wp2_with (first
         | go_skip
         | (refine wpList_op rfl (op_putR_6 81 _ _ rfl S rfl _ rfl rfl (by kernel_rfl) rfl ?_); clear S; intro w S))
     replace S : Hid (Sep (cuX g) w0 [ow (jS A8 V9.ns.length c8) V9.ns F8, ow (jS A9 V9.hs.length c9) V9.hs F9, ow (jS B9 V9.ds.length d9) V9.ds G9, bx gv #[jI jZ V9.root, jS A8 V9.ns.length c8, jS A9 V9.hs.length c9, jS B9 V9.ds.length d9, jI jZ V9.now] 81, bx rw #[jI jZ 0, jS none 0 0, jS none 0 0, jS none 0 0, jI jZ 0] 81, cuI g A n c] w) := Lib.hid (S.out.drop (List.Sublist.cons_cons _ (List.Sublist.cons_cons _ (List.Sublist.cons_cons _ (List.Sublist.cons _ (List.Sublist.cons _ (List.Sublist.cons _ (List.Sublist.cons_cons _ (List.Sublist.cons_cons _ (List.Sublist.cons_cons _ (List.nil_sublist _)))))))))))
     go_roundw
     case rel => exact ⟨m - 1, V9, A8, c8, F8, A9, c9, F9, B9, d9, G9, by go_num, by omega, HV9, S⟩
     case measure => simp [intOf]; omega
   · have d1 : decide ((0 : Int) < (m : Int)) = false := by rw [decide_eq_false_iff_not]; omega
     have d2 : decide (0 < m) = false := by rw [decide_eq_false_iff_not]; omega
     clear hm hm0
     have W3 : Hid (IntKind.i64.wrap (2 + (n : Int)) = 2 + (n : Int)) := Lib.hid (IntWalk.i64_in _ (by have := HCU.out.2.1; omega))
     go_wp2_with fail
     refine wp_region_ev (by kernel_rfl) _ (by kernel_rfl) (by kernel_rfl) 88 rfl (by kernel_rfl) (fun D V w => ∃ q7 : Int, ∃ m9 : Nat, Sep (cuX g) w0 [ow (jS AN U.ns.length cN) U.ns FN, ow (jS AH U.hs.length cH) U.hs FH, ow (jS AD U.ds.length cD) U.ds FD, bx gv #[jI jZ U.root, jS AN U.ns.length cN, jS AH U.hs.length cH, jS AD U.ds.length cD, jI jZ U.now] 81, bx rw #[jI jZ 0, jS none 0 0, jS none 0 0, jS none 0 0, jI jZ 0] 81, cuI g A n c] w ∧ (D 0 = true → V 0 = .pointer (some ⟨g, 0, none⟩)) ∧ (D 1 = true → V 1 = .pointer (some ⟨g, 0, none⟩)) ∧ (D 2 = true → V 2 = .pointer (some ⟨g, 0, none⟩)) ∧ (D 3 = true → V 3 = jS A n c) ∧ (D 4 = true → V 4 = jI jZ n) ∧ (D 5 = true → V 5 = jI jZ (2 + n)) ∧ (D 6 = true → V 6 = .pointer (some ⟨g, 0, none⟩)) ∧ (D 7 = true → V 7 = jI jZ q7) ∧ (D 8 = true → V 8 = jI jZ m9) ∧ (D 9 = true → V 9 = jI jZ m9) ∧ (D 9 = true → D 8 = true) ∧ (D 7 = true → 0 ≤ q7 ∧ q7 < 16) ∧ (D 8 = true → m9 ≤ 16)) ?_ ?_ ?_
     · intro D hD
       exact ⟨0, 0, by exact S.out.drew.ems 0, (nof (hD 0 (by decide))), (nof (hD 1 (by decide))), (nof (hD 2 (by decide))), (nof (hD 3 (by decide))), (nof (hD 4 (by decide))), (nof (hD 5 (by decide))), (nof (hD 6 (by decide))), (nof (hD 7 (by decide))), (nof (hD 8 (by decide))), (nof (hD 9 (by decide))), (nof (hD 9 (by decide))), (nof (hD 7 (by decide))), (nof (hD 8 (by decide)))⟩
     · intro i o D V w a ho hI hDi haf hev
       obtain ⟨q7, m9, S, f0, f1, f2, f3, f4, f5, f6, f7, f8, f9, o9_8, k0, k1⟩ := hI
       rcases i with _ | _ | _ | _ | _ | _ | _ | _ | _ | _ | i
       · obtain rfl := inj_ ho
         exact op_move (.inl rfl) ((hev.old 0 (by kernel_rfl)).trans rfl) ⟨_, rfl, q7, m9, S, fun _ => rfl, f1, f2, f3, f4, f5, f6, f7, f8, f9, o9_8, k0, k1⟩
       · obtain rfl := inj_ ho
         have h0 := aft_ haf 0 rfl
         exact op_nilC _ rfl (hev.at_ 0 38 rfl rfl h0 f0) ⟨_, rfl, q7, m9, S, f0, fun _ => rfl, f2, f3, f4, f5, f6, f7, f8, f9, o9_8, k0, k1⟩
       · obtain rfl := inj_ ho
         have h1 := aft_ haf 1 rfl
         exact op_field _ _ _ rfl (hev.at_ 1 39 rfl rfl h1 f1) (by kernel_rfl) ⟨_, rfl, q7, m9, S, f0, f1, fun _ => rfl, f3, f4, f5, f6, f7, f8, f9, o9_8, k0, k1⟩
       · obtain rfl := inj_ ho
         have h2 := aft_ haf 2 rfl
         obtain ⟨i9, h9, hg9, _⟩ := S.get 5 rfl
         exact op_cell 22 _ rfl (hev.at_ 2 40 rfl rfl h2 f2) Try.isAgg22 (by rw [cell_of_row w g 0 _ _ _ hg9]; rfl) ⟨_, rfl, q7, m9, S, f0, f1, f2, fun _ => rfl, f4, f5, f6, f7, f8, f9, o9_8, k0, k1⟩
       · obtain rfl := inj_ ho
         have h3 := aft_ haf 3 rfl
         exact op_len _ _ 0 _ rfl Try.underlying22 (hev.at_ 3 41 rfl rfl h3 f3) ⟨_, rfl, q7, m9, S, f0, f1, f2, f3, fun _ => rfl, f5, f6, f7, f8, f9, o9_8, k0, k1⟩
       · obtain rfl := inj_ ho
         have h4 := aft_ haf 4 rfl
         exact op_addII _ _ _ rfl (by kernel_rfl) rfl (hev.at_ 4 42 rfl rfl h4 f4) W3.out ⟨_, rfl, q7, m9, S, f0, f1, f2, f3, f4, fun _ => rfl, f6, f7, f8, f9, o9_8, k0, k1⟩
       · obtain rfl := inj_ ho
         exact op_move (.inl rfl) ((hev.old 0 (by kernel_rfl)).trans rfl) ⟨_, rfl, q7, m9, S, f0, f1, f2, f3, f4, f5, fun _ => rfl, f7, f8, f9, o9_8, k0, k1⟩
       · obtain rfl := inj_ ho
         have h6 := aft_ haf 6 rfl
         have hx0 := (hev.at_ 6 44 rfl rfl h6 f6)
         refine op_call _ _ _ rfl (enters_of Try.func36 (by kernel_rfl) rfl) #[.pointer (some ⟨g, 0, none⟩), jI jZ 16] (by simp [hx0, eval_const]) (below_any g A n c 16 w (S.cur 5 rfl HCU.out)) (fun e w2 hh => ?_)
         obtain ⟨r9, rfl, hp9, hc9, hg9⟩ := hh
         exact ⟨_, rfl, ⟨_, rfl, r9, m9, (S.drawn 5 rfl hc9 hg9), f0, f1, f2, f3, f4, f5, f6, fun _ => rfl, f8, f9, o9_8, (fun _ => hp9.2 (by omega)), k1⟩⟩
       · obtain rfl := inj_ ho
         have h5 := aft_ haf 5 rfl
         have h7 := aft_ haf 7 rfl
         have hx0 := (hev.at_ 5 43 rfl rfl h5 f5)
         have hx1 := (hev.at_ 7 45 rfl rfl h7 f7)
         refine op_call _ _ _ rfl (enters_of Try.func68 (by kernel_rfl) rfl) #[jI jZ (2 + n), jI jZ q7] (by simp [hx0, hx1]) (min_any (2 + n) q7 w) (fun e w2 hh => ?_)
         obtain ⟨rfl, rfl⟩ := hh
         have hq9 := k0 h7
         obtain ⟨m8, hm8⟩ : ∃ m8 : Nat, (if (2 + (n : Int)) < q7 then (2 + (n : Int)) else q7) = m8 := ⟨(if (2 + (n : Int)) < q7 then (2 + (n : Int)) else q7).toNat, by split <;> omega⟩
         rw [hm8]
         exact ⟨_, rfl, ⟨_, rfl, q7, m8, S, f0, f1, f2, f3, f4, f5, f6, f7, fun _ => rfl, (fun h => nof hDi (o9_8 h)), fun _ => rfl, k0, (fun _ => by split at hm8 <;> omega)⟩⟩
       · obtain rfl := inj_ ho
         have h8 := aft_ haf 8 rfl
         exact op_move (.inr rfl) (hev.at_ 8 46 rfl rfl h8 f8) ⟨_, rfl, q7, m9, S, f0, f1, f2, f3, f4, f5, f6, f7, f8, fun _ => rfl, fun _ => h8, k0, k1⟩
       · exact absurd ho (by simp)
     intro V w hI
     obtain ⟨q7, m9, S, f0, f1, f2, f3, f4, f5, f6, f7, f8, f9, o9_8, k0, k1⟩ := hI
     replace S : Hid (Sep (cuX g) w0 [ow (jS AN U.ns.length cN) U.ns FN, ow (jS AH U.hs.length cH) U.hs FH, ow (jS AD U.ds.length cD) U.ds FD, bx gv #[jI jZ U.root, jS AN U.ns.length cN, jS AH U.hs.length cH, jS AD U.ds.length cD, jI jZ U.now] 81, bx rw #[jI jZ 0, jS none 0 0, jS none 0 0, jS none 0 0, jI jZ 0] 81, cuI g A n c] w) := Lib.hid S
     simp only [putF, Act.put, sa_, sb_, sc_, f0 rfl, f1 rfl, f2 rfl, f3 rfl, f4 rfl, f5 rfl, f6 rfl, f7 rfl, f8 rfl, f9 rfl]
     clear f0 f1 f2 f3 f4 f5 f6 f7 f8 f9 o9_8
     have HM9 := Lib.hid (k1 rfl)
     clear k0 k1
     clear d1 d2
     go_wp2_with fail
     go_loopw [6] (fun i wr => ∃ (m : Nat) (U : Wd) (AN : Option Addr) (cN : Nat) (FN : FP) (AH : Option Addr) (cH : Nat) (FH : FP) (AD : Option Addr) (cD : Nat) (FD : FP), i = jI jZ m ∧ m ≤ 16 ∧ Hid (worldOk U = true) ∧ Hid (Sep (cuX g) w0 [ow (jS AN U.ns.length cN) U.ns FN, ow (jS AH U.hs.length cH) U.hs FH, ow (jS AD U.ds.length cD) U.ds FD, bx gv #[jI jZ U.root, jS AN U.ns.length cN, jS AH U.hs.length cH, jS AD U.ds.length cD, jI jZ U.now] 81, bx rw #[jI jZ 0, jS none 0 0, jS none 0 0, jS none 0 0, jI jZ 0] 81, cuI g A n c] wr)) (fun i _ => (intOf i).toNat)
     case atStart => exact ⟨m9, U, AN, cN, FN, AH, cH, FH, AD, cD, FD, rfl, HM9.out, HV, S⟩
     case round =>
       clear S HV HM9 W3
       obtain ⟨m, U, AN, cN, FN, AH, cH, FH, AD, cD, FD, rfl, hm, HV, S⟩ := hrel
       by_cases hm0 : 0 < m
       · have d1 : decide ((0 : Int) < (m : Int)) = true := by rw [decide_eq_true_eq]; omega
         have d2 : decide (0 < m) = true := by rw [decide_eq_true_eq]; omega
         have hl1 : 1 ≤ U.hs.length := (world_of HV.out).2.1
         have W2 : IntKind.i64.wrap ((m : Int) - 1) = ((m - 1 : Nat) : Int) := by rw [IntWalk.i64_in _ (by omega)]; omega
         go_wp2_with (first
             | go_skip
             | (refine wpList_op rfl (op_get 78 _ rfl S.out 3 rfl _ rfl Try.isAgg78 _ rfl ?_)))
         refine (below_any g A n c (U.hs.length : Int) _ (S.out.cur 5 rfl HCU.out)).mono ?_
         rintro e w ⟨r9, rfl, hp9, hc9, hg9⟩
         have hp8 := hp9.2 (by omega)
         obtain ⟨kq, rfl⟩ : ∃ q9 : Nat, r9 = q9 := ⟨r9.toNat, by omega⟩
         have HKQ : Hid (kq < U.hs.length) := Lib.hid (by omega)
         replace S : Hid (Sep (cuX g) w0 [ow (jS AN U.ns.length cN) U.ns FN, ow (jS AH U.hs.length cH) U.hs FH, ow (jS AD U.ds.length cD) U.ds FD, bx gv #[jI jZ U.root, jS AN U.ns.length cN, jS AH U.hs.length cH, jS AD U.ds.length cD, jI jZ U.now] 81, bx rw #[jI jZ 0, jS none 0 0, jS none 0 0, jS none 0 0, jI jZ 0] 81, cuI g A n c] w) := Lib.hid (S.out.drawn 5 rfl hc9 hg9)
         clear hp9 hp8 hc9 hg9 hl1
         obtain ⟨gH, rfl⟩ : ∃ gH, AH = some ⟨gH, 0, none⟩ := by
           obtain ⟨g9, cap, _, _, _, _, hv, _⟩ := OwnS.open (S.out.get 1 rfl : OwnS w (jS AH U.hs.length cH) U.hs FH) kq HKQ.out
           refine ⟨g9, ?_⟩
           simp only [Value.slice.injEq] at hv
           exact hv.1
         have HC0 : Hid (w.cell? ⟨gH, kq * 16, none⟩ = some (jI jZ (hdAt U.hs kq).pos)) := by
           obtain ⟨b, off, hA, hb, A3, n3, c3, hcc, _⟩ := RS.hdAt (OwnS.rs (S.out.get 1 rfl : OwnS w (jS (some ⟨gH, 0, none⟩) U.hs.length cH) U.hs FH) rfl) kq HKQ.out
           obtain ⟨rfl, rfl⟩ : gH = b ∧ 0 = off := by simpa using hA
           have := hcc 0 _ rfl
           exact Lib.hid (by simpa using this)
         have HW : Hid (hasB U.hs.length (kq : Int) = true) := Lib.hid ((hasB_iff _ _).2 ⟨by omega, by have := HKQ.out; omega⟩)
         by_cases hp : (hdAt U.hs kq).pos = 0
         · have g1 : ((hdAt U.hs kq).pos == 0) = true := by simp [hp]
           have tokc : True := trivial
           clear hp
           go_wp2_with (first
               | go_skip
               | (refine wpList_op rfl (op_idx _ _ _ rfl 31 16 Try.underlying78 Try.sizeOf31 (k := kq) rfl rfl HKQ.out ?_))
               | (refine wpList_op rfl (op_cell 2 _ rfl rfl Try.isAgg2 HC0.out ?_))
               | (refine wpList_op rfl (op_get 78 _ rfl S.out 3 rfl _ rfl Try.isAgg78 _ rfl ?_)))
           refine (dCall_any g A n c _ (S.out.cur 5 rfl HCU.out)).mono ?_
           rintro e w ⟨cc, ck, cv, rfl, _, _, _, hc9, hg9⟩
           replace S : Hid (Sep (cuX g) w0 [ow (jS AN U.ns.length cN) U.ns FN, ow (jS (some ⟨gH, 0, none⟩) U.hs.length cH) U.hs FH, ow (jS AD U.ds.length cD) U.ds FD, bx gv #[jI jZ U.root, jS AN U.ns.length cN, jS (some ⟨gH, 0, none⟩) U.hs.length cH, jS AD U.ds.length cD, jI jZ U.now] 81, bx rw #[jI jZ 0, jS none 0 0, jS none 0 0, jS none 0 0, jI jZ 0] 81, cuI g A n c] w) := Lib.hid (S.out.drawn 5 rfl hc9 hg9)
           clear hc9 hg9
           go_wp2_with (first
               | go_skip
               | (clear tokc; refine nx_ 25 S rfl rfl Try.zeroValue25 ?_; clear S; intro gk w S)
               | (refine wpList_op rfl (op_putR_0 25 _ _ rfl S rfl _ rfl rfl (by kernel_rfl) rfl ?_); clear S; intro w S))
           refine (below_any g A n c 100 _ (S.out.cur 6 rfl HCU.out)).mono ?_
           rintro e w ⟨r9, rfl, hp9, hc9, hg9⟩
           have hp8 := hp9.2 (by omega)
           obtain ⟨q5, rfl⟩ : ∃ q9 : Nat, r9 = q9 := ⟨r9.toNat, by omega⟩
           have HBq5 : Hid (q5 < 100) := Lib.hid (by omega)
           replace S : Hid (Sep (cuX g) w0 [bx gk #[jI jZ cc, jI jZ ck, jI jZ cv] 25, ow (jS AN U.ns.length cN) U.ns FN, ow (jS (some ⟨gH, 0, none⟩) U.hs.length cH) U.hs FH, ow (jS AD U.ds.length cD) U.ds FD, bx gv #[jI jZ U.root, jS AN U.ns.length cN, jS (some ⟨gH, 0, none⟩) U.hs.length cH, jS AD U.ds.length cD, jI jZ U.now] 81, bx rw #[jI jZ 0, jS none 0 0, jS none 0 0, jS none 0 0, jI jZ 0] 81, cuI g A n c] w) := Lib.hid (S.out.drawn 6 rfl hc9 hg9)
           clear hp9 hp8 hc9 hg9
           go_wp2_with (first
               | go_skip
               | (refine wpList_op rfl (op_put1_0 2 _ _ rfl S _ rfl _ rfl rfl (by kernel_rfl) (of_decide_eq_true rfl) ?_); clear S; intro w S)
               | (refine wpList_op rfl (op_row 81 _ rfl S.out 4 rfl rfl Try.isAgg81 (by kernel_rfl) ?_))
               | (refine wpList_op rfl (op_row 25 _ rfl S.out 0 rfl rfl Try.isAgg25 (by kernel_rfl) ?_)))
           have AL := Lib.hid (sAsked_any U AN U.ns.length cN (some ⟨gH, 0, none⟩) U.hs.length cH AD U.ds.length cD kq cc q5 cv w (isW_own HV.out (S.out.get 1 rfl) (S.out.get 2 rfl) (S.out.get 3 rfl)))
           have okV := asked_ok (c := cc) (k := q5) (v := cv) HV.out HW.out
           unfold GivesWI wdV at AL
           refine AL.out.mono ?_
           clear AL
           generalize askedW U kq cc q5 cv = V9 at *
           rintro e w ⟨A8, c8, F8, A9, c9, F9, B9, d9, G9, rfl, ⟨o1, o2, o3, a1, a2, a3⟩, f1, f2, f3, b9⟩
           replace S := Lib.hid (S.out.gain3 b9 (ow (jS A8 V9.ns.length c8) V9.ns F8) (ow (jS A9 V9.hs.length c9) V9.hs F9) (ow (jS B9 V9.ds.length d9) V9.ds G9) o1 o2 o3 f1 f2 f3 a1 a2 a3)
           clear o1 o2 o3 a1 a2 a3 f1 f2 f3 b9
           have HV9 := Lib.hid okV.1
           clear okV
           go_wp2_with (first
               | go_skip
               | (refine wpList_op rfl (op_putR_7 81 _ _ rfl S rfl _ rfl rfl (by kernel_rfl) rfl ?_); clear S; intro w S))
           replace S : Hid (Sep (cuX g) w0 [ow (jS A8 V9.ns.length c8) V9.ns F8, ow (jS A9 V9.hs.length c9) V9.hs F9, ow (jS B9 V9.ds.length d9) V9.ds G9, bx gv #[jI jZ V9.root, jS A8 V9.ns.length c8, jS A9 V9.hs.length c9, jS B9 V9.ds.length d9, jI jZ V9.now] 81, bx rw #[jI jZ 0, jS none 0 0, jS none 0 0, jS none 0 0, jI jZ 0] 81, cuI g A n c] w) := Lib.hid (S.out.drop (List.Sublist.cons_cons _ (List.Sublist.cons_cons _ (List.Sublist.cons_cons _ (List.Sublist.cons _ (List.Sublist.cons _ (List.Sublist.cons _ (List.Sublist.cons _ (List.Sublist.cons_cons _ (List.Sublist.cons_cons _ (List.Sublist.cons_cons _ (List.Sublist.refl _))))))))))))
           go_roundw
           case rel => exact ⟨m - 1, V9, A8, c8, F8, A9, c9, F9, B9, d9, G9, by go_num, by omega, HV9, S⟩
           case measure => simp [intOf]; omega
         · have g1 : ((hdAt U.hs kq).pos == 0) = false := by simp [hp]
           clear hp
           go_wp2_with (first
               | go_skip
               | (refine wpList_op rfl (op_idx _ _ _ rfl 31 16 Try.underlying78 Try.sizeOf31 (k := kq) rfl rfl HKQ.out ?_))
               | (refine wpList_op rfl (op_cell 2 _ rfl rfl Try.isAgg2 HC0.out ?_))
               | (refine wpList_op rfl (op_get 78 _ rfl S.out 3 rfl _ rfl Try.isAgg78 _ rfl ?_)))
           refine (below_any g A n c 4 _ (S.out.cur 5 rfl HCU.out)).mono ?_
           rintro e w ⟨r9, rfl, hp9, hc9, hg9⟩
           have hp8 := hp9.2 (by omega)
           obtain ⟨q5, rfl⟩ : ∃ q9 : Nat, r9 = q9 := ⟨r9.toNat, by omega⟩
           have HBq5 : Hid (q5 < 4) := Lib.hid (by omega)
           replace S : Hid (Sep (cuX g) w0 [ow (jS AN U.ns.length cN) U.ns FN, ow (jS (some ⟨gH, 0, none⟩) U.hs.length cH) U.hs FH, ow (jS AD U.ds.length cD) U.ds FD, bx gv #[jI jZ U.root, jS AN U.ns.length cN, jS (some ⟨gH, 0, none⟩) U.hs.length cH, jS AD U.ds.length cD, jI jZ U.now] 81, bx rw #[jI jZ 0, jS none 0 0, jS none 0 0, jS none 0 0, jI jZ 0] 81, cuI g A n c] w) := Lib.hid (S.out.drawn 5 rfl hc9 hg9)
           clear hp9 hp8 hc9 hg9
           have W5 : IntKind.i64.wrap (1 + (q5 : Int)) = 1 + (q5 : Int) := IntWalk.i64_in _ (by have := HBq5.out; omega)
           go_wp2_with fail
           refine (once_any g A n c 3 _ (S.out.cur 5 rfl HCU.out)).mono ?_
           rintro e w ⟨bb, rfl, hc9, hg9⟩
           replace S : Hid (Sep (cuX g) w0 [ow (jS AN U.ns.length cN) U.ns FN, ow (jS (some ⟨gH, 0, none⟩) U.hs.length cH) U.hs FH, ow (jS AD U.ds.length cD) U.ds FD, bx gv #[jI jZ U.root, jS AN U.ns.length cN, jS (some ⟨gH, 0, none⟩) U.hs.length cH, jS AD U.ds.length cD, jI jZ U.now] 81, bx rw #[jI jZ 0, jS none 0 0, jS none 0 0, jS none 0 0, jI jZ 0] 81, cuI g A n c] w) := Lib.hid (S.out.drawn 5 rfl hc9 hg9)
           clear hc9 hg9
           cases bb
           ·
             go_wp2_with (first
                 | go_skip
                 | (refine wpList_op rfl (op_row 81 _ rfl S.out 3 rfl rfl Try.isAgg81 (by kernel_rfl) ?_)))
             have AL := Lib.hid (sAlone_any U AN U.ns.length cN (some ⟨gH, 0, none⟩) U.hs.length cH AD U.ds.length cD kq (1 + (q5 : Int)) w (isW_own HV.out (S.out.get 0 rfl) (S.out.get 1 rfl) (S.out.get 2 rfl)))
             have okV := alone_ok (most := (1 + (q5 : Int))) HV.out HW.out
             unfold GivesWI wdV at AL
             refine AL.out.mono ?_
             clear AL
             generalize aloneW U kq (1 + (q5 : Int)) = V9 at *
             rintro e w ⟨A8, c8, F8, A9, c9, F9, B9, d9, G9, rfl, ⟨o1, o2, o3, a1, a2, a3⟩, f1, f2, f3, b9⟩
             replace S := Lib.hid (S.out.gain3 b9 (ow (jS A8 V9.ns.length c8) V9.ns F8) (ow (jS A9 V9.hs.length c9) V9.hs F9) (ow (jS B9 V9.ds.length d9) V9.ds G9) o1 o2 o3 f1 f2 f3 a1 a2 a3)
             clear o1 o2 o3 a1 a2 a3 f1 f2 f3 b9
             have HV9 := Lib.hid okV.1
             clear okV
             go_wp2_with (first
                 | go_skip
                 | (refine wpList_op rfl (op_putR_6 81 _ _ rfl S rfl _ rfl rfl (by kernel_rfl) rfl ?_); clear S; intro w S))
             replace S : Hid (Sep (cuX g) w0 [ow (jS A8 V9.ns.length c8) V9.ns F8, ow (jS A9 V9.hs.length c9) V9.hs F9, ow (jS B9 V9.ds.length d9) V9.ds G9, bx gv #[jI jZ V9.root, jS A8 V9.ns.length c8, jS A9 V9.hs.length c9, jS B9 V9.ds.length d9, jI jZ V9.now] 81, bx rw #[jI jZ 0, jS none 0 0, jS none 0 0, jS none 0 0, jI jZ 0] 81, cuI g A n c] w) := Lib.hid (S.out.drop (List.Sublist.cons_cons _ (List.Sublist.cons_cons _ (List.Sublist.cons_cons _ (List.Sublist.cons _ (List.Sublist.cons _ (List.Sublist.cons _ (List.Sublist.cons_cons _ (List.Sublist.cons_cons _ (List.Sublist.cons_cons _ (List.Sublist.refl _)))))))))))
             go_roundw
             case rel => exact ⟨m - 1, V9, A8, c8, F8, A9, c9, F9, B9, d9, G9, by go_num, by omega, HV9, S⟩
             case measure => simp [intOf]; omega
           ·
             go_wp2_with (first
                 | go_skip
                 | (refine wpList_op rfl (op_row 81 _ rfl S.out 3 rfl rfl Try.isAgg81 (by kernel_rfl) ?_)))
             have AL := Lib.hid (sAlone_any U AN U.ns.length cN (some ⟨gH, 0, none⟩) U.hs.length cH AD U.ds.length cD kq 30 w (isW_own HV.out (S.out.get 0 rfl) (S.out.get 1 rfl) (S.out.get 2 rfl)))
             have okV := alone_ok (most := 30) HV.out HW.out
             unfold GivesWI wdV at AL
             refine AL.out.mono ?_
             clear AL
             generalize aloneW U kq 30 = V9 at *
             rintro e w ⟨A8, c8, F8, A9, c9, F9, B9, d9, G9, rfl, ⟨o1, o2, o3, a1, a2, a3⟩, f1, f2, f3, b9⟩
             replace S := Lib.hid (S.out.gain3 b9 (ow (jS A8 V9.ns.length c8) V9.ns F8) (ow (jS A9 V9.hs.length c9) V9.hs F9) (ow (jS B9 V9.ds.length d9) V9.ds G9) o1 o2 o3 f1 f2 f3 a1 a2 a3)
             clear o1 o2 o3 a1 a2 a3 f1 f2 f3 b9
             have HV9 := Lib.hid okV.1
             clear okV
             go_wp2_with (first
                 | go_skip
                 | (refine wpList_op rfl (op_putR_6 81 _ _ rfl S rfl _ rfl rfl (by kernel_rfl) rfl ?_); clear S; intro w S))
             replace S : Hid (Sep (cuX g) w0 [ow (jS A8 V9.ns.length c8) V9.ns F8, ow (jS A9 V9.hs.length c9) V9.hs F9, ow (jS B9 V9.ds.length d9) V9.ds G9, bx gv #[jI jZ V9.root, jS A8 V9.ns.length c8, jS A9 V9.hs.length c9, jS B9 V9.ds.length d9, jI jZ V9.now] 81, bx rw #[jI jZ 0, jS none 0 0, jS none 0 0, jS none 0 0, jI jZ 0] 81, cuI g A n c] w) := Lib.hid (S.out.drop (List.Sublist.cons_cons _ (List.Sublist.cons_cons _ (List.Sublist.cons_cons _ (List.Sublist.cons _ (List.Sublist.cons _ (List.Sublist.cons _ (List.Sublist.cons_cons _ (List.Sublist.cons_cons _ (List.Sublist.cons_cons _ (List.Sublist.refl _)))))))))))
             go_roundw
             case rel => exact ⟨m - 1, V9, A8, c8, F8, A9, c9, F9, B9, d9, G9, by go_num, by omega, HV9, S⟩
             case measure => simp [intOf]; omega
       · have d1 : decide ((0 : Int) < (m : Int)) = false := by rw [decide_eq_false_iff_not]; omega
         have d2 : decide (0 < m) = false := by rw [decide_eq_false_iff_not]; omega
         clear hm hm0
         go_wp2_with (first
             | go_skip
             | (refine wpList_op rfl (op_row 81 _ rfl S.out 3 rfl rfl Try.isAgg81 (by kernel_rfl) ?_))
             | (refine wpList_op rfl (op_putR_4 81 _ _ rfl S rfl _ rfl rfl (by kernel_rfl) rfl ?_); clear S; intro w S))
         exact bodyPost_ret (results_c rfl _ S.out 4 rfl rfl Try.isAgg81 (by kernel_rfl)) rfl ⟨U, AN, cN, FN, AH, cH, FH, AD, cD, FD, rfl, HV.out, S.out.ownW 0 1 2 (by omega) (by omega) (by omega) rfl rfl rfl rfl rfl rfl, S.out.freshCu 0 5 (by omega) rfl rfl, S.out.freshCu 1 5 (by omega) rfl rfl, S.out.freshCu 2 5 (by omega) rfl rfl, S.out.cur 5 rfl HCU.out, S.out.grown⟩
end Go.Proofs.Ytjookicpmjmdhaa
