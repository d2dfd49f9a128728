/- The walk of the model's l11Make: into a tree of the caller's own. (Made by genY18.py.) -/
import Derived.Test.YtjookicpmjmdhaaQ38
open Go.Value renaming int → jI, slice → jS
open Go.IntKind renaming i64 → jZ
namespace Go.Proofs.Ytjookicpmjmdhaa
open Go.RowKit

set_option maxRecDepth 100000 in
set_option maxHeartbeats 16000000 in
theorem make_any (r : Int) (xs : List Nd) (A : Option Addr) (n c : Nat) (F : FP) (hd : Hd) (A' : Option Addr) (n' c' : Nat) (w0 : World) (hO : OwnS w0 (jS A n c) xs F) (hF : ∀ k, F k → k < w0.heap.size) (hT : Right n r xs) (hcur : hasB n hd.cur = true) :
   Calls Try.prog 99 #[.agg #[jI jZ r, jS A n c], hdV hd A' n' c'] w0 (GivesTH F w0 r (makeX xs hd) (makeH xs hd) (makeB xs hd) A' n' c') := by
 obtain ⟨h0, h1⟩ := (hasB_iff n hd.cur).1 hcur
 obtain ⟨k, hkk⟩ : ∃ k : Nat, hd.cur = k := ⟨hd.cur.toNat, by omega⟩
 have hkn : k < n := by omega
 have hln : xs.length = n := hO.len
 obtain ⟨g, cap, hv⟩ : ∃ g cap, Value.slice A n c = jS (some ⟨g, 0, none⟩) xs.length cap := by
   obtain ⟨g, cap, _, _, _, _, hv, _⟩ := hO.open k (by omega)
   exact ⟨g, cap, hv⟩
 obtain ⟨rfl, hnx, rfl⟩ : A = some ⟨g, 0, none⟩ ∧ n = xs.length ∧ c = cap := by simpa using hv
 obtain ⟨b, off, hA, hb, A2, n2, c2, hnd, hP, hc2, hc3⟩ := (hO.rs hln).ndAt k hkn
 obtain ⟨rfl, rfl⟩ : g = b ∧ 0 = off := by simpa using hA
 have hct : hd.cur.toNat = k := by omega
 have hp4 : n2 ≤ 1048576 := by rw [← hP.1]; exact nodeOk_len (hT.good k hkn).1
 have DX : Hid (makeX xs hd = if 40 ≤ n then xs else if halfB (ndAt xs k) hd.key (pairV hd) n then xs ++ [upH (ndAt xs k) hd.key (pairV hd) n] else xs) := Lib.hid (by unfold makeX halfN upNd; rw [hct, hln])
 have DH : Hid (makeH xs hd = if 40 ≤ n then freeH (if hd.want = 0 then { hd with rep := 3 } else hd) 0 else if halfB (ndAt xs k) hd.key (pairV hd) n then { hd with new := n, pos := 7 } else hd) := Lib.hid (by unfold makeH halfN; rw [hct, hln])
 have DB : Hid (makeB xs hd = (decide (40 ≤ n) || halfB (ndAt xs k) hd.key (pairV hd) n)) := Lib.hid (by unfold makeB halfN; rw [hct, hln])
 have NK := Lib.hid (fun w hP => halves_any (ndAt xs k) A2 n2 c2 hd.key (pairV hd) n w hP hp4 hc2 hc3)
 have PK := Lib.hid (pairH_any hd A' n' c')
 have FK := Lib.hid free_any
 have HP := Lib.hid hP
 have HC := Lib.hid hkk
 have HKN := Lib.hid hkn
 have HB := Lib.hid hb
 have ND := Lib.hid hnd
 have HO := Lib.hid hO
 have HLX := Lib.hid hln
 have S := Lib.hid (Sep.startX w0 hF)
 obtain ⟨y, hy⟩ : ∃ y, y = ndAt xs k := ⟨_, rfl⟩
 rw [← hy] at DX DH DB NK HP ND
 clear hO hF hT hcur h0 h1 hkk hkn hb hnd hP hp4 hct hln hnx hA hv hc2 hc3 hy
 unfold GivesTH
 generalize makeX xs hd = rx at *
 generalize makeH xs hd = rh2 at *
 generalize makeB xs hd = rb at *
 generalize pairV hd = pv at *
 generalize loH y hd.key pv n = ln at *
 generalize upH y hd.key pv n = un at *
 generalize halfB y hd.key pv n = hb at *
 have tok0 : True := trivial
 have tok1 : True := trivial
 have tok2 : True := trivial
 have tok3 : True := trivial
 unfold hdV at *
 by_cases h4 : 40 ≤ n
 · have g4 : decide ((40 : Int) ≤ (n : Int)) = true := by rw [decide_eq_true_eq]; omega
   obtain rfl : rx = xs := by rw [DX.out, if_pos h4]
   obtain rfl : rb = true := by rw [DB.out]; simp [h4]
   replace DH := DH.out
   rw [if_pos h4] at DH
   clear DX DB h4
   by_cases hw : hd.want = 0
   · have g5 : (hd.want == 0) = true := by simp [hw]
     rw [if_pos hw] at DH
     subst DH
     clear hw
     go_enter Try.func99, Try.ntmps99
     go_wp2_with (first
         | go_skip
         | (clear tok0; refine bx_ 77 S rfl rfl rfl ?_; clear S; intro gt w S)
         | (clear tok1; refine bx_ 31 S rfl rfl rfl ?_; clear S; intro gh w S)
         | (clear tok2; refine nx_ 77 S rfl rfl Try.zeroValue77 ?_; clear S; intro rt w S)
         | (clear tok3; refine nx_ 31 S rfl rfl Try.zeroValue31 ?_; clear S; intro rh w S)
         | (refine wpList_op rfl (op_lenN _ _ _ rfl Try.underlying75 rfl ?_))
         | (refine wpList_op rfl (op_get 75 _ rfl S.out 3 rfl _ rfl Try.isAgg75 _ rfl ?_))
         | (refine wpList_op rfl (op_get 2 _ rfl S.out 2 rfl _ rfl Try.isAgg2 _ rfl ?_))
         | (refine wpList_op rfl (op_put1_2 2 _ _ rfl S _ rfl _ rfl rfl (by kernel_rfl) (of_decide_eq_true rfl) ?_); clear S; intro w S))
     refine wp_region_ev (by kernel_rfl) _ (by kernel_rfl) (by kernel_rfl) 54 rfl (by kernel_rfl) (fun D V w => Sep F w0 [cnd (D 4) (bx rh #[jI jZ 0, jI jZ 0, jI jZ 0, jI jZ 0, jI jZ 0, jI jZ 0, jI jZ 0, jI jZ 0, jI jZ 0, jI jZ 0, jI jZ 0, jS none 0 0, jI jZ 0, jI jZ 0, jI jZ 0, jI jZ 0] 31) (bx rh #[jI jZ 8, jI jZ hd.cc, jI jZ hd.ck, jI jZ hd.cv, jI jZ hd.cur, jI jZ hd.want, jI jZ hd.key, jI jZ hd.kid, jI jZ hd.old, jI jZ hd.next, jI jZ hd.new, jS A' n' c', jI jZ 0, jI jZ hd.beg, jI jZ 3, jI jZ hd.out] 31), cnd (D 3) (bx rt #[jI jZ 0, jS none 0 0] 77) (bx rt #[jI jZ r, jS (some ⟨g, 0, none⟩) n c] 77), bx gh #[jI jZ hd.pos, jI jZ hd.cc, jI jZ hd.ck, jI jZ hd.cv, jI jZ hd.cur, jI jZ hd.want, jI jZ hd.key, jI jZ hd.kid, jI jZ hd.old, jI jZ hd.next, jI jZ hd.new, jS A' n' c', jI jZ hd.thn, jI jZ hd.beg, jI jZ 3, jI jZ hd.out] 31, bx gt #[jI jZ r, jS (some ⟨g, 0, none⟩) n c] 77, pin F w0] w ∧ (D 0 = true → V 0 = .agg #[jI jZ r, jS (some ⟨g, 0, none⟩) n c]) ∧ (D 1 = true → V 1 = .agg #[jI jZ hd.pos, jI jZ hd.cc, jI jZ hd.ck, jI jZ hd.cv, jI jZ hd.cur, jI jZ hd.want, jI jZ hd.key, jI jZ hd.kid, jI jZ hd.old, jI jZ hd.next, jI jZ hd.new, jS A' n' c', jI jZ hd.thn, jI jZ hd.beg, jI jZ 3, jI jZ hd.out]) ∧ (D 2 = true → V 2 = .agg #[jI jZ 8, jI jZ hd.cc, jI jZ hd.ck, jI jZ hd.cv, jI jZ hd.cur, jI jZ hd.want, jI jZ hd.key, jI jZ hd.kid, jI jZ hd.old, jI jZ hd.next, jI jZ hd.new, jS A' n' c', jI jZ 0, jI jZ hd.beg, jI jZ 3, jI jZ hd.out]) ∧ (D 5 = true → V 5 = .bool true)) ?_ ?_ ?_
     · intro D hD
       have d3 := hD 3 (by decide)
       have d4 := hD 4 (by decide)
       exact ⟨by rw [cnd_f d4, cnd_f d3]; exact S.out.drew.ems 0, (nof (hD 0 (by decide))), (nof (hD 1 (by decide))), (nof (hD 2 (by decide))), (nof (hD 5 (by decide)))⟩
     · intro i o D V w a ho hI hDi haf hev
       obtain ⟨S, f0, f1, f2, f5⟩ := hI
       rcases i with _ | _ | _ | _ | _ | _ | i
       · obtain rfl := inj_ ho
         exact op_row 77 _ rfl S 3 rfl ((hev.old 2 (by kernel_rfl)).trans rfl) Try.isAgg77 (by kernel_rfl) ⟨_, rfl, S, fun _ => rfl, f1, f2, f5⟩
       · obtain rfl := inj_ ho
         exact op_row 31 _ rfl S 2 rfl ((hev.old 3 (by kernel_rfl)).trans rfl) Try.isAgg31 (by kernel_rfl) ⟨_, rfl, S, f0, fun _ => rfl, f2, f5⟩
       · obtain rfl := inj_ ho
         have h1 := aft_ haf 1 rfl
         have hx0 := (hev.at_ 1 19 rfl rfl h1 f1)
         refine op_call _ _ _ rfl (enters_of Try.func111 (by kernel_rfl) rfl) #[.agg #[jI jZ hd.pos, jI jZ hd.cc, jI jZ hd.ck, jI jZ hd.cv, jI jZ hd.cur, jI jZ hd.want, jI jZ hd.key, jI jZ hd.kid, jI jZ hd.old, jI jZ hd.next, jI jZ hd.new, jS A' n' c', jI jZ hd.thn, jI jZ hd.beg, jI jZ 3, jI jZ hd.out], jI jZ 0] (by simp [hx0, eval_const]) (FK.out { hd with rep := 3 } A' n' c' 0 w) (fun e w2 hh => ?_)
         obtain ⟨rfl, b⟩ := hh
         exact ⟨_, rfl, ⟨_, rfl, S.call b, f0, f1, fun _ => rfl, f5⟩⟩
       · obtain rfl := inj_ ho
         have h0 := aft_ haf 0 rfl
         exact op_putR 77 _ _ rfl S 1 (g := rt) (C := #[jI jZ 0, jS none 0 0]) (t := 77) (by simp only [gs_, gz_, cnd_f hDi]) ((hev.old 4 (by kernel_rfl)).trans rfl) _ (hev.at_ 0 18 rfl rfl h0 f0) rfl (by kernel_rfl) rfl (fun w S => ⟨_, rfl, S, f0, f1, f2, f5⟩)
       · obtain rfl := inj_ ho
         have h2 := aft_ haf 2 rfl
         exact op_putR 31 _ _ rfl S 0 (g := rh) (C := #[jI jZ 0, jI jZ 0, jI jZ 0, jI jZ 0, jI jZ 0, jI jZ 0, jI jZ 0, jI jZ 0, jI jZ 0, jI jZ 0, jI jZ 0, jS none 0 0, jI jZ 0, jI jZ 0, jI jZ 0, jI jZ 0]) (t := 31) (by simp only [List.getElem?_cons_zero, cnd_f hDi]) ((hev.old 5 (by kernel_rfl)).trans rfl) _ (hev.at_ 2 20 rfl rfl h2 f2) rfl (by kernel_rfl) rfl (fun w S => ⟨_, rfl, S, f0, f1, f2, f5⟩)
       · obtain rfl := inj_ ho
         exact op_move (.inr rfl) rfl ⟨_, rfl, S, f0, f1, f2, fun _ => rfl⟩
       · exact absurd ho (by simp)
     intro V w hI
     obtain ⟨S, f0, f1, f2, f5⟩ := hI
     replace S : Hid (Sep F w0 [bx rh #[jI jZ 8, jI jZ hd.cc, jI jZ hd.ck, jI jZ hd.cv, jI jZ hd.cur, jI jZ hd.want, jI jZ hd.key, jI jZ hd.kid, jI jZ hd.old, jI jZ hd.next, jI jZ hd.new, jS A' n' c', jI jZ 0, jI jZ hd.beg, jI jZ 3, jI jZ hd.out] 31, bx rt #[jI jZ r, jS (some ⟨g, 0, none⟩) n c] 77, bx gh #[jI jZ hd.pos, jI jZ hd.cc, jI jZ hd.ck, jI jZ hd.cv, jI jZ hd.cur, jI jZ hd.want, jI jZ hd.key, jI jZ hd.kid, jI jZ hd.old, jI jZ hd.next, jI jZ hd.new, jS A' n' c', jI jZ hd.thn, jI jZ hd.beg, jI jZ 3, jI jZ hd.out] 31, bx gt #[jI jZ r, jS (some ⟨g, 0, none⟩) n c] 77, pin F w0] w) := Lib.hid S
     simp only [putF, Act.put, sa_, sb_, sc_, f0 rfl, f1 rfl, f2 rfl, f5 rfl]
     clear f0 f1 f2 f5
     go_wp2_with fail
     exact bodyPost_ret (results_ccs rfl _ S.out 1 0 rfl rfl rfl rfl Try.isAgg77 Try.isAgg31 (by kernel_rfl) (by kernel_rfl)) rfl ⟨some ⟨g, 0, none⟩, c, by rw [HLX.out]; rfl, by rw [HLX.out]; exact S.out.turned_pin 4 rfl HO.out⟩
   · have g5 : (hd.want == 0) = false := by simp [hw]
     rw [if_neg hw] at DH
     subst DH
     clear hw
     go_enter Try.func99, Try.ntmps99
     go_wp2_with (first
         | go_skip
         | (clear tok0; refine bx_ 77 S rfl rfl rfl ?_; clear S; intro gt w S)
         | (clear tok1; refine bx_ 31 S rfl rfl rfl ?_; clear S; intro gh w S)
         | (clear tok2; refine nx_ 77 S rfl rfl Try.zeroValue77 ?_; clear S; intro rt w S)
         | (clear tok3; refine nx_ 31 S rfl rfl Try.zeroValue31 ?_; clear S; intro rh w S)
         | (refine wpList_op rfl (op_lenN _ _ _ rfl Try.underlying75 rfl ?_))
         | (refine wpList_op rfl (op_get 75 _ rfl S.out 3 rfl _ rfl Try.isAgg75 _ rfl ?_))
         | (refine wpList_op rfl (op_get 2 _ rfl S.out 2 rfl _ rfl Try.isAgg2 _ rfl ?_)))
     refine wp_region_ev (by kernel_rfl) _ (by kernel_rfl) (by kernel_rfl) 54 rfl (by kernel_rfl) (fun D V w => Sep F w0 [cnd (D 4) (bx rh #[jI jZ 0, jI jZ 0, jI jZ 0, jI jZ 0, jI jZ 0, jI jZ 0, jI jZ 0, jI jZ 0, jI jZ 0, jI jZ 0, jI jZ 0, jS none 0 0, jI jZ 0, jI jZ 0, jI jZ 0, jI jZ 0] 31) (bx rh #[jI jZ 8, jI jZ hd.cc, jI jZ hd.ck, jI jZ hd.cv, jI jZ hd.cur, jI jZ hd.want, jI jZ hd.key, jI jZ hd.kid, jI jZ hd.old, jI jZ hd.next, jI jZ hd.new, jS A' n' c', jI jZ 0, jI jZ hd.beg, jI jZ hd.rep, jI jZ hd.out] 31), cnd (D 3) (bx rt #[jI jZ 0, jS none 0 0] 77) (bx rt #[jI jZ r, jS (some ⟨g, 0, none⟩) n c] 77), bx gh #[jI jZ hd.pos, jI jZ hd.cc, jI jZ hd.ck, jI jZ hd.cv, jI jZ hd.cur, jI jZ hd.want, jI jZ hd.key, jI jZ hd.kid, jI jZ hd.old, jI jZ hd.next, jI jZ hd.new, jS A' n' c', jI jZ hd.thn, jI jZ hd.beg, jI jZ hd.rep, jI jZ hd.out] 31, bx gt #[jI jZ r, jS (some ⟨g, 0, none⟩) n c] 77, pin F w0] w ∧ (D 0 = true → V 0 = .agg #[jI jZ r, jS (some ⟨g, 0, none⟩) n c]) ∧ (D 1 = true → V 1 = .agg #[jI jZ hd.pos, jI jZ hd.cc, jI jZ hd.ck, jI jZ hd.cv, jI jZ hd.cur, jI jZ hd.want, jI jZ hd.key, jI jZ hd.kid, jI jZ hd.old, jI jZ hd.next, jI jZ hd.new, jS A' n' c', jI jZ hd.thn, jI jZ hd.beg, jI jZ hd.rep, jI jZ hd.out]) ∧ (D 2 = true → V 2 = .agg #[jI jZ 8, jI jZ hd.cc, jI jZ hd.ck, jI jZ hd.cv, jI jZ hd.cur, jI jZ hd.want, jI jZ hd.key, jI jZ hd.kid, jI jZ hd.old, jI jZ hd.next, jI jZ hd.new, jS A' n' c', jI jZ 0, jI jZ hd.beg, jI jZ hd.rep, jI jZ hd.out]) ∧ (D 5 = true → V 5 = .bool true)) ?_ ?_ ?_
     · intro D hD
       have d3 := hD 3 (by decide)
       have d4 := hD 4 (by decide)
       exact ⟨by rw [cnd_f d4, cnd_f d3]; exact S.out.drew.ems 0, (nof (hD 0 (by decide))), (nof (hD 1 (by decide))), (nof (hD 2 (by decide))), (nof (hD 5 (by decide)))⟩
     · intro i o D V w a ho hI hDi haf hev
       obtain ⟨S, f0, f1, f2, f5⟩ := hI
       rcases i with _ | _ | _ | _ | _ | _ | i
       · obtain rfl := inj_ ho
         exact op_row 77 _ rfl S 3 rfl ((hev.old 2 (by kernel_rfl)).trans rfl) Try.isAgg77 (by kernel_rfl) ⟨_, rfl, S, fun _ => rfl, f1, f2, f5⟩
       · obtain rfl := inj_ ho
         exact op_row 31 _ rfl S 2 rfl ((hev.old 3 (by kernel_rfl)).trans rfl) Try.isAgg31 (by kernel_rfl) ⟨_, rfl, S, f0, fun _ => rfl, f2, f5⟩
       · obtain rfl := inj_ ho
         have h1 := aft_ haf 1 rfl
         have hx0 := (hev.at_ 1 19 rfl rfl h1 f1)
         refine op_call _ _ _ rfl (enters_of Try.func111 (by kernel_rfl) rfl) #[.agg #[jI jZ hd.pos, jI jZ hd.cc, jI jZ hd.ck, jI jZ hd.cv, jI jZ hd.cur, jI jZ hd.want, jI jZ hd.key, jI jZ hd.kid, jI jZ hd.old, jI jZ hd.next, jI jZ hd.new, jS A' n' c', jI jZ hd.thn, jI jZ hd.beg, jI jZ hd.rep, jI jZ hd.out], jI jZ 0] (by simp [hx0, eval_const]) (FK.out hd A' n' c' 0 w) (fun e w2 hh => ?_)
         obtain ⟨rfl, b⟩ := hh
         exact ⟨_, rfl, ⟨_, rfl, S.call b, f0, f1, fun _ => rfl, f5⟩⟩
       · obtain rfl := inj_ ho
         have h0 := aft_ haf 0 rfl
         exact op_putR 77 _ _ rfl S 1 (g := rt) (C := #[jI jZ 0, jS none 0 0]) (t := 77) (by simp only [gs_, gz_, cnd_f hDi]) ((hev.old 4 (by kernel_rfl)).trans rfl) _ (hev.at_ 0 18 rfl rfl h0 f0) rfl (by kernel_rfl) rfl (fun w S => ⟨_, rfl, S, f0, f1, f2, f5⟩)
       · obtain rfl := inj_ ho
         have h2 := aft_ haf 2 rfl
         exact op_putR 31 _ _ rfl S 0 (g := rh) (C := #[jI jZ 0, jI jZ 0, jI jZ 0, jI jZ 0, jI jZ 0, jI jZ 0, jI jZ 0, jI jZ 0, jI jZ 0, jI jZ 0, jI jZ 0, jS none 0 0, jI jZ 0, jI jZ 0, jI jZ 0, jI jZ 0]) (t := 31) (by simp only [List.getElem?_cons_zero, cnd_f hDi]) ((hev.old 5 (by kernel_rfl)).trans rfl) _ (hev.at_ 2 20 rfl rfl h2 f2) rfl (by kernel_rfl) rfl (fun w S => ⟨_, rfl, S, f0, f1, f2, f5⟩)
       · obtain rfl := inj_ ho
         exact op_move (.inr rfl) rfl ⟨_, rfl, S, f0, f1, f2, fun _ => rfl⟩
       · exact absurd ho (by simp)
     intro V w hI
     obtain ⟨S, f0, f1, f2, f5⟩ := hI
     replace S : Hid (Sep F w0 [bx rh #[jI jZ 8, jI jZ hd.cc, jI jZ hd.ck, jI jZ hd.cv, jI jZ hd.cur, jI jZ hd.want, jI jZ hd.key, jI jZ hd.kid, jI jZ hd.old, jI jZ hd.next, jI jZ hd.new, jS A' n' c', jI jZ 0, jI jZ hd.beg, jI jZ hd.rep, jI jZ hd.out] 31, bx rt #[jI jZ r, jS (some ⟨g, 0, none⟩) n c] 77, bx gh #[jI jZ hd.pos, jI jZ hd.cc, jI jZ hd.ck, jI jZ hd.cv, jI jZ hd.cur, jI jZ hd.want, jI jZ hd.key, jI jZ hd.kid, jI jZ hd.old, jI jZ hd.next, jI jZ hd.new, jS A' n' c', jI jZ hd.thn, jI jZ hd.beg, jI jZ hd.rep, jI jZ hd.out] 31, bx gt #[jI jZ r, jS (some ⟨g, 0, none⟩) n c] 77, pin F w0] w) := Lib.hid S
     simp only [putF, Act.put, sa_, sb_, sc_, f0 rfl, f1 rfl, f2 rfl, f5 rfl]
     clear f0 f1 f2 f5
     go_wp2_with fail
     exact bodyPost_ret (results_ccs rfl _ S.out 1 0 rfl rfl rfl rfl Try.isAgg77 Try.isAgg31 (by kernel_rfl) (by kernel_rfl)) rfl ⟨some ⟨g, 0, none⟩, c, by rw [HLX.out]; rfl, by rw [HLX.out]; exact S.out.turned_pin 4 rfl HO.out⟩
 · have g4 : decide ((40 : Int) ≤ (n : Int)) = false := by rw [decide_eq_false_iff_not]; omega
   have HN40 : Hid (n < 40) := Lib.hid (by omega)
   replace DX := DX.out
   replace DH := DH.out
   replace DB := DB.out
   rw [if_neg h4] at DX DH
   have d4 : decide (40 ≤ n) = false := by simp [h4]
   rw [d4, Bool.false_or] at DB
   subst DB
   clear d4 h4
   go_enter Try.func99, Try.ntmps99
   go_wp2_with (first
       | go_skip
       | (clear tok0; refine bx_ 77 S rfl rfl rfl ?_; clear S; intro gt w S)
       | (clear tok1; refine bx_ 31 S rfl rfl rfl ?_; clear S; intro gh w S)
       | (clear tok2; refine nx_ 77 S rfl rfl Try.zeroValue77 ?_; clear S; intro rt w S)
       | (clear tok3; refine nx_ 31 S rfl rfl Try.zeroValue31 ?_; clear S; intro rh w S)
       | (refine wpList_op rfl (op_lenN _ _ _ rfl Try.underlying75 rfl ?_))
       | (refine wpList_op rfl (op_get 75 _ rfl S.out 3 rfl _ rfl Try.isAgg75 _ rfl ?_)))
   refine wp_region_ev (by kernel_rfl) _ (by kernel_rfl) (by kernel_rfl) 54 rfl (by kernel_rfl) (fun D V w => ∃ AL : Option Addr, ∃ cL : Nat, ∃ AZ : Option Addr, ∃ cZ : Nat, ∃ FZ : FP, ∃ ga16 : Nat, ∃ ga17 : Nat, Sep F w0 [bx rh #[jI jZ 0, jI jZ 0, jI jZ 0, jI jZ 0, jI jZ 0, jI jZ 0, jI jZ 0, jI jZ 0, jI jZ 0, jI jZ 0, jI jZ 0, jS none 0 0, jI jZ 0, jI jZ 0, jI jZ 0, jI jZ 0] 31, bx rt #[jI jZ 0, jS none 0 0] 77, bx gh #[jI jZ hd.pos, jI jZ hd.cc, jI jZ hd.ck, jI jZ hd.cv, jI jZ hd.cur, jI jZ hd.want, jI jZ hd.key, jI jZ hd.kid, jI jZ hd.old, jI jZ hd.next, jI jZ hd.new, jS A' n' c', jI jZ hd.thn, jI jZ hd.beg, jI jZ hd.rep, jI jZ hd.out] 31, bx gt #[jI jZ r, jS (some ⟨g, 0, none⟩) n c] 77, pin F w0, cnd (D 11) em (ow (jS AZ un.ps.length cZ) un.ps FZ), cnd (D 16) em (cnd (D 18) (bx ga16 #[jI jZ 0, jS none 0 0, jI jZ 0, jI jZ 0, jI jZ 0] 101) (bx ga16 #[jI jZ ln.lv, jS AL ln.ps.length cL, jI jZ ln.hi, jI jZ ln.ri, jI jZ ln.ow] 101)), cnd (D 17) em (cnd (D 19) (bx ga17 #[jI jZ 0, jS none 0 0, jI jZ 0, jI jZ 0, jI jZ 0] 101) (bx ga17 #[jI jZ un.lv, jS AZ un.ps.length cZ, jI jZ un.hi, jI jZ un.ri, jI jZ un.ow] 101))] w ∧ (D 0 = true → V 0 = .pointer (some ⟨gt, 1, none⟩)) ∧ (D 1 = true → V 1 = jS (some ⟨g, 0, none⟩) n c) ∧ (D 2 = true → V 2 = .pointer (some ⟨gh, 4, none⟩)) ∧ (D 3 = true → V 3 = jI jZ hd.cur) ∧ (D 4 = true → V 4 = .pointer (some ⟨g, 0 + k * 5, none⟩)) ∧ (D 5 = true → V 5 = .agg #[jI jZ y.lv, jS A2 n2 c2, jI jZ y.hi, jI jZ y.ri, jI jZ y.ow]) ∧ (D 6 = true → V 6 = .agg #[jI jZ hd.pos, jI jZ hd.cc, jI jZ hd.ck, jI jZ hd.cv, jI jZ hd.cur, jI jZ hd.want, jI jZ hd.key, jI jZ hd.kid, jI jZ hd.old, jI jZ hd.next, jI jZ hd.new, jS A' n' c', jI jZ hd.thn, jI jZ hd.beg, jI jZ hd.rep, jI jZ hd.out]) ∧ (D 7 = true → V 7 = .agg #[jI jZ hd.key, jI jZ pv]) ∧ (D 8 = true → V 8 = .pointer (some ⟨gt, 1, none⟩)) ∧ (D 9 = true → V 9 = jS (some ⟨g, 0, none⟩) n c) ∧ (D 10 = true → V 10 = jI jZ n) ∧ (D 11 = true → V 11 = .tuple #[.agg #[jI jZ ln.lv, jS AL ln.ps.length cL, jI jZ ln.hi, jI jZ ln.ri, jI jZ ln.ow], .agg #[jI jZ un.lv, jS AZ un.ps.length cZ, jI jZ un.hi, jI jZ un.ri, jI jZ un.ow], .bool rb]) ∧ (D 12 = true → V 12 = .tuple #[.agg #[jI jZ ln.lv, jS AL ln.ps.length cL, jI jZ ln.hi, jI jZ ln.ri, jI jZ ln.ow], .agg #[jI jZ un.lv, jS AZ un.ps.length cZ, jI jZ un.hi, jI jZ un.ri, jI jZ un.ow], .bool rb]) ∧ (D 13 = true → V 13 = .agg #[jI jZ ln.lv, jS AL ln.ps.length cL, jI jZ ln.hi, jI jZ ln.ri, jI jZ ln.ow]) ∧ (D 14 = true → V 14 = .agg #[jI jZ un.lv, jS AZ un.ps.length cZ, jI jZ un.hi, jI jZ un.ri, jI jZ un.ow]) ∧ (D 15 = true → V 15 = .bool rb) ∧ (D 16 = true → V 16 = .pointer (some ⟨ga16, 0, none⟩)) ∧ (D 17 = true → V 17 = .pointer (some ⟨ga17, 0, none⟩)) ∧ (D 20 = true → V 20 = .bool rb) ∧ (D 12 = true → D 11 = true) ∧ (D 13 = true → D 11 = true) ∧ (D 14 = true → D 11 = true) ∧ (D 18 = true → D 11 = true) ∧ (D 18 = true → D 16 = true) ∧ (D 19 = true → D 11 = true) ∧ (D 19 = true → D 17 = true)) ?_ ?_ ?_
   · intro D hD
     have d11 := hD 11 (by decide)
     have d16 := hD 16 (by decide)
     have d17 := hD 17 (by decide)
     have d18 := hD 18 (by decide)
     have d19 := hD 19 (by decide)
     exact ⟨none, 0, none, 0, fun _ => False, 0, 0, by rw [cnd_f d11, cnd_f d16, cnd_f d17]; exact S.out.drew.ems 3, (nof (hD 0 (by decide))), (nof (hD 1 (by decide))), (nof (hD 2 (by decide))), (nof (hD 3 (by decide))), (nof (hD 4 (by decide))), (nof (hD 5 (by decide))), (nof (hD 6 (by decide))), (nof (hD 7 (by decide))), (nof (hD 8 (by decide))), (nof (hD 9 (by decide))), (nof (hD 10 (by decide))), (nof (hD 11 (by decide))), (nof (hD 12 (by decide))), (nof (hD 13 (by decide))), (nof (hD 14 (by decide))), (nof (hD 15 (by decide))), (nof (hD 16 (by decide))), (nof (hD 17 (by decide))), (nof (hD 20 (by decide))), (nof (hD 12 (by decide))), (nof (hD 13 (by decide))), (nof (hD 14 (by decide))), (nof (hD 18 (by decide))), (nof (hD 18 (by decide))), (nof (hD 19 (by decide))), (nof (hD 19 (by decide)))⟩
   · intro i o D V w a ho hI hDi haf hev
     obtain ⟨AL, cL, AZ, cZ, FZ, ga16, ga17, S, f0, f1, f2, f3, f4, f5, f6, f7, f8, f9, f10, f11, f12, f13, f14, f15, f16, f17, f20, o12_11, o13_11, o14_11, o18_11, o18_16, o19_11, o19_17⟩ := hI
     rcases i with _ | _ | _ | _ | _ | _ | _ | _ | _ | _ | _ | _ | _ | _ | _ | _ | _ | _ | _ | _ | _ | i
     · obtain rfl := inj_ ho
       exact op_field _ _ _ rfl ((hev.old 2 (by kernel_rfl)).trans rfl) (by kernel_rfl) ⟨_, rfl, AL, cL, AZ, cZ, FZ, ga16, ga17, S, fun _ => rfl, f1, f2, f3, f4, f5, f6, f7, f8, f9, f10, f11, f12, f13, f14, f15, f16, f17, f20, o12_11, o13_11, o14_11, o18_11, o18_16, o19_11, o19_17⟩
     · obtain rfl := inj_ ho
       have h0 := aft_ haf 0 rfl
       exact op_get 75 _ rfl S 3 rfl 1 (hev.at_ 0 22 rfl rfl h0 f0) Try.isAgg75 _ rfl ⟨_, rfl, AL, cL, AZ, cZ, FZ, ga16, ga17, S, f0, fun _ => rfl, f2, f3, f4, f5, f6, f7, f8, f9, f10, f11, f12, f13, f14, f15, f16, f17, f20, o12_11, o13_11, o14_11, o18_11, o18_16, o19_11, o19_17⟩
     · obtain rfl := inj_ ho
       exact op_field _ _ _ rfl ((hev.old 3 (by kernel_rfl)).trans rfl) (by kernel_rfl) ⟨_, rfl, AL, cL, AZ, cZ, FZ, ga16, ga17, S, f0, f1, fun _ => rfl, f3, f4, f5, f6, f7, f8, f9, f10, f11, f12, f13, f14, f15, f16, f17, f20, o12_11, o13_11, o14_11, o18_11, o18_16, o19_11, o19_17⟩
     · obtain rfl := inj_ ho
       have h2 := aft_ haf 2 rfl
       exact op_get 2 _ rfl S 2 rfl 4 (hev.at_ 2 24 rfl rfl h2 f2) Try.isAgg2 _ rfl ⟨_, rfl, AL, cL, AZ, cZ, FZ, ga16, ga17, S, f0, f1, f2, fun _ => rfl, f4, f5, f6, f7, f8, f9, f10, f11, f12, f13, f14, f15, f16, f17, f20, o12_11, o13_11, o14_11, o18_11, o18_16, o19_11, o19_17⟩
     · obtain rfl := inj_ ho
       have h1 := aft_ haf 1 rfl
       have h3 := aft_ haf 3 rfl
       exact op_idx _ _ _ rfl 101 5 Try.underlying75 Try.sizeOf101 (hev.at_ 1 23 rfl rfl h1 f1) (by rw [← HC.out]; exact (hev.at_ 3 25 rfl rfl h3 f3)) HKN.out ⟨_, rfl, AL, cL, AZ, cZ, FZ, ga16, ga17, S, f0, f1, f2, f3, fun _ => rfl, f5, f6, f7, f8, f9, f10, f11, f12, f13, f14, f15, f16, f17, f20, o12_11, o13_11, o14_11, o18_11, o18_16, o19_11, o19_17⟩
     · obtain rfl := inj_ ho
       have h4 := aft_ haf 4 rfl
       exact op_ndLoad _ rfl (hev.at_ 4 26 rfl rfl h4 f4) (ND.out.keep fun _ => (S.below_pin 4 rfl).cell HB.out) ⟨_, rfl, AL, cL, AZ, cZ, FZ, ga16, ga17, S, f0, f1, f2, f3, f4, fun _ => rfl, f6, f7, f8, f9, f10, f11, f12, f13, f14, f15, f16, f17, f20, o12_11, o13_11, o14_11, o18_11, o18_16, o19_11, o19_17⟩
     · obtain rfl := inj_ ho
       exact op_row 31 _ rfl S 2 rfl ((hev.old 3 (by kernel_rfl)).trans rfl) Try.isAgg31 (by kernel_rfl) ⟨_, rfl, AL, cL, AZ, cZ, FZ, ga16, ga17, S, f0, f1, f2, f3, f4, f5, fun _ => rfl, f7, f8, f9, f10, f11, f12, f13, f14, f15, f16, f17, f20, o12_11, o13_11, o14_11, o18_11, o18_16, o19_11, o19_17⟩
     · obtain rfl := inj_ ho
       have h6 := aft_ haf 6 rfl
       have hx0 := (hev.at_ 6 28 rfl rfl h6 f6)
       refine op_call _ _ _ rfl (enters_of Try.func114 (by kernel_rfl) rfl) #[.agg #[jI jZ hd.pos, jI jZ hd.cc, jI jZ hd.ck, jI jZ hd.cv, jI jZ hd.cur, jI jZ hd.want, jI jZ hd.key, jI jZ hd.kid, jI jZ hd.old, jI jZ hd.next, jI jZ hd.new, jS A' n' c', jI jZ hd.thn, jI jZ hd.beg, jI jZ hd.rep, jI jZ hd.out]] (by simp [hx0]) (PK.out w) (fun e w2 hh => ?_)
       obtain ⟨rfl, b⟩ := hh
       exact ⟨_, rfl, ⟨_, rfl, AL, cL, AZ, cZ, FZ, ga16, ga17, S.call b, f0, f1, f2, f3, f4, f5, f6, fun _ => rfl, f8, f9, f10, f11, f12, f13, f14, f15, f16, f17, f20, o12_11, o13_11, o14_11, o18_11, o18_16, o19_11, o19_17⟩⟩
     · obtain rfl := inj_ ho
       exact op_field _ _ _ rfl ((hev.old 2 (by kernel_rfl)).trans rfl) (by kernel_rfl) ⟨_, rfl, AL, cL, AZ, cZ, FZ, ga16, ga17, S, f0, f1, f2, f3, f4, f5, f6, f7, fun _ => rfl, f9, f10, f11, f12, f13, f14, f15, f16, f17, f20, o12_11, o13_11, o14_11, o18_11, o18_16, o19_11, o19_17⟩
     · obtain rfl := inj_ ho
       have h8 := aft_ haf 8 rfl
       exact op_get 75 _ rfl S 3 rfl 1 (hev.at_ 8 30 rfl rfl h8 f8) Try.isAgg75 _ rfl ⟨_, rfl, AL, cL, AZ, cZ, FZ, ga16, ga17, S, f0, f1, f2, f3, f4, f5, f6, f7, f8, fun _ => rfl, f10, f11, f12, f13, f14, f15, f16, f17, f20, o12_11, o13_11, o14_11, o18_11, o18_16, o19_11, o19_17⟩
     · obtain rfl := inj_ ho
       have h9 := aft_ haf 9 rfl
       exact op_lenN _ _ _ rfl Try.underlying75 (hev.at_ 9 31 rfl rfl h9 f9) ⟨_, rfl, AL, cL, AZ, cZ, FZ, ga16, ga17, S, f0, f1, f2, f3, f4, f5, f6, f7, f8, f9, fun _ => rfl, f11, f12, f13, f14, f15, f16, f17, f20, o12_11, o13_11, o14_11, o18_11, o18_16, o19_11, o19_17⟩
     · obtain rfl := inj_ ho
       have h5 := aft_ haf 5 rfl
       have h7 := aft_ haf 7 rfl
       have h10 := aft_ haf 10 rfl
       have ns18 := nofb hDi o18_11
       have ns19 := nofb hDi o19_11
       have hx0 := (hev.at_ 5 27 rfl rfl h5 f5)
       have hx1 := (hev.at_ 7 29 rfl rfl h7 f7)
       have hx2 := (hev.at_ 10 32 rfl rfl h10 f10)
       have bel := S.below_pin 4 rfl
       refine op_call _ _ _ rfl (enters_of Try.func115 (by kernel_rfl) rfl) #[.agg #[jI jZ y.lv, jS A2 n2 c2, jI jZ y.hi, jI jZ y.ri, jI jZ y.ow], .agg #[jI jZ hd.key, jI jZ pv], jI jZ n] (by simp [hx0, hx1, hx2]) (NK.out _ (HP.out.on bel)) (fun e w2 hh => ?_)
       obtain ⟨A8, c8, F8, A9, c9, F9, rfl, u8, u9, uap, v8, v9, b⟩ := hh
       have S2 := S.turn 5 (I := em) (by simp only [gs_, gz_, cnd_f hDi]) (Only.of_below b) (ow (jS A9 un.ps.length c9) un.ps F9) u9 (fun k hk => ⟨.inr (v9 k hk).1, (v9 k hk).2⟩)
       exact ⟨_, rfl, ⟨_, rfl, A8, c8, A9, c9, F9, ga16, ga17, (by have SS := S2; rw [cnd_f ns18, cnd_f ns19] at SS; rw [show updB D 11 18 = false from ns18, show updB D 11 19 = false from ns19]; exact SS), f0, f1, f2, f3, f4, f5, f6, f7, f8, f9, f10, fun _ => rfl, (fun h => nof hDi (o12_11 h)), (fun h => nof hDi (o13_11 h)), (fun h => nof hDi (o14_11 h)), f15, f16, f17, f20, fun _ => rfl, fun _ => rfl, fun _ => rfl, fun _ => rfl, o18_16, fun _ => rfl, o19_17⟩⟩
     · obtain rfl := inj_ ho
       have h11 := aft_ haf 11 rfl
       exact op_move (.inl rfl) (hev.at_ 11 33 rfl rfl h11 f11) ⟨_, rfl, AL, cL, AZ, cZ, FZ, ga16, ga17, S, f0, f1, f2, f3, f4, f5, f6, f7, f8, f9, f10, f11, fun _ => rfl, f13, f14, f15, f16, f17, f20, fun _ => h11, o13_11, o14_11, o18_11, o18_16, o19_11, o19_17⟩
     · obtain rfl := inj_ ho
       have h12 := aft_ haf 12 rfl
       have h11 : D 11 = true := o12_11 h12
       exact op_extract _ _ rfl (hev.at_ 12 21 rfl rfl h12 f12) rfl ⟨_, rfl, AL, cL, AZ, cZ, FZ, ga16, ga17, S, f0, f1, f2, f3, f4, f5, f6, f7, f8, f9, f10, f11, f12, fun _ => rfl, f14, f15, f16, f17, f20, o12_11, fun _ => h11, o14_11, o18_11, o18_16, o19_11, o19_17⟩
     · obtain rfl := inj_ ho
       have h12 := aft_ haf 12 rfl
       have h11 : D 11 = true := o12_11 h12
       exact op_extract _ _ rfl (hev.at_ 12 21 rfl rfl h12 f12) rfl ⟨_, rfl, AL, cL, AZ, cZ, FZ, ga16, ga17, S, f0, f1, f2, f3, f4, f5, f6, f7, f8, f9, f10, f11, f12, f13, fun _ => rfl, f15, f16, f17, f20, o12_11, o13_11, fun _ => h11, o18_11, o18_16, o19_11, o19_17⟩
     · obtain rfl := inj_ ho
       have h12 := aft_ haf 12 rfl
       exact op_extract _ _ rfl (hev.at_ 12 21 rfl rfl h12 f12) rfl ⟨_, rfl, AL, cL, AZ, cZ, FZ, ga16, ga17, S, f0, f1, f2, f3, f4, f5, f6, f7, f8, f9, f10, f11, f12, f13, f14, fun _ => rfl, f16, f17, f20, o12_11, o13_11, o14_11, o18_11, o18_16, o19_11, o19_17⟩
     · obtain rfl := inj_ ho
       have nst := nofb hDi o18_16
       refine op_nxAt 101 rfl S 6 (by simp only [gs_, gz_, cnd_f hDi]) _ Try.zeroValue101 (fun g w S => ⟨_, rfl, AL, cL, AZ, cZ, FZ, g, ga17, (by have e : updB D 16 18 = false := nst; rw [e]; exact S), f0, f1, f2, f3, f4, f5, f6, f7, f8, f9, f10, f11, f12, f13, f14, f15, fun _ => rfl, f17, f20, o12_11, o13_11, o14_11, o18_11, fun _ => rfl, o19_11, o19_17⟩)
     · obtain rfl := inj_ ho
       have nst := nofb hDi o19_17
       refine op_nxAt 101 rfl S 7 (by simp only [gs_, gz_, cnd_f hDi]) _ Try.zeroValue101 (fun g w S => ⟨_, rfl, AL, cL, AZ, cZ, FZ, ga16, g, (by have e : updB D 17 19 = false := nst; rw [e]; exact S), f0, f1, f2, f3, f4, f5, f6, f7, f8, f9, f10, f11, f12, f13, f14, f15, f16, fun _ => rfl, f20, o12_11, o13_11, o14_11, o18_11, o18_16, o19_11, fun _ => rfl⟩)
     · obtain rfl := inj_ ho
       have h16 := aft_ haf 16 rfl
       have h13 := aft_ haf 13 rfl
       have h11 : D 11 = true := o13_11 h13
       have ha : D 16 = true := aft_ haf 16 rfl
       exact op_putR 101 _ _ rfl S 6 (g := ga16) (C := #[jI jZ 0, jS none 0 0, jI jZ 0, jI jZ 0, jI jZ 0]) (t := 101) (by simp only [gs_, gz_, cnd_t ha, cnd_f hDi]) (hev.at_ 16 7 rfl rfl h16 f16) _ (hev.at_ 13 34 rfl rfl h13 f13) rfl (by kernel_rfl) rfl (fun w S => ⟨_, rfl, AL, cL, AZ, cZ, FZ, ga16, ga17, (by have e : updB D 18 16 = true := ha; rw [e]; exact S), f0, f1, f2, f3, f4, f5, f6, f7, f8, f9, f10, f11, f12, f13, f14, f15, f16, f17, f20, o12_11, o13_11, o14_11, fun _ => h11, fun _ => h16, o19_11, o19_17⟩)
     · obtain rfl := inj_ ho
       have h17 := aft_ haf 17 rfl
       have h14 := aft_ haf 14 rfl
       have h11 : D 11 = true := o14_11 h14
       have ha : D 17 = true := aft_ haf 17 rfl
       exact op_putR 101 _ _ rfl S 7 (g := ga17) (C := #[jI jZ 0, jS none 0 0, jI jZ 0, jI jZ 0, jI jZ 0]) (t := 101) (by simp only [gs_, gz_, cnd_t ha, cnd_f hDi]) (hev.at_ 17 8 rfl rfl h17 f17) _ (hev.at_ 14 35 rfl rfl h14 f14) rfl (by kernel_rfl) rfl (fun w S => ⟨_, rfl, AL, cL, AZ, cZ, FZ, ga16, ga17, (by have e : updB D 19 17 = true := ha; rw [e]; exact S), f0, f1, f2, f3, f4, f5, f6, f7, f8, f9, f10, f11, f12, f13, f14, f15, f16, f17, f20, o12_11, o13_11, o14_11, o18_11, o18_16, fun _ => h11, fun _ => h17⟩)
     · obtain rfl := inj_ ho
       have h15 := aft_ haf 15 rfl
       exact op_move (.inr rfl) (hev.at_ 15 36 rfl rfl h15 f15) ⟨_, rfl, AL, cL, AZ, cZ, FZ, ga16, ga17, S, f0, f1, f2, f3, f4, f5, f6, f7, f8, f9, f10, f11, f12, f13, f14, f15, f16, f17, fun _ => rfl, o12_11, o13_11, o14_11, o18_11, o18_16, o19_11, o19_17⟩
     · exact absurd ho (by simp)
   intro V w hI
   obtain ⟨AL, cL, AZ, cZ, FZ, ga16, ga17, S, f0, f1, f2, f3, f4, f5, f6, f7, f8, f9, f10, f11, f12, f13, f14, f15, f16, f17, f20, o12_11, o13_11, o14_11, o18_11, o18_16, o19_11, o19_17⟩ := hI
   replace S : Hid (Sep F w0 [bx rh #[jI jZ 0, jI jZ 0, jI jZ 0, jI jZ 0, jI jZ 0, jI jZ 0, jI jZ 0, jI jZ 0, jI jZ 0, jI jZ 0, jI jZ 0, jS none 0 0, jI jZ 0, jI jZ 0, jI jZ 0, jI jZ 0] 31, bx rt #[jI jZ 0, jS none 0 0] 77, bx gh #[jI jZ hd.pos, jI jZ hd.cc, jI jZ hd.ck, jI jZ hd.cv, jI jZ hd.cur, jI jZ hd.want, jI jZ hd.key, jI jZ hd.kid, jI jZ hd.old, jI jZ hd.next, jI jZ hd.new, jS A' n' c', jI jZ hd.thn, jI jZ hd.beg, jI jZ hd.rep, jI jZ hd.out] 31, bx gt #[jI jZ r, jS (some ⟨g, 0, none⟩) n c] 77, pin F w0, ow (jS AZ un.ps.length cZ) un.ps FZ, bx ga16 #[jI jZ ln.lv, jS AL ln.ps.length cL, jI jZ ln.hi, jI jZ ln.ri, jI jZ ln.ow] 101, bx ga17 #[jI jZ un.lv, jS AZ un.ps.length cZ, jI jZ un.hi, jI jZ un.ri, jI jZ un.ow] 101] w) := Lib.hid S
   simp only [putF, Act.put, sa_, sb_, sc_, f0 rfl, f1 rfl, f2 rfl, f3 rfl, f4 rfl, f5 rfl, f6 rfl, f7 rfl, f8 rfl, f9 rfl, f10 rfl, f11 rfl, f12 rfl, f13 rfl, f14 rfl, f15 rfl, f16 rfl, f17 rfl, f20 rfl]
   clear f0 f1 f2 f3 f4 f5 f6 f7 f8 f9 f10 f11 f12 f13 f14 f15 f16 f17 f20 o12_11 o13_11 o14_11 o18_11 o18_16 o19_11 o19_17
   cases rb
   · obtain rfl : xs = rx := DX.symm
     obtain rfl : hd = rh2 := DH.symm
     go_wp2_with fail
     refine wp_region_ev (by kernel_rfl) _ (by kernel_rfl) (by kernel_rfl) 54 rfl (by kernel_rfl) (fun D V w => Sep F w0 [cnd (D 3) (bx rh #[jI jZ 0, jI jZ 0, jI jZ 0, jI jZ 0, jI jZ 0, jI jZ 0, jI jZ 0, jI jZ 0, jI jZ 0, jI jZ 0, jI jZ 0, jS none 0 0, jI jZ 0, jI jZ 0, jI jZ 0, jI jZ 0] 31) (bx rh #[jI jZ hd.pos, jI jZ hd.cc, jI jZ hd.ck, jI jZ hd.cv, jI jZ hd.cur, jI jZ hd.want, jI jZ hd.key, jI jZ hd.kid, jI jZ hd.old, jI jZ hd.next, jI jZ hd.new, jS A' n' c', jI jZ hd.thn, jI jZ hd.beg, jI jZ hd.rep, jI jZ hd.out] 31), cnd (D 2) (bx rt #[jI jZ 0, jS none 0 0] 77) (bx rt #[jI jZ r, jS (some ⟨g, 0, none⟩) n c] 77), bx gh #[jI jZ hd.pos, jI jZ hd.cc, jI jZ hd.ck, jI jZ hd.cv, jI jZ hd.cur, jI jZ hd.want, jI jZ hd.key, jI jZ hd.kid, jI jZ hd.old, jI jZ hd.next, jI jZ hd.new, jS A' n' c', jI jZ hd.thn, jI jZ hd.beg, jI jZ hd.rep, jI jZ hd.out] 31, bx gt #[jI jZ r, jS (some ⟨g, 0, none⟩) n c] 77, pin F w0, ow (jS AZ un.ps.length cZ) un.ps FZ, bx ga16 #[jI jZ ln.lv, jS AL ln.ps.length cL, jI jZ ln.hi, jI jZ ln.ri, jI jZ ln.ow] 101, bx ga17 #[jI jZ un.lv, jS AZ un.ps.length cZ, jI jZ un.hi, jI jZ un.ri, jI jZ un.ow] 101] w ∧ (D 0 = true → V 0 = .agg #[jI jZ r, jS (some ⟨g, 0, none⟩) n c]) ∧ (D 1 = true → V 1 = .agg #[jI jZ hd.pos, jI jZ hd.cc, jI jZ hd.ck, jI jZ hd.cv, jI jZ hd.cur, jI jZ hd.want, jI jZ hd.key, jI jZ hd.kid, jI jZ hd.old, jI jZ hd.next, jI jZ hd.new, jS A' n' c', jI jZ hd.thn, jI jZ hd.beg, jI jZ hd.rep, jI jZ hd.out]) ∧ (D 4 = true → V 4 = .bool false)) ?_ ?_ ?_
     · intro D hD
       have d2 := hD 2 (by decide)
       have d3 := hD 3 (by decide)
       exact ⟨by rw [cnd_f d3, cnd_f d2]; exact S.out.drew.ems 0, (nof (hD 0 (by decide))), (nof (hD 1 (by decide))), (nof (hD 4 (by decide)))⟩
     · intro i o D V w a ho hI hDi haf hev
       obtain ⟨S, f0, f1, f4⟩ := hI
       rcases i with _ | _ | _ | _ | _ | i
       · obtain rfl := inj_ ho
         exact op_row 77 _ rfl S 3 rfl ((hev.old 2 (by kernel_rfl)).trans rfl) Try.isAgg77 (by kernel_rfl) ⟨_, rfl, S, fun _ => rfl, f1, f4⟩
       · obtain rfl := inj_ ho
         exact op_row 31 _ rfl S 2 rfl ((hev.old 3 (by kernel_rfl)).trans rfl) Try.isAgg31 (by kernel_rfl) ⟨_, rfl, S, f0, fun _ => rfl, f4⟩
       · obtain rfl := inj_ ho
         have h0 := aft_ haf 0 rfl
         exact op_putR 77 _ _ rfl S 1 (g := rt) (C := #[jI jZ 0, jS none 0 0]) (t := 77) (by simp only [gs_, gz_, cnd_f hDi]) ((hev.old 4 (by kernel_rfl)).trans rfl) _ (hev.at_ 0 39 rfl rfl h0 f0) rfl (by kernel_rfl) rfl (fun w S => ⟨_, rfl, S, f0, f1, f4⟩)
       · obtain rfl := inj_ ho
         have h1 := aft_ haf 1 rfl
         exact op_putR 31 _ _ rfl S 0 (g := rh) (C := #[jI jZ 0, jI jZ 0, jI jZ 0, jI jZ 0, jI jZ 0, jI jZ 0, jI jZ 0, jI jZ 0, jI jZ 0, jI jZ 0, jI jZ 0, jS none 0 0, jI jZ 0, jI jZ 0, jI jZ 0, jI jZ 0]) (t := 31) (by simp only [List.getElem?_cons_zero, cnd_f hDi]) ((hev.old 5 (by kernel_rfl)).trans rfl) _ (hev.at_ 1 40 rfl rfl h1 f1) rfl (by kernel_rfl) rfl (fun w S => ⟨_, rfl, S, f0, f1, f4⟩)
       · obtain rfl := inj_ ho
         exact op_move (.inr rfl) rfl ⟨_, rfl, S, f0, f1, fun _ => rfl⟩
       · exact absurd ho (by simp)
     intro V w hI
     obtain ⟨S, f0, f1, f4⟩ := hI
     replace S : Hid (Sep F w0 [bx rh #[jI jZ hd.pos, jI jZ hd.cc, jI jZ hd.ck, jI jZ hd.cv, jI jZ hd.cur, jI jZ hd.want, jI jZ hd.key, jI jZ hd.kid, jI jZ hd.old, jI jZ hd.next, jI jZ hd.new, jS A' n' c', jI jZ hd.thn, jI jZ hd.beg, jI jZ hd.rep, jI jZ hd.out] 31, bx rt #[jI jZ r, jS (some ⟨g, 0, none⟩) n c] 77, bx gh #[jI jZ hd.pos, jI jZ hd.cc, jI jZ hd.ck, jI jZ hd.cv, jI jZ hd.cur, jI jZ hd.want, jI jZ hd.key, jI jZ hd.kid, jI jZ hd.old, jI jZ hd.next, jI jZ hd.new, jS A' n' c', jI jZ hd.thn, jI jZ hd.beg, jI jZ hd.rep, jI jZ hd.out] 31, bx gt #[jI jZ r, jS (some ⟨g, 0, none⟩) n c] 77, pin F w0, ow (jS AZ un.ps.length cZ) un.ps FZ, bx ga16 #[jI jZ ln.lv, jS AL ln.ps.length cL, jI jZ ln.hi, jI jZ ln.ri, jI jZ ln.ow] 101, bx ga17 #[jI jZ un.lv, jS AZ un.ps.length cZ, jI jZ un.hi, jI jZ un.ri, jI jZ un.ow] 101] w) := Lib.hid S
     simp only [putF, Act.put, sa_, sb_, sc_, f0 rfl, f1 rfl, f4 rfl]
     clear f0 f1 f4
     go_wp2_with fail
     exact bodyPost_ret (results_ccs rfl _ S.out 1 0 rfl rfl rfl rfl Try.isAgg77 Try.isAgg31 (by kernel_rfl) (by kernel_rfl)) rfl ⟨some ⟨g, 0, none⟩, c, by rw [HLX.out]; rfl, by rw [HLX.out]; exact S.out.turned_pin 4 rfl HO.out⟩
   · obtain rfl : rx = xs ++ [un] := DX
     obtain rfl : rh2 = { hd with new := n, pos := 7 } := DH
     go_wp2_with (first
         | go_skip
         | (refine wpList_op rfl (op_lenN _ _ _ rfl Try.underlying75 rfl ?_))
         | (refine wpList_op rfl (op_bsN1 _ rfl S.out rfl ?_); clear S; intro gq w S; replace S := Lib.hid S)
         | (refine wpList_op rfl (op_appNode _ _ rfl S.out un 5 6 0 (by omega) rfl rfl rfl HO.out HLX.out (by have := HN40.out; omega) rfl rfl ?_); clear S; intro A5 c5 F5 w S; replace S : Hid (Sep F w0 [bx gq #[jI jZ un.lv, jS AZ un.ps.length cZ, jI jZ un.hi, jI jZ un.ri, jI jZ un.ow] 101, bx rh #[jI jZ 0, jI jZ 0, jI jZ 0, jI jZ 0, jI jZ 0, jI jZ 0, jI jZ 0, jI jZ 0, jI jZ 0, jI jZ 0, jI jZ 0, jS none 0 0, jI jZ 0, jI jZ 0, jI jZ 0, jI jZ 0] 31, bx rt #[jI jZ 0, jS none 0 0] 77, bx gh #[jI jZ hd.pos, jI jZ hd.cc, jI jZ hd.ck, jI jZ hd.cv, jI jZ hd.cur, jI jZ hd.want, jI jZ hd.key, jI jZ hd.kid, jI jZ hd.old, jI jZ hd.next, jI jZ n, jS A' n' c', jI jZ hd.thn, jI jZ hd.beg, jI jZ hd.rep, jI jZ hd.out] 31, bx gt #[jI jZ r, jS (some ⟨g, 0, none⟩) n c] 77, ow (jS A5 (n + 1) c5) (xs ++ [un]) F5, em, bx ga16 #[jI jZ ln.lv, jS AL ln.ps.length cL, jI jZ ln.hi, jI jZ ln.ri, jI jZ ln.ow] 101, bx ga17 #[jI jZ un.lv, jS AZ un.ps.length cZ, jI jZ un.hi, jI jZ un.ri, jI jZ un.ow] 101] w) := Lib.hid S)
         | (refine wpList_op rfl (op_get 75 _ rfl S.out 3 rfl _ rfl Try.isAgg75 _ rfl ?_))
         | (refine wpList_op rfl (op_put1_2 2 _ _ rfl S _ rfl _ rfl rfl (by kernel_rfl) (of_decide_eq_true rfl) ?_); clear S; intro w S; replace S : Hid (Sep F w0 [bx rh #[jI jZ 0, jI jZ 0, jI jZ 0, jI jZ 0, jI jZ 0, jI jZ 0, jI jZ 0, jI jZ 0, jI jZ 0, jI jZ 0, jI jZ 0, jS none 0 0, jI jZ 0, jI jZ 0, jI jZ 0, jI jZ 0] 31, bx rt #[jI jZ 0, jS none 0 0] 77, bx gh #[jI jZ hd.pos, jI jZ hd.cc, jI jZ hd.ck, jI jZ hd.cv, jI jZ hd.cur, jI jZ hd.want, jI jZ hd.key, jI jZ hd.kid, jI jZ hd.old, jI jZ hd.next, jI jZ n, jS A' n' c', jI jZ hd.thn, jI jZ hd.beg, jI jZ hd.rep, jI jZ hd.out] 31, bx gt #[jI jZ r, jS (some ⟨g, 0, none⟩) n c] 77, pin F w0, ow (jS AZ un.ps.length cZ) un.ps FZ, bx ga16 #[jI jZ ln.lv, jS AL ln.ps.length cL, jI jZ ln.hi, jI jZ ln.ri, jI jZ ln.ow] 101, bx ga17 #[jI jZ un.lv, jS AZ un.ps.length cZ, jI jZ un.hi, jI jZ un.ri, jI jZ un.ow] 101] w) := S)
         | (refine wpList_op rfl (op_row 101 _ rfl S.out 7 rfl rfl Try.isAgg101 (by kernel_rfl) ?_))
         | (refine wpList_op rfl (op_get 75 _ rfl S.out 4 rfl _ rfl Try.isAgg75 _ rfl ?_))
         | (refine wpList_op rfl (op_put1_4 75 _ _ rfl S _ rfl _ rfl rfl (by kernel_rfl) (of_decide_eq_true rfl) ?_); clear S; intro w S; replace S : Hid (Sep F w0 [bx gq #[jI jZ un.lv, jS AZ un.ps.length cZ, jI jZ un.hi, jI jZ un.ri, jI jZ un.ow] 101, bx rh #[jI jZ 0, jI jZ 0, jI jZ 0, jI jZ 0, jI jZ 0, jI jZ 0, jI jZ 0, jI jZ 0, jI jZ 0, jI jZ 0, jI jZ 0, jS none 0 0, jI jZ 0, jI jZ 0, jI jZ 0, jI jZ 0] 31, bx rt #[jI jZ 0, jS none 0 0] 77, bx gh #[jI jZ hd.pos, jI jZ hd.cc, jI jZ hd.ck, jI jZ hd.cv, jI jZ hd.cur, jI jZ hd.want, jI jZ hd.key, jI jZ hd.kid, jI jZ hd.old, jI jZ hd.next, jI jZ n, jS A' n' c', jI jZ hd.thn, jI jZ hd.beg, jI jZ hd.rep, jI jZ hd.out] 31, bx gt #[jI jZ r, jS A5 (n + 1) c5] 77, ow (jS A5 (n + 1) c5) (xs ++ [un]) F5, em, bx ga16 #[jI jZ ln.lv, jS AL ln.ps.length cL, jI jZ ln.hi, jI jZ ln.ri, jI jZ ln.ow] 101, bx ga17 #[jI jZ un.lv, jS AZ un.ps.length cZ, jI jZ un.hi, jI jZ un.ri, jI jZ un.ow] 101] w) := S)
         | (refine wpList_op rfl (op_put1_3 2 _ _ rfl S _ rfl _ rfl rfl (by kernel_rfl) (of_decide_eq_true rfl) ?_); clear S; intro w S; replace S : Hid (Sep F w0 [bx gq #[jI jZ un.lv, jS AZ un.ps.length cZ, jI jZ un.hi, jI jZ un.ri, jI jZ un.ow] 101, bx rh #[jI jZ 0, jI jZ 0, jI jZ 0, jI jZ 0, jI jZ 0, jI jZ 0, jI jZ 0, jI jZ 0, jI jZ 0, jI jZ 0, jI jZ 0, jS none 0 0, jI jZ 0, jI jZ 0, jI jZ 0, jI jZ 0] 31, bx rt #[jI jZ 0, jS none 0 0] 77, bx gh #[jI jZ 7, jI jZ hd.cc, jI jZ hd.ck, jI jZ hd.cv, jI jZ hd.cur, jI jZ hd.want, jI jZ hd.key, jI jZ hd.kid, jI jZ hd.old, jI jZ hd.next, jI jZ n, jS A' n' c', jI jZ hd.thn, jI jZ hd.beg, jI jZ hd.rep, jI jZ hd.out] 31, bx gt #[jI jZ r, jS A5 (n + 1) c5] 77, ow (jS A5 (n + 1) c5) (xs ++ [un]) F5, em, bx ga16 #[jI jZ ln.lv, jS AL ln.ps.length cL, jI jZ ln.hi, jI jZ ln.ri, jI jZ ln.ow] 101, bx ga17 #[jI jZ un.lv, jS AZ un.ps.length cZ, jI jZ un.hi, jI jZ un.ri, jI jZ un.ow] 101] w) := S))
     refine wp_region_ev (by kernel_rfl) _ (by kernel_rfl) (by kernel_rfl) 54 rfl (by kernel_rfl) (fun D V w => Sep F w0 [bx gq #[jI jZ un.lv, jS AZ un.ps.length cZ, jI jZ un.hi, jI jZ un.ri, jI jZ un.ow] 101, cnd (D 3) (bx rh #[jI jZ 0, jI jZ 0, jI jZ 0, jI jZ 0, jI jZ 0, jI jZ 0, jI jZ 0, jI jZ 0, jI jZ 0, jI jZ 0, jI jZ 0, jS none 0 0, jI jZ 0, jI jZ 0, jI jZ 0, jI jZ 0] 31) (bx rh #[jI jZ 7, jI jZ hd.cc, jI jZ hd.ck, jI jZ hd.cv, jI jZ hd.cur, jI jZ hd.want, jI jZ hd.key, jI jZ hd.kid, jI jZ hd.old, jI jZ hd.next, jI jZ n, jS A' n' c', jI jZ hd.thn, jI jZ hd.beg, jI jZ hd.rep, jI jZ hd.out] 31), cnd (D 2) (bx rt #[jI jZ 0, jS none 0 0] 77) (bx rt #[jI jZ r, jS A5 (n + 1) c5] 77), bx gh #[jI jZ 7, jI jZ hd.cc, jI jZ hd.ck, jI jZ hd.cv, jI jZ hd.cur, jI jZ hd.want, jI jZ hd.key, jI jZ hd.kid, jI jZ hd.old, jI jZ hd.next, jI jZ n, jS A' n' c', jI jZ hd.thn, jI jZ hd.beg, jI jZ hd.rep, jI jZ hd.out] 31, bx gt #[jI jZ r, jS A5 (n + 1) c5] 77, ow (jS A5 (n + 1) c5) (xs ++ [un]) F5, em, bx ga16 #[jI jZ ln.lv, jS AL ln.ps.length cL, jI jZ ln.hi, jI jZ ln.ri, jI jZ ln.ow] 101, bx ga17 #[jI jZ un.lv, jS AZ un.ps.length cZ, jI jZ un.hi, jI jZ un.ri, jI jZ un.ow] 101] w ∧ (D 0 = true → V 0 = .agg #[jI jZ r, jS A5 (n + 1) c5]) ∧ (D 1 = true → V 1 = .agg #[jI jZ 7, jI jZ hd.cc, jI jZ hd.ck, jI jZ hd.cv, jI jZ hd.cur, jI jZ hd.want, jI jZ hd.key, jI jZ hd.kid, jI jZ hd.old, jI jZ hd.next, jI jZ n, jS A' n' c', jI jZ hd.thn, jI jZ hd.beg, jI jZ hd.rep, jI jZ hd.out]) ∧ (D 4 = true → V 4 = .bool true)) ?_ ?_ ?_
     · intro D hD
       have d2 := hD 2 (by decide)
       have d3 := hD 3 (by decide)
       exact ⟨by rw [cnd_f d3, cnd_f d2]; exact S.out.drew.ems 0, (nof (hD 0 (by decide))), (nof (hD 1 (by decide))), (nof (hD 4 (by decide)))⟩
     · intro i o D V w a ho hI hDi haf hev
       obtain ⟨S, f0, f1, f4⟩ := hI
       rcases i with _ | _ | _ | _ | _ | i
       · obtain rfl := inj_ ho
         exact op_row 77 _ rfl S 4 rfl ((hev.old 2 (by kernel_rfl)).trans rfl) Try.isAgg77 (by kernel_rfl) ⟨_, rfl, S, fun _ => rfl, f1, f4⟩
       · obtain rfl := inj_ ho
         exact op_row 31 _ rfl S 3 rfl ((hev.old 3 (by kernel_rfl)).trans rfl) Try.isAgg31 (by kernel_rfl) ⟨_, rfl, S, f0, fun _ => rfl, f4⟩
       · obtain rfl := inj_ ho
         have h0 := aft_ haf 0 rfl
         exact op_putR 77 _ _ rfl S 2 (g := rt) (C := #[jI jZ 0, jS none 0 0]) (t := 77) (by simp only [gs_, gz_, cnd_f hDi]) ((hev.old 4 (by kernel_rfl)).trans rfl) _ (hev.at_ 0 52 rfl rfl h0 f0) rfl (by kernel_rfl) rfl (fun w S => ⟨_, rfl, S, f0, f1, f4⟩)
       · obtain rfl := inj_ ho
         have h1 := aft_ haf 1 rfl
         exact op_putR 31 _ _ rfl S 1 (g := rh) (C := #[jI jZ 0, jI jZ 0, jI jZ 0, jI jZ 0, jI jZ 0, jI jZ 0, jI jZ 0, jI jZ 0, jI jZ 0, jI jZ 0, jI jZ 0, jS none 0 0, jI jZ 0, jI jZ 0, jI jZ 0, jI jZ 0]) (t := 31) (by simp only [gs_, gz_, cnd_f hDi]) ((hev.old 5 (by kernel_rfl)).trans rfl) _ (hev.at_ 1 53 rfl rfl h1 f1) rfl (by kernel_rfl) rfl (fun w S => ⟨_, rfl, S, f0, f1, f4⟩)
       · obtain rfl := inj_ ho
         exact op_move (.inr rfl) rfl ⟨_, rfl, S, f0, f1, fun _ => rfl⟩
       · exact absurd ho (by simp)
     intro V w hI
     obtain ⟨S, f0, f1, f4⟩ := hI
     replace S : Hid (Sep F w0 [bx gq #[jI jZ un.lv, jS AZ un.ps.length cZ, jI jZ un.hi, jI jZ un.ri, jI jZ un.ow] 101, bx rh #[jI jZ 7, jI jZ hd.cc, jI jZ hd.ck, jI jZ hd.cv, jI jZ hd.cur, jI jZ hd.want, jI jZ hd.key, jI jZ hd.kid, jI jZ hd.old, jI jZ hd.next, jI jZ n, jS A' n' c', jI jZ hd.thn, jI jZ hd.beg, jI jZ hd.rep, jI jZ hd.out] 31, bx rt #[jI jZ r, jS A5 (n + 1) c5] 77, bx gh #[jI jZ 7, jI jZ hd.cc, jI jZ hd.ck, jI jZ hd.cv, jI jZ hd.cur, jI jZ hd.want, jI jZ hd.key, jI jZ hd.kid, jI jZ hd.old, jI jZ hd.next, jI jZ n, jS A' n' c', jI jZ hd.thn, jI jZ hd.beg, jI jZ hd.rep, jI jZ hd.out] 31, bx gt #[jI jZ r, jS A5 (n + 1) c5] 77, ow (jS A5 (n + 1) c5) (xs ++ [un]) F5, em, bx ga16 #[jI jZ ln.lv, jS AL ln.ps.length cL, jI jZ ln.hi, jI jZ ln.ri, jI jZ ln.ow] 101, bx ga17 #[jI jZ un.lv, jS AZ un.ps.length cZ, jI jZ un.hi, jI jZ un.ri, jI jZ un.ow] 101] w) := Lib.hid S
     simp only [putF, Act.put, sa_, sb_, sc_, f0 rfl, f1 rfl, f4 rfl]
     clear f0 f1 f4
     go_wp2_with fail
     exact bodyPost_ret (results_ccs rfl _ S.out 2 1 rfl rfl rfl rfl Try.isAgg77 Try.isAgg31 (by kernel_rfl) (by kernel_rfl)) rfl ⟨A5, c5, by rw [HLX.out]; rfl, by rw [HLX.out]; exact S.out.turned 5 rfl⟩
end Go.Proofs.Ytjookicpmjmdhaa
