/- The walks of the model's l9Here, l9Down, DownStep. (Made by genY3.py.) -/
import Derived.Test.YtjookicpmjmdhaaQ16
import Derived.Test.YtjookicpmjmdhaaQ08
open Go.Value renaming int → jI, slice → jS
open Go.IntKind renaming i64 → jZ
namespace Go.Proofs.Ytjookicpmjmdhaa
open Go.RowKit

set_option maxRecDepth 100000 in
set_option maxHeartbeats 4000000 in
theorem rest_any (rep out : Int) (w0 : World) : Calls Try.prog 25 #[jI jZ rep, jI jZ out] w0 fun e w' => e = .returned (hdV (restH rep out) none 0 0) ∧ Below w0.heap.size w0 w' := by
 have S := Lib.hid (Sep.start noX w0)
 have tok0 : True := trivial
 go_enter Try.func25, Try.ntmps25
 go_wp2_with (first
     | (clear tok0; refine nx_ 31 S rfl rfl Try.zeroValue31 ?_; clear S; intro rh w S)
     | (refine wpList_op rfl (op_putR_0 31 _ _ rfl S rfl _ rfl rfl (by kernel_rfl) rfl ?_); clear S; intro w S))
 exact bodyPost_ret (results_c rfl _ S.out 0 rfl rfl Try.isAgg31 (by kernel_rfl)) rfl ⟨rfl, S.out.below⟩

set_option maxRecDepth 100000 in
set_option maxHeartbeats 4000000 in
theorem here9_any (r : Int) (xs : List Nd) (A : Option Addr) (n c : Nat) (hd : Hd) (A' : Option Addr) (n' c' : Nat) (w0 : World) (hR : RS w0 w0.heap.size A n xs) (hT : Right n r xs) (hcur : hasB n hd.cur = true) :
   Calls Try.prog 108 #[.agg #[jI jZ r, jS A n c], hdV hd A' n' c'] w0 fun e w' => e = .returned (if hd.cc = 1 then hdV (hereH ⟨r, xs⟩ hd) none 0 0 else hdV (hereH ⟨r, xs⟩ hd) A' n' c') ∧ Below w0.heap.size w0 w' := by
 obtain ⟨h0, h1⟩ := (hasB_iff n hd.cur).1 hcur
 obtain ⟨k, hk⟩ : ∃ k : Nat, hd.cur = k := ⟨hd.cur.toNat, by omega⟩
 have hkn : k < n := by omega
 obtain ⟨b, off, rfl, hb, hc⟩ := hR.nd (by omega)
 obtain ⟨A2, n2, c2, _, q1, _, _, _, hP, _⟩ := hc k hkn
 have hnd : nodeT ⟨r, xs⟩ hd.cur = ndAt xs k := by unfold nodeT; rw [hk]; rfl
 have hg := (hT.good k hkn).1
 have hp4 : n2 ≤ 1048576 := by
   rw [← hP.1]
   unfold nodeOk at hg
   simp only [Bool.and_eq_true, decide_eq_true_eq] at hg
   have := hg.1.1.1.1.2
   omega
 have VK := Lib.hid (fun w h => sVal_any A2 n2 c2 (ndAt xs k).ps hd.key w h hp4)
 have E1 : Hid (hd.cc = 1 → hereH ⟨r, xs⟩ hd = if valB (ndAt xs k).ps hd.key then restH 1 (valN (ndAt xs k).ps hd.key) else restH 2 0) := Lib.hid (fun h => by unfold hereH; rw [if_pos h, hnd])
 have E2 : Hid (hd.cc ≠ 1 → hereH ⟨r, xs⟩ hd = { hd with pos := 3 }) := Lib.hid (fun h => by unfold hereH; rw [if_neg h])
 have C1 := Lib.hid q1
 have HP := Lib.hid hP
 have HB := Lib.hid hb
 have HC := Lib.hid hk
 have HKN := Lib.hid hkn
 have RK := Lib.hid rest_any
 clear hR hT hcur h0 h1 hk hkn hb hc q1 hP hnd hg hp4
 generalize hereH ⟨r, xs⟩ hd = res at *
 generalize valB (ndAt xs k).ps hd.key = vb at *
 generalize valN (ndAt xs k).ps hd.key = vn at *
 have S := Lib.hid (Sep.start noX w0)
 have tok0 : True := trivial
 have tok1 : True := trivial
 have tok2 : True := trivial
 unfold hdV at *
 by_cases hcc : hd.cc = 1
 · have g1 : (hd.cc != 1) = false := by simp [hcc]
   have ER := E1.out hcc
   rw [if_pos hcc]
   go_enter Try.func108, Try.ntmps108
   go_wp2_with (first
       | (clear tok0; refine bx_ 77 S rfl rfl rfl ?_; clear S; intro gt w S)
       | (clear tok1; refine bx_ 31 S rfl rfl rfl ?_; clear S; intro gh w S)
       | (clear tok2; refine nx_ 31 S rfl rfl Try.zeroValue31 ?_; clear S; intro rh w S)
       | (refine wpList_op rfl (op_get 2 _ rfl S.out 1 rfl _ rfl Try.isAgg2 _ rfl ?_)))
   refine wp_region_ev (by kernel_rfl) _ (by kernel_rfl) (by kernel_rfl) 30 rfl (by kernel_rfl) (fun D V w => Sep noX w0 [bx rh #[jI jZ 0, jI jZ 0, jI jZ 0, jI jZ 0, jI jZ 0, jI jZ 0, jI jZ 0, jI jZ 0, jI jZ 0, jI jZ 0, jI jZ 0, jS none 0 0, jI jZ 0, jI jZ 0, jI jZ 0, jI jZ 0] 31, bx gh #[jI jZ hd.pos, jI jZ hd.cc, jI jZ hd.ck, jI jZ hd.cv, jI jZ hd.cur, jI jZ hd.want, jI jZ hd.key, jI jZ hd.kid, jI jZ hd.old, jI jZ hd.next, jI jZ hd.new, jS A' n' c', jI jZ hd.thn, jI jZ hd.beg, jI jZ hd.rep, jI jZ hd.out] 31, bx gt #[jI jZ r, jS (some ⟨b, off, none⟩) n c] 77] w ∧ (D 0 = true → V 0 = .pointer (some ⟨gt, 1, none⟩)) ∧ (D 1 = true → V 1 = jS (some ⟨b, off, none⟩) n c) ∧ (D 2 = true → V 2 = .pointer (some ⟨gh, 4, none⟩)) ∧ (D 3 = true → V 3 = jI jZ hd.cur) ∧ (D 4 = true → V 4 = .pointer (some ⟨b, off + k * 5, none⟩)) ∧ (D 5 = true → V 5 = .pointer (some ⟨b, off + k * 5 + 1, none⟩)) ∧ (D 6 = true → V 6 = jS A2 n2 c2) ∧ (D 7 = true → V 7 = .pointer (some ⟨gh, 6, none⟩)) ∧ (D 8 = true → V 8 = jI jZ hd.key) ∧ (D 9 = true → V 9 = .tuple #[jI jZ vn, .bool vb]) ∧ (D 10 = true → V 10 = .tuple #[jI jZ vn, .bool vb]) ∧ (D 11 = true → V 11 = jI jZ vn) ∧ (D 12 = true → V 12 = .bool vb) ∧ (D 13 = true → V 13 = jI jZ vn) ∧ (D 14 = true → V 14 = .bool vb)) ?_ ?_ ?_
   · intro D hD
     exact ⟨by exact S.out.drew.ems 0, (nof (hD 0 (by decide))), (nof (hD 1 (by decide))), (nof (hD 2 (by decide))), (nof (hD 3 (by decide))), (nof (hD 4 (by decide))), (nof (hD 5 (by decide))), (nof (hD 6 (by decide))), (nof (hD 7 (by decide))), (nof (hD 8 (by decide))), (nof (hD 9 (by decide))), (nof (hD 10 (by decide))), (nof (hD 11 (by decide))), (nof (hD 12 (by decide))), (nof (hD 13 (by decide))), (nof (hD 14 (by decide)))⟩
   · intro i o D V w a ho hI hDi haf hev
     obtain ⟨S, f0, f1, f2, f3, f4, f5, f6, f7, f8, f9, f10, f11, f12, f13, f14⟩ := hI
     rcases i with _ | _ | _ | _ | _ | _ | _ | _ | _ | _ | _ | _ | _ | _ | _ | i
     · obtain rfl := inj_ ho
       exact op_field _ _ _ rfl ((hev.old 2 (by kernel_rfl)).trans rfl) (by kernel_rfl) ⟨_, rfl, S, fun _ => rfl, f1, f2, f3, f4, f5, f6, f7, f8, f9, f10, f11, f12, f13, f14⟩
     · obtain rfl := inj_ ho
       have h0 := aft_ haf 0 rfl
       exact op_get 75 _ rfl S 2 rfl 1 (hev.at_ 0 14 rfl rfl h0 f0) Try.isAgg75 _ rfl ⟨_, rfl, S, f0, fun _ => rfl, f2, f3, f4, f5, f6, f7, f8, f9, f10, f11, f12, f13, f14⟩
     · obtain rfl := inj_ ho
       exact op_field _ _ _ rfl ((hev.old 3 (by kernel_rfl)).trans rfl) (by kernel_rfl) ⟨_, rfl, S, f0, f1, fun _ => rfl, f3, f4, f5, f6, f7, f8, f9, f10, f11, f12, f13, f14⟩
     · obtain rfl := inj_ ho
       have h2 := aft_ haf 2 rfl
       exact op_get 2 _ rfl S 1 rfl 4 (hev.at_ 2 16 rfl rfl h2 f2) Try.isAgg2 _ rfl ⟨_, rfl, S, f0, f1, f2, fun _ => rfl, f4, f5, f6, f7, f8, f9, f10, f11, f12, f13, f14⟩
     · obtain rfl := inj_ ho
       have h1 := aft_ haf 1 rfl
       have h3 := aft_ haf 3 rfl
       exact op_idx _ _ _ rfl 101 5 Try.underlying75 Try.sizeOf101 (hev.at_ 1 15 rfl rfl h1 f1) (by rw [← HC.out]; exact (hev.at_ 3 17 rfl rfl h3 f3)) HKN.out ⟨_, rfl, S, f0, f1, f2, f3, fun _ => rfl, f5, f6, f7, f8, f9, f10, f11, f12, f13, f14⟩
     · obtain rfl := inj_ ho
       have h4 := aft_ haf 4 rfl
       exact op_field _ _ _ rfl (hev.at_ 4 18 rfl rfl h4 f4) (by kernel_rfl) ⟨_, rfl, S, f0, f1, f2, f3, f4, fun _ => rfl, f6, f7, f8, f9, f10, f11, f12, f13, f14⟩
     · obtain rfl := inj_ ho
       have h5 := aft_ haf 5 rfl
       exact op_cell 99 _ rfl (hev.at_ 5 19 rfl rfl h5 f5) Try.isAgg99 ((S.below.cell HB.out).trans C1.out) ⟨_, rfl, S, f0, f1, f2, f3, f4, f5, fun _ => rfl, f7, f8, f9, f10, f11, f12, f13, f14⟩
     · obtain rfl := inj_ ho
       exact op_field _ _ _ rfl ((hev.old 3 (by kernel_rfl)).trans rfl) (by kernel_rfl) ⟨_, rfl, S, f0, f1, f2, f3, f4, f5, f6, fun _ => rfl, f8, f9, f10, f11, f12, f13, f14⟩
     · obtain rfl := inj_ ho
       have h7 := aft_ haf 7 rfl
       exact op_get 2 _ rfl S 1 rfl 6 (hev.at_ 7 21 rfl rfl h7 f7) Try.isAgg2 _ rfl ⟨_, rfl, S, f0, f1, f2, f3, f4, f5, f6, f7, fun _ => rfl, f9, f10, f11, f12, f13, f14⟩
     · obtain rfl := inj_ ho
       have h6 := aft_ haf 6 rfl
       have h8 := aft_ haf 8 rfl
       have hx0 := (hev.at_ 6 20 rfl rfl h6 f6)
       have hx1 := (hev.at_ 8 22 rfl rfl h8 f8)
       refine op_call _ _ _ rfl (enters_of Try.func117 (by kernel_rfl) rfl) #[jS A2 n2 c2, jI jZ hd.key] (by simp [hx0, hx1]) (VK.out _ (HP.out.on S.below)) (fun e w2 hh => ?_)
       obtain ⟨rfl, b⟩ := hh
       exact ⟨_, rfl, ⟨_, rfl, S.call b, f0, f1, f2, f3, f4, f5, f6, f7, f8, fun _ => rfl, f10, f11, f12, f13, f14⟩⟩
     · obtain rfl := inj_ ho
       have h9 := aft_ haf 9 rfl
       exact op_move (.inl rfl) (hev.at_ 9 23 rfl rfl h9 f9) ⟨_, rfl, S, f0, f1, f2, f3, f4, f5, f6, f7, f8, f9, fun _ => rfl, f11, f12, f13, f14⟩
     · obtain rfl := inj_ ho
       have h10 := aft_ haf 10 rfl
       exact op_extract _ _ rfl (hev.at_ 10 13 rfl rfl h10 f10) rfl ⟨_, rfl, S, f0, f1, f2, f3, f4, f5, f6, f7, f8, f9, f10, fun _ => rfl, f12, f13, f14⟩
     · obtain rfl := inj_ ho
       have h10 := aft_ haf 10 rfl
       exact op_extract _ _ rfl (hev.at_ 10 13 rfl rfl h10 f10) rfl ⟨_, rfl, S, f0, f1, f2, f3, f4, f5, f6, f7, f8, f9, f10, f11, fun _ => rfl, f13, f14⟩
     · obtain rfl := inj_ ho
       have h11 := aft_ haf 11 rfl
       exact op_move (.inr rfl) (hev.at_ 11 24 rfl rfl h11 f11) ⟨_, rfl, S, f0, f1, f2, f3, f4, f5, f6, f7, f8, f9, f10, f11, f12, fun _ => rfl, f14⟩
     · obtain rfl := inj_ ho
       have h12 := aft_ haf 12 rfl
       exact op_move (.inr rfl) (hev.at_ 12 25 rfl rfl h12 f12) ⟨_, rfl, S, f0, f1, f2, f3, f4, f5, f6, f7, f8, f9, f10, f11, f12, f13, fun _ => rfl⟩
     · exact absurd ho (by simp)
   intro V w hI
   obtain ⟨S, f0, f1, f2, f3, f4, f5, f6, f7, f8, f9, f10, f11, f12, f13, f14⟩ := hI
   replace S : Hid (Sep noX w0 [bx rh #[jI jZ 0, jI jZ 0, jI jZ 0, jI jZ 0, jI jZ 0, jI jZ 0, jI jZ 0, jI jZ 0, jI jZ 0, jI jZ 0, jI jZ 0, jS none 0 0, jI jZ 0, jI jZ 0, jI jZ 0, jI jZ 0] 31, bx gh #[jI jZ hd.pos, jI jZ hd.cc, jI jZ hd.ck, jI jZ hd.cv, jI jZ hd.cur, jI jZ hd.want, jI jZ hd.key, jI jZ hd.kid, jI jZ hd.old, jI jZ hd.next, jI jZ hd.new, jS A' n' c', jI jZ hd.thn, jI jZ hd.beg, jI jZ hd.rep, jI jZ hd.out] 31, bx gt #[jI jZ r, jS (some ⟨b, off, none⟩) n c] 77] w) := Lib.hid S
   simp only [putF, Act.put, sa_, sb_, sc_, f0 rfl, f1 rfl, f2 rfl, f3 rfl, f4 rfl, f5 rfl, f6 rfl, f7 rfl, f8 rfl, f9 rfl, f10 rfl, f11 rfl, f12 rfl, f13 rfl, f14 rfl]
   clear f0 f1 f2 f3 f4 f5 f6 f7 f8 f9 f10 f11 f12 f13 f14
   cases vb
   · obtain rfl : res = restH 2 0 := by simpa using ER
     clear ER
     go_wp2_with fail
     refine (RK.out 2 0 _).mono ?_
     rintro e w ⟨rfl, b⟩
     replace S := Lib.hid (S.out.call b)
     clear b
     go_wp2_with (first
         | (refine wpList_op rfl (op_putR_0 31 _ _ rfl S rfl _ rfl rfl (by kernel_rfl) rfl ?_); clear S; intro w S))
     exact bodyPost_ret (results_c rfl _ S.out 0 rfl rfl Try.isAgg31 (by kernel_rfl)) rfl ⟨rfl, S.out.below⟩
   · obtain rfl : res = restH 1 vn := by simpa using ER
     clear ER
     go_wp2_with fail
     refine (RK.out 1 vn _).mono ?_
     rintro e w ⟨rfl, b⟩
     replace S := Lib.hid (S.out.call b)
     clear b
     go_wp2_with (first
         | (refine wpList_op rfl (op_putR_0 31 _ _ rfl S rfl _ rfl rfl (by kernel_rfl) rfl ?_); clear S; intro w S))
     exact bodyPost_ret (results_c rfl _ S.out 0 rfl rfl Try.isAgg31 (by kernel_rfl)) rfl ⟨rfl, S.out.below⟩
 · have g1 : (hd.cc != 1) = true := by simpa using hcc
   obtain rfl := E2.out hcc
   rw [if_neg hcc]
   clear hcc
   go_enter Try.func108, Try.ntmps108
   go_wp2_with (first
       | (clear tok0; refine bx_ 77 S rfl rfl rfl ?_; clear S; intro gt w S)
       | (clear tok1; refine bx_ 31 S rfl rfl rfl ?_; clear S; intro gh w S)
       | (clear tok2; refine nx_ 31 S rfl rfl Try.zeroValue31 ?_; clear S; intro rh w S)
       | (refine wpList_op rfl (op_get 2 _ rfl S.out 1 rfl _ rfl Try.isAgg2 _ rfl ?_))
       | (refine wpList_op rfl (op_put1_1 2 _ _ rfl S _ rfl _ rfl rfl (by kernel_rfl) (of_decide_eq_true rfl) ?_); clear S; intro w S)
       | (refine wpList_op rfl (op_row 31 _ rfl S.out 1 rfl rfl Try.isAgg31 (by kernel_rfl) ?_))
       | (refine wpList_op rfl (op_putR_0 31 _ _ rfl S rfl _ rfl rfl (by kernel_rfl) rfl ?_); clear S; intro w S))
   exact bodyPost_ret (results_c rfl _ S.out 0 rfl rfl Try.isAgg31 (by kernel_rfl)) rfl ⟨rfl, S.out.below⟩
end Go.Proofs.Ytjookicpmjmdhaa
