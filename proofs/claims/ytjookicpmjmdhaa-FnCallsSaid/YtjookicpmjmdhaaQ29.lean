/- The walk of the model's l10Write: into a tree of the caller's own. (Made by genY8.py.) -/
import Derived.Test.YtjookicpmjmdhaaQ21
import Derived.Test.YtjookicpmjmdhaaQ28
open Go.Value renaming int → jI, slice → jS
open Go.IntKind renaming i64 → jZ
namespace Go.Proofs.Ytjookicpmjmdhaa
open Go.RowKit

set_option maxRecDepth 100000 in
set_option maxHeartbeats 16000000 in
theorem write_any (r : Int) (xs : List Nd) (A : Option Addr) (n c : Nat) (F : FP) (hd : Hd) (A' : Option Addr) (n' c' : Nat) (w0 : World) (hO : OwnS w0 (jS A n c) xs F) (hF : ∀ k, F k → k < w0.heap.size) (hT : Right n r xs) (hcur : hasB n hd.cur = true) :
   Calls Try.prog 98 #[.agg #[jI jZ r, jS A n c], hdV hd A' n' c'] w0 fun e w' => e = .returned (.tuple #[.agg #[jI jZ r, jS A n c], hdV (writeH ⟨r, xs⟩ hd) A' n' c']) ∧ Turned F w0 (jS A n c) (writeT ⟨r, xs⟩ hd).ns w' := by
 obtain ⟨h0, h1⟩ := (hasB_iff n hd.cur).1 hcur
 obtain ⟨k, hkk⟩ : ∃ k : Nat, hd.cur = k := ⟨hd.cur.toNat, by omega⟩
 have hkn : k < n := by omega
 have hln : xs.length = n := hO.len
 obtain ⟨g, cap, hv⟩ : ∃ g cap, Value.slice A n c = jS (some ⟨g, 0, none⟩) xs.length cap := by
   obtain ⟨g, cap, _, _, _, _, hv, _⟩ := hO.open k (by omega)
   exact ⟨g, cap, hv⟩
 obtain ⟨rfl, hnx, rfl⟩ : A = some ⟨g, 0, none⟩ ∧ n = xs.length ∧ c = cap := by simpa using hv
 obtain ⟨b, off, hA, hb, A2, n2, c2, hnd, hP, hc2, hc3⟩ := (hO.rs hln).ndAt k hkn
 obtain ⟨rfl, rfl⟩ : g = b ∧ 0 = off := by simpa using hA
 have hnt : nodeT ⟨r, xs⟩ hd.cur = ndAt xs k := by unfold nodeT; rw [hkk]; rfl
 have hp4 : n2 ≤ 1048576 := by rw [← hP.1]; exact nodeOk_len (hT.good k hkn).1
 have hct : hd.cur.toNat = k := by omega
 have DT : Hid ((writeT ⟨r, xs⟩ hd).ns = if hd.cc = 3 then xs.set k { ndAt xs k with ps := leftTo (ndAt xs k).ps hd.key n2 } else xs.set k { ndAt xs k with ps := insL (ndAt xs k).ps hd.key (pairV hd) }) := Lib.hid (by
   unfold writeT setN
   simp only [hnt, hct, hP.1]
   split <;> rfl)
 have DH : Hid (writeH ⟨r, xs⟩ hd = if hd.cc = 3 then freeH { hd with rep := 1 } 0 else freeH (if hd.want = 0 then { hd with rep := if decide (0 ≤ whereI (ndAt xs k).ps hd.key) then 2 else 1 } else hd) 0) := Lib.hid (by unfold writeH; simp only [hnt])
 have WK := Lib.hid (fun w h => where_any A2 n2 c2 (ndAt xs k).ps hd.key w h hp4)
 have CUT := Lib.hid (fun w h => sCut_any A2 n2 c2 (ndAt xs k).ps hd.key w h hp4)
 have PUT := Lib.hid (fun w h => sPut_any A2 n2 c2 (ndAt xs k).ps hd.key (pairV hd) w h hp4 hc2 hc3)
 have PK := Lib.hid (pairH_any hd A' n' c')
 have FK := Lib.hid free_any
 have HP := Lib.hid hP
 have HC := Lib.hid hkk
 have HKN := Lib.hid hkn
 have HB := Lib.hid hb
 have hnd2 : NdAt w0 g (k * 5) (ndAt xs k) A2 n2 c2 := by rw [Nat.zero_add] at hnd; exact hnd
 have ND := Lib.hid hnd
 have ND2 := Lib.hid hnd2
 have HO := Lib.hid hO
 have S := Lib.hid (Sep.startX w0 hF)
 obtain ⟨y, hy⟩ : ∃ y, y = ndAt xs k := ⟨_, rfl⟩
 rw [← hy] at DT DH WK CUT PUT HP ND ND2
 have HY := Lib.hid hy.symm
 clear hO hF hT hcur h0 h1 hkk hkn hb hnd hnd2 hP hnt hp4 hct hln hnx hA hv hc2 hc3 hy
 generalize (writeT ⟨r, xs⟩ hd).ns = rx at *
 generalize writeH ⟨r, xs⟩ hd = rw2 at *
 generalize whereI y.ps hd.key = wi at *
 generalize pairV hd = pv at *
 generalize leftTo y.ps hd.key n2 = zc at *
 generalize insL y.ps hd.key pv = zp at *
 have tok0 : True := trivial
 have tok1 : True := trivial
 have tok2 : True := trivial
 have tok3 : True := trivial
 have tok4 : True := trivial
 unfold hdV at *
 go_enter Try.func98, Try.ntmps98
 go_wp2_with (first
     | go_skip
     | (clear tok0; refine bx_ 77 S rfl rfl rfl ?_; clear S; intro gt w S)
     | (clear tok1; refine bx_ 31 S rfl rfl rfl ?_; clear S; intro gh w S)
     | (clear tok2; refine nx_ 77 S rfl rfl Try.zeroValue77 ?_; clear S; intro rt w S)
     | (clear tok3; refine nx_ 31 S rfl rfl Try.zeroValue31 ?_; clear S; intro rh w S)
     | (clear tok4; refine nx_ 101 S rfl rfl Try.zeroValue101 ?_; clear S; intro gn w S)
     | (refine wpList_op rfl (op_idx _ _ _ rfl 101 5 Try.underlying75 Try.sizeOf101 rfl (by rw [← HC.out]; rfl) (HKN.out) ?_))
     | (refine wpList_op rfl (op_ndLoad _ rfl rfl (ND.out.keep fun _ => (S.out.below_pin 4 rfl).cell HB.out) ?_))
     | (refine wpList_op rfl (op_ndLoad _ rfl rfl (ND2.out.keep fun _ => (S.out.below_pin 4 rfl).cell HB.out) ?_))
     | (refine wpList_op rfl (op_get 75 _ rfl S.out 3 rfl _ rfl Try.isAgg75 _ rfl ?_))
     | (refine wpList_op rfl (op_get 2 _ rfl S.out 2 rfl _ rfl Try.isAgg2 _ rfl ?_))
     | (refine wpList_op rfl (op_putR_0 101 _ _ rfl S rfl _ rfl rfl (by kernel_rfl) rfl ?_); clear S; intro w S)
     | (refine wpList_op rfl (op_get 99 _ rfl S.out 0 rfl _ rfl Try.isAgg99 _ rfl ?_))
     | (refine wpList_op rfl (op_get 2 _ rfl S.out 3 rfl _ rfl Try.isAgg2 _ rfl ?_)))
 refine (WK.out _ (HP.out.on (S.out.below_pin 5 rfl))).mono ?_
 rintro e w9 ⟨rfl, rfl⟩
 by_cases hcc : hd.cc = 3
 · have g1 : (hd.cc == 3) = true := by simp [hcc]
   obtain rfl : rx = xs.set k { y with ps := zc } := by rw [DT.out, if_pos hcc]
   obtain rfl : rw2 = freeH { hd with rep := 1 } 0 := by rw [DH.out, if_pos hcc]
   clear hcc PUT PK DT DH
   go_wp2_with (first
       | go_skip
       | (refine wpList_op rfl (op_get 2 _ rfl S.out 3 rfl _ rfl Try.isAgg2 _ rfl ?_)))
   refine wp_region_ev (by kernel_rfl) _ (by kernel_rfl) (by kernel_rfl) 59 rfl (by kernel_rfl) (fun D V w => ∃ AZ : Option Addr, ∃ cZ : Nat, ∃ FZ : FP, Sep F w0 [bx gn #[jI jZ y.lv, jS A2 n2 c2, jI jZ y.hi, jI jZ y.ri, jI jZ y.ow] 101, bx rh #[jI jZ 0, jI jZ 0, jI jZ 0, jI jZ 0, jI jZ 0, jI jZ 0, jI jZ 0, jI jZ 0, jI jZ 0, jI jZ 0, jI jZ 0, jS none 0 0, jI jZ 0, jI jZ 0, jI jZ 0, jI jZ 0] 31, bx rt #[jI jZ 0, jS none 0 0] 77, bx gh #[jI jZ hd.pos, jI jZ hd.cc, jI jZ hd.ck, jI jZ hd.cv, jI jZ hd.cur, jI jZ hd.want, jI jZ hd.key, jI jZ hd.kid, jI jZ hd.old, jI jZ hd.next, jI jZ hd.new, jS A' n' c', jI jZ hd.thn, jI jZ hd.beg, jI jZ hd.rep, jI jZ hd.out] 31, bx gt #[jI jZ r, jS (some ⟨g, 0, none⟩) n c] 77, cnd (D 11) (pin F w0) (ow (jS (some ⟨g, 0, none⟩) n c) (xs.set k { y with ps := zc }) (fun q => F q ∨ FZ q)), cnd (D 8) em (cnd (D 11) (ow (jS AZ zc.length cZ) zc FZ) em)] w ∧ (D 0 = true → V 0 = .pointer (some ⟨gt, 1, none⟩)) ∧ (D 1 = true → V 1 = jS (some ⟨g, 0, none⟩) n c) ∧ (D 2 = true → V 2 = .pointer (some ⟨gh, 4, none⟩)) ∧ (D 3 = true → V 3 = jI jZ hd.cur) ∧ (D 4 = true → V 4 = .pointer (some ⟨gn, 1, none⟩)) ∧ (D 5 = true → V 5 = jS A2 n2 c2) ∧ (D 6 = true → V 6 = .pointer (some ⟨gh, 6, none⟩)) ∧ (D 7 = true → V 7 = jI jZ hd.key) ∧ (D 8 = true → V 8 = jS AZ zc.length cZ) ∧ (D 9 = true → V 9 = .pointer (some ⟨g, 0 + k * 5, none⟩)) ∧ (D 10 = true → V 10 = .pointer (some ⟨g, 0 + k * 5 + 1, none⟩)) ∧ (D 11 = true → D 8 = true)) ?_ ?_ ?_
   · intro D hD
     have d8 := hD 8 (by decide)
     have d11 := hD 11 (by decide)
     exact ⟨none, 0, fun _ => False, by simp only [cnd_f d8, cnd_f d11]; exact S.out.drew.ems 1, (nof (hD 0 (by decide))), (nof (hD 1 (by decide))), (nof (hD 2 (by decide))), (nof (hD 3 (by decide))), (nof (hD 4 (by decide))), (nof (hD 5 (by decide))), (nof (hD 6 (by decide))), (nof (hD 7 (by decide))), (nof (hD 8 (by decide))), (nof (hD 9 (by decide))), (nof (hD 10 (by decide))), (nof (hD 11 (by decide)))⟩
   · intro i o D V w a ho hI hDi haf hev
     obtain ⟨AZ, cZ, FZ, S, f0, f1, f2, f3, f4, f5, f6, f7, f8, f9, f10, o11_8⟩ := hI
     rcases i with _ | _ | _ | _ | _ | _ | _ | _ | _ | _ | _ | _ | i
     · obtain rfl := inj_ ho
       exact op_field _ _ _ rfl ((hev.old 2 (by kernel_rfl)).trans rfl) (by kernel_rfl) ⟨_, rfl, AZ, cZ, FZ, S, fun _ => rfl, f1, f2, f3, f4, f5, f6, f7, f8, f9, f10, o11_8⟩
     · obtain rfl := inj_ ho
       have h0 := aft_ haf 0 rfl
       exact op_get 75 _ rfl S 4 rfl 1 (hev.at_ 0 24 rfl rfl h0 f0) Try.isAgg75 _ rfl ⟨_, rfl, AZ, cZ, FZ, S, f0, fun _ => rfl, f2, f3, f4, f5, f6, f7, f8, f9, f10, o11_8⟩
     · obtain rfl := inj_ ho
       exact op_field _ _ _ rfl ((hev.old 3 (by kernel_rfl)).trans rfl) (by kernel_rfl) ⟨_, rfl, AZ, cZ, FZ, S, f0, f1, fun _ => rfl, f3, f4, f5, f6, f7, f8, f9, f10, o11_8⟩
     · obtain rfl := inj_ ho
       have h2 := aft_ haf 2 rfl
       exact op_get 2 _ rfl S 3 rfl 4 (hev.at_ 2 26 rfl rfl h2 f2) Try.isAgg2 _ rfl ⟨_, rfl, AZ, cZ, FZ, S, f0, f1, f2, fun _ => rfl, f4, f5, f6, f7, f8, f9, f10, o11_8⟩
     · obtain rfl := inj_ ho
       exact op_field _ _ _ rfl ((hev.old 6 (by kernel_rfl)).trans rfl) (by kernel_rfl) ⟨_, rfl, AZ, cZ, FZ, S, f0, f1, f2, f3, fun _ => rfl, f5, f6, f7, f8, f9, f10, o11_8⟩
     · obtain rfl := inj_ ho
       have h4 := aft_ haf 4 rfl
       exact op_get 99 _ rfl S 0 rfl 1 (hev.at_ 4 28 rfl rfl h4 f4) Try.isAgg99 _ rfl ⟨_, rfl, AZ, cZ, FZ, S, f0, f1, f2, f3, f4, fun _ => rfl, f6, f7, f8, f9, f10, o11_8⟩
     · obtain rfl := inj_ ho
       exact op_field _ _ _ rfl ((hev.old 3 (by kernel_rfl)).trans rfl) (by kernel_rfl) ⟨_, rfl, AZ, cZ, FZ, S, f0, f1, f2, f3, f4, f5, fun _ => rfl, f7, f8, f9, f10, o11_8⟩
     · obtain rfl := inj_ ho
       have h6 := aft_ haf 6 rfl
       exact op_get 2 _ rfl S 3 rfl 6 (hev.at_ 6 30 rfl rfl h6 f6) Try.isAgg2 _ rfl ⟨_, rfl, AZ, cZ, FZ, S, f0, f1, f2, f3, f4, f5, f6, fun _ => rfl, f8, f9, f10, o11_8⟩
     · obtain rfl := inj_ ho
       have h5 := aft_ haf 5 rfl
       have h7 := aft_ haf 7 rfl
       have nn := nofb hDi o11_8
       have hx0 := (hev.at_ 5 29 rfl rfl h5 f5)
       have hx1 := (hev.at_ 7 31 rfl rfl h7 f7)
       have bel := S.below_pin 5 (by simp only [gs_, gz_, cnd_f nn])
       refine op_call _ _ _ rfl (enters_of Try.func112 (by kernel_rfl) rfl) #[jS A2 n2 c2, jI jZ hd.key] (by simp [hx0, hx1]) (CUT.out _ (HP.out.on bel)) (fun e w2 hh => ?_)
       obtain ⟨A, c, rfl, own, b⟩ := own_form hh
       have S2 := S.turn 6 (I := em) (by simp only [gs_, gz_, cnd_f hDi]) (Only.of_below b) (ow (jS A zc.length c) zc (blkF (Value.slice A zc.length c).ownBlock)) (OwnS.of_pairs own (fun k hk => hk)) (fun k hk => by have := own.lt k hk; exact ⟨.inr this.1, this.2⟩)
       exact ⟨_, rfl, ⟨_, rfl, A, c, (blkF (Value.slice A zc.length c).ownBlock), (by have S3 := S2; rw [nn] at S3; rw [show updB D 8 11 = false from nn]; exact S3), f0, f1, f2, f3, f4, f5, f6, f7, fun _ => rfl, f9, f10, fun _ => rfl⟩⟩
     · obtain rfl := inj_ ho
       have h1 := aft_ haf 1 rfl
       have h3 := aft_ haf 3 rfl
       exact op_idx _ _ _ rfl 101 5 Try.underlying75 Try.sizeOf101 (hev.at_ 1 25 rfl rfl h1 f1) (by rw [← HC.out]; exact (hev.at_ 3 27 rfl rfl h3 f3)) HKN.out ⟨_, rfl, AZ, cZ, FZ, S, f0, f1, f2, f3, f4, f5, f6, f7, f8, fun _ => rfl, f10, o11_8⟩
     · obtain rfl := inj_ ho
       have h9 := aft_ haf 9 rfl
       exact op_field _ _ _ rfl (hev.at_ 9 33 rfl rfl h9 f9) (by kernel_rfl) ⟨_, rfl, AZ, cZ, FZ, S, f0, f1, f2, f3, f4, f5, f6, f7, f8, f9, fun _ => rfl, o11_8⟩
     · obtain rfl := inj_ ho
       have h10 := aft_ haf 10 rfl
       have h8 := aft_ haf 8 rfl
       have hx0 := (hev.at_ 10 34 rfl rfl h10 f10)
       have hx1 := (hev.at_ 8 32 rfl rfl h8 f8)
       exact op_putNode 1 _ _ _ rfl S (vz := jS AZ zc.length cZ) (FZ := FZ) (x' := { y with ps := zc }) 5 6 (by omega) (by simp only [gs_, gz_, cnd_f hDi]) (by simp only [gs_, gz_, cnd_t h8, cnd_f hDi]) HO.out HKN.out hx0 (by omega) _ hx1 [jS AZ zc.length cZ] rfl (fun v hv => by obtain rfl := List.mem_singleton.1 hv; rfl) (by kernel_rfl) (by simp) (fun u => by rw [HY.out]; rfl) (fun w S => ⟨_, rfl, AZ, cZ, FZ, (by rw [show updB D 11 8 = true from h8]; exact S), f0, f1, f2, f3, f4, f5, f6, f7, f8, f9, f10, fun _ => h8⟩)
     · exact absurd ho (by simp)
   intro V w hI
   obtain ⟨AZ, cZ, FZ, S, f0, f1, f2, f3, f4, f5, f6, f7, f8, f9, f10, o11_8⟩ := hI
   replace S : Hid (Sep F w0 [bx gn #[jI jZ y.lv, jS A2 n2 c2, jI jZ y.hi, jI jZ y.ri, jI jZ y.ow] 101, bx rh #[jI jZ 0, jI jZ 0, jI jZ 0, jI jZ 0, jI jZ 0, jI jZ 0, jI jZ 0, jI jZ 0, jI jZ 0, jI jZ 0, jI jZ 0, jS none 0 0, jI jZ 0, jI jZ 0, jI jZ 0, jI jZ 0] 31, bx rt #[jI jZ 0, jS none 0 0] 77, bx gh #[jI jZ hd.pos, jI jZ hd.cc, jI jZ hd.ck, jI jZ hd.cv, jI jZ hd.cur, jI jZ hd.want, jI jZ hd.key, jI jZ hd.kid, jI jZ hd.old, jI jZ hd.next, jI jZ hd.new, jS A' n' c', jI jZ hd.thn, jI jZ hd.beg, jI jZ hd.rep, jI jZ hd.out] 31, bx gt #[jI jZ r, jS (some ⟨g, 0, none⟩) n c] 77, ow (jS (some ⟨g, 0, none⟩) n c) (xs.set k { y with ps := zc }) (fun q => F q ∨ FZ q), em] w) := Lib.hid S
   simp only [putF, Act.put, sa_, sb_, sc_, f0 rfl, f1 rfl, f2 rfl, f3 rfl, f4 rfl, f5 rfl, f6 rfl, f7 rfl, f8 rfl, f9 rfl, f10 rfl]
   clear f0 f1 f2 f3 f4 f5 f6 f7 f8 f9 f10 o11_8
   go_wp2_with (first
       | go_skip
       | (refine wpList_op rfl (op_put1_3 2 _ _ rfl S _ rfl _ rfl rfl (by kernel_rfl) (of_decide_eq_true rfl) ?_); clear S; intro w S))
   refine wp_region_ev (by kernel_rfl) _ (by kernel_rfl) (by kernel_rfl) 59 rfl (by kernel_rfl) (fun D V w => Sep F w0 [bx gn #[jI jZ y.lv, jS A2 n2 c2, jI jZ y.hi, jI jZ y.ri, jI jZ y.ow] 101, cnd (D 4) (bx rh #[jI jZ 0, jI jZ 0, jI jZ 0, jI jZ 0, jI jZ 0, jI jZ 0, jI jZ 0, jI jZ 0, jI jZ 0, jI jZ 0, jI jZ 0, jS none 0 0, jI jZ 0, jI jZ 0, jI jZ 0, jI jZ 0] 31) (bx rh #[jI jZ 8, jI jZ hd.cc, jI jZ hd.ck, jI jZ hd.cv, jI jZ hd.cur, jI jZ hd.want, jI jZ hd.key, jI jZ hd.kid, jI jZ hd.old, jI jZ hd.next, jI jZ hd.new, jS A' n' c', jI jZ 0, jI jZ hd.beg, jI jZ 1, jI jZ hd.out] 31), cnd (D 3) (bx rt #[jI jZ 0, jS none 0 0] 77) (bx rt #[jI jZ r, jS (some ⟨g, 0, none⟩) n c] 77), bx gh #[jI jZ hd.pos, jI jZ hd.cc, jI jZ hd.ck, jI jZ hd.cv, jI jZ hd.cur, jI jZ hd.want, jI jZ hd.key, jI jZ hd.kid, jI jZ hd.old, jI jZ hd.next, jI jZ hd.new, jS A' n' c', jI jZ hd.thn, jI jZ hd.beg, jI jZ 1, jI jZ hd.out] 31, bx gt #[jI jZ r, jS (some ⟨g, 0, none⟩) n c] 77, ow (jS (some ⟨g, 0, none⟩) n c) (xs.set k { y with ps := zc }) (fun q => F q ∨ FZ q), em] w ∧ (D 0 = true → V 0 = .agg #[jI jZ r, jS (some ⟨g, 0, none⟩) n c]) ∧ (D 1 = true → V 1 = .agg #[jI jZ hd.pos, jI jZ hd.cc, jI jZ hd.ck, jI jZ hd.cv, jI jZ hd.cur, jI jZ hd.want, jI jZ hd.key, jI jZ hd.kid, jI jZ hd.old, jI jZ hd.next, jI jZ hd.new, jS A' n' c', jI jZ hd.thn, jI jZ hd.beg, jI jZ 1, jI jZ hd.out]) ∧ (D 2 = true → V 2 = .agg #[jI jZ 8, jI jZ hd.cc, jI jZ hd.ck, jI jZ hd.cv, jI jZ hd.cur, jI jZ hd.want, jI jZ hd.key, jI jZ hd.kid, jI jZ hd.old, jI jZ hd.next, jI jZ hd.new, jS A' n' c', jI jZ 0, jI jZ hd.beg, jI jZ 1, jI jZ hd.out])) ?_ ?_ ?_
   · intro D hD
     have d3 := hD 3 (by decide)
     have d4 := hD 4 (by decide)
     exact ⟨by rw [cnd_f d4, cnd_f d3]; exact S.out.drew.ems 0, (nof (hD 0 (by decide))), (nof (hD 1 (by decide))), (nof (hD 2 (by decide)))⟩
   · intro i o D V w a ho hI hDi haf hev
     obtain ⟨S, f0, f1, f2⟩ := hI
     rcases i with _ | _ | _ | _ | _ | i
     · obtain rfl := inj_ ho
       exact op_row 77 _ rfl S 4 rfl ((hev.old 2 (by kernel_rfl)).trans rfl) Try.isAgg77 (by kernel_rfl) ⟨_, rfl, S, fun _ => rfl, f1, f2⟩
     · obtain rfl := inj_ ho
       exact op_row 31 _ rfl S 3 rfl ((hev.old 3 (by kernel_rfl)).trans rfl) Try.isAgg31 (by kernel_rfl) ⟨_, rfl, S, f0, fun _ => rfl, f2⟩
     · obtain rfl := inj_ ho
       have h1 := aft_ haf 1 rfl
       have hx0 := (hev.at_ 1 37 rfl rfl h1 f1)
       refine op_call _ _ _ rfl (enters_of Try.func111 (by kernel_rfl) rfl) #[.agg #[jI jZ hd.pos, jI jZ hd.cc, jI jZ hd.ck, jI jZ hd.cv, jI jZ hd.cur, jI jZ hd.want, jI jZ hd.key, jI jZ hd.kid, jI jZ hd.old, jI jZ hd.next, jI jZ hd.new, jS A' n' c', jI jZ hd.thn, jI jZ hd.beg, jI jZ 1, jI jZ hd.out], jI jZ 0] (by simp [hx0, eval_const]) (FK.out { hd with rep := 1 } A' n' c' 0 w) (fun e w2 hh => ?_)
       obtain ⟨rfl, b⟩ := hh
       exact ⟨_, rfl, ⟨_, rfl, S.call b, f0, f1, fun _ => rfl⟩⟩
     · obtain rfl := inj_ ho
       have h0 := aft_ haf 0 rfl
       exact op_putR 77 _ _ rfl S 2 (g := rt) (C := #[jI jZ 0, jS none 0 0]) (t := 77) (by simp only [gs_, gz_, cnd_f hDi]) ((hev.old 4 (by kernel_rfl)).trans rfl) _ (hev.at_ 0 36 rfl rfl h0 f0) rfl (by kernel_rfl) rfl (fun w S => ⟨_, rfl, S, f0, f1, f2⟩)
     · obtain rfl := inj_ ho
       have h2 := aft_ haf 2 rfl
       exact op_putR 31 _ _ rfl S 1 (g := rh) (C := #[jI jZ 0, jI jZ 0, jI jZ 0, jI jZ 0, jI jZ 0, jI jZ 0, jI jZ 0, jI jZ 0, jI jZ 0, jI jZ 0, jI jZ 0, jS none 0 0, jI jZ 0, jI jZ 0, jI jZ 0, jI jZ 0]) (t := 31) (by simp only [gs_, gz_, cnd_f hDi]) ((hev.old 5 (by kernel_rfl)).trans rfl) _ (hev.at_ 2 38 rfl rfl h2 f2) rfl (by kernel_rfl) rfl (fun w S => ⟨_, rfl, S, f0, f1, f2⟩)
     · exact absurd ho (by simp)
   intro V w hI
   obtain ⟨S, f0, f1, f2⟩ := hI
   replace S : Hid (Sep F w0 [bx gn #[jI jZ y.lv, jS A2 n2 c2, jI jZ y.hi, jI jZ y.ri, jI jZ y.ow] 101, bx rh #[jI jZ 8, jI jZ hd.cc, jI jZ hd.ck, jI jZ hd.cv, jI jZ hd.cur, jI jZ hd.want, jI jZ hd.key, jI jZ hd.kid, jI jZ hd.old, jI jZ hd.next, jI jZ hd.new, jS A' n' c', jI jZ 0, jI jZ hd.beg, jI jZ 1, jI jZ hd.out] 31, bx rt #[jI jZ r, jS (some ⟨g, 0, none⟩) n c] 77, bx gh #[jI jZ hd.pos, jI jZ hd.cc, jI jZ hd.ck, jI jZ hd.cv, jI jZ hd.cur, jI jZ hd.want, jI jZ hd.key, jI jZ hd.kid, jI jZ hd.old, jI jZ hd.next, jI jZ hd.new, jS A' n' c', jI jZ hd.thn, jI jZ hd.beg, jI jZ 1, jI jZ hd.out] 31, bx gt #[jI jZ r, jS (some ⟨g, 0, none⟩) n c] 77, ow (jS (some ⟨g, 0, none⟩) n c) (xs.set k { y with ps := zc }) (fun q => F q ∨ FZ q), em] w) := Lib.hid S
   simp only [putF, Act.put, sa_, sb_, sc_, f0 rfl, f1 rfl, f2 rfl]
   clear f0 f1 f2
   go_wp2_with fail
   exact bodyPost_ret (results_cc rfl _ S.out 2 1 rfl rfl rfl rfl Try.isAgg77 Try.isAgg31 (by kernel_rfl) (by kernel_rfl)) rfl ⟨rfl, S.out.turned 5 rfl⟩
 · have g1 : (hd.cc == 3) = false := by simp [hcc]
   obtain rfl : rx = xs.set k { y with ps := zp } := by rw [DT.out, if_neg hcc]
   replace DH := DH.out
   rw [if_neg hcc] at DH
   clear hcc CUT DT
   go_wp2_with (first
       | go_skip
       | (refine wpList_op rfl (op_get 2 _ rfl S.out 3 rfl _ rfl Try.isAgg2 _ rfl ?_)))
   refine wp_region_ev (by kernel_rfl) _ (by kernel_rfl) (by kernel_rfl) 59 rfl (by kernel_rfl) (fun D V w => ∃ AZ : Option Addr, ∃ cZ : Nat, ∃ FZ : FP, Sep F w0 [bx gn #[jI jZ y.lv, jS A2 n2 c2, jI jZ y.hi, jI jZ y.ri, jI jZ y.ow] 101, bx rh #[jI jZ 0, jI jZ 0, jI jZ 0, jI jZ 0, jI jZ 0, jI jZ 0, jI jZ 0, jI jZ 0, jI jZ 0, jI jZ 0, jI jZ 0, jS none 0 0, jI jZ 0, jI jZ 0, jI jZ 0, jI jZ 0] 31, bx rt #[jI jZ 0, jS none 0 0] 77, bx gh #[jI jZ hd.pos, jI jZ hd.cc, jI jZ hd.ck, jI jZ hd.cv, jI jZ hd.cur, jI jZ hd.want, jI jZ hd.key, jI jZ hd.kid, jI jZ hd.old, jI jZ hd.next, jI jZ hd.new, jS A' n' c', jI jZ hd.thn, jI jZ hd.beg, jI jZ hd.rep, jI jZ hd.out] 31, bx gt #[jI jZ r, jS (some ⟨g, 0, none⟩) n c] 77, cnd (D 11) (pin F w0) (ow (jS (some ⟨g, 0, none⟩) n c) (xs.set k { y with ps := zp }) (fun q => F q ∨ FZ q)), cnd (D 8) em (cnd (D 11) (ow (jS AZ zp.length cZ) zp FZ) em)] w ∧ (D 0 = true → V 0 = .pointer (some ⟨gt, 1, none⟩)) ∧ (D 1 = true → V 1 = jS (some ⟨g, 0, none⟩) n c) ∧ (D 2 = true → V 2 = .pointer (some ⟨gh, 4, none⟩)) ∧ (D 3 = true → V 3 = jI jZ hd.cur) ∧ (D 4 = true → V 4 = .pointer (some ⟨gn, 1, none⟩)) ∧ (D 5 = true → V 5 = jS A2 n2 c2) ∧ (D 6 = true → V 6 = .agg #[jI jZ hd.pos, jI jZ hd.cc, jI jZ hd.ck, jI jZ hd.cv, jI jZ hd.cur, jI jZ hd.want, jI jZ hd.key, jI jZ hd.kid, jI jZ hd.old, jI jZ hd.next, jI jZ hd.new, jS A' n' c', jI jZ hd.thn, jI jZ hd.beg, jI jZ hd.rep, jI jZ hd.out]) ∧ (D 7 = true → V 7 = .agg #[jI jZ hd.key, jI jZ pv]) ∧ (D 8 = true → V 8 = jS AZ zp.length cZ) ∧ (D 9 = true → V 9 = .pointer (some ⟨g, 0 + k * 5, none⟩)) ∧ (D 10 = true → V 10 = .pointer (some ⟨g, 0 + k * 5 + 1, none⟩)) ∧ (D 11 = true → D 8 = true)) ?_ ?_ ?_
   · intro D hD
     have d8 := hD 8 (by decide)
     have d11 := hD 11 (by decide)
     exact ⟨none, 0, fun _ => False, by simp only [cnd_f d8, cnd_f d11]; exact S.out.drew.ems 1, (nof (hD 0 (by decide))), (nof (hD 1 (by decide))), (nof (hD 2 (by decide))), (nof (hD 3 (by decide))), (nof (hD 4 (by decide))), (nof (hD 5 (by decide))), (nof (hD 6 (by decide))), (nof (hD 7 (by decide))), (nof (hD 8 (by decide))), (nof (hD 9 (by decide))), (nof (hD 10 (by decide))), (nof (hD 11 (by decide)))⟩
   · intro i o D V w a ho hI hDi haf hev
     obtain ⟨AZ, cZ, FZ, S, f0, f1, f2, f3, f4, f5, f6, f7, f8, f9, f10, o11_8⟩ := hI
     rcases i with _ | _ | _ | _ | _ | _ | _ | _ | _ | _ | _ | _ | i
     · obtain rfl := inj_ ho
       exact op_field _ _ _ rfl ((hev.old 2 (by kernel_rfl)).trans rfl) (by kernel_rfl) ⟨_, rfl, AZ, cZ, FZ, S, fun _ => rfl, f1, f2, f3, f4, f5, f6, f7, f8, f9, f10, o11_8⟩
     · obtain rfl := inj_ ho
       have h0 := aft_ haf 0 rfl
       exact op_get 75 _ rfl S 4 rfl 1 (hev.at_ 0 39 rfl rfl h0 f0) Try.isAgg75 _ rfl ⟨_, rfl, AZ, cZ, FZ, S, f0, fun _ => rfl, f2, f3, f4, f5, f6, f7, f8, f9, f10, o11_8⟩
     · obtain rfl := inj_ ho
       exact op_field _ _ _ rfl ((hev.old 3 (by kernel_rfl)).trans rfl) (by kernel_rfl) ⟨_, rfl, AZ, cZ, FZ, S, f0, f1, fun _ => rfl, f3, f4, f5, f6, f7, f8, f9, f10, o11_8⟩
     · obtain rfl := inj_ ho
       have h2 := aft_ haf 2 rfl
       exact op_get 2 _ rfl S 3 rfl 4 (hev.at_ 2 41 rfl rfl h2 f2) Try.isAgg2 _ rfl ⟨_, rfl, AZ, cZ, FZ, S, f0, f1, f2, fun _ => rfl, f4, f5, f6, f7, f8, f9, f10, o11_8⟩
     · obtain rfl := inj_ ho
       exact op_field _ _ _ rfl ((hev.old 6 (by kernel_rfl)).trans rfl) (by kernel_rfl) ⟨_, rfl, AZ, cZ, FZ, S, f0, f1, f2, f3, fun _ => rfl, f5, f6, f7, f8, f9, f10, o11_8⟩
     · obtain rfl := inj_ ho
       have h4 := aft_ haf 4 rfl
       exact op_get 99 _ rfl S 0 rfl 1 (hev.at_ 4 43 rfl rfl h4 f4) Try.isAgg99 _ rfl ⟨_, rfl, AZ, cZ, FZ, S, f0, f1, f2, f3, f4, fun _ => rfl, f6, f7, f8, f9, f10, o11_8⟩
     · obtain rfl := inj_ ho
       exact op_row 31 _ rfl S 3 rfl ((hev.old 3 (by kernel_rfl)).trans rfl) Try.isAgg31 (by kernel_rfl) ⟨_, rfl, AZ, cZ, FZ, S, f0, f1, f2, f3, f4, f5, fun _ => rfl, f7, f8, f9, f10, o11_8⟩
     · obtain rfl := inj_ ho
       have h6 := aft_ haf 6 rfl
       have hx0 := (hev.at_ 6 45 rfl rfl h6 f6)
       refine op_call _ _ _ rfl (enters_of Try.func114 (by kernel_rfl) rfl) #[.agg #[jI jZ hd.pos, jI jZ hd.cc, jI jZ hd.ck, jI jZ hd.cv, jI jZ hd.cur, jI jZ hd.want, jI jZ hd.key, jI jZ hd.kid, jI jZ hd.old, jI jZ hd.next, jI jZ hd.new, jS A' n' c', jI jZ hd.thn, jI jZ hd.beg, jI jZ hd.rep, jI jZ hd.out]] (by simp [hx0]) (PK.out w) (fun e w2 hh => ?_)
       obtain ⟨rfl, b⟩ := hh
       exact ⟨_, rfl, ⟨_, rfl, AZ, cZ, FZ, S.call b, f0, f1, f2, f3, f4, f5, f6, fun _ => rfl, f8, f9, f10, o11_8⟩⟩
     · obtain rfl := inj_ ho
       have h5 := aft_ haf 5 rfl
       have h7 := aft_ haf 7 rfl
       have nn := nofb hDi o11_8
       have hx0 := (hev.at_ 5 44 rfl rfl h5 f5)
       have hx1 := (hev.at_ 7 46 rfl rfl h7 f7)
       have bel := S.below_pin 5 (by simp only [gs_, gz_, cnd_f nn])
       refine op_call _ _ _ rfl (enters_of Try.func113 (by kernel_rfl) rfl) #[jS A2 n2 c2, .agg #[jI jZ hd.key, jI jZ pv]] (by simp [hx0, hx1]) (PUT.out _ (HP.out.on bel)) (fun e w2 hh => ?_)
       obtain ⟨A, c, rfl, own, b⟩ := own_form hh
       have S2 := S.turn 6 (I := em) (by simp only [gs_, gz_, cnd_f hDi]) (Only.of_below b) (ow (jS A zp.length c) zp (blkF (Value.slice A zp.length c).ownBlock)) (OwnS.of_pairs own (fun k hk => hk)) (fun k hk => by have := own.lt k hk; exact ⟨.inr this.1, this.2⟩)
       exact ⟨_, rfl, ⟨_, rfl, A, c, (blkF (Value.slice A zp.length c).ownBlock), (by have S3 := S2; rw [nn] at S3; rw [show updB D 8 11 = false from nn]; exact S3), f0, f1, f2, f3, f4, f5, f6, f7, fun _ => rfl, f9, f10, fun _ => rfl⟩⟩
     · obtain rfl := inj_ ho
       have h1 := aft_ haf 1 rfl
       have h3 := aft_ haf 3 rfl
       exact op_idx _ _ _ rfl 101 5 Try.underlying75 Try.sizeOf101 (hev.at_ 1 40 rfl rfl h1 f1) (by rw [← HC.out]; exact (hev.at_ 3 42 rfl rfl h3 f3)) HKN.out ⟨_, rfl, AZ, cZ, FZ, S, f0, f1, f2, f3, f4, f5, f6, f7, f8, fun _ => rfl, f10, o11_8⟩
     · obtain rfl := inj_ ho
       have h9 := aft_ haf 9 rfl
       exact op_field _ _ _ rfl (hev.at_ 9 48 rfl rfl h9 f9) (by kernel_rfl) ⟨_, rfl, AZ, cZ, FZ, S, f0, f1, f2, f3, f4, f5, f6, f7, f8, f9, fun _ => rfl, o11_8⟩
     · obtain rfl := inj_ ho
       have h10 := aft_ haf 10 rfl
       have h8 := aft_ haf 8 rfl
       have hx0 := (hev.at_ 10 49 rfl rfl h10 f10)
       have hx1 := (hev.at_ 8 47 rfl rfl h8 f8)
       exact op_putNode 1 _ _ _ rfl S (vz := jS AZ zp.length cZ) (FZ := FZ) (x' := { y with ps := zp }) 5 6 (by omega) (by simp only [gs_, gz_, cnd_f hDi]) (by simp only [gs_, gz_, cnd_t h8, cnd_f hDi]) HO.out HKN.out hx0 (by omega) _ hx1 [jS AZ zp.length cZ] rfl (fun v hv => by obtain rfl := List.mem_singleton.1 hv; rfl) (by kernel_rfl) (by simp) (fun u => by rw [HY.out]; rfl) (fun w S => ⟨_, rfl, AZ, cZ, FZ, (by rw [show updB D 11 8 = true from h8]; exact S), f0, f1, f2, f3, f4, f5, f6, f7, f8, f9, f10, fun _ => h8⟩)
     · exact absurd ho (by simp)
   intro V w hI
   obtain ⟨AZ, cZ, FZ, S, f0, f1, f2, f3, f4, f5, f6, f7, f8, f9, f10, o11_8⟩ := hI
   replace S : Hid (Sep F w0 [bx gn #[jI jZ y.lv, jS A2 n2 c2, jI jZ y.hi, jI jZ y.ri, jI jZ y.ow] 101, bx rh #[jI jZ 0, jI jZ 0, jI jZ 0, jI jZ 0, jI jZ 0, jI jZ 0, jI jZ 0, jI jZ 0, jI jZ 0, jI jZ 0, jI jZ 0, jS none 0 0, jI jZ 0, jI jZ 0, jI jZ 0, jI jZ 0] 31, bx rt #[jI jZ 0, jS none 0 0] 77, bx gh #[jI jZ hd.pos, jI jZ hd.cc, jI jZ hd.ck, jI jZ hd.cv, jI jZ hd.cur, jI jZ hd.want, jI jZ hd.key, jI jZ hd.kid, jI jZ hd.old, jI jZ hd.next, jI jZ hd.new, jS A' n' c', jI jZ hd.thn, jI jZ hd.beg, jI jZ hd.rep, jI jZ hd.out] 31, bx gt #[jI jZ r, jS (some ⟨g, 0, none⟩) n c] 77, ow (jS (some ⟨g, 0, none⟩) n c) (xs.set k { y with ps := zp }) (fun q => F q ∨ FZ q), em] w) := Lib.hid S
   simp only [putF, Act.put, sa_, sb_, sc_, f0 rfl, f1 rfl, f2 rfl, f3 rfl, f4 rfl, f5 rfl, f6 rfl, f7 rfl, f8 rfl, f9 rfl, f10 rfl]
   clear f0 f1 f2 f3 f4 f5 f6 f7 f8 f9 f10 o11_8
   by_cases hw : hd.want = 0
   · have g2 : (hd.want == 0) = true := by simp [hw]
     rw [if_pos hw] at DH
     clear hw
     by_cases ht : 0 ≤ wi
     · have g3 : decide (0 ≤ wi) = true := by simp [ht]
       rw [g3] at DH
       subst DH
       clear ht
       go_wp2_with (first
           | go_skip
           | (refine wpList_op rfl (op_get 2 _ rfl S.out 3 rfl _ rfl Try.isAgg2 _ rfl ?_))
           | (refine wpList_op rfl (op_put1_3 2 _ _ rfl S _ rfl _ rfl rfl (by kernel_rfl) (of_decide_eq_true rfl) ?_); clear S; intro w S))
       refine wp_region_ev (by kernel_rfl) _ (by kernel_rfl) (by kernel_rfl) 59 rfl (by kernel_rfl) (fun D V w => Sep F w0 [bx gn #[jI jZ y.lv, jS A2 n2 c2, jI jZ y.hi, jI jZ y.ri, jI jZ y.ow] 101, cnd (D 4) (bx rh #[jI jZ 0, jI jZ 0, jI jZ 0, jI jZ 0, jI jZ 0, jI jZ 0, jI jZ 0, jI jZ 0, jI jZ 0, jI jZ 0, jI jZ 0, jS none 0 0, jI jZ 0, jI jZ 0, jI jZ 0, jI jZ 0] 31) (bx rh #[jI jZ 8, jI jZ hd.cc, jI jZ hd.ck, jI jZ hd.cv, jI jZ hd.cur, jI jZ hd.want, jI jZ hd.key, jI jZ hd.kid, jI jZ hd.old, jI jZ hd.next, jI jZ hd.new, jS A' n' c', jI jZ 0, jI jZ hd.beg, jI jZ 2, jI jZ hd.out] 31), cnd (D 3) (bx rt #[jI jZ 0, jS none 0 0] 77) (bx rt #[jI jZ r, jS (some ⟨g, 0, none⟩) n c] 77), bx gh #[jI jZ hd.pos, jI jZ hd.cc, jI jZ hd.ck, jI jZ hd.cv, jI jZ hd.cur, jI jZ hd.want, jI jZ hd.key, jI jZ hd.kid, jI jZ hd.old, jI jZ hd.next, jI jZ hd.new, jS A' n' c', jI jZ hd.thn, jI jZ hd.beg, jI jZ 2, jI jZ hd.out] 31, bx gt #[jI jZ r, jS (some ⟨g, 0, none⟩) n c] 77, ow (jS (some ⟨g, 0, none⟩) n c) (xs.set k { y with ps := zp }) (fun q => F q ∨ FZ q), em] w ∧ (D 0 = true → V 0 = .agg #[jI jZ r, jS (some ⟨g, 0, none⟩) n c]) ∧ (D 1 = true → V 1 = .agg #[jI jZ hd.pos, jI jZ hd.cc, jI jZ hd.ck, jI jZ hd.cv, jI jZ hd.cur, jI jZ hd.want, jI jZ hd.key, jI jZ hd.kid, jI jZ hd.old, jI jZ hd.next, jI jZ hd.new, jS A' n' c', jI jZ hd.thn, jI jZ hd.beg, jI jZ 2, jI jZ hd.out]) ∧ (D 2 = true → V 2 = .agg #[jI jZ 8, jI jZ hd.cc, jI jZ hd.ck, jI jZ hd.cv, jI jZ hd.cur, jI jZ hd.want, jI jZ hd.key, jI jZ hd.kid, jI jZ hd.old, jI jZ hd.next, jI jZ hd.new, jS A' n' c', jI jZ 0, jI jZ hd.beg, jI jZ 2, jI jZ hd.out])) ?_ ?_ ?_
       · intro D hD
         have d3 := hD 3 (by decide)
         have d4 := hD 4 (by decide)
         exact ⟨by rw [cnd_f d4, cnd_f d3]; exact S.out.drew.ems 0, (nof (hD 0 (by decide))), (nof (hD 1 (by decide))), (nof (hD 2 (by decide)))⟩
       · intro i o D V w a ho hI hDi haf hev
         obtain ⟨S, f0, f1, f2⟩ := hI
         rcases i with _ | _ | _ | _ | _ | i
         · obtain rfl := inj_ ho
           exact op_row 77 _ rfl S 4 rfl ((hev.old 2 (by kernel_rfl)).trans rfl) Try.isAgg77 (by kernel_rfl) ⟨_, rfl, S, fun _ => rfl, f1, f2⟩
         · obtain rfl := inj_ ho
           exact op_row 31 _ rfl S 3 rfl ((hev.old 3 (by kernel_rfl)).trans rfl) Try.isAgg31 (by kernel_rfl) ⟨_, rfl, S, f0, fun _ => rfl, f2⟩
         · obtain rfl := inj_ ho
           have h1 := aft_ haf 1 rfl
           have hx0 := (hev.at_ 1 57 rfl rfl h1 f1)
           refine op_call _ _ _ rfl (enters_of Try.func111 (by kernel_rfl) rfl) #[.agg #[jI jZ hd.pos, jI jZ hd.cc, jI jZ hd.ck, jI jZ hd.cv, jI jZ hd.cur, jI jZ hd.want, jI jZ hd.key, jI jZ hd.kid, jI jZ hd.old, jI jZ hd.next, jI jZ hd.new, jS A' n' c', jI jZ hd.thn, jI jZ hd.beg, jI jZ 2, jI jZ hd.out], jI jZ 0] (by simp [hx0, eval_const]) (FK.out { hd with rep := 2 } A' n' c' 0 w) (fun e w2 hh => ?_)
           obtain ⟨rfl, b⟩ := hh
           exact ⟨_, rfl, ⟨_, rfl, S.call b, f0, f1, fun _ => rfl⟩⟩
         · obtain rfl := inj_ ho
           have h0 := aft_ haf 0 rfl
           exact op_putR 77 _ _ rfl S 2 (g := rt) (C := #[jI jZ 0, jS none 0 0]) (t := 77) (by simp only [gs_, gz_, cnd_f hDi]) ((hev.old 4 (by kernel_rfl)).trans rfl) _ (hev.at_ 0 56 rfl rfl h0 f0) rfl (by kernel_rfl) rfl (fun w S => ⟨_, rfl, S, f0, f1, f2⟩)
         · obtain rfl := inj_ ho
           have h2 := aft_ haf 2 rfl
           exact op_putR 31 _ _ rfl S 1 (g := rh) (C := #[jI jZ 0, jI jZ 0, jI jZ 0, jI jZ 0, jI jZ 0, jI jZ 0, jI jZ 0, jI jZ 0, jI jZ 0, jI jZ 0, jI jZ 0, jS none 0 0, jI jZ 0, jI jZ 0, jI jZ 0, jI jZ 0]) (t := 31) (by simp only [gs_, gz_, cnd_f hDi]) ((hev.old 5 (by kernel_rfl)).trans rfl) _ (hev.at_ 2 58 rfl rfl h2 f2) rfl (by kernel_rfl) rfl (fun w S => ⟨_, rfl, S, f0, f1, f2⟩)
         · exact absurd ho (by simp)
       intro V w hI
       obtain ⟨S, f0, f1, f2⟩ := hI
       replace S : Hid (Sep F w0 [bx gn #[jI jZ y.lv, jS A2 n2 c2, jI jZ y.hi, jI jZ y.ri, jI jZ y.ow] 101, bx rh #[jI jZ 8, jI jZ hd.cc, jI jZ hd.ck, jI jZ hd.cv, jI jZ hd.cur, jI jZ hd.want, jI jZ hd.key, jI jZ hd.kid, jI jZ hd.old, jI jZ hd.next, jI jZ hd.new, jS A' n' c', jI jZ 0, jI jZ hd.beg, jI jZ 2, jI jZ hd.out] 31, bx rt #[jI jZ r, jS (some ⟨g, 0, none⟩) n c] 77, bx gh #[jI jZ hd.pos, jI jZ hd.cc, jI jZ hd.ck, jI jZ hd.cv, jI jZ hd.cur, jI jZ hd.want, jI jZ hd.key, jI jZ hd.kid, jI jZ hd.old, jI jZ hd.next, jI jZ hd.new, jS A' n' c', jI jZ hd.thn, jI jZ hd.beg, jI jZ 2, jI jZ hd.out] 31, bx gt #[jI jZ r, jS (some ⟨g, 0, none⟩) n c] 77, ow (jS (some ⟨g, 0, none⟩) n c) (xs.set k { y with ps := zp }) (fun q => F q ∨ FZ q), em] w) := Lib.hid S
       simp only [putF, Act.put, sa_, sb_, sc_, f0 rfl, f1 rfl, f2 rfl]
       clear f0 f1 f2
       go_wp2_with fail
       exact bodyPost_ret (results_cc rfl _ S.out 2 1 rfl rfl rfl rfl Try.isAgg77 Try.isAgg31 (by kernel_rfl) (by kernel_rfl)) rfl ⟨rfl, S.out.turned 5 rfl⟩
     · have g3 : decide (0 ≤ wi) = false := by simp [ht]
       rw [g3] at DH
       subst DH
       clear ht
       go_wp2_with (first
           | go_skip
           | (refine wpList_op rfl (op_get 2 _ rfl S.out 3 rfl _ rfl Try.isAgg2 _ rfl ?_))
           | (refine wpList_op rfl (op_put1_3 2 _ _ rfl S _ rfl _ rfl rfl (by kernel_rfl) (of_decide_eq_true rfl) ?_); clear S; intro w S))
       refine wp_region_ev (by kernel_rfl) _ (by kernel_rfl) (by kernel_rfl) 59 rfl (by kernel_rfl) (fun D V w => Sep F w0 [bx gn #[jI jZ y.lv, jS A2 n2 c2, jI jZ y.hi, jI jZ y.ri, jI jZ y.ow] 101, cnd (D 4) (bx rh #[jI jZ 0, jI jZ 0, jI jZ 0, jI jZ 0, jI jZ 0, jI jZ 0, jI jZ 0, jI jZ 0, jI jZ 0, jI jZ 0, jI jZ 0, jS none 0 0, jI jZ 0, jI jZ 0, jI jZ 0, jI jZ 0] 31) (bx rh #[jI jZ 8, jI jZ hd.cc, jI jZ hd.ck, jI jZ hd.cv, jI jZ hd.cur, jI jZ hd.want, jI jZ hd.key, jI jZ hd.kid, jI jZ hd.old, jI jZ hd.next, jI jZ hd.new, jS A' n' c', jI jZ 0, jI jZ hd.beg, jI jZ 1, jI jZ hd.out] 31), cnd (D 3) (bx rt #[jI jZ 0, jS none 0 0] 77) (bx rt #[jI jZ r, jS (some ⟨g, 0, none⟩) n c] 77), bx gh #[jI jZ hd.pos, jI jZ hd.cc, jI jZ hd.ck, jI jZ hd.cv, jI jZ hd.cur, jI jZ hd.want, jI jZ hd.key, jI jZ hd.kid, jI jZ hd.old, jI jZ hd.next, jI jZ hd.new, jS A' n' c', jI jZ hd.thn, jI jZ hd.beg, jI jZ 1, jI jZ hd.out] 31, bx gt #[jI jZ r, jS (some ⟨g, 0, none⟩) n c] 77, ow (jS (some ⟨g, 0, none⟩) n c) (xs.set k { y with ps := zp }) (fun q => F q ∨ FZ q), em] w ∧ (D 0 = true → V 0 = .agg #[jI jZ r, jS (some ⟨g, 0, none⟩) n c]) ∧ (D 1 = true → V 1 = .agg #[jI jZ hd.pos, jI jZ hd.cc, jI jZ hd.ck, jI jZ hd.cv, jI jZ hd.cur, jI jZ hd.want, jI jZ hd.key, jI jZ hd.kid, jI jZ hd.old, jI jZ hd.next, jI jZ hd.new, jS A' n' c', jI jZ hd.thn, jI jZ hd.beg, jI jZ 1, jI jZ hd.out]) ∧ (D 2 = true → V 2 = .agg #[jI jZ 8, jI jZ hd.cc, jI jZ hd.ck, jI jZ hd.cv, jI jZ hd.cur, jI jZ hd.want, jI jZ hd.key, jI jZ hd.kid, jI jZ hd.old, jI jZ hd.next, jI jZ hd.new, jS A' n' c', jI jZ 0, jI jZ hd.beg, jI jZ 1, jI jZ hd.out])) ?_ ?_ ?_
       · intro D hD
         have d3 := hD 3 (by decide)
         have d4 := hD 4 (by decide)
         exact ⟨by rw [cnd_f d4, cnd_f d3]; exact S.out.drew.ems 0, (nof (hD 0 (by decide))), (nof (hD 1 (by decide))), (nof (hD 2 (by decide)))⟩
       · intro i o D V w a ho hI hDi haf hev
         obtain ⟨S, f0, f1, f2⟩ := hI
         rcases i with _ | _ | _ | _ | _ | i
         · obtain rfl := inj_ ho
           exact op_row 77 _ rfl S 4 rfl ((hev.old 2 (by kernel_rfl)).trans rfl) Try.isAgg77 (by kernel_rfl) ⟨_, rfl, S, fun _ => rfl, f1, f2⟩
         · obtain rfl := inj_ ho
           exact op_row 31 _ rfl S 3 rfl ((hev.old 3 (by kernel_rfl)).trans rfl) Try.isAgg31 (by kernel_rfl) ⟨_, rfl, S, f0, fun _ => rfl, f2⟩
         · obtain rfl := inj_ ho
           have h1 := aft_ haf 1 rfl
           have hx0 := (hev.at_ 1 57 rfl rfl h1 f1)
           refine op_call _ _ _ rfl (enters_of Try.func111 (by kernel_rfl) rfl) #[.agg #[jI jZ hd.pos, jI jZ hd.cc, jI jZ hd.ck, jI jZ hd.cv, jI jZ hd.cur, jI jZ hd.want, jI jZ hd.key, jI jZ hd.kid, jI jZ hd.old, jI jZ hd.next, jI jZ hd.new, jS A' n' c', jI jZ hd.thn, jI jZ hd.beg, jI jZ 1, jI jZ hd.out], jI jZ 0] (by simp [hx0, eval_const]) (FK.out { hd with rep := 1 } A' n' c' 0 w) (fun e w2 hh => ?_)
           obtain ⟨rfl, b⟩ := hh
           exact ⟨_, rfl, ⟨_, rfl, S.call b, f0, f1, fun _ => rfl⟩⟩
         · obtain rfl := inj_ ho
           have h0 := aft_ haf 0 rfl
           exact op_putR 77 _ _ rfl S 2 (g := rt) (C := #[jI jZ 0, jS none 0 0]) (t := 77) (by simp only [gs_, gz_, cnd_f hDi]) ((hev.old 4 (by kernel_rfl)).trans rfl) _ (hev.at_ 0 56 rfl rfl h0 f0) rfl (by kernel_rfl) rfl (fun w S => ⟨_, rfl, S, f0, f1, f2⟩)
         · obtain rfl := inj_ ho
           have h2 := aft_ haf 2 rfl
           exact op_putR 31 _ _ rfl S 1 (g := rh) (C := #[jI jZ 0, jI jZ 0, jI jZ 0, jI jZ 0, jI jZ 0, jI jZ 0, jI jZ 0, jI jZ 0, jI jZ 0, jI jZ 0, jI jZ 0, jS none 0 0, jI jZ 0, jI jZ 0, jI jZ 0, jI jZ 0]) (t := 31) (by simp only [gs_, gz_, cnd_f hDi]) ((hev.old 5 (by kernel_rfl)).trans rfl) _ (hev.at_ 2 58 rfl rfl h2 f2) rfl (by kernel_rfl) rfl (fun w S => ⟨_, rfl, S, f0, f1, f2⟩)
         · exact absurd ho (by simp)
       intro V w hI
       obtain ⟨S, f0, f1, f2⟩ := hI
       replace S : Hid (Sep F w0 [bx gn #[jI jZ y.lv, jS A2 n2 c2, jI jZ y.hi, jI jZ y.ri, jI jZ y.ow] 101, bx rh #[jI jZ 8, jI jZ hd.cc, jI jZ hd.ck, jI jZ hd.cv, jI jZ hd.cur, jI jZ hd.want, jI jZ hd.key, jI jZ hd.kid, jI jZ hd.old, jI jZ hd.next, jI jZ hd.new, jS A' n' c', jI jZ 0, jI jZ hd.beg, jI jZ 1, jI jZ hd.out] 31, bx rt #[jI jZ r, jS (some ⟨g, 0, none⟩) n c] 77, bx gh #[jI jZ hd.pos, jI jZ hd.cc, jI jZ hd.ck, jI jZ hd.cv, jI jZ hd.cur, jI jZ hd.want, jI jZ hd.key, jI jZ hd.kid, jI jZ hd.old, jI jZ hd.next, jI jZ hd.new, jS A' n' c', jI jZ hd.thn, jI jZ hd.beg, jI jZ 1, jI jZ hd.out] 31, bx gt #[jI jZ r, jS (some ⟨g, 0, none⟩) n c] 77, ow (jS (some ⟨g, 0, none⟩) n c) (xs.set k { y with ps := zp }) (fun q => F q ∨ FZ q), em] w) := Lib.hid S
       simp only [putF, Act.put, sa_, sb_, sc_, f0 rfl, f1 rfl, f2 rfl]
       clear f0 f1 f2
       go_wp2_with fail
       exact bodyPost_ret (results_cc rfl _ S.out 2 1 rfl rfl rfl rfl Try.isAgg77 Try.isAgg31 (by kernel_rfl) (by kernel_rfl)) rfl ⟨rfl, S.out.turned 5 rfl⟩
   · have g2 : (hd.want == 0) = false := by simp [hw]
     rw [if_neg hw] at DH
     subst DH
     clear hw
     go_wp2_with (first
         | go_skip
         | (refine wpList_op rfl (op_get 2 _ rfl S.out 3 rfl _ rfl Try.isAgg2 _ rfl ?_)))
     refine wp_region_ev (by kernel_rfl) _ (by kernel_rfl) (by kernel_rfl) 59 rfl (by kernel_rfl) (fun D V w => Sep F w0 [bx gn #[jI jZ y.lv, jS A2 n2 c2, jI jZ y.hi, jI jZ y.ri, jI jZ y.ow] 101, cnd (D 4) (bx rh #[jI jZ 0, jI jZ 0, jI jZ 0, jI jZ 0, jI jZ 0, jI jZ 0, jI jZ 0, jI jZ 0, jI jZ 0, jI jZ 0, jI jZ 0, jS none 0 0, jI jZ 0, jI jZ 0, jI jZ 0, jI jZ 0] 31) (bx rh #[jI jZ 8, jI jZ hd.cc, jI jZ hd.ck, jI jZ hd.cv, jI jZ hd.cur, jI jZ hd.want, jI jZ hd.key, jI jZ hd.kid, jI jZ hd.old, jI jZ hd.next, jI jZ hd.new, jS A' n' c', jI jZ 0, jI jZ hd.beg, jI jZ hd.rep, jI jZ hd.out] 31), cnd (D 3) (bx rt #[jI jZ 0, jS none 0 0] 77) (bx rt #[jI jZ r, jS (some ⟨g, 0, none⟩) n c] 77), bx gh #[jI jZ hd.pos, jI jZ hd.cc, jI jZ hd.ck, jI jZ hd.cv, jI jZ hd.cur, jI jZ hd.want, jI jZ hd.key, jI jZ hd.kid, jI jZ hd.old, jI jZ hd.next, jI jZ hd.new, jS A' n' c', jI jZ hd.thn, jI jZ hd.beg, jI jZ hd.rep, jI jZ hd.out] 31, bx gt #[jI jZ r, jS (some ⟨g, 0, none⟩) n c] 77, ow (jS (some ⟨g, 0, none⟩) n c) (xs.set k { y with ps := zp }) (fun q => F q ∨ FZ q), em] w ∧ (D 0 = true → V 0 = .agg #[jI jZ r, jS (some ⟨g, 0, none⟩) n c]) ∧ (D 1 = true → V 1 = .agg #[jI jZ hd.pos, jI jZ hd.cc, jI jZ hd.ck, jI jZ hd.cv, jI jZ hd.cur, jI jZ hd.want, jI jZ hd.key, jI jZ hd.kid, jI jZ hd.old, jI jZ hd.next, jI jZ hd.new, jS A' n' c', jI jZ hd.thn, jI jZ hd.beg, jI jZ hd.rep, jI jZ hd.out]) ∧ (D 2 = true → V 2 = .agg #[jI jZ 8, jI jZ hd.cc, jI jZ hd.ck, jI jZ hd.cv, jI jZ hd.cur, jI jZ hd.want, jI jZ hd.key, jI jZ hd.kid, jI jZ hd.old, jI jZ hd.next, jI jZ hd.new, jS A' n' c', jI jZ 0, jI jZ hd.beg, jI jZ hd.rep, jI jZ hd.out])) ?_ ?_ ?_
     · intro D hD
       have d3 := hD 3 (by decide)
       have d4 := hD 4 (by decide)
       exact ⟨by rw [cnd_f d4, cnd_f d3]; exact S.out.drew.ems 0, (nof (hD 0 (by decide))), (nof (hD 1 (by decide))), (nof (hD 2 (by decide)))⟩
     · intro i o D V w a ho hI hDi haf hev
       obtain ⟨S, f0, f1, f2⟩ := hI
       rcases i with _ | _ | _ | _ | _ | i
       · obtain rfl := inj_ ho
         exact op_row 77 _ rfl S 4 rfl ((hev.old 2 (by kernel_rfl)).trans rfl) Try.isAgg77 (by kernel_rfl) ⟨_, rfl, S, fun _ => rfl, f1, f2⟩
       · obtain rfl := inj_ ho
         exact op_row 31 _ rfl S 3 rfl ((hev.old 3 (by kernel_rfl)).trans rfl) Try.isAgg31 (by kernel_rfl) ⟨_, rfl, S, f0, fun _ => rfl, f2⟩
       · obtain rfl := inj_ ho
         have h1 := aft_ haf 1 rfl
         have hx0 := (hev.at_ 1 57 rfl rfl h1 f1)
         refine op_call _ _ _ rfl (enters_of Try.func111 (by kernel_rfl) rfl) #[.agg #[jI jZ hd.pos, jI jZ hd.cc, jI jZ hd.ck, jI jZ hd.cv, jI jZ hd.cur, jI jZ hd.want, jI jZ hd.key, jI jZ hd.kid, jI jZ hd.old, jI jZ hd.next, jI jZ hd.new, jS A' n' c', jI jZ hd.thn, jI jZ hd.beg, jI jZ hd.rep, jI jZ hd.out], jI jZ 0] (by simp [hx0, eval_const]) (FK.out hd A' n' c' 0 w) (fun e w2 hh => ?_)
         obtain ⟨rfl, b⟩ := hh
         exact ⟨_, rfl, ⟨_, rfl, S.call b, f0, f1, fun _ => rfl⟩⟩
       · obtain rfl := inj_ ho
         have h0 := aft_ haf 0 rfl
         exact op_putR 77 _ _ rfl S 2 (g := rt) (C := #[jI jZ 0, jS none 0 0]) (t := 77) (by simp only [gs_, gz_, cnd_f hDi]) ((hev.old 4 (by kernel_rfl)).trans rfl) _ (hev.at_ 0 56 rfl rfl h0 f0) rfl (by kernel_rfl) rfl (fun w S => ⟨_, rfl, S, f0, f1, f2⟩)
       · obtain rfl := inj_ ho
         have h2 := aft_ haf 2 rfl
         exact op_putR 31 _ _ rfl S 1 (g := rh) (C := #[jI jZ 0, jI jZ 0, jI jZ 0, jI jZ 0, jI jZ 0, jI jZ 0, jI jZ 0, jI jZ 0, jI jZ 0, jI jZ 0, jI jZ 0, jS none 0 0, jI jZ 0, jI jZ 0, jI jZ 0, jI jZ 0]) (t := 31) (by simp only [gs_, gz_, cnd_f hDi]) ((hev.old 5 (by kernel_rfl)).trans rfl) _ (hev.at_ 2 58 rfl rfl h2 f2) rfl (by kernel_rfl) rfl (fun w S => ⟨_, rfl, S, f0, f1, f2⟩)
       · exact absurd ho (by simp)
     intro V w hI
     obtain ⟨S, f0, f1, f2⟩ := hI
     replace S : Hid (Sep F w0 [bx gn #[jI jZ y.lv, jS A2 n2 c2, jI jZ y.hi, jI jZ y.ri, jI jZ y.ow] 101, bx rh #[jI jZ 8, jI jZ hd.cc, jI jZ hd.ck, jI jZ hd.cv, jI jZ hd.cur, jI jZ hd.want, jI jZ hd.key, jI jZ hd.kid, jI jZ hd.old, jI jZ hd.next, jI jZ hd.new, jS A' n' c', jI jZ 0, jI jZ hd.beg, jI jZ hd.rep, jI jZ hd.out] 31, bx rt #[jI jZ r, jS (some ⟨g, 0, none⟩) n c] 77, bx gh #[jI jZ hd.pos, jI jZ hd.cc, jI jZ hd.ck, jI jZ hd.cv, jI jZ hd.cur, jI jZ hd.want, jI jZ hd.key, jI jZ hd.kid, jI jZ hd.old, jI jZ hd.next, jI jZ hd.new, jS A' n' c', jI jZ hd.thn, jI jZ hd.beg, jI jZ hd.rep, jI jZ hd.out] 31, bx gt #[jI jZ r, jS (some ⟨g, 0, none⟩) n c] 77, ow (jS (some ⟨g, 0, none⟩) n c) (xs.set k { y with ps := zp }) (fun q => F q ∨ FZ q), em] w) := Lib.hid S
     simp only [putF, Act.put, sa_, sb_, sc_, f0 rfl, f1 rfl, f2 rfl]
     clear f0 f1 f2
     go_wp2_with fail
     exact bodyPost_ret (results_cc rfl _ S.out 2 1 rfl rfl rfl rfl Try.isAgg77 Try.isAgg31 (by kernel_rfl) (by kernel_rfl)) rfl ⟨rfl, S.out.turned 5 rfl⟩
end Go.Proofs.Ytjookicpmjmdhaa
