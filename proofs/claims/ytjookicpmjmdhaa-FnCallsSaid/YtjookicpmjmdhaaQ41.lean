/- The walk of the model's l11Halve: into a tree of the caller's own. (Made by genY19.py.) -/
import Derived.Test.YtjookicpmjmdhaaQ40
open Go.Value renaming int → jI, slice → jS
open Go.IntKind renaming i64 → jZ
namespace Go.Proofs.Ytjookicpmjmdhaa
open Go.RowKit

set_option maxRecDepth 100000 in
set_option maxHeartbeats 16000000 in
theorem halve_any (r : Int) (xs : List Nd) (A : Option Addr) (n c : Nat) (F : FP) (hd : Hd) (A' : Option Addr) (n' c' : Nat) (w0 : World) (hO : OwnS w0 (jS A n c) xs F) (hF : ∀ k, F k → k < w0.heap.size) (hT : Right n r xs) (hcur : hasB n hd.cur = true) :
   Calls Try.prog 100 #[.agg #[jI jZ r, jS A n c], hdV hd A' n' c'] w0 (GivesTH F w0 r (halveX xs hd) (halveH xs hd) (halfN xs hd hd.new) A' n' c') := by
 obtain ⟨h0, h1⟩ := (hasB_iff n hd.cur).1 hcur
 obtain ⟨k, hkk⟩ : ∃ k : Nat, hd.cur = k := ⟨hd.cur.toNat, by omega⟩
 have hkn : k < n := by omega
 have hln : xs.length = n := hO.len
 obtain ⟨g, cap, hv⟩ : ∃ g cap, Value.slice A n c = jS (some ⟨g, 0, none⟩) xs.length cap := by
   obtain ⟨g, cap, _, _, _, _, hv, _⟩ := hO.open k (by omega)
   exact ⟨g, cap, hv⟩
 obtain ⟨rfl, hnx, rfl⟩ : A = some ⟨g, 0, none⟩ ∧ n = xs.length ∧ c = cap := by simpa using hv
 obtain ⟨b, off, hA, hb, A2, n2, c2, hnd, hP, hc2, hc3⟩ := (hO.rs hln).ndAt k hkn
 obtain ⟨rfl, rfl⟩ : g = b ∧ 0 = off := by simpa using hA
 have hct : hd.cur.toNat = k := by omega
 have hp4 : n2 ≤ 1048576 := by rw [← hP.1]; exact nodeOk_len (hT.good k hkn).1
 have hxl : (halveX xs hd).length = n := by rw [halveX_len, hln]
 have DX : Hid (halveX xs hd = if halfB (ndAt xs k) hd.key (pairV hd) hd.new then xs.set k (loH (ndAt xs k) hd.key (pairV hd) hd.new) else xs) := Lib.hid (by unfold halveX halfN loNd; rw [hct])
 have DH : Hid (halveH xs hd = if halfB (ndAt xs k) hd.key (pairV hd) hd.new then freeH (if hd.want = 0 then { hd with old := hd.cur, key := kAt (upH (ndAt xs k) hd.key (pairV hd) hd.new).ps 0, kid := hd.new, rep := 1 } else { hd with old := hd.cur, key := kAt (upH (ndAt xs k) hd.key (pairV hd) hd.new).ps 0, kid := hd.new }) 2 else hd) := Lib.hid (by unfold halveH halvedH halfN upNd; rw [hct])
 have DB : Hid (halfN xs hd hd.new = halfB (ndAt xs k) hd.key (pairV hd) hd.new) := Lib.hid (by unfold halfN; rw [hct])
 have NK := Lib.hid (fun w hP => halves_any (ndAt xs k) A2 n2 c2 hd.key (pairV hd) hd.new w hP hp4 hc2 hc3)
 have HU : Hid (halfB (ndAt xs k) hd.key (pairV hd) hd.new = true → (upH (ndAt xs k) hd.key (pairV hd) hd.new).ps.length = 2) := Lib.hid up_two
 have PK := Lib.hid (pairH_any hd A' n' c')
 have FK := Lib.hid free_any
 have HP := Lib.hid hP
 have HC := Lib.hid hkk
 have HKN := Lib.hid hkn
 have HB := Lib.hid hb
 have ND := Lib.hid hnd
 have HO := Lib.hid hO
 have HLX := Lib.hid hln
 have S := Lib.hid (Sep.startX w0 hF)
 have HXL := Lib.hid hxl
 obtain ⟨y, hy⟩ : ∃ y, y = ndAt xs k := ⟨_, rfl⟩
 rw [← hy] at DX DH DB NK HP ND HU
 clear hO hF hT hcur h0 h1 hkk hkn hb hnd hP hp4 hct hln hnx hA hv hc2 hc3 hy hxl
 unfold GivesTH
 generalize halveX xs hd = rx at *
 generalize halveH xs hd = rh2 at *
 generalize halfN xs hd hd.new = rb at *
 generalize pairV hd = pv at *
 generalize loH y hd.key pv hd.new = ln at *
 generalize upH y hd.key pv hd.new = un at *
 generalize halfB y hd.key pv hd.new = hb at *
 have tok0 : True := trivial
 have tok1 : True := trivial
 have tok2 : True := trivial
 have tok3 : True := trivial
 unfold hdV at *
 rw [HXL.out]
 replace DX := DX.out
 replace DH := DH.out
 obtain rfl := DB.out
 clear DB HXL
 go_enter Try.func100, Try.ntmps100
 go_wp2_with (first
     | go_skip
     | (clear tok0; refine bx_ 77 S rfl rfl rfl ?_; clear S; intro gt w S)
     | (clear tok1; refine bx_ 31 S rfl rfl rfl ?_; clear S; intro gh w S)
     | (clear tok2; refine nx_ 77 S rfl rfl Try.zeroValue77 ?_; clear S; intro rt w S)
     | (clear tok3; refine nx_ 31 S rfl rfl Try.zeroValue31 ?_; clear S; intro rh w S))
 refine wp_region_ev (by kernel_rfl) _ (by kernel_rfl) (by kernel_rfl) 54 rfl (by kernel_rfl) (fun D V w => ∃ AL : Option Addr, ∃ cL : Nat, ∃ AZ : Option Addr, ∃ cZ : Nat, ∃ FZ : FP, ∃ FL : FP, ∃ ga15 : Nat, ∃ ga16 : Nat, Sep F w0 [bx rh #[jI jZ 0, jI jZ 0, jI jZ 0, jI jZ 0, jI jZ 0, jI jZ 0, jI jZ 0, jI jZ 0, jI jZ 0, jI jZ 0, jI jZ 0, jS none 0 0, jI jZ 0, jI jZ 0, jI jZ 0, jI jZ 0] 31, bx rt #[jI jZ 0, jS none 0 0] 77, bx gh #[jI jZ hd.pos, jI jZ hd.cc, jI jZ hd.ck, jI jZ hd.cv, jI jZ hd.cur, jI jZ hd.want, jI jZ hd.key, jI jZ hd.kid, jI jZ hd.old, jI jZ hd.next, jI jZ hd.new, jS A' n' c', jI jZ hd.thn, jI jZ hd.beg, jI jZ hd.rep, jI jZ hd.out] 31, bx gt #[jI jZ r, jS (some ⟨g, 0, none⟩) n c] 77, pin F w0, cnd (D 10) em (ow (jS AL ln.ps.length cL) ln.ps FL), cnd (D 10) em (ow (jS AZ un.ps.length cZ) un.ps FZ), cnd (D 15) em (cnd (D 17) (bx ga15 #[jI jZ 0, jS none 0 0, jI jZ 0, jI jZ 0, jI jZ 0] 101) (bx ga15 #[jI jZ ln.lv, jS AL ln.ps.length cL, jI jZ ln.hi, jI jZ ln.ri, jI jZ ln.ow] 101)), cnd (D 16) em (cnd (D 18) (bx ga16 #[jI jZ 0, jS none 0 0, jI jZ 0, jI jZ 0, jI jZ 0] 101) (bx ga16 #[jI jZ un.lv, jS AZ un.ps.length cZ, jI jZ un.hi, jI jZ un.ri, jI jZ un.ow] 101))] w ∧ (D 0 = true → V 0 = .pointer (some ⟨gt, 1, none⟩)) ∧ (D 1 = true → V 1 = jS (some ⟨g, 0, none⟩) n c) ∧ (D 2 = true → V 2 = .pointer (some ⟨gh, 4, none⟩)) ∧ (D 3 = true → V 3 = jI jZ hd.cur) ∧ (D 4 = true → V 4 = .pointer (some ⟨g, 0 + k * 5, none⟩)) ∧ (D 5 = true → V 5 = .agg #[jI jZ y.lv, jS A2 n2 c2, jI jZ y.hi, jI jZ y.ri, jI jZ y.ow]) ∧ (D 6 = true → V 6 = .agg #[jI jZ hd.pos, jI jZ hd.cc, jI jZ hd.ck, jI jZ hd.cv, jI jZ hd.cur, jI jZ hd.want, jI jZ hd.key, jI jZ hd.kid, jI jZ hd.old, jI jZ hd.next, jI jZ hd.new, jS A' n' c', jI jZ hd.thn, jI jZ hd.beg, jI jZ hd.rep, jI jZ hd.out]) ∧ (D 7 = true → V 7 = .agg #[jI jZ hd.key, jI jZ pv]) ∧ (D 8 = true → V 8 = .pointer (some ⟨gh, 10, none⟩)) ∧ (D 9 = true → V 9 = jI jZ hd.new) ∧ (D 10 = true → V 10 = .tuple #[.agg #[jI jZ ln.lv, jS AL ln.ps.length cL, jI jZ ln.hi, jI jZ ln.ri, jI jZ ln.ow], .agg #[jI jZ un.lv, jS AZ un.ps.length cZ, jI jZ un.hi, jI jZ un.ri, jI jZ un.ow], .bool rb]) ∧ (D 11 = true → V 11 = .tuple #[.agg #[jI jZ ln.lv, jS AL ln.ps.length cL, jI jZ ln.hi, jI jZ ln.ri, jI jZ ln.ow], .agg #[jI jZ un.lv, jS AZ un.ps.length cZ, jI jZ un.hi, jI jZ un.ri, jI jZ un.ow], .bool rb]) ∧ (D 12 = true → V 12 = .agg #[jI jZ ln.lv, jS AL ln.ps.length cL, jI jZ ln.hi, jI jZ ln.ri, jI jZ ln.ow]) ∧ (D 13 = true → V 13 = .agg #[jI jZ un.lv, jS AZ un.ps.length cZ, jI jZ un.hi, jI jZ un.ri, jI jZ un.ow]) ∧ (D 14 = true → V 14 = .bool rb) ∧ (D 15 = true → V 15 = .pointer (some ⟨ga15, 0, none⟩)) ∧ (D 16 = true → V 16 = .pointer (some ⟨ga16, 0, none⟩)) ∧ (D 19 = true → V 19 = .bool rb) ∧ (D 11 = true → D 10 = true) ∧ (D 12 = true → D 10 = true) ∧ (D 13 = true → D 10 = true) ∧ (D 17 = true → D 10 = true) ∧ (D 17 = true → D 15 = true) ∧ (D 18 = true → D 10 = true) ∧ (D 18 = true → D 16 = true)) ?_ ?_ ?_
 · intro D hD
   have d10 := hD 10 (by decide)
   have d15 := hD 15 (by decide)
   have d16 := hD 16 (by decide)
   have d17 := hD 17 (by decide)
   have d18 := hD 18 (by decide)
   exact ⟨none, 0, none, 0, fun _ => False, fun _ => False, 0, 0, by rw [cnd_f d10, cnd_f d10, cnd_f d15, cnd_f d16]; exact S.out.drew.ems 4, (nof (hD 0 (by decide))), (nof (hD 1 (by decide))), (nof (hD 2 (by decide))), (nof (hD 3 (by decide))), (nof (hD 4 (by decide))), (nof (hD 5 (by decide))), (nof (hD 6 (by decide))), (nof (hD 7 (by decide))), (nof (hD 8 (by decide))), (nof (hD 9 (by decide))), (nof (hD 10 (by decide))), (nof (hD 11 (by decide))), (nof (hD 12 (by decide))), (nof (hD 13 (by decide))), (nof (hD 14 (by decide))), (nof (hD 15 (by decide))), (nof (hD 16 (by decide))), (nof (hD 19 (by decide))), (nof (hD 11 (by decide))), (nof (hD 12 (by decide))), (nof (hD 13 (by decide))), (nof (hD 17 (by decide))), (nof (hD 17 (by decide))), (nof (hD 18 (by decide))), (nof (hD 18 (by decide)))⟩
 · intro i o D V w a ho hI hDi haf hev
   obtain ⟨AL, cL, AZ, cZ, FZ, FL, ga15, ga16, S, f0, f1, f2, f3, f4, f5, f6, f7, f8, f9, f10, f11, f12, f13, f14, f15, f16, f19, o11_10, o12_10, o13_10, o17_10, o17_15, o18_10, o18_16⟩ := hI
   rcases i with _ | _ | _ | _ | _ | _ | _ | _ | _ | _ | _ | _ | _ | _ | _ | _ | _ | _ | _ | _ | i
   · obtain rfl := inj_ ho
     exact op_field _ _ _ rfl ((hev.old 2 (by kernel_rfl)).trans rfl) (by kernel_rfl) ⟨_, rfl, AL, cL, AZ, cZ, FZ, FL, ga15, ga16, S, fun _ => rfl, f1, f2, f3, f4, f5, f6, f7, f8, f9, f10, f11, f12, f13, f14, f15, f16, f19, o11_10, o12_10, o13_10, o17_10, o17_15, o18_10, o18_16⟩
   · obtain rfl := inj_ ho
     have h0 := aft_ haf 0 rfl
     exact op_get 75 _ rfl S 3 rfl 1 (hev.at_ 0 11 rfl rfl h0 f0) Try.isAgg75 _ rfl ⟨_, rfl, AL, cL, AZ, cZ, FZ, FL, ga15, ga16, S, f0, fun _ => rfl, f2, f3, f4, f5, f6, f7, f8, f9, f10, f11, f12, f13, f14, f15, f16, f19, o11_10, o12_10, o13_10, o17_10, o17_15, o18_10, o18_16⟩
   · obtain rfl := inj_ ho
     exact op_field _ _ _ rfl ((hev.old 3 (by kernel_rfl)).trans rfl) (by kernel_rfl) ⟨_, rfl, AL, cL, AZ, cZ, FZ, FL, ga15, ga16, S, f0, f1, fun _ => rfl, f3, f4, f5, f6, f7, f8, f9, f10, f11, f12, f13, f14, f15, f16, f19, o11_10, o12_10, o13_10, o17_10, o17_15, o18_10, o18_16⟩
   · obtain rfl := inj_ ho
     have h2 := aft_ haf 2 rfl
     exact op_get 2 _ rfl S 2 rfl 4 (hev.at_ 2 13 rfl rfl h2 f2) Try.isAgg2 _ rfl ⟨_, rfl, AL, cL, AZ, cZ, FZ, FL, ga15, ga16, S, f0, f1, f2, fun _ => rfl, f4, f5, f6, f7, f8, f9, f10, f11, f12, f13, f14, f15, f16, f19, o11_10, o12_10, o13_10, o17_10, o17_15, o18_10, o18_16⟩
   · obtain rfl := inj_ ho
     have h1 := aft_ haf 1 rfl
     have h3 := aft_ haf 3 rfl
     exact op_idx _ _ _ rfl 101 5 Try.underlying75 Try.sizeOf101 (hev.at_ 1 12 rfl rfl h1 f1) (by rw [← HC.out]; exact (hev.at_ 3 14 rfl rfl h3 f3)) HKN.out ⟨_, rfl, AL, cL, AZ, cZ, FZ, FL, ga15, ga16, S, f0, f1, f2, f3, fun _ => rfl, f5, f6, f7, f8, f9, f10, f11, f12, f13, f14, f15, f16, f19, o11_10, o12_10, o13_10, o17_10, o17_15, o18_10, o18_16⟩
   · obtain rfl := inj_ ho
     have h4 := aft_ haf 4 rfl
     exact op_ndLoad _ rfl (hev.at_ 4 15 rfl rfl h4 f4) (ND.out.keep fun _ => (S.below_pin 4 rfl).cell HB.out) ⟨_, rfl, AL, cL, AZ, cZ, FZ, FL, ga15, ga16, S, f0, f1, f2, f3, f4, fun _ => rfl, f6, f7, f8, f9, f10, f11, f12, f13, f14, f15, f16, f19, o11_10, o12_10, o13_10, o17_10, o17_15, o18_10, o18_16⟩
   · obtain rfl := inj_ ho
     exact op_row 31 _ rfl S 2 rfl ((hev.old 3 (by kernel_rfl)).trans rfl) Try.isAgg31 (by kernel_rfl) ⟨_, rfl, AL, cL, AZ, cZ, FZ, FL, ga15, ga16, S, f0, f1, f2, f3, f4, f5, fun _ => rfl, f7, f8, f9, f10, f11, f12, f13, f14, f15, f16, f19, o11_10, o12_10, o13_10, o17_10, o17_15, o18_10, o18_16⟩
   · obtain rfl := inj_ ho
     have h6 := aft_ haf 6 rfl
     have hx0 := (hev.at_ 6 17 rfl rfl h6 f6)
     refine op_call _ _ _ rfl (enters_of Try.func114 (by kernel_rfl) rfl) #[.agg #[jI jZ hd.pos, jI jZ hd.cc, jI jZ hd.ck, jI jZ hd.cv, jI jZ hd.cur, jI jZ hd.want, jI jZ hd.key, jI jZ hd.kid, jI jZ hd.old, jI jZ hd.next, jI jZ hd.new, jS A' n' c', jI jZ hd.thn, jI jZ hd.beg, jI jZ hd.rep, jI jZ hd.out]] (by simp [hx0]) (PK.out w) (fun e w2 hh => ?_)
     obtain ⟨rfl, b⟩ := hh
     exact ⟨_, rfl, ⟨_, rfl, AL, cL, AZ, cZ, FZ, FL, ga15, ga16, S.call b, f0, f1, f2, f3, f4, f5, f6, fun _ => rfl, f8, f9, f10, f11, f12, f13, f14, f15, f16, f19, o11_10, o12_10, o13_10, o17_10, o17_15, o18_10, o18_16⟩⟩
   · obtain rfl := inj_ ho
     exact op_field _ _ _ rfl ((hev.old 3 (by kernel_rfl)).trans rfl) (by kernel_rfl) ⟨_, rfl, AL, cL, AZ, cZ, FZ, FL, ga15, ga16, S, f0, f1, f2, f3, f4, f5, f6, f7, fun _ => rfl, f9, f10, f11, f12, f13, f14, f15, f16, f19, o11_10, o12_10, o13_10, o17_10, o17_15, o18_10, o18_16⟩
   · obtain rfl := inj_ ho
     have h8 := aft_ haf 8 rfl
     exact op_get 2 _ rfl S 2 rfl 10 (hev.at_ 8 19 rfl rfl h8 f8) Try.isAgg2 _ rfl ⟨_, rfl, AL, cL, AZ, cZ, FZ, FL, ga15, ga16, S, f0, f1, f2, f3, f4, f5, f6, f7, f8, fun _ => rfl, f10, f11, f12, f13, f14, f15, f16, f19, o11_10, o12_10, o13_10, o17_10, o17_15, o18_10, o18_16⟩
   · obtain rfl := inj_ ho
     have h5 := aft_ haf 5 rfl
     have h7 := aft_ haf 7 rfl
     have h9 := aft_ haf 9 rfl
     have ns17 := nofb hDi o17_10
     have ns18 := nofb hDi o18_10
     have hx0 := (hev.at_ 5 16 rfl rfl h5 f5)
     have hx1 := (hev.at_ 7 18 rfl rfl h7 f7)
     have hx2 := (hev.at_ 9 20 rfl rfl h9 f9)
     have bel := S.below_pin 4 rfl
     refine op_call _ _ _ rfl (enters_of Try.func115 (by kernel_rfl) rfl) #[.agg #[jI jZ y.lv, jS A2 n2 c2, jI jZ y.hi, jI jZ y.ri, jI jZ y.ow], .agg #[jI jZ hd.key, jI jZ pv], jI jZ hd.new] (by simp [hx0, hx1, hx2]) (NK.out _ (HP.out.on bel)) (fun e w2 hh => ?_)
     obtain ⟨A8, c8, F8, A9, c9, F9, rfl, u8, u9, uap, v8, v9, b⟩ := hh
     have S2 := S.gainAt2 b 5 6 (by omega) (by simp only [gs_, gz_, cnd_f hDi]) (by simp only [gs_, gz_, cnd_f hDi]) (ow (jS A8 ln.ps.length c8) ln.ps F8) (ow (jS A9 un.ps.length c9) un.ps F9) u8 u9 (fun k hk => v8 k hk) (fun k hk => v9 k hk) (fun k hk => uap k hk)
     exact ⟨_, rfl, ⟨_, rfl, A8, c8, A9, c9, F9, F8, ga15, ga16, (by have SS := S2; rw [cnd_f ns17, cnd_f ns18] at SS; rw [show updB D 10 17 = false from ns17, show updB D 10 18 = false from ns18]; exact SS), f0, f1, f2, f3, f4, f5, f6, f7, f8, f9, fun _ => rfl, (fun h => nof hDi (o11_10 h)), (fun h => nof hDi (o12_10 h)), (fun h => nof hDi (o13_10 h)), f14, f15, f16, f19, fun _ => rfl, fun _ => rfl, fun _ => rfl, fun _ => rfl, o17_15, fun _ => rfl, o18_16⟩⟩
   · obtain rfl := inj_ ho
     have h10 := aft_ haf 10 rfl
     exact op_move (.inl rfl) (hev.at_ 10 21 rfl rfl h10 f10) ⟨_, rfl, AL, cL, AZ, cZ, FZ, FL, ga15, ga16, S, f0, f1, f2, f3, f4, f5, f6, f7, f8, f9, f10, fun _ => rfl, f12, f13, f14, f15, f16, f19, fun _ => h10, o12_10, o13_10, o17_10, o17_15, o18_10, o18_16⟩
   · obtain rfl := inj_ ho
     have h11 := aft_ haf 11 rfl
     have h10 : D 10 = true := o11_10 h11
     exact op_extract _ _ rfl (hev.at_ 11 10 rfl rfl h11 f11) rfl ⟨_, rfl, AL, cL, AZ, cZ, FZ, FL, ga15, ga16, S, f0, f1, f2, f3, f4, f5, f6, f7, f8, f9, f10, f11, fun _ => rfl, f13, f14, f15, f16, f19, o11_10, fun _ => h10, o13_10, o17_10, o17_15, o18_10, o18_16⟩
   · obtain rfl := inj_ ho
     have h11 := aft_ haf 11 rfl
     have h10 : D 10 = true := o11_10 h11
     exact op_extract _ _ rfl (hev.at_ 11 10 rfl rfl h11 f11) rfl ⟨_, rfl, AL, cL, AZ, cZ, FZ, FL, ga15, ga16, S, f0, f1, f2, f3, f4, f5, f6, f7, f8, f9, f10, f11, f12, fun _ => rfl, f14, f15, f16, f19, o11_10, o12_10, fun _ => h10, o17_10, o17_15, o18_10, o18_16⟩
   · obtain rfl := inj_ ho
     have h11 := aft_ haf 11 rfl
     exact op_extract _ _ rfl (hev.at_ 11 10 rfl rfl h11 f11) rfl ⟨_, rfl, AL, cL, AZ, cZ, FZ, FL, ga15, ga16, S, f0, f1, f2, f3, f4, f5, f6, f7, f8, f9, f10, f11, f12, f13, fun _ => rfl, f15, f16, f19, o11_10, o12_10, o13_10, o17_10, o17_15, o18_10, o18_16⟩
   · obtain rfl := inj_ ho
     have nst := nofb hDi o17_15
     refine op_nxAt 101 rfl S 7 (by simp only [gs_, gz_, cnd_f hDi]) _ Try.zeroValue101 (fun g w S => ⟨_, rfl, AL, cL, AZ, cZ, FZ, FL, g, ga16, (by have e : updB D 15 17 = false := nst; rw [e]; exact S), f0, f1, f2, f3, f4, f5, f6, f7, f8, f9, f10, f11, f12, f13, f14, fun _ => rfl, f16, f19, o11_10, o12_10, o13_10, o17_10, fun _ => rfl, o18_10, o18_16⟩)
   · obtain rfl := inj_ ho
     have nst := nofb hDi o18_16
     refine op_nxAt 101 rfl S 8 (by simp only [gs_, gz_, cnd_f hDi]) _ Try.zeroValue101 (fun g w S => ⟨_, rfl, AL, cL, AZ, cZ, FZ, FL, ga15, g, (by have e : updB D 16 18 = false := nst; rw [e]; exact S), f0, f1, f2, f3, f4, f5, f6, f7, f8, f9, f10, f11, f12, f13, f14, f15, fun _ => rfl, f19, o11_10, o12_10, o13_10, o17_10, o17_15, o18_10, fun _ => rfl⟩)
   · obtain rfl := inj_ ho
     have h15 := aft_ haf 15 rfl
     have h12 := aft_ haf 12 rfl
     have h10 : D 10 = true := o12_10 h12
     have ha : D 15 = true := aft_ haf 15 rfl
     exact op_putR 101 _ _ rfl S 7 (g := ga15) (C := #[jI jZ 0, jS none 0 0, jI jZ 0, jI jZ 0, jI jZ 0]) (t := 101) (by simp only [gs_, gz_, cnd_t ha, cnd_f hDi]) (hev.at_ 15 7 rfl rfl h15 f15) _ (hev.at_ 12 22 rfl rfl h12 f12) rfl (by kernel_rfl) rfl (fun w S => ⟨_, rfl, AL, cL, AZ, cZ, FZ, FL, ga15, ga16, (by have e : updB D 17 15 = true := ha; rw [e]; exact S), f0, f1, f2, f3, f4, f5, f6, f7, f8, f9, f10, f11, f12, f13, f14, f15, f16, f19, o11_10, o12_10, o13_10, fun _ => h10, fun _ => h15, o18_10, o18_16⟩)
   · obtain rfl := inj_ ho
     have h16 := aft_ haf 16 rfl
     have h13 := aft_ haf 13 rfl
     have h10 : D 10 = true := o13_10 h13
     have ha : D 16 = true := aft_ haf 16 rfl
     exact op_putR 101 _ _ rfl S 8 (g := ga16) (C := #[jI jZ 0, jS none 0 0, jI jZ 0, jI jZ 0, jI jZ 0]) (t := 101) (by simp only [gs_, gz_, cnd_t ha, cnd_f hDi]) (hev.at_ 16 8 rfl rfl h16 f16) _ (hev.at_ 13 23 rfl rfl h13 f13) rfl (by kernel_rfl) rfl (fun w S => ⟨_, rfl, AL, cL, AZ, cZ, FZ, FL, ga15, ga16, (by have e : updB D 18 16 = true := ha; rw [e]; exact S), f0, f1, f2, f3, f4, f5, f6, f7, f8, f9, f10, f11, f12, f13, f14, f15, f16, f19, o11_10, o12_10, o13_10, o17_10, o17_15, fun _ => h10, fun _ => h16⟩)
   · obtain rfl := inj_ ho
     have h14 := aft_ haf 14 rfl
     exact op_move (.inr rfl) (hev.at_ 14 24 rfl rfl h14 f14) ⟨_, rfl, AL, cL, AZ, cZ, FZ, FL, ga15, ga16, S, f0, f1, f2, f3, f4, f5, f6, f7, f8, f9, f10, f11, f12, f13, f14, f15, f16, fun _ => rfl, o11_10, o12_10, o13_10, o17_10, o17_15, o18_10, o18_16⟩
   · exact absurd ho (by simp)
 intro V w hI
 obtain ⟨AL, cL, AZ, cZ, FZ, FL, ga15, ga16, S, f0, f1, f2, f3, f4, f5, f6, f7, f8, f9, f10, f11, f12, f13, f14, f15, f16, f19, o11_10, o12_10, o13_10, o17_10, o17_15, o18_10, o18_16⟩ := hI
 replace S : Hid (Sep F w0 [bx rh #[jI jZ 0, jI jZ 0, jI jZ 0, jI jZ 0, jI jZ 0, jI jZ 0, jI jZ 0, jI jZ 0, jI jZ 0, jI jZ 0, jI jZ 0, jS none 0 0, jI jZ 0, jI jZ 0, jI jZ 0, jI jZ 0] 31, bx rt #[jI jZ 0, jS none 0 0] 77, bx gh #[jI jZ hd.pos, jI jZ hd.cc, jI jZ hd.ck, jI jZ hd.cv, jI jZ hd.cur, jI jZ hd.want, jI jZ hd.key, jI jZ hd.kid, jI jZ hd.old, jI jZ hd.next, jI jZ hd.new, jS A' n' c', jI jZ hd.thn, jI jZ hd.beg, jI jZ hd.rep, jI jZ hd.out] 31, bx gt #[jI jZ r, jS (some ⟨g, 0, none⟩) n c] 77, pin F w0, ow (jS AL ln.ps.length cL) ln.ps FL, ow (jS AZ un.ps.length cZ) un.ps FZ, bx ga15 #[jI jZ ln.lv, jS AL ln.ps.length cL, jI jZ ln.hi, jI jZ ln.ri, jI jZ ln.ow] 101, bx ga16 #[jI jZ un.lv, jS AZ un.ps.length cZ, jI jZ un.hi, jI jZ un.ri, jI jZ un.ow] 101] w) := Lib.hid S
 simp only [putF, Act.put, sa_, sb_, sc_, f0 rfl, f1 rfl, f2 rfl, f3 rfl, f4 rfl, f5 rfl, f6 rfl, f7 rfl, f8 rfl, f9 rfl, f10 rfl, f11 rfl, f12 rfl, f13 rfl, f14 rfl, f15 rfl, f16 rfl, f19 rfl]
 clear f0 f1 f2 f3 f4 f5 f6 f7 f8 f9 f10 f11 f12 f13 f14 f15 f16 f19 o11_10 o12_10 o13_10 o17_10 o17_15 o18_10 o18_16
 cases rb
 · obtain rfl : xs = rx := DX.symm
   obtain rfl : hd = rh2 := DH.symm
   go_wp2_with fail
   refine wp_region_ev (by kernel_rfl) _ (by kernel_rfl) (by kernel_rfl) 54 rfl (by kernel_rfl) (fun D V w => Sep F w0 [cnd (D 3) (bx rh #[jI jZ 0, jI jZ 0, jI jZ 0, jI jZ 0, jI jZ 0, jI jZ 0, jI jZ 0, jI jZ 0, jI jZ 0, jI jZ 0, jI jZ 0, jS none 0 0, jI jZ 0, jI jZ 0, jI jZ 0, jI jZ 0] 31) (bx rh #[jI jZ hd.pos, jI jZ hd.cc, jI jZ hd.ck, jI jZ hd.cv, jI jZ hd.cur, jI jZ hd.want, jI jZ hd.key, jI jZ hd.kid, jI jZ hd.old, jI jZ hd.next, jI jZ hd.new, jS A' n' c', jI jZ hd.thn, jI jZ hd.beg, jI jZ hd.rep, jI jZ hd.out] 31), cnd (D 2) (bx rt #[jI jZ 0, jS none 0 0] 77) (bx rt #[jI jZ r, jS (some ⟨g, 0, none⟩) n c] 77), bx gh #[jI jZ hd.pos, jI jZ hd.cc, jI jZ hd.ck, jI jZ hd.cv, jI jZ hd.cur, jI jZ hd.want, jI jZ hd.key, jI jZ hd.kid, jI jZ hd.old, jI jZ hd.next, jI jZ hd.new, jS A' n' c', jI jZ hd.thn, jI jZ hd.beg, jI jZ hd.rep, jI jZ hd.out] 31, bx gt #[jI jZ r, jS (some ⟨g, 0, none⟩) n c] 77, pin F w0, ow (jS AL ln.ps.length cL) ln.ps FL, ow (jS AZ un.ps.length cZ) un.ps FZ, bx ga15 #[jI jZ ln.lv, jS AL ln.ps.length cL, jI jZ ln.hi, jI jZ ln.ri, jI jZ ln.ow] 101, bx ga16 #[jI jZ un.lv, jS AZ un.ps.length cZ, jI jZ un.hi, jI jZ un.ri, jI jZ un.ow] 101] w ∧ (D 0 = true → V 0 = .agg #[jI jZ r, jS (some ⟨g, 0, none⟩) n c]) ∧ (D 1 = true → V 1 = .agg #[jI jZ hd.pos, jI jZ hd.cc, jI jZ hd.ck, jI jZ hd.cv, jI jZ hd.cur, jI jZ hd.want, jI jZ hd.key, jI jZ hd.kid, jI jZ hd.old, jI jZ hd.next, jI jZ hd.new, jS A' n' c', jI jZ hd.thn, jI jZ hd.beg, jI jZ hd.rep, jI jZ hd.out]) ∧ (D 4 = true → V 4 = .bool false)) ?_ ?_ ?_
   · intro D hD
     have d2 := hD 2 (by decide)
     have d3 := hD 3 (by decide)
     exact ⟨by rw [cnd_f d3, cnd_f d2]; exact S.out.drew.ems 0, (nof (hD 0 (by decide))), (nof (hD 1 (by decide))), (nof (hD 4 (by decide)))⟩
   · intro i o D V w a ho hI hDi haf hev
     obtain ⟨S, f0, f1, f4⟩ := hI
     rcases i with _ | _ | _ | _ | _ | i
     · obtain rfl := inj_ ho
       exact op_row 77 _ rfl S 3 rfl ((hev.old 2 (by kernel_rfl)).trans rfl) Try.isAgg77 (by kernel_rfl) ⟨_, rfl, S, fun _ => rfl, f1, f4⟩
     · obtain rfl := inj_ ho
       exact op_row 31 _ rfl S 2 rfl ((hev.old 3 (by kernel_rfl)).trans rfl) Try.isAgg31 (by kernel_rfl) ⟨_, rfl, S, f0, fun _ => rfl, f4⟩
     · obtain rfl := inj_ ho
       have h0 := aft_ haf 0 rfl
       exact op_putR 77 _ _ rfl S 1 (g := rt) (C := #[jI jZ 0, jS none 0 0]) (t := 77) (by simp only [gs_, gz_, cnd_f hDi]) ((hev.old 4 (by kernel_rfl)).trans rfl) _ (hev.at_ 0 27 rfl rfl h0 f0) rfl (by kernel_rfl) rfl (fun w S => ⟨_, rfl, S, f0, f1, f4⟩)
     · obtain rfl := inj_ ho
       have h1 := aft_ haf 1 rfl
       exact op_putR 31 _ _ rfl S 0 (g := rh) (C := #[jI jZ 0, jI jZ 0, jI jZ 0, jI jZ 0, jI jZ 0, jI jZ 0, jI jZ 0, jI jZ 0, jI jZ 0, jI jZ 0, jI jZ 0, jS none 0 0, jI jZ 0, jI jZ 0, jI jZ 0, jI jZ 0]) (t := 31) (by simp only [List.getElem?_cons_zero, cnd_f hDi]) ((hev.old 5 (by kernel_rfl)).trans rfl) _ (hev.at_ 1 28 rfl rfl h1 f1) rfl (by kernel_rfl) rfl (fun w S => ⟨_, rfl, S, f0, f1, f4⟩)
     · obtain rfl := inj_ ho
       exact op_move (.inr rfl) rfl ⟨_, rfl, S, f0, f1, fun _ => rfl⟩
     · exact absurd ho (by simp)
   intro V w hI
   obtain ⟨S, f0, f1, f4⟩ := hI
   replace S : Hid (Sep F w0 [bx rh #[jI jZ hd.pos, jI jZ hd.cc, jI jZ hd.ck, jI jZ hd.cv, jI jZ hd.cur, jI jZ hd.want, jI jZ hd.key, jI jZ hd.kid, jI jZ hd.old, jI jZ hd.next, jI jZ hd.new, jS A' n' c', jI jZ hd.thn, jI jZ hd.beg, jI jZ hd.rep, jI jZ hd.out] 31, bx rt #[jI jZ r, jS (some ⟨g, 0, none⟩) n c] 77, bx gh #[jI jZ hd.pos, jI jZ hd.cc, jI jZ hd.ck, jI jZ hd.cv, jI jZ hd.cur, jI jZ hd.want, jI jZ hd.key, jI jZ hd.kid, jI jZ hd.old, jI jZ hd.next, jI jZ hd.new, jS A' n' c', jI jZ hd.thn, jI jZ hd.beg, jI jZ hd.rep, jI jZ hd.out] 31, bx gt #[jI jZ r, jS (some ⟨g, 0, none⟩) n c] 77, pin F w0, ow (jS AL ln.ps.length cL) ln.ps FL, ow (jS AZ un.ps.length cZ) un.ps FZ, bx ga15 #[jI jZ ln.lv, jS AL ln.ps.length cL, jI jZ ln.hi, jI jZ ln.ri, jI jZ ln.ow] 101, bx ga16 #[jI jZ un.lv, jS AZ un.ps.length cZ, jI jZ un.hi, jI jZ un.ri, jI jZ un.ow] 101] w) := Lib.hid S
   simp only [putF, Act.put, sa_, sb_, sc_, f0 rfl, f1 rfl, f4 rfl]
   clear f0 f1 f4
   go_wp2_with fail
   exact bodyPost_ret (results_ccs rfl _ S.out 1 0 rfl rfl rfl rfl Try.isAgg77 Try.isAgg31 (by kernel_rfl) (by kernel_rfl)) rfl ⟨some ⟨g, 0, none⟩, c, rfl, S.out.turned_pin 4 rfl HO.out⟩
 · obtain rfl : rx = xs.set k ln := DX
   have DH2 : rh2 = freeH (if hd.want = 0 then { hd with old := hd.cur, key := kAt un.ps 0, kid := hd.new, rep := 1 } else { hd with old := hd.cur, key := kAt un.ps 0, kid := hd.new }) 2 := DH
   clear DH
   have h2 : un.ps.length = 2 := HU.out rfl
   obtain ⟨gz, hz⟩ : ∃ gz, AZ = some ⟨gz, 0, none⟩ := by
     obtain ⟨gz, cap, _, _, _, _, hv, _⟩ := OwnS.open (S.out.get 6 rfl : OwnS w (jS AZ un.ps.length cZ) un.ps FZ) 0 (by omega)
     refine ⟨gz, ?_⟩
     simp only [Value.slice.injEq] at hv
     exact hv.1
   subst hz
   replace S : Hid (Sep F w0 [bx rh #[jI jZ 0, jI jZ 0, jI jZ 0, jI jZ 0, jI jZ 0, jI jZ 0, jI jZ 0, jI jZ 0, jI jZ 0, jI jZ 0, jI jZ 0, jS none 0 0, jI jZ 0, jI jZ 0, jI jZ 0, jI jZ 0] 31, bx rt #[jI jZ 0, jS none 0 0] 77, bx gh #[jI jZ hd.pos, jI jZ hd.cc, jI jZ hd.ck, jI jZ hd.cv, jI jZ hd.cur, jI jZ hd.want, jI jZ hd.key, jI jZ hd.kid, jI jZ hd.old, jI jZ hd.next, jI jZ hd.new, jS A' n' c', jI jZ hd.thn, jI jZ hd.beg, jI jZ hd.rep, jI jZ hd.out] 31, bx gt #[jI jZ r, jS (some ⟨g, 0, none⟩) n c] 77, pin F w0, ow (jS AL ln.ps.length cL) ln.ps FL, ow (jS (some ⟨gz, 0, none⟩) 2 cZ) un.ps FZ, bx ga15 #[jI jZ ln.lv, jS AL ln.ps.length cL, jI jZ ln.hi, jI jZ ln.ri, jI jZ ln.ow] 101, bx ga16 #[jI jZ un.lv, jS (some ⟨gz, 0, none⟩) 2 cZ, jI jZ un.hi, jI jZ un.ri, jI jZ un.ow] 101] w) := by rw [h2] at S; exact S
   clear h2 HU
   by_cases hw : hd.want = 0
   · have g5 : (hd.want == 0) = true := by simp [hw]
     rw [if_pos hw] at DH2
     subst DH2
     clear hw
     have tk1 : True := trivial
     have tk2 : True := trivial
     have tk3 : True := trivial
     have tk4 : True := trivial
     go_wp2_with (first
         | go_skip
         | (refine wpList_op rfl (op_idx _ _ _ rfl 101 5 Try.underlying75 Try.sizeOf101 rfl (by rw [← HC.out]; rfl) (HKN.out) ?_))
         | (refine wpList_op rfl (op_putNode 0 _ _ _ rfl S.out (vz := jS AL ln.ps.length cL) (FZ := FL) ln 4 5 (by omega) rfl rfl HO.out HKN.out rfl (by omega) _ rfl [jI jZ ln.lv, jS AL ln.ps.length cL, jI jZ ln.hi, jI jZ ln.ri, jI jZ ln.ow] rfl (by simp [Value.oneCell']) (by kernel_rfl) (by simp) (fun u => rfl) ?_); clear S; intro w S; replace S : Hid (Sep F w0 [bx rh #[jI jZ 0, jI jZ 0, jI jZ 0, jI jZ 0, jI jZ 0, jI jZ 0, jI jZ 0, jI jZ 0, jI jZ 0, jI jZ 0, jI jZ 0, jS none 0 0, jI jZ 0, jI jZ 0, jI jZ 0, jI jZ 0] 31, bx rt #[jI jZ 0, jS none 0 0] 77, bx gh #[jI jZ hd.pos, jI jZ hd.cc, jI jZ hd.ck, jI jZ hd.cv, jI jZ hd.cur, jI jZ hd.want, jI jZ hd.key, jI jZ hd.kid, jI jZ hd.old, jI jZ hd.next, jI jZ hd.new, jS A' n' c', jI jZ hd.thn, jI jZ hd.beg, jI jZ hd.rep, jI jZ hd.out] 31, bx gt #[jI jZ r, jS (some ⟨g, 0, none⟩) n c] 77, ow (jS (some ⟨g, 0, none⟩) n c) (xs.set k ln) (fun q => F q ∨ FL q), em, ow (jS (some ⟨gz, 0, none⟩) 2 cZ) un.ps FZ, bx ga15 #[jI jZ ln.lv, jS AL ln.ps.length cL, jI jZ ln.hi, jI jZ ln.ri, jI jZ ln.ow] 101, bx ga16 #[jI jZ un.lv, jS (some ⟨gz, 0, none⟩) 2 cZ, jI jZ un.hi, jI jZ un.ri, jI jZ un.ow] 101] w) := Lib.hid S)
         | (refine wpList_op rfl (op_idx _ _ _ rfl 86 2 Try.underlying99 Try.sizeOf86 (k := 0) rfl rfl (by omega) ?_))
         | (refine wpList_op rfl (op_keyOf _ _ rfl S.out 6 rfl 0 (by omega) rfl Try.isAgg2 ?_))
         | (have _t := tk1; clear _t; refine wpList_op rfl (op_put1_2 2 _ _ rfl S _ rfl _ rfl rfl (by kernel_rfl) (of_decide_eq_true rfl) ?_); clear S tk1; intro w S; replace S : Hid (Sep F w0 [bx rh #[jI jZ 0, jI jZ 0, jI jZ 0, jI jZ 0, jI jZ 0, jI jZ 0, jI jZ 0, jI jZ 0, jI jZ 0, jI jZ 0, jI jZ 0, jS none 0 0, jI jZ 0, jI jZ 0, jI jZ 0, jI jZ 0] 31, bx rt #[jI jZ 0, jS none 0 0] 77, bx gh #[jI jZ hd.pos, jI jZ hd.cc, jI jZ hd.ck, jI jZ hd.cv, jI jZ hd.cur, jI jZ hd.want, jI jZ hd.key, jI jZ hd.kid, jI jZ hd.cur, jI jZ hd.next, jI jZ hd.new, jS A' n' c', jI jZ hd.thn, jI jZ hd.beg, jI jZ hd.rep, jI jZ hd.out] 31, bx gt #[jI jZ r, jS (some ⟨g, 0, none⟩) n c] 77, ow (jS (some ⟨g, 0, none⟩) n c) (xs.set k ln) (fun q => F q ∨ FL q), em, ow (jS (some ⟨gz, 0, none⟩) 2 cZ) un.ps FZ, bx ga15 #[jI jZ ln.lv, jS AL ln.ps.length cL, jI jZ ln.hi, jI jZ ln.ri, jI jZ ln.ow] 101, bx ga16 #[jI jZ un.lv, jS (some ⟨gz, 0, none⟩) 2 cZ, jI jZ un.hi, jI jZ un.ri, jI jZ un.ow] 101] w) := S)
         | (have _t := tk2; clear _t; refine wpList_op rfl (op_put1_2 2 _ _ rfl S _ rfl _ rfl rfl (by kernel_rfl) (of_decide_eq_true rfl) ?_); clear S tk2; intro w S; replace S : Hid (Sep F w0 [bx rh #[jI jZ 0, jI jZ 0, jI jZ 0, jI jZ 0, jI jZ 0, jI jZ 0, jI jZ 0, jI jZ 0, jI jZ 0, jI jZ 0, jI jZ 0, jS none 0 0, jI jZ 0, jI jZ 0, jI jZ 0, jI jZ 0] 31, bx rt #[jI jZ 0, jS none 0 0] 77, bx gh #[jI jZ hd.pos, jI jZ hd.cc, jI jZ hd.ck, jI jZ hd.cv, jI jZ hd.cur, jI jZ hd.want, jI jZ (kAt un.ps 0), jI jZ hd.kid, jI jZ hd.cur, jI jZ hd.next, jI jZ hd.new, jS A' n' c', jI jZ hd.thn, jI jZ hd.beg, jI jZ hd.rep, jI jZ hd.out] 31, bx gt #[jI jZ r, jS (some ⟨g, 0, none⟩) n c] 77, ow (jS (some ⟨g, 0, none⟩) n c) (xs.set k ln) (fun q => F q ∨ FL q), em, ow (jS (some ⟨gz, 0, none⟩) 2 cZ) un.ps FZ, bx ga15 #[jI jZ ln.lv, jS AL ln.ps.length cL, jI jZ ln.hi, jI jZ ln.ri, jI jZ ln.ow] 101, bx ga16 #[jI jZ un.lv, jS (some ⟨gz, 0, none⟩) 2 cZ, jI jZ un.hi, jI jZ un.ri, jI jZ un.ow] 101] w) := S)
         | (have _t := tk3; clear _t; refine wpList_op rfl (op_put1_2 2 _ _ rfl S _ rfl _ rfl rfl (by kernel_rfl) (of_decide_eq_true rfl) ?_); clear S tk3; intro w S; replace S : Hid (Sep F w0 [bx rh #[jI jZ 0, jI jZ 0, jI jZ 0, jI jZ 0, jI jZ 0, jI jZ 0, jI jZ 0, jI jZ 0, jI jZ 0, jI jZ 0, jI jZ 0, jS none 0 0, jI jZ 0, jI jZ 0, jI jZ 0, jI jZ 0] 31, bx rt #[jI jZ 0, jS none 0 0] 77, bx gh #[jI jZ hd.pos, jI jZ hd.cc, jI jZ hd.ck, jI jZ hd.cv, jI jZ hd.cur, jI jZ hd.want, jI jZ (kAt un.ps 0), jI jZ hd.new, jI jZ hd.cur, jI jZ hd.next, jI jZ hd.new, jS A' n' c', jI jZ hd.thn, jI jZ hd.beg, jI jZ hd.rep, jI jZ hd.out] 31, bx gt #[jI jZ r, jS (some ⟨g, 0, none⟩) n c] 77, ow (jS (some ⟨g, 0, none⟩) n c) (xs.set k ln) (fun q => F q ∨ FL q), em, ow (jS (some ⟨gz, 0, none⟩) 2 cZ) un.ps FZ, bx ga15 #[jI jZ ln.lv, jS AL ln.ps.length cL, jI jZ ln.hi, jI jZ ln.ri, jI jZ ln.ow] 101, bx ga16 #[jI jZ un.lv, jS (some ⟨gz, 0, none⟩) 2 cZ, jI jZ un.hi, jI jZ un.ri, jI jZ un.ow] 101] w) := S)
         | (have _t := tk4; clear _t; refine wpList_op rfl (op_put1_2 2 _ _ rfl S _ rfl _ rfl rfl (by kernel_rfl) (of_decide_eq_true rfl) ?_); clear S tk4; intro w S; replace S : Hid (Sep F w0 [bx rh #[jI jZ 0, jI jZ 0, jI jZ 0, jI jZ 0, jI jZ 0, jI jZ 0, jI jZ 0, jI jZ 0, jI jZ 0, jI jZ 0, jI jZ 0, jS none 0 0, jI jZ 0, jI jZ 0, jI jZ 0, jI jZ 0] 31, bx rt #[jI jZ 0, jS none 0 0] 77, bx gh #[jI jZ hd.pos, jI jZ hd.cc, jI jZ hd.ck, jI jZ hd.cv, jI jZ hd.cur, jI jZ hd.want, jI jZ (kAt un.ps 0), jI jZ hd.new, jI jZ hd.cur, jI jZ hd.next, jI jZ hd.new, jS A' n' c', jI jZ hd.thn, jI jZ hd.beg, jI jZ 1, jI jZ hd.out] 31, bx gt #[jI jZ r, jS (some ⟨g, 0, none⟩) n c] 77, ow (jS (some ⟨g, 0, none⟩) n c) (xs.set k ln) (fun q => F q ∨ FL q), em, ow (jS (some ⟨gz, 0, none⟩) 2 cZ) un.ps FZ, bx ga15 #[jI jZ ln.lv, jS AL ln.ps.length cL, jI jZ ln.hi, jI jZ ln.ri, jI jZ ln.ow] 101, bx ga16 #[jI jZ un.lv, jS (some ⟨gz, 0, none⟩) 2 cZ, jI jZ un.hi, jI jZ un.ri, jI jZ un.ow] 101] w) := S)
         | (refine wpList_op rfl (op_get 75 _ rfl S.out 3 rfl _ rfl Try.isAgg75 _ rfl ?_))
         | (refine wpList_op rfl (op_get 2 _ rfl S.out 2 rfl _ rfl Try.isAgg2 _ rfl ?_))
         | (refine wpList_op rfl (op_row 101 _ rfl S.out 7 rfl rfl Try.isAgg101 (by kernel_rfl) ?_))
         | (refine wpList_op rfl (op_get 99 _ rfl S.out 8 rfl _ rfl Try.isAgg99 _ rfl ?_)))
     refine wp_region_ev (by kernel_rfl) _ (by kernel_rfl) (by kernel_rfl) 54 rfl (by kernel_rfl) (fun D V w => Sep F w0 [cnd (D 4) (bx rh #[jI jZ 0, jI jZ 0, jI jZ 0, jI jZ 0, jI jZ 0, jI jZ 0, jI jZ 0, jI jZ 0, jI jZ 0, jI jZ 0, jI jZ 0, jS none 0 0, jI jZ 0, jI jZ 0, jI jZ 0, jI jZ 0] 31) (bx rh #[jI jZ 8, jI jZ hd.cc, jI jZ hd.ck, jI jZ hd.cv, jI jZ hd.cur, jI jZ hd.want, jI jZ (kAt un.ps 0), jI jZ hd.new, jI jZ hd.cur, jI jZ hd.next, jI jZ hd.new, jS A' n' c', jI jZ 2, jI jZ hd.beg, jI jZ 1, jI jZ hd.out] 31), cnd (D 3) (bx rt #[jI jZ 0, jS none 0 0] 77) (bx rt #[jI jZ r, jS (some ⟨g, 0, none⟩) n c] 77), bx gh #[jI jZ hd.pos, jI jZ hd.cc, jI jZ hd.ck, jI jZ hd.cv, jI jZ hd.cur, jI jZ hd.want, jI jZ (kAt un.ps 0), jI jZ hd.new, jI jZ hd.cur, jI jZ hd.next, jI jZ hd.new, jS A' n' c', jI jZ hd.thn, jI jZ hd.beg, jI jZ 1, jI jZ hd.out] 31, bx gt #[jI jZ r, jS (some ⟨g, 0, none⟩) n c] 77, ow (jS (some ⟨g, 0, none⟩) n c) (xs.set k ln) (fun q => F q ∨ FL q), em, ow (jS (some ⟨gz, 0, none⟩) 2 cZ) un.ps FZ, bx ga15 #[jI jZ ln.lv, jS AL ln.ps.length cL, jI jZ ln.hi, jI jZ ln.ri, jI jZ ln.ow] 101, bx ga16 #[jI jZ un.lv, jS (some ⟨gz, 0, none⟩) 2 cZ, jI jZ un.hi, jI jZ un.ri, jI jZ un.ow] 101] w ∧ (D 0 = true → V 0 = .agg #[jI jZ r, jS (some ⟨g, 0, none⟩) n c]) ∧ (D 1 = true → V 1 = .agg #[jI jZ hd.pos, jI jZ hd.cc, jI jZ hd.ck, jI jZ hd.cv, jI jZ hd.cur, jI jZ hd.want, jI jZ (kAt un.ps 0), jI jZ hd.new, jI jZ hd.cur, jI jZ hd.next, jI jZ hd.new, jS A' n' c', jI jZ hd.thn, jI jZ hd.beg, jI jZ 1, jI jZ hd.out]) ∧ (D 2 = true → V 2 = .agg #[jI jZ 8, jI jZ hd.cc, jI jZ hd.ck, jI jZ hd.cv, jI jZ hd.cur, jI jZ hd.want, jI jZ (kAt un.ps 0), jI jZ hd.new, jI jZ hd.cur, jI jZ hd.next, jI jZ hd.new, jS A' n' c', jI jZ 2, jI jZ hd.beg, jI jZ 1, jI jZ hd.out]) ∧ (D 5 = true → V 5 = .bool true)) ?_ ?_ ?_
     · intro D hD
       have d3 := hD 3 (by decide)
       have d4 := hD 4 (by decide)
       exact ⟨by rw [cnd_f d4, cnd_f d3]; exact S.out.drew.ems 0, (nof (hD 0 (by decide))), (nof (hD 1 (by decide))), (nof (hD 2 (by decide))), (nof (hD 5 (by decide)))⟩
     · intro i o D V w a ho hI hDi haf hev
       obtain ⟨S, f0, f1, f2, f5⟩ := hI
       rcases i with _ | _ | _ | _ | _ | _ | i
       · obtain rfl := inj_ ho
         exact op_row 77 _ rfl S 3 rfl ((hev.old 2 (by kernel_rfl)).trans rfl) Try.isAgg77 (by kernel_rfl) ⟨_, rfl, S, fun _ => rfl, f1, f2, f5⟩
       · obtain rfl := inj_ ho
         exact op_row 31 _ rfl S 2 rfl ((hev.old 3 (by kernel_rfl)).trans rfl) Try.isAgg31 (by kernel_rfl) ⟨_, rfl, S, f0, fun _ => rfl, f2, f5⟩
       · obtain rfl := inj_ ho
         have h1 := aft_ haf 1 rfl
         have hx0 := (hev.at_ 1 52 rfl rfl h1 f1)
         refine op_call _ _ _ rfl (enters_of Try.func111 (by kernel_rfl) rfl) #[.agg #[jI jZ hd.pos, jI jZ hd.cc, jI jZ hd.ck, jI jZ hd.cv, jI jZ hd.cur, jI jZ hd.want, jI jZ (kAt un.ps 0), jI jZ hd.new, jI jZ hd.cur, jI jZ hd.next, jI jZ hd.new, jS A' n' c', jI jZ hd.thn, jI jZ hd.beg, jI jZ 1, jI jZ hd.out], jI jZ 2] (by simp [hx0, eval_const]) (FK.out { hd with old := hd.cur, key := kAt un.ps 0, kid := hd.new, rep := 1 } A' n' c' 2 w) (fun e w2 hh => ?_)
         obtain ⟨rfl, b⟩ := hh
         exact ⟨_, rfl, ⟨_, rfl, S.call b, f0, f1, fun _ => rfl, f5⟩⟩
       · obtain rfl := inj_ ho
         have h0 := aft_ haf 0 rfl
         exact op_putR 77 _ _ rfl S 1 (g := rt) (C := #[jI jZ 0, jS none 0 0]) (t := 77) (by simp only [gs_, gz_, cnd_f hDi]) ((hev.old 4 (by kernel_rfl)).trans rfl) _ (hev.at_ 0 51 rfl rfl h0 f0) rfl (by kernel_rfl) rfl (fun w S => ⟨_, rfl, S, f0, f1, f2, f5⟩)
       · obtain rfl := inj_ ho
         have h2 := aft_ haf 2 rfl
         exact op_putR 31 _ _ rfl S 0 (g := rh) (C := #[jI jZ 0, jI jZ 0, jI jZ 0, jI jZ 0, jI jZ 0, jI jZ 0, jI jZ 0, jI jZ 0, jI jZ 0, jI jZ 0, jI jZ 0, jS none 0 0, jI jZ 0, jI jZ 0, jI jZ 0, jI jZ 0]) (t := 31) (by simp only [List.getElem?_cons_zero, cnd_f hDi]) ((hev.old 5 (by kernel_rfl)).trans rfl) _ (hev.at_ 2 53 rfl rfl h2 f2) rfl (by kernel_rfl) rfl (fun w S => ⟨_, rfl, S, f0, f1, f2, f5⟩)
       · obtain rfl := inj_ ho
         exact op_move (.inr rfl) rfl ⟨_, rfl, S, f0, f1, f2, fun _ => rfl⟩
       · exact absurd ho (by simp)
     intro V w hI
     obtain ⟨S, f0, f1, f2, f5⟩ := hI
     replace S : Hid (Sep F w0 [bx rh #[jI jZ 8, jI jZ hd.cc, jI jZ hd.ck, jI jZ hd.cv, jI jZ hd.cur, jI jZ hd.want, jI jZ (kAt un.ps 0), jI jZ hd.new, jI jZ hd.cur, jI jZ hd.next, jI jZ hd.new, jS A' n' c', jI jZ 2, jI jZ hd.beg, jI jZ 1, jI jZ hd.out] 31, bx rt #[jI jZ r, jS (some ⟨g, 0, none⟩) n c] 77, bx gh #[jI jZ hd.pos, jI jZ hd.cc, jI jZ hd.ck, jI jZ hd.cv, jI jZ hd.cur, jI jZ hd.want, jI jZ (kAt un.ps 0), jI jZ hd.new, jI jZ hd.cur, jI jZ hd.next, jI jZ hd.new, jS A' n' c', jI jZ hd.thn, jI jZ hd.beg, jI jZ 1, jI jZ hd.out] 31, bx gt #[jI jZ r, jS (some ⟨g, 0, none⟩) n c] 77, ow (jS (some ⟨g, 0, none⟩) n c) (xs.set k ln) (fun q => F q ∨ FL q), em, ow (jS (some ⟨gz, 0, none⟩) 2 cZ) un.ps FZ, bx ga15 #[jI jZ ln.lv, jS AL ln.ps.length cL, jI jZ ln.hi, jI jZ ln.ri, jI jZ ln.ow] 101, bx ga16 #[jI jZ un.lv, jS (some ⟨gz, 0, none⟩) 2 cZ, jI jZ un.hi, jI jZ un.ri, jI jZ un.ow] 101] w) := Lib.hid S
     simp only [putF, Act.put, sa_, sb_, sc_, f0 rfl, f1 rfl, f2 rfl, f5 rfl]
     clear f0 f1 f2 f5
     go_wp2_with fail
     exact bodyPost_ret (results_ccs rfl _ S.out 1 0 rfl rfl rfl rfl Try.isAgg77 Try.isAgg31 (by kernel_rfl) (by kernel_rfl)) rfl ⟨some ⟨g, 0, none⟩, c, rfl, S.out.turned 4 rfl⟩
   · have g5 : (hd.want == 0) = false := by simp [hw]
     rw [if_neg hw] at DH2
     subst DH2
     clear hw
     have tk1 : True := trivial
     have tk2 : True := trivial
     have tk3 : True := trivial
     have tk4 : True := trivial
     go_wp2_with (first
         | go_skip
         | (refine wpList_op rfl (op_idx _ _ _ rfl 101 5 Try.underlying75 Try.sizeOf101 rfl (by rw [← HC.out]; rfl) (HKN.out) ?_))
         | (refine wpList_op rfl (op_putNode 0 _ _ _ rfl S.out (vz := jS AL ln.ps.length cL) (FZ := FL) ln 4 5 (by omega) rfl rfl HO.out HKN.out rfl (by omega) _ rfl [jI jZ ln.lv, jS AL ln.ps.length cL, jI jZ ln.hi, jI jZ ln.ri, jI jZ ln.ow] rfl (by simp [Value.oneCell']) (by kernel_rfl) (by simp) (fun u => rfl) ?_); clear S; intro w S; replace S : Hid (Sep F w0 [bx rh #[jI jZ 0, jI jZ 0, jI jZ 0, jI jZ 0, jI jZ 0, jI jZ 0, jI jZ 0, jI jZ 0, jI jZ 0, jI jZ 0, jI jZ 0, jS none 0 0, jI jZ 0, jI jZ 0, jI jZ 0, jI jZ 0] 31, bx rt #[jI jZ 0, jS none 0 0] 77, bx gh #[jI jZ hd.pos, jI jZ hd.cc, jI jZ hd.ck, jI jZ hd.cv, jI jZ hd.cur, jI jZ hd.want, jI jZ hd.key, jI jZ hd.kid, jI jZ hd.old, jI jZ hd.next, jI jZ hd.new, jS A' n' c', jI jZ hd.thn, jI jZ hd.beg, jI jZ hd.rep, jI jZ hd.out] 31, bx gt #[jI jZ r, jS (some ⟨g, 0, none⟩) n c] 77, ow (jS (some ⟨g, 0, none⟩) n c) (xs.set k ln) (fun q => F q ∨ FL q), em, ow (jS (some ⟨gz, 0, none⟩) 2 cZ) un.ps FZ, bx ga15 #[jI jZ ln.lv, jS AL ln.ps.length cL, jI jZ ln.hi, jI jZ ln.ri, jI jZ ln.ow] 101, bx ga16 #[jI jZ un.lv, jS (some ⟨gz, 0, none⟩) 2 cZ, jI jZ un.hi, jI jZ un.ri, jI jZ un.ow] 101] w) := Lib.hid S)
         | (refine wpList_op rfl (op_idx _ _ _ rfl 86 2 Try.underlying99 Try.sizeOf86 (k := 0) rfl rfl (by omega) ?_))
         | (refine wpList_op rfl (op_keyOf _ _ rfl S.out 6 rfl 0 (by omega) rfl Try.isAgg2 ?_))
         | (have _t := tk1; clear _t; refine wpList_op rfl (op_put1_2 2 _ _ rfl S _ rfl _ rfl rfl (by kernel_rfl) (of_decide_eq_true rfl) ?_); clear S tk1; intro w S; replace S : Hid (Sep F w0 [bx rh #[jI jZ 0, jI jZ 0, jI jZ 0, jI jZ 0, jI jZ 0, jI jZ 0, jI jZ 0, jI jZ 0, jI jZ 0, jI jZ 0, jI jZ 0, jS none 0 0, jI jZ 0, jI jZ 0, jI jZ 0, jI jZ 0] 31, bx rt #[jI jZ 0, jS none 0 0] 77, bx gh #[jI jZ hd.pos, jI jZ hd.cc, jI jZ hd.ck, jI jZ hd.cv, jI jZ hd.cur, jI jZ hd.want, jI jZ hd.key, jI jZ hd.kid, jI jZ hd.cur, jI jZ hd.next, jI jZ hd.new, jS A' n' c', jI jZ hd.thn, jI jZ hd.beg, jI jZ hd.rep, jI jZ hd.out] 31, bx gt #[jI jZ r, jS (some ⟨g, 0, none⟩) n c] 77, ow (jS (some ⟨g, 0, none⟩) n c) (xs.set k ln) (fun q => F q ∨ FL q), em, ow (jS (some ⟨gz, 0, none⟩) 2 cZ) un.ps FZ, bx ga15 #[jI jZ ln.lv, jS AL ln.ps.length cL, jI jZ ln.hi, jI jZ ln.ri, jI jZ ln.ow] 101, bx ga16 #[jI jZ un.lv, jS (some ⟨gz, 0, none⟩) 2 cZ, jI jZ un.hi, jI jZ un.ri, jI jZ un.ow] 101] w) := S)
         | (have _t := tk2; clear _t; refine wpList_op rfl (op_put1_2 2 _ _ rfl S _ rfl _ rfl rfl (by kernel_rfl) (of_decide_eq_true rfl) ?_); clear S tk2; intro w S; replace S : Hid (Sep F w0 [bx rh #[jI jZ 0, jI jZ 0, jI jZ 0, jI jZ 0, jI jZ 0, jI jZ 0, jI jZ 0, jI jZ 0, jI jZ 0, jI jZ 0, jI jZ 0, jS none 0 0, jI jZ 0, jI jZ 0, jI jZ 0, jI jZ 0] 31, bx rt #[jI jZ 0, jS none 0 0] 77, bx gh #[jI jZ hd.pos, jI jZ hd.cc, jI jZ hd.ck, jI jZ hd.cv, jI jZ hd.cur, jI jZ hd.want, jI jZ (kAt un.ps 0), jI jZ hd.kid, jI jZ hd.cur, jI jZ hd.next, jI jZ hd.new, jS A' n' c', jI jZ hd.thn, jI jZ hd.beg, jI jZ hd.rep, jI jZ hd.out] 31, bx gt #[jI jZ r, jS (some ⟨g, 0, none⟩) n c] 77, ow (jS (some ⟨g, 0, none⟩) n c) (xs.set k ln) (fun q => F q ∨ FL q), em, ow (jS (some ⟨gz, 0, none⟩) 2 cZ) un.ps FZ, bx ga15 #[jI jZ ln.lv, jS AL ln.ps.length cL, jI jZ ln.hi, jI jZ ln.ri, jI jZ ln.ow] 101, bx ga16 #[jI jZ un.lv, jS (some ⟨gz, 0, none⟩) 2 cZ, jI jZ un.hi, jI jZ un.ri, jI jZ un.ow] 101] w) := S)
         | (have _t := tk3; clear _t; refine wpList_op rfl (op_put1_2 2 _ _ rfl S _ rfl _ rfl rfl (by kernel_rfl) (of_decide_eq_true rfl) ?_); clear S tk3; intro w S; replace S : Hid (Sep F w0 [bx rh #[jI jZ 0, jI jZ 0, jI jZ 0, jI jZ 0, jI jZ 0, jI jZ 0, jI jZ 0, jI jZ 0, jI jZ 0, jI jZ 0, jI jZ 0, jS none 0 0, jI jZ 0, jI jZ 0, jI jZ 0, jI jZ 0] 31, bx rt #[jI jZ 0, jS none 0 0] 77, bx gh #[jI jZ hd.pos, jI jZ hd.cc, jI jZ hd.ck, jI jZ hd.cv, jI jZ hd.cur, jI jZ hd.want, jI jZ (kAt un.ps 0), jI jZ hd.new, jI jZ hd.cur, jI jZ hd.next, jI jZ hd.new, jS A' n' c', jI jZ hd.thn, jI jZ hd.beg, jI jZ hd.rep, jI jZ hd.out] 31, bx gt #[jI jZ r, jS (some ⟨g, 0, none⟩) n c] 77, ow (jS (some ⟨g, 0, none⟩) n c) (xs.set k ln) (fun q => F q ∨ FL q), em, ow (jS (some ⟨gz, 0, none⟩) 2 cZ) un.ps FZ, bx ga15 #[jI jZ ln.lv, jS AL ln.ps.length cL, jI jZ ln.hi, jI jZ ln.ri, jI jZ ln.ow] 101, bx ga16 #[jI jZ un.lv, jS (some ⟨gz, 0, none⟩) 2 cZ, jI jZ un.hi, jI jZ un.ri, jI jZ un.ow] 101] w) := S)
         | (refine wpList_op rfl (op_get 75 _ rfl S.out 3 rfl _ rfl Try.isAgg75 _ rfl ?_))
         | (refine wpList_op rfl (op_get 2 _ rfl S.out 2 rfl _ rfl Try.isAgg2 _ rfl ?_))
         | (refine wpList_op rfl (op_row 101 _ rfl S.out 7 rfl rfl Try.isAgg101 (by kernel_rfl) ?_))
         | (refine wpList_op rfl (op_get 99 _ rfl S.out 8 rfl _ rfl Try.isAgg99 _ rfl ?_)))
     refine wp_region_ev (by kernel_rfl) _ (by kernel_rfl) (by kernel_rfl) 54 rfl (by kernel_rfl) (fun D V w => Sep F w0 [cnd (D 4) (bx rh #[jI jZ 0, jI jZ 0, jI jZ 0, jI jZ 0, jI jZ 0, jI jZ 0, jI jZ 0, jI jZ 0, jI jZ 0, jI jZ 0, jI jZ 0, jS none 0 0, jI jZ 0, jI jZ 0, jI jZ 0, jI jZ 0] 31) (bx rh #[jI jZ 8, jI jZ hd.cc, jI jZ hd.ck, jI jZ hd.cv, jI jZ hd.cur, jI jZ hd.want, jI jZ (kAt un.ps 0), jI jZ hd.new, jI jZ hd.cur, jI jZ hd.next, jI jZ hd.new, jS A' n' c', jI jZ 2, jI jZ hd.beg, jI jZ hd.rep, jI jZ hd.out] 31), cnd (D 3) (bx rt #[jI jZ 0, jS none 0 0] 77) (bx rt #[jI jZ r, jS (some ⟨g, 0, none⟩) n c] 77), bx gh #[jI jZ hd.pos, jI jZ hd.cc, jI jZ hd.ck, jI jZ hd.cv, jI jZ hd.cur, jI jZ hd.want, jI jZ (kAt un.ps 0), jI jZ hd.new, jI jZ hd.cur, jI jZ hd.next, jI jZ hd.new, jS A' n' c', jI jZ hd.thn, jI jZ hd.beg, jI jZ hd.rep, jI jZ hd.out] 31, bx gt #[jI jZ r, jS (some ⟨g, 0, none⟩) n c] 77, ow (jS (some ⟨g, 0, none⟩) n c) (xs.set k ln) (fun q => F q ∨ FL q), em, ow (jS (some ⟨gz, 0, none⟩) 2 cZ) un.ps FZ, bx ga15 #[jI jZ ln.lv, jS AL ln.ps.length cL, jI jZ ln.hi, jI jZ ln.ri, jI jZ ln.ow] 101, bx ga16 #[jI jZ un.lv, jS (some ⟨gz, 0, none⟩) 2 cZ, jI jZ un.hi, jI jZ un.ri, jI jZ un.ow] 101] w ∧ (D 0 = true → V 0 = .agg #[jI jZ r, jS (some ⟨g, 0, none⟩) n c]) ∧ (D 1 = true → V 1 = .agg #[jI jZ hd.pos, jI jZ hd.cc, jI jZ hd.ck, jI jZ hd.cv, jI jZ hd.cur, jI jZ hd.want, jI jZ (kAt un.ps 0), jI jZ hd.new, jI jZ hd.cur, jI jZ hd.next, jI jZ hd.new, jS A' n' c', jI jZ hd.thn, jI jZ hd.beg, jI jZ hd.rep, jI jZ hd.out]) ∧ (D 2 = true → V 2 = .agg #[jI jZ 8, jI jZ hd.cc, jI jZ hd.ck, jI jZ hd.cv, jI jZ hd.cur, jI jZ hd.want, jI jZ (kAt un.ps 0), jI jZ hd.new, jI jZ hd.cur, jI jZ hd.next, jI jZ hd.new, jS A' n' c', jI jZ 2, jI jZ hd.beg, jI jZ hd.rep, jI jZ hd.out]) ∧ (D 5 = true → V 5 = .bool true)) ?_ ?_ ?_
     · intro D hD
       have d3 := hD 3 (by decide)
       have d4 := hD 4 (by decide)
       exact ⟨by rw [cnd_f d4, cnd_f d3]; exact S.out.drew.ems 0, (nof (hD 0 (by decide))), (nof (hD 1 (by decide))), (nof (hD 2 (by decide))), (nof (hD 5 (by decide)))⟩
     · intro i o D V w a ho hI hDi haf hev
       obtain ⟨S, f0, f1, f2, f5⟩ := hI
       rcases i with _ | _ | _ | _ | _ | _ | i
       · obtain rfl := inj_ ho
         exact op_row 77 _ rfl S 3 rfl ((hev.old 2 (by kernel_rfl)).trans rfl) Try.isAgg77 (by kernel_rfl) ⟨_, rfl, S, fun _ => rfl, f1, f2, f5⟩
       · obtain rfl := inj_ ho
         exact op_row 31 _ rfl S 2 rfl ((hev.old 3 (by kernel_rfl)).trans rfl) Try.isAgg31 (by kernel_rfl) ⟨_, rfl, S, f0, fun _ => rfl, f2, f5⟩
       · obtain rfl := inj_ ho
         have h1 := aft_ haf 1 rfl
         have hx0 := (hev.at_ 1 52 rfl rfl h1 f1)
         refine op_call _ _ _ rfl (enters_of Try.func111 (by kernel_rfl) rfl) #[.agg #[jI jZ hd.pos, jI jZ hd.cc, jI jZ hd.ck, jI jZ hd.cv, jI jZ hd.cur, jI jZ hd.want, jI jZ (kAt un.ps 0), jI jZ hd.new, jI jZ hd.cur, jI jZ hd.next, jI jZ hd.new, jS A' n' c', jI jZ hd.thn, jI jZ hd.beg, jI jZ hd.rep, jI jZ hd.out], jI jZ 2] (by simp [hx0, eval_const]) (FK.out { hd with old := hd.cur, key := kAt un.ps 0, kid := hd.new } A' n' c' 2 w) (fun e w2 hh => ?_)
         obtain ⟨rfl, b⟩ := hh
         exact ⟨_, rfl, ⟨_, rfl, S.call b, f0, f1, fun _ => rfl, f5⟩⟩
       · obtain rfl := inj_ ho
         have h0 := aft_ haf 0 rfl
         exact op_putR 77 _ _ rfl S 1 (g := rt) (C := #[jI jZ 0, jS none 0 0]) (t := 77) (by simp only [gs_, gz_, cnd_f hDi]) ((hev.old 4 (by kernel_rfl)).trans rfl) _ (hev.at_ 0 51 rfl rfl h0 f0) rfl (by kernel_rfl) rfl (fun w S => ⟨_, rfl, S, f0, f1, f2, f5⟩)
       · obtain rfl := inj_ ho
         have h2 := aft_ haf 2 rfl
         exact op_putR 31 _ _ rfl S 0 (g := rh) (C := #[jI jZ 0, jI jZ 0, jI jZ 0, jI jZ 0, jI jZ 0, jI jZ 0, jI jZ 0, jI jZ 0, jI jZ 0, jI jZ 0, jI jZ 0, jS none 0 0, jI jZ 0, jI jZ 0, jI jZ 0, jI jZ 0]) (t := 31) (by simp only [List.getElem?_cons_zero, cnd_f hDi]) ((hev.old 5 (by kernel_rfl)).trans rfl) _ (hev.at_ 2 53 rfl rfl h2 f2) rfl (by kernel_rfl) rfl (fun w S => ⟨_, rfl, S, f0, f1, f2, f5⟩)
       · obtain rfl := inj_ ho
         exact op_move (.inr rfl) rfl ⟨_, rfl, S, f0, f1, f2, fun _ => rfl⟩
       · exact absurd ho (by simp)
     intro V w hI
     obtain ⟨S, f0, f1, f2, f5⟩ := hI
     replace S : Hid (Sep F w0 [bx rh #[jI jZ 8, jI jZ hd.cc, jI jZ hd.ck, jI jZ hd.cv, jI jZ hd.cur, jI jZ hd.want, jI jZ (kAt un.ps 0), jI jZ hd.new, jI jZ hd.cur, jI jZ hd.next, jI jZ hd.new, jS A' n' c', jI jZ 2, jI jZ hd.beg, jI jZ hd.rep, jI jZ hd.out] 31, bx rt #[jI jZ r, jS (some ⟨g, 0, none⟩) n c] 77, bx gh #[jI jZ hd.pos, jI jZ hd.cc, jI jZ hd.ck, jI jZ hd.cv, jI jZ hd.cur, jI jZ hd.want, jI jZ (kAt un.ps 0), jI jZ hd.new, jI jZ hd.cur, jI jZ hd.next, jI jZ hd.new, jS A' n' c', jI jZ hd.thn, jI jZ hd.beg, jI jZ hd.rep, jI jZ hd.out] 31, bx gt #[jI jZ r, jS (some ⟨g, 0, none⟩) n c] 77, ow (jS (some ⟨g, 0, none⟩) n c) (xs.set k ln) (fun q => F q ∨ FL q), em, ow (jS (some ⟨gz, 0, none⟩) 2 cZ) un.ps FZ, bx ga15 #[jI jZ ln.lv, jS AL ln.ps.length cL, jI jZ ln.hi, jI jZ ln.ri, jI jZ ln.ow] 101, bx ga16 #[jI jZ un.lv, jS (some ⟨gz, 0, none⟩) 2 cZ, jI jZ un.hi, jI jZ un.ri, jI jZ un.ow] 101] w) := Lib.hid S
     simp only [putF, Act.put, sa_, sb_, sc_, f0 rfl, f1 rfl, f2 rfl, f5 rfl]
     clear f0 f1 f2 f5
     go_wp2_with fail
     exact bodyPost_ret (results_ccs rfl _ S.out 1 0 rfl rfl rfl rfl Try.isAgg77 Try.isAgg31 (by kernel_rfl) (by kernel_rfl)) rfl ⟨some ⟨g, 0, none⟩, c, rfl, S.out.turned 4 rfl⟩
end Go.Proofs.Ytjookicpmjmdhaa
