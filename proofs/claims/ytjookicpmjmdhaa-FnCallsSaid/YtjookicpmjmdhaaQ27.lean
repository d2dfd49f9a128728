/- The walk of the model's Asked. (Made by genY26.py.) -/
import Derived.Test.YtjookicpmjmdhaaQ24
import Derived.Test.YtjookicpmjmdhaaQ26
open Go.Value renaming int → jI, slice → jS
open Go.IntKind renaming i64 → jZ
namespace Go.Proofs.Ytjookicpmjmdhaa
open Go.RowKit

theorem IsW.on {w w' : World} {W : Wd} {A : Option Addr} {n : Nat} {A1 : Option Addr} {n1 : Nat} {A2 : Option Addr} {n2 : Nat} (h : IsW w w.heap.size W A n A1 n1 A2 n2) (b : Below w.heap.size w w') : IsW w' w'.heap.size W A n A1 n1 A2 n2 :=
 ⟨h.ns.on b, h.sm, h.hs.on b, h.ds.on b, h.h1, h.h2⟩

set_option maxRecDepth 100000 in
set_option maxHeartbeats 16000000 in
theorem asked_no0 (W : Wd) (A : Option Addr) (n c : Nat) (A1 : Option Addr) (n1 c1 : Nat) (A2 : Option Addr) (n2 c2 : Nat) (who cc ck cv : Int) (w0 : World) (hW : IsW w0 w0.heap.size W A n A1 n1 A2 n2) (hk : worldOk W = false) :
   Calls Try.prog 70 #[.agg #[jI jZ W.root, jS A n c, jS A1 n1 c1, jS A2 n2 c2, jI jZ W.now], jI jZ who, .agg #[jI jZ cc, jI jZ ck, jI jZ cv]] w0 (GivesWI w0 (askedW W who cc ck cv) (askedC W who cc ck cv)) := by
 have l1 : W.hs.length = n1 := hW.hs.1
 have e1 : askedW W who cc ck cv = zeroW := by unfold askedW; rw [l1, hk]; rfl
 have e2 : askedC W who cc ck cv = 3 := by unfold askedC; rw [l1, hk]; rfl
 rw [e1, e2]
 have WK := Lib.hid (fun w hW => sWorldOk_any W A n c A1 n1 c1 A2 n2 c2 w hW)
 have TA := Lib.hid (fun w => task_any W.root W.now who A n c A1 n1 c1 A2 n2 c2 w hW.h1)
 have HW := Lib.hid hW
 rw [hk] at WK
 obtain ⟨r, hr⟩ : ∃ r, r = W.root := ⟨_, rfl⟩
 obtain ⟨now, hnow⟩ : ∃ now, now = W.now := ⟨_, rfl⟩
 rw [← hr, ← hnow] at WK TA
 rw [← hr, ← hnow]
 clear e1 e2 l1 hW hk hr hnow
 have S := Lib.hid (Sep.start noX w0)
 have tok0 : True := trivial
 have tok1 : True := trivial
 have tok2 : True := trivial
 go_enter Try.func70, Try.ntmps70
 go_wp2_with (first
     | go_skip
     | (clear tok0; refine bx_ 81 S rfl rfl rfl ?_; clear S; intro gw w S)
     | (clear tok1; refine bx_ 25 S rfl rfl rfl ?_; clear S; intro gc w S)
     | (clear tok2; refine nx_ 81 S rfl rfl Try.zeroValue81 ?_; clear S; intro rw w S)
     | (refine wpList_op rfl (op_row 81 _ rfl S.out 2 rfl rfl Try.isAgg81 (by kernel_rfl) ?_)))
 refine (WK.out _ (HW.out.on S.out.below)).mono ?_
 rintro e w ⟨rfl, b⟩
 replace S := Lib.hid (S.out.call b)
 clear b
 go_wp2_with (first
     | go_skip
     | (refine wpList_op rfl (op_build 81 _ rfl [] rfl #[jI jZ 0, jS none 0 0, jS none 0 0, jS none 0 0, jI jZ 0] (by kernel_rfl) ?_))
     | (refine wpList_op rfl (op_putR_0 81 _ _ rfl S rfl _ rfl rfl (by kernel_rfl) rfl ?_); clear S; intro w S))
 exact bodyPost_ret (results_cs rfl _ S.out 0 rfl rfl Try.isAgg81 (by kernel_rfl)) rfl (by exact zero_WI S.out.below 3)

set_option maxRecDepth 100000 in
set_option maxHeartbeats 16000000 in
theorem asked_no1 (W : Wd) (A : Option Addr) (n c : Nat) (A1 : Option Addr) (n1 c1 : Nat) (A2 : Option Addr) (n2 c2 : Nat) (who cc ck cv : Int) (w0 : World) (hW : IsW w0 w0.heap.size W A n A1 n1 A2 n2) (hk : worldOk W = true) (hw : hasB n1 who = false) :
   Calls Try.prog 70 #[.agg #[jI jZ W.root, jS A n c, jS A1 n1 c1, jS A2 n2 c2, jI jZ W.now], jI jZ who, .agg #[jI jZ cc, jI jZ ck, jI jZ cv]] w0 (GivesWI w0 (askedW W who cc ck cv) (askedC W who cc ck cv)) := by
 have l1 : W.hs.length = n1 := hW.hs.1
 have e1 : askedW W who cc ck cv = zeroW := by unfold askedW; rw [l1, hk]; rw [hw]; rfl
 have e2 : askedC W who cc ck cv = 3 := by unfold askedC; rw [l1, hk]; rw [hw]; rfl
 rw [e1, e2]
 have WK := Lib.hid (fun w hW => sWorldOk_any W A n c A1 n1 c1 A2 n2 c2 w hW)
 have TA := Lib.hid (fun w => task_any W.root W.now who A n c A1 n1 c1 A2 n2 c2 w hW.h1)
 have HW := Lib.hid hW
 rw [hk] at WK
 rw [hw] at TA
 obtain ⟨r, hr⟩ : ∃ r, r = W.root := ⟨_, rfl⟩
 obtain ⟨now, hnow⟩ : ∃ now, now = W.now := ⟨_, rfl⟩
 rw [← hr, ← hnow] at WK TA
 rw [← hr, ← hnow]
 clear e1 e2 l1 hW hk hw hr hnow
 have S := Lib.hid (Sep.start noX w0)
 have tok0 : True := trivial
 have tok1 : True := trivial
 have tok2 : True := trivial
 go_enter Try.func70, Try.ntmps70
 go_wp2_with (first
     | go_skip
     | (clear tok0; refine bx_ 81 S rfl rfl rfl ?_; clear S; intro gw w S)
     | (clear tok1; refine bx_ 25 S rfl rfl rfl ?_; clear S; intro gc w S)
     | (clear tok2; refine nx_ 81 S rfl rfl Try.zeroValue81 ?_; clear S; intro rw w S)
     | (refine wpList_op rfl (op_row 81 _ rfl S.out 2 rfl rfl Try.isAgg81 (by kernel_rfl) ?_)))
 refine (WK.out _ (HW.out.on S.out.below)).mono ?_
 rintro e w ⟨rfl, b⟩
 replace S := Lib.hid (S.out.call b)
 clear b
 go_wp2_with (first
     | go_skip
     | (refine wpList_op rfl (op_row 81 _ rfl S.out 2 rfl rfl Try.isAgg81 (by kernel_rfl) ?_)))
 refine (TA.out _).mono ?_
 rintro e w ⟨rfl, b⟩
 replace S := Lib.hid (S.out.call b)
 clear b
 go_wp2_with (first
     | go_skip
     | (refine wpList_op rfl (op_build 81 _ rfl [] rfl #[jI jZ 0, jS none 0 0, jS none 0 0, jS none 0 0, jI jZ 0] (by kernel_rfl) ?_))
     | (refine wpList_op rfl (op_putR_0 81 _ _ rfl S rfl _ rfl rfl (by kernel_rfl) rfl ?_); clear S; intro w S))
 exact bodyPost_ret (results_cs rfl _ S.out 0 rfl rfl Try.isAgg81 (by kernel_rfl)) rfl (by exact zero_WI S.out.below 3)

set_option maxRecDepth 100000 in
set_option maxHeartbeats 16000000 in
theorem asked_go (W : Wd) (A : Option Addr) (n c : Nat) (A1 : Option Addr) (n1 c1 : Nat) (A2 : Option Addr) (n2 c2 : Nat) (who cc ck cv : Int) (w0 : World) (hW : IsW w0 w0.heap.size W A n A1 n1 A2 n2) (hk : worldOk W = true) (hw : hasB n1 who = true) :
   Calls Try.prog 70 #[.agg #[jI jZ W.root, jS A n c, jS A1 n1 c1, jS A2 n2 c2, jI jZ W.now], jI jZ who, .agg #[jI jZ cc, jI jZ ck, jI jZ cv]] w0 (GivesWI w0 (askedW W who cc ck cv) (askedC W who cc ck cv)) := by
 have l1 : W.hs.length = n1 := hW.hs.1
 obtain ⟨q1, q2, q3, q4, q5, q6⟩ := world_of hk
 obtain ⟨h0, h1⟩ := (hasB_iff n1 who).1 hw
 obtain ⟨kk, hkk⟩ : ∃ kk : Nat, who = kk := ⟨who.toNat, by omega⟩
 have hkn : kk < n1 := by omega
 have hct : who.toNat = kk := by omega
 have hst : ∀ i, i < n1 → (hdAt W.hs i).st.length ≤ 1048576 := fun i hi => by have := hand_stack (q6 i (by omega)).1; omega
 have CT := Lib.hid (fun w hW => copyW_any W A n c A1 n1 c1 A2 n2 c2 w hW hst)
 have WK := Lib.hid (fun w hW => sWorldOk_any W A n c A1 n1 c1 A2 n2 c2 w hW)
 have TA := Lib.hid (fun w => task_any W.root W.now who A n c A1 n1 c1 A2 n2 c2 w hW.h1)
 have HW := Lib.hid hW
 obtain ⟨b, off, rfl, hb, A3, n3, c3, hcc, hR, _⟩ := RS.hdAt hW.hs kk hkn
 have hx3 : n3 ≤ 1048576 := by rw [← hR.1]; exact hst kk hkn
 have DC : Hid (askedC W who cc ck cv = if calledC (hdAt W.hs kk) cc ck cv = 0 then (if W.now = 20000 then 1 else 0) else calledC (hdAt W.hs kk) cc ck cv) := Lib.hid (by unfold askedC; rw [l1, hk, hw, hct]; rfl)
 have DW : Hid (askedW W who cc ck cv = if askedC W who cc ck cv = 0 then { W with now := W.now + 1, hs := W.hs.set kk { calledH (hdAt W.hs kk) cc ck cv with beg := W.now + 1 } } else W) := Lib.hid (by unfold askedW; rw [l1, hk, hw, hct]; rfl)
 have CA := Lib.hid (fun w hR => sCalled_any (hdAt W.hs kk) A3 n3 c3 cc ck cv w hR hx3)
 have LN := Lib.hid hW.ns.1
 have L1 := Lib.hid l1
 have L2 := Lib.hid hW.ds.1
 obtain ⟨x, hx⟩ : ∃ x, x = hdAt W.hs kk := ⟨_, rfl⟩
 rw [← hx] at hcc hR CA DC DW
 have HC : Hid (∀ j u, ([jI jZ x.pos, jI jZ x.cc, jI jZ x.ck, jI jZ x.cv, jI jZ x.cur, jI jZ x.want, jI jZ x.key, jI jZ x.kid, jI jZ x.old, jI jZ x.next, jI jZ x.new, jS A3 n3 c3, jI jZ x.thn, jI jZ x.beg, jI jZ x.rep, jI jZ x.out] : List Value)[j]? = some u → w0.cell? ⟨b, off + kk * 16 + j, none⟩ = some u) := Lib.hid hcc
 have HRX := Lib.hid hR
 have HB := Lib.hid hb
 have HCC := Lib.hid hkk
 have HKN := Lib.hid hkn
 have HQ5 := Lib.hid q5
 unfold GivesHI hdV at CA
 unfold GivesW wdV at CT
 unfold GivesWI
 rw [hk] at WK
 rw [hw] at TA
 generalize calledH x cc ck cv = ch at *
 generalize calledC x cc ck cv = k9 at *
 generalize askedW W who cc ck cv = rW at *
 generalize askedC W who cc ck cv = rC at *
 clear hk hw hst q1 q2 q3 q4 q5 q6 h0 h1 hkk hkn hct hx3 hcc hR hx hb l1 hW
 obtain ⟨r, ns, hs, ds, now⟩ := W
 simp only at CT WK TA LN L1 L2 DC DW HQ5 ⊢
 have S := Lib.hid (Sep.start noX w0)
 have tokg : True := trivial
 have tok0 : True := trivial
 have tok1 : True := trivial
 have tok2 : True := trivial
 go_enter Try.func70, Try.ntmps70
 go_wp2_with (first
     | go_skip
     | (clear tok0; refine bx_ 81 S rfl rfl rfl ?_; clear S; intro gw w S)
     | (clear tok1; refine bx_ 25 S rfl rfl rfl ?_; clear S; intro gc w S)
     | (clear tok2; refine nx_ 81 S rfl rfl Try.zeroValue81 ?_; clear S; intro rw w S)
     | (refine wpList_op rfl (op_row 81 _ rfl S.out 2 rfl rfl Try.isAgg81 (by kernel_rfl) ?_)))
 refine (WK.out _ (HW.out.on S.out.below)).mono ?_
 rintro e w ⟨rfl, b⟩
 replace S := Lib.hid (S.out.call b)
 clear b
 go_wp2_with (first
     | go_skip
     | (refine wpList_op rfl (op_row 81 _ rfl S.out 2 rfl rfl Try.isAgg81 (by kernel_rfl) ?_)))
 refine (TA.out _).mono ?_
 rintro e w ⟨rfl, b⟩
 replace S := Lib.hid (S.out.call b)
 clear b
 go_wp2_with (first
     | go_skip
     | (refine wpList_op rfl (op_row 81 _ rfl S.out 2 rfl rfl Try.isAgg81 (by kernel_rfl) ?_)))
 refine (CT.out _ (HW.out.on S.out.below)).mono ?_
 rintro e w ⟨AN, cN, FN, AH, cH, FH, AD, cD, FD, rfl, ⟨o1, o2, o3, a1, a2, a3⟩, f1, f2, f3, b9⟩
 rw [LN.out] at o1
 rw [L1.out] at o2
 rw [L2.out] at o3
 rw [LN.out, L1.out, L2.out]
 obtain ⟨gH, rfl⟩ : ∃ gH, AH = some ⟨gH, 0, none⟩ := by
   obtain ⟨g9, cap, _, _, _, _, hv, _⟩ := OwnS.open o2 kk (by rw [L1.out]; exact HKN.out)
   refine ⟨g9, ?_⟩
   simp only [Value.slice.injEq] at hv
   exact hv.1
 replace S := Lib.hid (S.out.gain3 b9 (ow (jS AN n cN) ns FN) (ow (jS (some ⟨gH, 0, none⟩) n1 cH) hs FH) (ow (jS AD n2 cD) ds FD) o1 o2 o3 f1 f2 f3 a1 a2 a3)
 clear o1 o2 o3 a1 a2 a3 f1 f2 f3 b9 CT WK TA
 go_wp2_with (first
     | go_skip
     | (clear tokg; refine nx_ 81 S rfl rfl Try.zeroValue81 ?_; clear S; intro go w S)
     | (refine wpList_op rfl (op_putR_0 81 _ _ rfl S rfl _ rfl rfl (by kernel_rfl) rfl ?_); clear S; intro w S))
 refine wp_region_ev (by kernel_rfl) _ (by kernel_rfl) (by kernel_rfl) 55 rfl (by kernel_rfl) (fun D V w => ∃ AS : Option Addr, ∃ cS : Nat, ∃ FS : FP, ∃ ga10 : Nat, Sep noX w0 [bx go #[jI jZ r, jS AN n cN, jS (some ⟨gH, 0, none⟩) n1 cH, jS AD n2 cD, jI jZ now] 81, ow (jS AN n cN) ns FN, ow (jS (some ⟨gH, 0, none⟩) n1 cH) hs FH, ow (jS AD n2 cD) ds FD, bx rw #[jI jZ 0, jS none 0 0, jS none 0 0, jS none 0 0, jI jZ 0] 81, bx gc #[jI jZ cc, jI jZ ck, jI jZ cv] 25, bx gw #[jI jZ r, jS A n c, jS (some ⟨b, off, none⟩) n1 c1, jS A2 n2 c2, jI jZ now] 81, cnd (D 6) em (ow (jS AS ch.st.length cS) ch.st FS), cnd (D 10) em (cnd (D 11) (bx ga10 #[jI jZ 0, jI jZ 0, jI jZ 0, jI jZ 0, jI jZ 0, jI jZ 0, jI jZ 0, jI jZ 0, jI jZ 0, jI jZ 0, jI jZ 0, jS none 0 0, jI jZ 0, jI jZ 0, jI jZ 0, jI jZ 0] 31) (bx ga10 #[jI jZ ch.pos, jI jZ ch.cc, jI jZ ch.ck, jI jZ ch.cv, jI jZ ch.cur, jI jZ ch.want, jI jZ ch.key, jI jZ ch.kid, jI jZ ch.old, jI jZ ch.next, jI jZ ch.new, jS AS ch.st.length cS, jI jZ ch.thn, jI jZ ch.beg, jI jZ ch.rep, jI jZ ch.out] 31))] w ∧ (D 0 = true → V 0 = .pointer (some ⟨gw, 2, none⟩)) ∧ (D 1 = true → V 1 = jS (some ⟨b, off, none⟩) n1 c1) ∧ (D 2 = true → V 2 = jI jZ who) ∧ (D 3 = true → V 3 = .pointer (some ⟨b, off + kk * 16, none⟩)) ∧ (D 4 = true → V 4 = .agg #[jI jZ x.pos, jI jZ x.cc, jI jZ x.ck, jI jZ x.cv, jI jZ x.cur, jI jZ x.want, jI jZ x.key, jI jZ x.kid, jI jZ x.old, jI jZ x.next, jI jZ x.new, jS A3 n3 c3, jI jZ x.thn, jI jZ x.beg, jI jZ x.rep, jI jZ x.out]) ∧ (D 5 = true → V 5 = .agg #[jI jZ cc, jI jZ ck, jI jZ cv]) ∧ (D 6 = true → V 6 = .tuple #[.agg #[jI jZ ch.pos, jI jZ ch.cc, jI jZ ch.ck, jI jZ ch.cv, jI jZ ch.cur, jI jZ ch.want, jI jZ ch.key, jI jZ ch.kid, jI jZ ch.old, jI jZ ch.next, jI jZ ch.new, jS AS ch.st.length cS, jI jZ ch.thn, jI jZ ch.beg, jI jZ ch.rep, jI jZ ch.out], jI jZ k9]) ∧ (D 7 = true → V 7 = .tuple #[.agg #[jI jZ ch.pos, jI jZ ch.cc, jI jZ ch.ck, jI jZ ch.cv, jI jZ ch.cur, jI jZ ch.want, jI jZ ch.key, jI jZ ch.kid, jI jZ ch.old, jI jZ ch.next, jI jZ ch.new, jS AS ch.st.length cS, jI jZ ch.thn, jI jZ ch.beg, jI jZ ch.rep, jI jZ ch.out], jI jZ k9]) ∧ (D 8 = true → V 8 = .agg #[jI jZ ch.pos, jI jZ ch.cc, jI jZ ch.ck, jI jZ ch.cv, jI jZ ch.cur, jI jZ ch.want, jI jZ ch.key, jI jZ ch.kid, jI jZ ch.old, jI jZ ch.next, jI jZ ch.new, jS AS ch.st.length cS, jI jZ ch.thn, jI jZ ch.beg, jI jZ ch.rep, jI jZ ch.out]) ∧ (D 9 = true → V 9 = jI jZ k9) ∧ (D 10 = true → V 10 = .pointer (some ⟨ga10, 0, none⟩)) ∧ (D 12 = true → V 12 = jI jZ k9) ∧ (D 7 = true → D 6 = true) ∧ (D 8 = true → D 6 = true) ∧ (D 11 = true → D 6 = true) ∧ (D 11 = true → D 10 = true)) ?_ ?_ ?_
 · intro D hD
   have d6 := hD 6 (by decide)
   have d10 := hD 10 (by decide)
   have d11 := hD 11 (by decide)
   exact ⟨none, 0, fun _ => False, 0, by rw [cnd_f d6, cnd_f d10]; exact S.out.drew.ems 2, (nof (hD 0 (by decide))), (nof (hD 1 (by decide))), (nof (hD 2 (by decide))), (nof (hD 3 (by decide))), (nof (hD 4 (by decide))), (nof (hD 5 (by decide))), (nof (hD 6 (by decide))), (nof (hD 7 (by decide))), (nof (hD 8 (by decide))), (nof (hD 9 (by decide))), (nof (hD 10 (by decide))), (nof (hD 12 (by decide))), (nof (hD 7 (by decide))), (nof (hD 8 (by decide))), (nof (hD 11 (by decide))), (nof (hD 11 (by decide)))⟩
 · intro i o D V w a ho hI hDi haf hev
   obtain ⟨AS, cS, FS, ga10, S, f0, f1, f2, f3, f4, f5, f6, f7, f8, f9, f10, f12, o7_6, o8_6, o11_6, o11_10⟩ := hI
   rcases i with _ | _ | _ | _ | _ | _ | _ | _ | _ | _ | _ | _ | _ | i
   · obtain rfl := inj_ ho
     exact op_field _ _ _ rfl ((hev.old 3 (by kernel_rfl)).trans rfl) (by kernel_rfl) ⟨_, rfl, AS, cS, FS, ga10, S, fun _ => rfl, f1, f2, f3, f4, f5, f6, f7, f8, f9, f10, f12, o7_6, o8_6, o11_6, o11_10⟩
   · obtain rfl := inj_ ho
     have h0 := aft_ haf 0 rfl
     exact op_get 78 _ rfl S 6 rfl 2 (hev.at_ 0 24 rfl rfl h0 f0) Try.isAgg78 _ rfl ⟨_, rfl, AS, cS, FS, ga10, S, f0, fun _ => rfl, f2, f3, f4, f5, f6, f7, f8, f9, f10, f12, o7_6, o8_6, o11_6, o11_10⟩
   · obtain rfl := inj_ ho
     exact op_move (.inl rfl) ((hev.old 1 (by kernel_rfl)).trans rfl) ⟨_, rfl, AS, cS, FS, ga10, S, f0, f1, fun _ => rfl, f3, f4, f5, f6, f7, f8, f9, f10, f12, o7_6, o8_6, o11_6, o11_10⟩
   · obtain rfl := inj_ ho
     have h1 := aft_ haf 1 rfl
     have h2 := aft_ haf 2 rfl
     exact op_idx _ _ _ rfl 31 16 Try.underlying78 Try.sizeOf31 (hev.at_ 1 25 rfl rfl h1 f1) (by rw [← HCC.out]; exact (hev.at_ 2 26 rfl rfl h2 f2)) HKN.out ⟨_, rfl, AS, cS, FS, ga10, S, f0, f1, f2, fun _ => rfl, f4, f5, f6, f7, f8, f9, f10, f12, o7_6, o8_6, o11_6, o11_10⟩
   · obtain rfl := inj_ ho
     have h3 := aft_ haf 3 rfl
     exact op_cells0 31 _ rfl S HB.out (hev.at_ 3 27 rfl rfl h3 f3) Try.isAgg31 [jI jZ x.pos, jI jZ x.cc, jI jZ x.ck, jI jZ x.cv, jI jZ x.cur, jI jZ x.want, jI jZ x.key, jI jZ x.kid, jI jZ x.old, jI jZ x.next, jI jZ x.new, jS A3 n3 c3, jI jZ x.thn, jI jZ x.beg, jI jZ x.rep, jI jZ x.out] HC.out (by kernel_rfl) #[jI jZ x.pos, jI jZ x.cc, jI jZ x.ck, jI jZ x.cv, jI jZ x.cur, jI jZ x.want, jI jZ x.key, jI jZ x.kid, jI jZ x.old, jI jZ x.next, jI jZ x.new, jS A3 n3 c3, jI jZ x.thn, jI jZ x.beg, jI jZ x.rep, jI jZ x.out] rfl ⟨_, rfl, AS, cS, FS, ga10, S, f0, f1, f2, f3, fun _ => rfl, f5, f6, f7, f8, f9, f10, f12, o7_6, o8_6, o11_6, o11_10⟩
   · obtain rfl := inj_ ho
     exact op_row 25 _ rfl S 5 rfl ((hev.old 5 (by kernel_rfl)).trans rfl) Try.isAgg25 (by kernel_rfl) ⟨_, rfl, AS, cS, FS, ga10, S, f0, f1, f2, f3, f4, fun _ => rfl, f6, f7, f8, f9, f10, f12, o7_6, o8_6, o11_6, o11_10⟩
   · obtain rfl := inj_ ho
     have h4 := aft_ haf 4 rfl
     have h5 := aft_ haf 5 rfl
     have ns11 := nofb hDi o11_6
     have hx0 := (hev.at_ 4 28 rfl rfl h4 f4)
     have hx1 := (hev.at_ 5 29 rfl rfl h5 f5)
     refine op_call _ _ _ rfl (enters_of Try.func16 (by kernel_rfl) rfl) #[.agg #[jI jZ x.pos, jI jZ x.cc, jI jZ x.ck, jI jZ x.cv, jI jZ x.cur, jI jZ x.want, jI jZ x.key, jI jZ x.kid, jI jZ x.old, jI jZ x.next, jI jZ x.new, jS A3 n3 c3, jI jZ x.thn, jI jZ x.beg, jI jZ x.rep, jI jZ x.out], .agg #[jI jZ cc, jI jZ ck, jI jZ cv]] (by simp [hx0, hx1]) (CA.out w (S.rs HRX.out)) (fun e w2 hh => ?_)
     obtain ⟨A9, c9, F9, rfl, own, fr, b⟩ := hh
     have S2 := S.turn 7 (I := em) (by simp only [gs_, gz_, cnd_f hDi]) (Only.of_below b) (ow (jS A9 ch.st.length c9) ch.st F9) own (fun k hk => ⟨.inr (fr k hk).1, (fr k hk).2⟩)
     exact ⟨_, rfl, ⟨_, rfl, A9, c9, F9, ga10, (by have SS := S2; rw [cnd_f ns11] at SS; rw [show updB D 6 11 = false from ns11]; exact SS), f0, f1, f2, f3, f4, f5, fun _ => rfl, (fun h => nof hDi (o7_6 h)), (fun h => nof hDi (o8_6 h)), f9, f10, f12, fun _ => rfl, fun _ => rfl, fun _ => rfl, o11_10⟩⟩
   · obtain rfl := inj_ ho
     have h6 := aft_ haf 6 rfl
     exact op_move (.inl rfl) (hev.at_ 6 30 rfl rfl h6 f6) ⟨_, rfl, AS, cS, FS, ga10, S, f0, f1, f2, f3, f4, f5, f6, fun _ => rfl, f8, f9, f10, f12, fun _ => h6, o8_6, o11_6, o11_10⟩
   · obtain rfl := inj_ ho
     have h7 := aft_ haf 7 rfl
     have h6 : D 6 = true := o7_6 h7
     exact op_extract _ _ rfl (hev.at_ 7 23 rfl rfl h7 f7) rfl ⟨_, rfl, AS, cS, FS, ga10, S, f0, f1, f2, f3, f4, f5, f6, f7, fun _ => rfl, f9, f10, f12, o7_6, fun _ => h6, o11_6, o11_10⟩
   · obtain rfl := inj_ ho
     have h7 := aft_ haf 7 rfl
     exact op_extract _ _ rfl (hev.at_ 7 23 rfl rfl h7 f7) rfl ⟨_, rfl, AS, cS, FS, ga10, S, f0, f1, f2, f3, f4, f5, f6, f7, f8, fun _ => rfl, f10, f12, o7_6, o8_6, o11_6, o11_10⟩
   · obtain rfl := inj_ ho
     have nst := nofb hDi o11_10
     refine op_nxAt 31 rfl S 8 (by simp only [gs_, gz_, cnd_f hDi]) _ Try.zeroValue31 (fun g w S => ⟨_, rfl, AS, cS, FS, g, (by have e : updB D 10 11 = false := nst; rw [e]; exact S), f0, f1, f2, f3, f4, f5, f6, f7, f8, f9, fun _ => rfl, f12, o7_6, o8_6, o11_6, fun _ => rfl⟩)
   · obtain rfl := inj_ ho
     have h10 := aft_ haf 10 rfl
     have h8 := aft_ haf 8 rfl
     have h6 : D 6 = true := o8_6 h8
     have ha : D 10 = true := aft_ haf 10 rfl
     exact op_putR 31 _ _ rfl S 8 (g := ga10) (C := #[jI jZ 0, jI jZ 0, jI jZ 0, jI jZ 0, jI jZ 0, jI jZ 0, jI jZ 0, jI jZ 0, jI jZ 0, jI jZ 0, jI jZ 0, jS none 0 0, jI jZ 0, jI jZ 0, jI jZ 0, jI jZ 0]) (t := 31) (by simp only [gs_, gz_, cnd_t ha, cnd_f hDi]) (hev.at_ 10 9 rfl rfl h10 f10) _ (hev.at_ 8 31 rfl rfl h8 f8) rfl (by kernel_rfl) rfl (fun w S => ⟨_, rfl, AS, cS, FS, ga10, (by have e : updB D 11 10 = true := ha; rw [e]; exact S), f0, f1, f2, f3, f4, f5, f6, f7, f8, f9, f10, f12, o7_6, o8_6, fun _ => h6, fun _ => h10⟩)
   · obtain rfl := inj_ ho
     have h9 := aft_ haf 9 rfl
     exact op_move (.inr rfl) (hev.at_ 9 32 rfl rfl h9 f9) ⟨_, rfl, AS, cS, FS, ga10, S, f0, f1, f2, f3, f4, f5, f6, f7, f8, f9, f10, fun _ => rfl, o7_6, o8_6, o11_6, o11_10⟩
   · exact absurd ho (by simp)
 intro V w hI
 obtain ⟨AS, cS, FS, ga10, S, f0, f1, f2, f3, f4, f5, f6, f7, f8, f9, f10, f12, o7_6, o8_6, o11_6, o11_10⟩ := hI
 replace S : Hid (Sep noX w0 [bx go #[jI jZ r, jS AN n cN, jS (some ⟨gH, 0, none⟩) n1 cH, jS AD n2 cD, jI jZ now] 81, ow (jS AN n cN) ns FN, ow (jS (some ⟨gH, 0, none⟩) n1 cH) hs FH, ow (jS AD n2 cD) ds FD, bx rw #[jI jZ 0, jS none 0 0, jS none 0 0, jS none 0 0, jI jZ 0] 81, bx gc #[jI jZ cc, jI jZ ck, jI jZ cv] 25, bx gw #[jI jZ r, jS A n c, jS (some ⟨b, off, none⟩) n1 c1, jS A2 n2 c2, jI jZ now] 81, ow (jS AS ch.st.length cS) ch.st FS, bx ga10 #[jI jZ ch.pos, jI jZ ch.cc, jI jZ ch.ck, jI jZ ch.cv, jI jZ ch.cur, jI jZ ch.want, jI jZ ch.key, jI jZ ch.kid, jI jZ ch.old, jI jZ ch.next, jI jZ ch.new, jS AS ch.st.length cS, jI jZ ch.thn, jI jZ ch.beg, jI jZ ch.rep, jI jZ ch.out] 31] w) := Lib.hid S
 simp only [putF, Act.put, sa_, sb_, sc_, f0 rfl, f1 rfl, f2 rfl, f3 rfl, f4 rfl, f5 rfl, f6 rfl, f7 rfl, f8 rfl, f9 rfl, f10 rfl, f12 rfl]
 clear f0 f1 f2 f3 f4 f5 f6 f7 f8 f9 f10 f12 o7_6 o8_6 o11_6 o11_10
 by_cases hk9 : k9 = 0
 · have g1 : (k9 != 0) = false := by simp [hk9]
   by_cases hnow : now = 20000
   · have g2 : (now == 20000) = true := by simp [hnow]
     have hC : rC = 1 := by rw [DC.out, if_pos hk9, if_pos hnow]
     have hE : rW = ⟨r, ns, hs, ds, now⟩ := by rw [DW.out, hC]; rfl
     have HE := Lib.hid hE
     have HEC := Lib.hid hC
     clear hE hC hk9 hnow DC DW
     go_wp2_with (first
         | go_skip
         | (refine wpList_op rfl (op_get 2 _ rfl S.out 6 rfl _ rfl Try.isAgg2 _ rfl ?_))
         | (refine wpList_op rfl (op_row 81 _ rfl S.out 0 rfl rfl Try.isAgg81 (by kernel_rfl) ?_))
         | (refine wpList_op rfl (op_putR_4 81 _ _ rfl S rfl _ rfl rfl (by kernel_rfl) rfl ?_); clear S; intro w S))
     exact bodyPost_ret (results_cs rfl _ S.out 4 rfl rfl Try.isAgg81 (by kernel_rfl)) rfl (by rw [HE.out, HEC.out]; exact ⟨AN, cN, FN, some ⟨gH, 0, none⟩, cH, FH, AD, cD, FD, by unfold wdV; rw [LN.out, L1.out, L2.out]; rfl, S.out.ownW 1 2 3 (by omega) (by omega) (by omega) rfl rfl rfl LN.out L1.out L2.out, (S.out.ends 1 rfl).2.1, (S.out.ends 2 rfl).2.1, (S.out.ends 3 rfl).2.1, S.out.below⟩)
   · have g2 : (now == 20000) = false := by simp [hnow]
     have W1 : IntKind.i64.wrap (now + 1) = now + 1 := IntWalk.i64_in _ (by have := HQ5.out; omega)
     have hC : rC = 0 := by rw [DC.out, if_pos hk9, if_neg hnow]
     have hE : rW = ⟨r, ns, hs.set kk { ch with beg := now + 1 }, ds, now + 1⟩ := by rw [DW.out, if_pos hC]
     have HE := Lib.hid hE
     have HEC := Lib.hid hC
     have HK9 := Lib.hid hk9
     clear hE hC hk9 hnow DC DW
     go_wp2_with (first
         | go_skip
         | (refine wpList_op rfl (op_idx _ _ _ rfl 31 16 Try.underlying78 Try.sizeOf31 rfl (by rw [← HCC.out]; rfl) HKN.out ?_))
         | (refine wpList_op rfl (op_putEl 31 (by kernel_rfl) _ _ rfl S.out (C := #[jI jZ ch.pos, jI jZ ch.cc, jI jZ ch.ck, jI jZ ch.cv, jI jZ ch.cur, jI jZ ch.want, jI jZ ch.key, jI jZ ch.kid, jI jZ ch.old, jI jZ ch.next, jI jZ ch.new, jS AS ch.st.length cS, jI jZ ch.thn, jI jZ (now + 1), jI jZ ch.rep, jI jZ ch.out]) (J := ow (jS AS ch.st.length cS) ch.st FS) ({ ch with beg := now + 1 }) 2 7 (by omega) rfl rfl (el_hand { ch with beg := now + 1 } AS cS FS) (by simp [Value.oneCell']) HKN.out rfl (by show _ = kk * 16; omega) rfl ?_); clear S; intro w S; replace S : Hid (Sep noX w0 [bx go #[jI jZ r, jS AN n cN, jS (some ⟨gH, 0, none⟩) n1 cH, jS AD n2 cD, jI jZ (now + 1)] 81, ow (jS AN n cN) ns FN, ow (jS (some ⟨gH, 0, none⟩) n1 cH) (hs.set kk { ch with beg := now + 1 }) (fun q => FH q ∨ FS q), ow (jS AD n2 cD) ds FD, bx rw #[jI jZ 0, jS none 0 0, jS none 0 0, jS none 0 0, jI jZ 0] 81, bx gc #[jI jZ cc, jI jZ ck, jI jZ cv] 25, bx gw #[jI jZ r, jS A n c, jS (some ⟨b, off, none⟩) n1 c1, jS A2 n2 c2, jI jZ now] 81, em, bx ga10 #[jI jZ ch.pos, jI jZ ch.cc, jI jZ ch.ck, jI jZ ch.cv, jI jZ ch.cur, jI jZ ch.want, jI jZ ch.key, jI jZ ch.kid, jI jZ ch.old, jI jZ ch.next, jI jZ ch.new, jS AS ch.st.length cS, jI jZ ch.thn, jI jZ (now + 1), jI jZ ch.rep, jI jZ ch.out] 31] w) := Lib.hid S)
         | (refine wpList_op rfl (op_get 2 _ rfl S.out 6 rfl _ rfl Try.isAgg2 _ rfl ?_))
         | (refine wpList_op rfl (op_get 2 _ rfl S.out 0 rfl _ rfl Try.isAgg2 _ rfl ?_))
         | (refine wpList_op rfl (op_put1_0 2 _ _ rfl S _ rfl _ rfl rfl (by kernel_rfl) (of_decide_eq_true rfl) ?_); clear S; intro w S)
         | (refine wpList_op rfl (op_put1_8 2 _ _ rfl S _ rfl _ rfl rfl (by kernel_rfl) (of_decide_eq_true rfl) ?_); clear S; intro w S)
         | (refine wpList_op rfl (op_get 78 _ rfl S.out 0 rfl _ rfl Try.isAgg78 _ rfl ?_))
         | (refine wpList_op rfl (op_row 31 _ rfl S.out 8 rfl rfl Try.isAgg31 (by kernel_rfl) ?_))
         | (refine wpList_op rfl (op_row 81 _ rfl S.out 0 rfl rfl Try.isAgg81 (by kernel_rfl) ?_))
         | (refine wpList_op rfl (op_putR_4 81 _ _ rfl S rfl _ rfl rfl (by kernel_rfl) rfl ?_); clear S; intro w S))
     exact bodyPost_ret (results_cs rfl _ S.out 4 rfl rfl Try.isAgg81 (by kernel_rfl)) rfl (by rw [HE.out, HEC.out]; exact ⟨AN, cN, FN, some ⟨gH, 0, none⟩, cH, _, AD, cD, FD, by unfold wdV; rw [HK9.out]; simp only [List.length_set, LN.out, L1.out, L2.out]; rfl, S.out.ownW 1 2 3 (by omega) (by omega) (by omega) rfl rfl rfl LN.out (by simp only [List.length_set]; exact L1.out) L2.out, (S.out.ends 1 rfl).2.1, (S.out.ends 2 rfl).2.1, (S.out.ends 3 rfl).2.1, S.out.below⟩)
 · have g1 : (k9 != 0) = true := by simp [hk9]
   have hC : rC = k9 := by rw [DC.out, if_neg hk9]
   have hE : rW = ⟨r, ns, hs, ds, now⟩ := by rw [DW.out, hC, if_neg hk9]
   have HE := Lib.hid hE
   have HEC := Lib.hid hC
   clear hE hC hk9 DC DW
   go_wp2_with (first
       | go_skip
       | (refine wpList_op rfl (op_row 81 _ rfl S.out 0 rfl rfl Try.isAgg81 (by kernel_rfl) ?_))
       | (refine wpList_op rfl (op_putR_4 81 _ _ rfl S rfl _ rfl rfl (by kernel_rfl) rfl ?_); clear S; intro w S))
   exact bodyPost_ret (results_cs rfl _ S.out 4 rfl rfl Try.isAgg81 (by kernel_rfl)) rfl (by rw [HE.out, HEC.out]; exact ⟨AN, cN, FN, some ⟨gH, 0, none⟩, cH, FH, AD, cD, FD, by unfold wdV; rw [LN.out, L1.out, L2.out]; rfl, S.out.ownW 1 2 3 (by omega) (by omega) (by omega) rfl rfl rfl LN.out L1.out L2.out, (S.out.ends 1 rfl).2.1, (S.out.ends 2 rfl).2.1, (S.out.ends 3 rfl).2.1, S.out.below⟩)

theorem sAsked_any (W : Wd) (A : Option Addr) (n c : Nat) (A1 : Option Addr) (n1 c1 : Nat) (A2 : Option Addr) (n2 c2 : Nat) (who cc ck cv : Int) (w0 : World) (hW : IsW w0 w0.heap.size W A n A1 n1 A2 n2) :
   Calls Try.prog 70 #[.agg #[jI jZ W.root, jS A n c, jS A1 n1 c1, jS A2 n2 c2, jI jZ W.now], jI jZ who, .agg #[jI jZ cc, jI jZ ck, jI jZ cv]] w0 (GivesWI w0 (askedW W who cc ck cv) (askedC W who cc ck cv)) := by
 by_cases hk : worldOk W = true
 · by_cases hw : hasB n1 who = true
   · exact asked_go W A n c A1 n1 c1 A2 n2 c2 who cc ck cv w0 hW hk hw
   · exact asked_no1 W A n c A1 n1 c1 A2 n2 c2 who cc ck cv w0 hW hk (by simpa using hw)
 · exact asked_no0 W A n c A1 n1 c1 A2 n2 c2 who cc ck cv w0 hW (by simpa using hk)
end Go.Proofs.Ytjookicpmjmdhaa
