/- The walk of the model's Alone. (Made by genY28.py.) -/
import Derived.Test.YtpffkhjegpddbaaGreatV43
import Derived.Test.YtpffkhjegpddbaaGreatV22
import Derived.Test.YtpffkhjegpddbaaGreatV25
open Go.Value renaming int → jI, slice → jS
open Go.IntKind renaming i64 → jZ
namespace Go.Proofs.YtpffkhjegpddbaaGreat
open Go.RowKit

set_option maxRecDepth 100000 in
set_option maxHeartbeats 16000000 in
theorem alone_no0 (W : Wd) (A : Option Addr) (n c : Nat) (A1 : Option Addr) (n1 c1 : Nat) (A2 : Option Addr) (n2 c2 : Nat) (who most : Int) (w0 : World) (hW : IsW w0 w0.heap.size W A n A1 n1 A2 n2) (hk : worldOk W = false) :
   Calls Tryz.prog 49 #[.agg #[jI jZ W.root, jS A n c, jS A1 n1 c1, jS A2 n2 c2, jI jZ W.now], jI jZ who, jI jZ most] w0 (GivesWI w0 (aloneW W who most) (aloneN W who most)) := by
 have l1 : W.hs.length = n1 := hW.hs.1
 have e1 : aloneW W who most = zeroW := by unfold aloneW; rw [l1, hk]; rfl
 have e2 : aloneN W who most = -1 := by unfold aloneN; rw [l1, hk]; rfl
 rw [e1, e2]
 have WK := Lib.hid (fun w hW => sWorldOk_any W A n c A1 n1 c1 A2 n2 c2 w hW)
 have TA := Lib.hid (fun w => task_any W.root W.now who A n c A1 n1 c1 A2 n2 c2 w hW.h1)
 have HW := Lib.hid hW
 rw [hk] at WK
 obtain ⟨r, hr⟩ : ∃ r, r = W.root := ⟨_, rfl⟩
 obtain ⟨now, hnow⟩ : ∃ now, now = W.now := ⟨_, rfl⟩
 rw [← hr, ← hnow] at WK TA
 rw [← hr, ← hnow]
 clear e1 e2 l1 hW hk hr hnow
 have S := Lib.hid (Sep.start noX w0)
 have tok0 : True := trivial
 have tok1 : True := trivial
 go_enter Tryz.func49, Tryz.ntmps49
 go_wp2_with (first
     | go_skip
     | (clear tok0; refine bx_ 62 S rfl rfl rfl ?_; clear S; intro gw w S)
     | (clear tok1; refine nx_ 62 S rfl rfl Tryz.zeroValue62 ?_; clear S; intro rw w S)
     | (refine wpList_op rfl (op_row 62 _ rfl S.out 1 rfl rfl Tryz.isAgg62 (by kernel_rfl) ?_)))
 refine (WK.out _ (HW.out.on S.out.below)).mono ?_
 rintro e w ⟨rfl, b⟩
 replace S := Lib.hid (S.out.call b)
 clear b
 go_wp2_with (first
     | go_skip
     | (refine wpList_op rfl (op_build 62 _ rfl [] rfl #[jI jZ 0, jS none 0 0, jS none 0 0, jS none 0 0, jI jZ 0] (by kernel_rfl) ?_))
     | (refine wpList_op rfl (op_putR_0 62 _ _ rfl S rfl _ rfl rfl (by kernel_rfl) rfl ?_); clear S; intro w S))
 exact bodyPost_ret (results_cs rfl _ S.out 0 rfl rfl Tryz.isAgg62 (by kernel_rfl)) rfl (by exact zero_WI S.out.below (-1))

set_option maxRecDepth 100000 in
set_option maxHeartbeats 16000000 in
theorem alone_no1 (W : Wd) (A : Option Addr) (n c : Nat) (A1 : Option Addr) (n1 c1 : Nat) (A2 : Option Addr) (n2 c2 : Nat) (who most : Int) (w0 : World) (hW : IsW w0 w0.heap.size W A n A1 n1 A2 n2) (hk : worldOk W = true) (hw : hasB n1 who = false) :
   Calls Tryz.prog 49 #[.agg #[jI jZ W.root, jS A n c, jS A1 n1 c1, jS A2 n2 c2, jI jZ W.now], jI jZ who, jI jZ most] w0 (GivesWI w0 (aloneW W who most) (aloneN W who most)) := by
 have l1 : W.hs.length = n1 := hW.hs.1
 have e1 : aloneW W who most = zeroW := by unfold aloneW; rw [l1, hk]; rw [hw]; rfl
 have e2 : aloneN W who most = -1 := by unfold aloneN; rw [l1, hk]; rw [hw]; rfl
 rw [e1, e2]
 have WK := Lib.hid (fun w hW => sWorldOk_any W A n c A1 n1 c1 A2 n2 c2 w hW)
 have TA := Lib.hid (fun w => task_any W.root W.now who A n c A1 n1 c1 A2 n2 c2 w hW.h1)
 have HW := Lib.hid hW
 rw [hk] at WK
 rw [hw] at TA
 obtain ⟨r, hr⟩ : ∃ r, r = W.root := ⟨_, rfl⟩
 obtain ⟨now, hnow⟩ : ∃ now, now = W.now := ⟨_, rfl⟩
 rw [← hr, ← hnow] at WK TA
 rw [← hr, ← hnow]
 clear e1 e2 l1 hW hk hw hr hnow
 have S := Lib.hid (Sep.start noX w0)
 have tok0 : True := trivial
 have tok1 : True := trivial
 go_enter Tryz.func49, Tryz.ntmps49
 go_wp2_with (first
     | go_skip
     | (clear tok0; refine bx_ 62 S rfl rfl rfl ?_; clear S; intro gw w S)
     | (clear tok1; refine nx_ 62 S rfl rfl Tryz.zeroValue62 ?_; clear S; intro rw w S)
     | (refine wpList_op rfl (op_row 62 _ rfl S.out 1 rfl rfl Tryz.isAgg62 (by kernel_rfl) ?_)))
 refine (WK.out _ (HW.out.on S.out.below)).mono ?_
 rintro e w ⟨rfl, b⟩
 replace S := Lib.hid (S.out.call b)
 clear b
 go_wp2_with (first
     | go_skip
     | (refine wpList_op rfl (op_row 62 _ rfl S.out 1 rfl rfl Tryz.isAgg62 (by kernel_rfl) ?_)))
 refine (TA.out _).mono ?_
 rintro e w ⟨rfl, b⟩
 replace S := Lib.hid (S.out.call b)
 clear b
 go_wp2_with (first
     | go_skip
     | (refine wpList_op rfl (op_build 62 _ rfl [] rfl #[jI jZ 0, jS none 0 0, jS none 0 0, jS none 0 0, jI jZ 0] (by kernel_rfl) ?_))
     | (refine wpList_op rfl (op_putR_0 62 _ _ rfl S rfl _ rfl rfl (by kernel_rfl) rfl ?_); clear S; intro w S))
 exact bodyPost_ret (results_cs rfl _ S.out 0 rfl rfl Tryz.isAgg62 (by kernel_rfl)) rfl (by exact zero_WI S.out.below (-1))

set_option maxRecDepth 100000 in
set_option maxHeartbeats 16000000 in
theorem alone_out (W : Wd) (A : Option Addr) (n c : Nat) (A1 : Option Addr) (n1 c1 : Nat) (A2 : Option Addr) (n2 c2 : Nat) (who most : Int) (w0 : World) (hW : IsW w0 w0.heap.size W A n A1 n1 A2 n2) (hk : worldOk W = true) (hw : hasB n1 who = true) (hm : inB most 0 20000 = false) :
   Calls Tryz.prog 49 #[.agg #[jI jZ W.root, jS A n c, jS A1 n1 c1, jS A2 n2 c2, jI jZ W.now], jI jZ who, jI jZ most] w0 (GivesWI w0 (aloneW W who most) (aloneN W who most)) := by
 have e1 : aloneW W who most = W := by unfold aloneW; rw [show W.hs.length = n1 from hW.hs.1, hk, hw, hm]; rfl
 have e2 : aloneN W who most = -1 := by unfold aloneN; rw [show W.hs.length = n1 from hW.hs.1, hk, hw, hm]; rfl
 rw [e1, e2]
 have l1 : W.hs.length = n1 := hW.hs.1
 obtain ⟨q1, q2, q3, q4, q5, q6⟩ := world_of hk
 obtain ⟨h0, h1⟩ := (hasB_iff n1 who).1 hw
 obtain ⟨kk, rfl⟩ : ∃ kk : Nat, who = kk := ⟨who.toNat, by omega⟩
 have hkn : kk < n1 := by omega
 have hst : ∀ i, i < n1 → (hdAt W.hs i).st.length ≤ 1048576 := fun i hi => by have := hand_stack (q6 i (by omega)).1; omega
 have CT := Lib.hid (fun w hW => copyW_any W A n c A1 n1 c1 A2 n2 c2 w hW hst)
 have L1 := Lib.hid l1
 have HKN := Lib.hid hkn
 have HOK := Lib.hid hk
 have WK := Lib.hid (fun w hW => sWorldOk_any W A n c A1 n1 c1 A2 n2 c2 w hW)
 have TA := Lib.hid (fun w => task_any W.root W.now kk A n c A1 n1 c1 A2 n2 c2 w hW.h1)
 have HW := Lib.hid hW
 rw [hk] at WK
 rw [hw] at TA
 unfold GivesW wdV at CT
 unfold GivesWI wdV
 have NK := Lib.hid (fun w => now_any most w)
 rw [hm] at NK
 clear e1 e2 hk hw hst q1 q2 q3 q4 q5 q6 h0 h1 hkn l1 hW hm
 have S := Lib.hid (Sep.start noX w0)
 have tok6 : True := trivial
 have tok0 : True := trivial
 have tok1 : True := trivial
 go_enter Tryz.func49, Tryz.ntmps49
 go_wp2_with (first
     | go_skip
     | (clear tok0; refine bx_ 62 S rfl rfl rfl ?_; clear S; intro gw w S)
     | (clear tok1; refine nx_ 62 S rfl rfl Tryz.zeroValue62 ?_; clear S; intro rw w S)
     | (refine wpList_op rfl (op_row 62 _ rfl S.out 1 rfl rfl Tryz.isAgg62 (by kernel_rfl) ?_)))
 refine (WK.out _ (HW.out.on S.out.below)).mono ?_
 rintro e w ⟨rfl, b⟩
 replace S := Lib.hid (S.out.call b)
 clear b
 go_wp2_with (first
     | go_skip
     | (refine wpList_op rfl (op_row 62 _ rfl S.out 1 rfl rfl Tryz.isAgg62 (by kernel_rfl) ?_)))
 refine (TA.out _).mono ?_
 rintro e w ⟨rfl, b⟩
 replace S := Lib.hid (S.out.call b)
 clear b
 go_wp2_with (first
     | go_skip
     | (refine wpList_op rfl (op_row 62 _ rfl S.out 1 rfl rfl Tryz.isAgg62 (by kernel_rfl) ?_)))
 refine (CT.out _ (HW.out.on S.out.below)).mono ?_
 rintro e w ⟨AN, cN, FN, AH, cH, FH, AD, cD, FD, rfl, ⟨o1, o2, o3, a1, a2, a3⟩, f1, f2, f3, b9⟩
 obtain ⟨gH, rfl⟩ : ∃ gH, AH = some ⟨gH, 0, none⟩ := by
   obtain ⟨g9, cap, _, _, _, _, hv, _⟩ := OwnS.open o2 kk (by rw [L1.out]; exact HKN.out)
   refine ⟨g9, ?_⟩
   simp only [Value.slice.injEq] at hv
   exact hv.1
 replace S := Lib.hid (S.out.gain3 b9 (ow (jS AN W.ns.length cN) W.ns FN) (ow (jS (some ⟨gH, 0, none⟩) W.hs.length cH) W.hs FH) (ow (jS AD W.ds.length cD) W.ds FD) o1 o2 o3 f1 f2 f3 a1 a2 a3)
 clear o1 o2 o3 a1 a2 a3 f1 f2 f3 b9
 go_wp2_with (first
     | go_skip
     | (clear tok6; refine nx_ 62 S rfl rfl Tryz.zeroValue62 ?_; clear S; intro go w S)
     | (refine wpList_op rfl (op_putR_0 62 _ _ rfl S rfl _ rfl rfl (by kernel_rfl) rfl ?_); clear S; intro w S))
 refine (NK.out _).mono ?_
 rintro e w9 ⟨rfl, rfl⟩
 go_wp2_with (first
     | go_skip
     | (refine wpList_op rfl (op_row 62 _ rfl S.out 0 rfl rfl Tryz.isAgg62 (by kernel_rfl) ?_))
     | (refine wpList_op rfl (op_putR_4 62 _ _ rfl S rfl _ rfl rfl (by kernel_rfl) rfl ?_); clear S; intro w S))
 exact bodyPost_ret (results_cs rfl _ S.out 4 rfl rfl Tryz.isAgg62 (by kernel_rfl)) rfl (by exact ⟨AN, cN, FN, some ⟨gH, 0, none⟩, cH, FH, AD, cD, FD, rfl, S.out.ownW 1 2 3 (by omega) (by omega) (by omega) rfl rfl rfl rfl rfl rfl, (S.out.ends 1 rfl).2.1, (S.out.ends 2 rfl).2.1, (S.out.ends 3 rfl).2.1, S.out.below⟩)

set_option maxRecDepth 100000 in
set_option maxHeartbeats 16000000 in
theorem alone_go (W : Wd) (A : Option Addr) (n c : Nat) (A1 : Option Addr) (n1 c1 : Nat) (A2 : Option Addr) (n2 c2 : Nat) (who most : Int) (w0 : World) (hW : IsW w0 w0.heap.size W A n A1 n1 A2 n2) (hk : worldOk W = true) (hw : hasB n1 who = true) (hm : inB most 0 20000 = true) :
   Calls Tryz.prog 49 #[.agg #[jI jZ W.root, jS A n c, jS A1 n1 c1, jS A2 n2 c2, jI jZ W.now], jI jZ who, jI jZ most] w0 (GivesWI w0 (aloneW W who most) (aloneN W who most)) := by
 obtain ⟨M, rfl⟩ : ∃ M : Nat, most = M := ⟨most.toNat, by unfold inB at hm; simp at hm; omega⟩
 have hM : M ≤ 20000 := by unfold inB at hm; simp at hm; omega
 have e1 : aloneW W who M = (aloneF who.toNat M W).1 := by unfold aloneW; rw [show W.hs.length = n1 from hW.hs.1, hk, hw, hm]; rfl
 have e2 : aloneN W who M = ((aloneF who.toNat M W).2 : Int) := by unfold aloneN; rw [show W.hs.length = n1 from hW.hs.1, hk, hw, hm]; rfl
 rw [e1, e2]
 have l1 : W.hs.length = n1 := hW.hs.1
 obtain ⟨q1, q2, q3, q4, q5, q6⟩ := world_of hk
 obtain ⟨h0, h1⟩ := (hasB_iff n1 who).1 hw
 obtain ⟨kk, rfl⟩ : ∃ kk : Nat, who = kk := ⟨who.toNat, by omega⟩
 have hkn : kk < n1 := by omega
 have hst : ∀ i, i < n1 → (hdAt W.hs i).st.length ≤ 1048576 := fun i hi => by have := hand_stack (q6 i (by omega)).1; omega
 have CT := Lib.hid (fun w hW => copyW_any W A n c A1 n1 c1 A2 n2 c2 w hW hst)
 have L1 := Lib.hid l1
 have HKN := Lib.hid hkn
 have HOK := Lib.hid hk
 have WK := Lib.hid (fun w hW => sWorldOk_any W A n c A1 n1 c1 A2 n2 c2 w hW)
 have TA := Lib.hid (fun w => task_any W.root W.now kk A n c A1 n1 c1 A2 n2 c2 w hW.h1)
 have HW := Lib.hid hW
 rw [hk] at WK
 rw [hw] at TA
 unfold GivesW wdV at CT
 unfold GivesWI wdV
 rw [show ((kk : Int)).toNat = kk by omega]
 have NK := Lib.hid (fun w => now_any M w)
 rw [hm] at NK
 have HM := Lib.hid hM
 generalize hR : aloneF kk M W = R at *
 have HR0 := Lib.hid hR
 clear e1 e2 hk hw hst q1 q2 q3 q4 q5 q6 h0 h1 hkn l1 hW hm hM hR
 have S := Lib.hid (Sep.start noX w0)
 have tok6 : True := trivial
 have tok0 : True := trivial
 have tok1 : True := trivial
 go_enter Tryz.func49, Tryz.ntmps49
 go_wp2_with (first
     | go_skip
     | (clear tok0; refine bx_ 62 S rfl rfl rfl ?_; clear S; intro gw w S)
     | (clear tok1; refine nx_ 62 S rfl rfl Tryz.zeroValue62 ?_; clear S; intro rw w S)
     | (refine wpList_op rfl (op_row 62 _ rfl S.out 1 rfl rfl Tryz.isAgg62 (by kernel_rfl) ?_)))
 refine (WK.out _ (HW.out.on S.out.below)).mono ?_
 rintro e w ⟨rfl, b⟩
 replace S := Lib.hid (S.out.call b)
 clear b
 go_wp2_with (first
     | go_skip
     | (refine wpList_op rfl (op_row 62 _ rfl S.out 1 rfl rfl Tryz.isAgg62 (by kernel_rfl) ?_)))
 refine (TA.out _).mono ?_
 rintro e w ⟨rfl, b⟩
 replace S := Lib.hid (S.out.call b)
 clear b
 go_wp2_with (first
     | go_skip
     | (refine wpList_op rfl (op_row 62 _ rfl S.out 1 rfl rfl Tryz.isAgg62 (by kernel_rfl) ?_)))
 refine (CT.out _ (HW.out.on S.out.below)).mono ?_
 rintro e w ⟨AN, cN, FN, AH, cH, FH, AD, cD, FD, rfl, ⟨o1, o2, o3, a1, a2, a3⟩, f1, f2, f3, b9⟩
 obtain ⟨gH, rfl⟩ : ∃ gH, AH = some ⟨gH, 0, none⟩ := by
   obtain ⟨g9, cap, _, _, _, _, hv, _⟩ := OwnS.open o2 kk (by rw [L1.out]; exact HKN.out)
   refine ⟨g9, ?_⟩
   simp only [Value.slice.injEq] at hv
   exact hv.1
 replace S := Lib.hid (S.out.emI.gain3 b9 (ow (jS AN W.ns.length cN) W.ns FN) (ow (jS (some ⟨gH, 0, none⟩) W.hs.length cH) W.hs FH) (ow (jS AD W.ds.length cD) W.ds FD) o1 o2 o3 f1 f2 f3 a1 a2 a3)
 clear o1 o2 o3 a1 a2 a3 f1 f2 f3 b9 CT WK TA HW
 go_wp2_with (first
     | go_skip
     | (have _t := tok6; clear _t; refine wpList_op rfl (op_nxAt 62 rfl S.out 3 rfl _ Tryz.zeroValue62 ?_); clear S tok6; intro go w S; replace S : Hid (Sep noX w0 [ow (jS AN W.ns.length cN) W.ns FN, ow (jS (some ⟨gH, 0, none⟩) W.hs.length cH) W.hs FH, ow (jS AD W.ds.length cD) W.ds FD, bx go #[jI jZ 0, jS none 0 0, jS none 0 0, jS none 0 0, jI jZ 0] 62, bx rw #[jI jZ 0, jS none 0 0, jS none 0 0, jS none 0 0, jI jZ 0] 62, bx gw #[jI jZ W.root, jS A n c, jS A1 n1 c1, jS A2 n2 c2, jI jZ W.now] 62] w) := Lib.hid S)
     | (refine wpList_op rfl (op_putR_3 62 _ _ rfl S rfl _ rfl rfl (by kernel_rfl) rfl ?_); clear S; intro w S))
 refine (NK.out _).mono ?_
 rintro e w9 ⟨rfl, rfl⟩
 go_wp2_with fail
 go_loopw [9] (fun i wr => ∃ (k : Nat) (V : Wd) (AN : Option Addr) (cN : Nat) (FN : FP) (gH cH : Nat) (FH : FP) (AD : Option Addr) (cD : Nat) (FD : FP), i = jI jZ k ∧ k ≤ M ∧ Hid (worldOk V = true ∧ V.hs.length = n1 ∧ R = ((aloneF kk (M - k) V).1, (aloneF kk (M - k) V).2 + k)) ∧ Hid (Sep noX w0 [ow (jS AN V.ns.length cN) V.ns FN, ow (jS (some ⟨gH, 0, none⟩) V.hs.length cH) V.hs FH, ow (jS AD V.ds.length cD) V.ds FD, bx go #[jI jZ V.root, jS AN V.ns.length cN, jS (some ⟨gH, 0, none⟩) V.hs.length cH, jS AD V.ds.length cD, jI jZ V.now] 62, bx rw #[jI jZ 0, jS none 0 0, jS none 0 0, jS none 0 0, jI jZ 0] 62, bx gw #[jI jZ W.root, jS A n c, jS A1 n1 c1, jS A2 n2 c2, jI jZ W.now] 62] wr)) (fun i _ => M - (intOf i).toNat)
 case atStart => exact ⟨0, W, AN, cN, FN, gH, cH, FH, AD, cD, FD, rfl, by omega, Lib.hid ⟨HOK.out, L1.out, by rw [← HR0.out]; rfl⟩, S⟩
 case round =>
   clear S
   obtain ⟨k, V, AN, cN, FN, gH, cH, FH, AD, cD, FD, rfl, hkM, hv, S⟩ := hrel
   have hM := HM.out
   by_cases hlt : k < M
   · obtain ⟨b, off, hA, hb, A3, n3, c3, hcc, _⟩ := RS.hdAt (OwnS.rs (S.out.get 1 rfl : OwnS wr (jS (some ⟨gH, 0, none⟩) V.hs.length cH) V.hs FH) rfl) kk (by rw [hv.out.2.1]; exact HKN.out)
     obtain ⟨rfl, rfl⟩ : gH = b ∧ 0 = off := by simpa using hA
     have hc0 : wr.cell? ⟨gH, kk * 16, none⟩ = some (jI jZ (hdAt V.hs kk).pos) := by have := hcc 0 _ rfl; simpa using this
     have HC0 := Lib.hid hc0
     have HKV : Hid (kk < V.hs.length) := Lib.hid (by rw [hv.out.2.1]; exact HKN.out)
     have d1 : decide ((k : Int) < (M : Int)) = true := by rw [decide_eq_true_eq]; omega
     have HLT := Lib.hid hlt
     clear hA hb hcc hc0
     by_cases hp : (hdAt V.hs kk).pos = 0
     · have g1 : ((hdAt V.hs kk).pos != 0) = false := by simp [hp]
       have hE : R = (V, k) := by rw [hv.out.2.2, alone_rest hp]; simp
       have HE := Lib.hid hE
       clear hp hE
       go_wp2_with (first
           | go_skip
           | (refine wpList_op rfl (op_idx _ _ _ rfl 88 16 Tryz.underlying59 Tryz.sizeOf88 (k := kk) rfl rfl HKV.out ?_))
           | (refine wpList_op rfl (op_cell 2 _ rfl rfl Tryz.isAgg2 HC0.out ?_))
           | (refine wpList_op rfl (op_get 59 _ rfl S.out 3 rfl _ rfl Tryz.isAgg59 _ rfl ?_))
           | (refine wpList_op rfl (op_row 62 _ rfl S.out 3 rfl rfl Tryz.isAgg62 (by kernel_rfl) ?_))
           | (refine wpList_op rfl (op_putR_4 62 _ _ rfl S rfl _ rfl rfl (by kernel_rfl) rfl ?_); clear S; intro w S))
       exact bodyPost_ret (results_cs rfl _ S.out 4 rfl rfl Tryz.isAgg62 (by kernel_rfl)) rfl (by rw [HE.out]; exact ⟨AN, cN, FN, some ⟨gH, 0, none⟩, cH, FH, AD, cD, FD, rfl, S.out.ownW 0 1 2 (by omega) (by omega) (by omega) rfl rfl rfl rfl rfl rfl, (S.out.ends 0 rfl).2.1, (S.out.ends 1 rfl).2.1, (S.out.ends 2 rfl).2.1, S.out.below⟩)
     · have g1 : ((hdAt V.hs kk).pos != 0) = true := by simp [hp]
       have HP := Lib.hid hp
       have SW := Lib.hid (stepW_any V AN V.ns.length cN (some ⟨gH, 0, none⟩) V.hs.length cH AD V.ds.length cD kk wr (isW_own hv.out.1 (S.out.get 0 rfl) (S.out.get 1 rfl) (S.out.get 2 rfl)) hv.out.1 HKV.out)
       unfold GivesWB wdV at SW
       clear hp
       go_wp2_with (first
           | go_skip
           | (refine wpList_op rfl (op_idx _ _ _ rfl 88 16 Tryz.underlying59 Tryz.sizeOf88 (k := kk) rfl rfl HKV.out ?_))
           | (refine wpList_op rfl (op_cell 2 _ rfl rfl Tryz.isAgg2 HC0.out ?_))
           | (refine wpList_op rfl (op_get 59 _ rfl S.out 3 rfl _ rfl Tryz.isAgg59 _ rfl ?_))
           | (refine wpList_op rfl (op_row 62 _ rfl S.out 3 rfl rfl Tryz.isAgg62 (by kernel_rfl) ?_)))
       refine SW.out.mono ?_
       clear SW
       rintro e w ⟨A5, c5, F5, A6, c6, F6, A7, c7, F7, rfl, ⟨o1, o2, o3, a1, a2, a3⟩, f1, f2, f3, b9⟩
       replace S := Lib.hid (S.out.gain3 b9 (ow (jS A5 (stepW V kk).ns.length c5) (stepW V kk).ns F5) (ow (jS A6 (stepW V kk).hs.length c6) (stepW V kk).hs F6) (ow (jS A7 (stepW V kk).ds.length c7) (stepW V kk).ds F7) o1 o2 o3 f1 f2 f3 a1 a2 a3)
       clear o1 o3 a1 a2 a3 f1 f2 f3 b9
       have tok7 : True := trivial
       by_cases hs : stepsB V kk = true
       · obtain ⟨w1, w2⟩ := stepW_ok hv.out.1 HKV.out hs
         obtain ⟨g6, rfl⟩ : ∃ g6, A6 = some ⟨g6, 0, none⟩ := by
           obtain ⟨g9, cap, _, _, _, _, hv, _⟩ := OwnS.open o2 kk (by rw [w2]; exact HKV.out)
           refine ⟨g9, ?_⟩
           simp only [Value.slice.injEq] at hv
           exact hv.1
         have hR : R = ((aloneF kk (M - (k + 1)) (stepW V kk)).1, (aloneF kk (M - (k + 1)) (stepW V kk)).2 + (k + 1)) := by
           rw [hv.out.2.2, show M - k = (M - (k + 1)) + 1 by have := HLT.out; omega, alone_step HP.out hs]
           simp only [Prod.mk.injEq, true_and]
           omega
         have HV2 : Hid (worldOk (stepW V kk) = true ∧ (stepW V kk).hs.length = n1 ∧ R = ((aloneF kk (M - (k + 1)) (stepW V kk)).1, (aloneF kk (M - (k + 1)) (stepW V kk)).2 + (k + 1))) := Lib.hid ⟨w1, by rw [w2]; exact hv.out.2.1, hR⟩
         have W1 : IntKind.i64.wrap ((k : Int) + 1) = (k : Int) + 1 := IntWalk.i64_in _ (by have := HLT.out; omega)
         clear o2 w1 w2 hR hv
         generalize stepW V kk = V2 at *
         go_wp2_with (first
             | go_skip
             | (clear tok7; refine nx_ 62 S rfl rfl Tryz.zeroValue62 ?_; clear S; intro gx w S)
             | (refine wpList_op rfl (op_putR_0 62 _ _ rfl S rfl _ rfl rfl (by kernel_rfl) rfl ?_); clear S; intro w S)
             | (refine wpList_op rfl (op_row 62 _ rfl S.out 0 rfl rfl Tryz.isAgg62 (by kernel_rfl) ?_))
             | (refine wpList_op rfl (op_putR_7 62 _ _ rfl S rfl _ rfl rfl (by kernel_rfl) rfl ?_); clear S; intro w S))
         replace S : Hid (Sep noX w0 [ow (jS A5 V2.ns.length c5) V2.ns F5, ow (jS (some ⟨g6, 0, none⟩) V2.hs.length c6) V2.hs F6, ow (jS A7 V2.ds.length c7) V2.ds F7, bx go #[jI jZ V2.root, jS A5 V2.ns.length c5, jS (some ⟨g6, 0, none⟩) V2.hs.length c6, jS A7 V2.ds.length c7, jI jZ V2.now] 62, bx rw #[jI jZ 0, jS none 0 0, jS none 0 0, jS none 0 0, jI jZ 0] 62, bx gw #[jI jZ W.root, jS A n c, jS A1 n1 c1, jS A2 n2 c2, jI jZ W.now] 62] w) := Lib.hid (S.out.drop (List.Sublist.cons _ (List.Sublist.cons_cons _ (List.Sublist.cons_cons _ (List.Sublist.cons_cons _ (List.Sublist.cons _ (List.Sublist.cons _ (List.Sublist.cons _ (List.Sublist.refl _)))))))))
         go_roundw
         case rel => exact ⟨k + 1, V2, A5, c5, F5, g6, c6, F6, A7, c7, F7, by go_num, by have := HLT.out; omega, HV2, S⟩
         case measure => simp [intOf]; have := HLT.out; omega
       · have hs : stepsB V kk = false := by simpa using hs
         have hE : R = (V, k) := by rw [hv.out.2.2, alone_stands hs]; simp
         have HE := Lib.hid hE
         clear hE o2
         go_wp2_with (first
             | go_skip
             | (clear tok7; refine nx_ 62 S rfl rfl Tryz.zeroValue62 ?_; clear S; intro gx w S)
             | (refine wpList_op rfl (op_putR_0 62 _ _ rfl S rfl _ rfl rfl (by kernel_rfl) rfl ?_); clear S; intro w S)
             | (refine wpList_op rfl (op_row 62 _ rfl S.out 7 rfl rfl Tryz.isAgg62 (by kernel_rfl) ?_))
             | (refine wpList_op rfl (op_putR_8 62 _ _ rfl S rfl _ rfl rfl (by kernel_rfl) rfl ?_); clear S; intro w S))
         exact bodyPost_ret (results_cs rfl _ S.out 8 rfl rfl Tryz.isAgg62 (by kernel_rfl)) rfl (by rw [HE.out]; exact ⟨AN, cN, FN, some ⟨gH, 0, none⟩, cH, FH, AD, cD, FD, rfl, S.out.ownW 4 5 6 (by omega) (by omega) (by omega) rfl rfl rfl rfl rfl rfl, (S.out.ends 4 rfl).2.1, (S.out.ends 5 rfl).2.1, (S.out.ends 6 rfl).2.1, S.out.below⟩)
   · obtain rfl : k = M := by omega
     have hE : R = (V, k) := by rw [hv.out.2.2, Nat.sub_self]; simp [aloneF]
     have d1 : decide ((k : Int) < (k : Int)) = false := by rw [decide_eq_false_iff_not]; omega
     have HE := Lib.hid hE
     clear hE hlt hkM
     go_wp2_with (first
         | go_skip
         | (refine wpList_op rfl (op_row 62 _ rfl S.out 3 rfl rfl Tryz.isAgg62 (by kernel_rfl) ?_))
         | (refine wpList_op rfl (op_putR_4 62 _ _ rfl S rfl _ rfl rfl (by kernel_rfl) rfl ?_); clear S; intro w S))
     exact bodyPost_ret (results_cs rfl _ S.out 4 rfl rfl Tryz.isAgg62 (by kernel_rfl)) rfl (by rw [HE.out]; exact ⟨AN, cN, FN, some ⟨gH, 0, none⟩, cH, FH, AD, cD, FD, rfl, S.out.ownW 0 1 2 (by omega) (by omega) (by omega) rfl rfl rfl rfl rfl rfl, (S.out.ends 0 rfl).2.1, (S.out.ends 1 rfl).2.1, (S.out.ends 2 rfl).2.1, S.out.below⟩)

theorem sAlone_any (W : Wd) (A : Option Addr) (n c : Nat) (A1 : Option Addr) (n1 c1 : Nat) (A2 : Option Addr) (n2 c2 : Nat) (who most : Int) (w0 : World) (hW : IsW w0 w0.heap.size W A n A1 n1 A2 n2) :
   Calls Tryz.prog 49 #[.agg #[jI jZ W.root, jS A n c, jS A1 n1 c1, jS A2 n2 c2, jI jZ W.now], jI jZ who, jI jZ most] w0 (GivesWI w0 (aloneW W who most) (aloneN W who most)) := by
 by_cases hk : worldOk W = true
 · by_cases hw : hasB n1 who = true
   · by_cases hm : inB most 0 20000 = true
     · exact alone_go W A n c A1 n1 c1 A2 n2 c2 who most w0 hW hk hw hm
     · exact alone_out W A n c A1 n1 c1 A2 n2 c2 who most w0 hW hk hw (by simpa using hm)
   · exact alone_no1 W A n c A1 n1 c1 A2 n2 c2 who most w0 hW hk (by simpa using hw)
 · exact alone_no0 W A n c A1 n1 c1 A2 n2 c2 who most w0 hW (by simpa using hk)
end Go.Proofs.YtpffkhjegpddbaaGreat
namespace Go.Proofs.YtpffkhjegpddbaaGreat
open Go.RowKit

set_option maxRecDepth 100000 in
set_option maxHeartbeats 16000000 in
theorem dCall_any (g : Nat) (A : Option Addr) (n c : Nat) (w0 : World) (hC : Cur w0 g A n c) :
   Calls Tryz.prog 51 #[.pointer (some ⟨g, 0, none⟩)] w0 (DrawnC g A n c w0) := by
 have HCU := Lib.hid hC
 have S := Lib.hid (Sep.startCur hC)
 clear hC
 unfold DrawnC
 have tok0 : True := trivial
 go_enter Tryz.func51, Tryz.ntmps51
 go_wp2_with (first
     | go_skip
     | (clear tok0; refine nx_ 84 S rfl rfl Tryz.zeroValue84 ?_; clear S; intro rc w S))
 refine wp_region_ev (by kernel_rfl) _ (by kernel_rfl) (by kernel_rfl) 19 rfl (by kernel_rfl) (fun D V w => ∃ gb : Nat, ∃ q1 : Nat, ∃ q2 : Nat, ∃ ga8 : Nat, Sep (cuX g) w0 [bx rc #[jI jZ 0, jI jZ 0, jI jZ 0] 84, cuI g A n c, cnd (D 0) em (bx gb (IL [1, 2, 2, 2, 3]).toArray 2), cnd (D 8) em (cnd (D 9) (bx ga8 #[jI jZ 0, jI jZ 0, jI jZ 0] 84) (bx ga8 #[jI jZ (iAt [1, 2, 2, 2, 3] q1), jI jZ q2, jI jZ 0] 84))] w ∧ (D 0 = true → V 0 = jS (some ⟨gb, 0, none⟩) 5 5) ∧ (D 1 = true → V 1 = .pointer (some ⟨g, 0, none⟩)) ∧ (D 2 = true → V 2 = jI jZ q1) ∧ (D 3 = true → V 3 = .pointer (some ⟨gb, 0 + q1 * 1, none⟩)) ∧ (D 4 = true → V 4 = jI jZ (iAt [1, 2, 2, 2, 3] q1)) ∧ (D 5 = true → V 5 = .pointer (some ⟨g, 0, none⟩)) ∧ (D 6 = true → V 6 = jI jZ q2) ∧ (D 7 = true → V 7 = .agg #[jI jZ (iAt [1, 2, 2, 2, 3] q1), jI jZ q2, jI jZ 0]) ∧ (D 8 = true → V 8 = .pointer (some ⟨ga8, 0, none⟩)) ∧ (D 3 = true → D 0 = true) ∧ (D 3 = true → D 2 = true) ∧ (D 4 = true → D 2 = true) ∧ (D 7 = true → D 2 = true) ∧ (D 7 = true → D 6 = true) ∧ (D 9 = true → D 2 = true) ∧ (D 9 = true → D 6 = true) ∧ (D 9 = true → D 8 = true) ∧ (D 2 = true → q1 < 5) ∧ (D 6 = true → q2 < 30)) ?_ ?_ ?_
 · intro D hD
   have d0 := hD 0 (by decide)
   have d8 := hD 8 (by decide)
   have d9 := hD 9 (by decide)
   exact ⟨0, 0, 0, 0, by rw [cnd_f d0, cnd_f d8]; exact S.out.drew.ems 2, (nof (hD 0 (by decide))), (nof (hD 1 (by decide))), (nof (hD 2 (by decide))), (nof (hD 3 (by decide))), (nof (hD 4 (by decide))), (nof (hD 5 (by decide))), (nof (hD 6 (by decide))), (nof (hD 7 (by decide))), (nof (hD 8 (by decide))), (nof (hD 3 (by decide))), (nof (hD 3 (by decide))), (nof (hD 4 (by decide))), (nof (hD 7 (by decide))), (nof (hD 7 (by decide))), (nof (hD 9 (by decide))), (nof (hD 9 (by decide))), (nof (hD 9 (by decide))), (nof (hD 2 (by decide))), (nof (hD 6 (by decide)))⟩
 · intro i o D V w a ho hI hDi haf hev
   obtain ⟨gb, q1, q2, ga8, S, f0, f1, f2, f3, f4, f5, f6, f7, f8, o3_0, o3_2, o4_2, o7_2, o7_6, o9_2, o9_6, o9_8, k0, k1⟩ := hI
   rcases i with _ | _ | _ | _ | _ | _ | _ | _ | _ | _ | i
   · obtain rfl := inj_ ho
     exact op_bsI 5 _ rfl S 2 (by simp only [gs_, gz_, cnd_f hDi]) _ rfl [1, 2, 2, 2, 3] (by kernel_rfl) (by omega) (by omega) (fun g9 w S => ⟨_, rfl, g9, q1, q2, ga8, S, fun _ => rfl, f1, f2, (fun h => nof hDi (o3_0 h)), f4, f5, f6, f7, f8, fun _ => rfl, o3_2, o4_2, o7_2, o7_6, o9_2, o9_6, o9_8, k0, k1⟩)
   · obtain rfl := inj_ ho
     exact op_move (.inl rfl) ((hev.old 0 (by kernel_rfl)).trans rfl) ⟨_, rfl, gb, q1, q2, ga8, S, f0, fun _ => rfl, f2, f3, f4, f5, f6, f7, f8, o3_0, o3_2, o4_2, o7_2, o7_6, o9_2, o9_6, o9_8, k0, k1⟩
   · obtain rfl := inj_ ho
     have h1 := aft_ haf 1 rfl
     have ns9 := nofb hDi o9_2
     have hx0 := (hev.at_ 1 5 rfl rfl h1 f1)
     refine op_call _ _ _ rfl (enters_of Tryz.func34 (by kernel_rfl) rfl) #[.pointer (some ⟨g, 0, none⟩), jI jZ 5] (by simp [hx0, eval_const]) (below_any g A n c 5 w (S.cur 1 rfl HCU.out)) (fun e w2 hh => ?_)
     obtain ⟨r9, rfl, hp9, hc9, hg9⟩ := hh
     have hp8 := hp9.2 (by omega)
     obtain ⟨q9, rfl⟩ : ∃ q9 : Nat, r9 = q9 := ⟨r9.toNat, by omega⟩
     exact ⟨_, rfl, ⟨_, rfl, gb, q9, q2, ga8, (by have SS := (S.drawn 1 rfl hc9 hg9); rw [cnd_f ns9] at SS; rw [show updB D 2 9 = false from ns9]; exact SS), f0, f1, fun _ => rfl, (fun h => nof hDi (o3_2 h)), (fun h => nof hDi (o4_2 h)), f5, f6, (fun h => nof hDi (o7_2 h)), f8, o3_0, fun _ => rfl, fun _ => rfl, fun _ => rfl, o7_6, fun _ => rfl, o9_6, o9_8, (fun _ => by omega), k1⟩⟩
   · obtain rfl := inj_ ho
     have h0 := aft_ haf 0 rfl
     have h2 := aft_ haf 2 rfl
     exact op_idx _ _ _ rfl 2 1 Tryz.underlying35 Tryz.sizeOf2 (hev.at_ 0 4 rfl rfl h0 f0) (hev.at_ 2 6 rfl rfl h2 f2) (k0 h2) ⟨_, rfl, gb, q1, q2, ga8, S, f0, f1, f2, fun _ => rfl, f4, f5, f6, f7, f8, fun _ => h0, fun _ => h2, o4_2, o7_2, o7_6, o9_2, o9_6, o9_8, k0, k1⟩
   · obtain rfl := inj_ ho
     have h3 := aft_ haf 3 rfl
     have h2 : D 2 = true := o3_2 h3
     have h2 := o3_2 h3
     have h0 := o3_0 h3
     exact op_get 2 _ rfl S 2 (g := gb) (C := (IL [1, 2, 2, 2, 3]).toArray) (t := 2) (by simp only [gs_, gz_, cnd_t h0]) (0 + q1 * 1) (hev.at_ 3 7 rfl rfl h3 f3) Tryz.isAgg2 _ (codes_cell q1 (k0 h2)) ⟨_, rfl, gb, q1, q2, ga8, S, f0, f1, f2, f3, fun _ => rfl, f5, f6, f7, f8, o3_0, o3_2, fun _ => h2, o7_2, o7_6, o9_2, o9_6, o9_8, k0, k1⟩
   · obtain rfl := inj_ ho
     exact op_move (.inl rfl) ((hev.old 0 (by kernel_rfl)).trans rfl) ⟨_, rfl, gb, q1, q2, ga8, S, f0, f1, f2, f3, f4, fun _ => rfl, f6, f7, f8, o3_0, o3_2, o4_2, o7_2, o7_6, o9_2, o9_6, o9_8, k0, k1⟩
   · obtain rfl := inj_ ho
     have h5 := aft_ haf 5 rfl
     have ns9 := nofb hDi o9_6
     have hx0 := (hev.at_ 5 9 rfl rfl h5 f5)
     refine op_call _ _ _ rfl (enters_of Tryz.func34 (by kernel_rfl) rfl) #[.pointer (some ⟨g, 0, none⟩), jI jZ 30] (by simp [hx0, eval_const]) (below_any g A n c 30 w (S.cur 1 rfl HCU.out)) (fun e w2 hh => ?_)
     obtain ⟨r9, rfl, hp9, hc9, hg9⟩ := hh
     have hp8 := hp9.2 (by omega)
     obtain ⟨q9, rfl⟩ : ∃ q9 : Nat, r9 = q9 := ⟨r9.toNat, by omega⟩
     exact ⟨_, rfl, ⟨_, rfl, gb, q1, q9, ga8, (by have SS := (S.drawn 1 rfl hc9 hg9); rw [cnd_f ns9] at SS; rw [show updB D 6 9 = false from ns9]; exact SS), f0, f1, f2, f3, f4, f5, fun _ => rfl, (fun h => nof hDi (o7_6 h)), f8, o3_0, o3_2, o4_2, o7_2, fun _ => rfl, o9_2, fun _ => rfl, o9_8, k0, (fun _ => by omega)⟩⟩
   · obtain rfl := inj_ ho
     have h4 := aft_ haf 4 rfl
     have h6 := aft_ haf 6 rfl
     have h2 : D 2 = true := o4_2 h4
     have hx0 := (hev.at_ 4 8 rfl rfl h4 f4)
     have hx1 := (hev.at_ 6 10 rfl rfl h6 f6)
     exact op_build _ _ rfl [(0, jI jZ (iAt [1, 2, 2, 2, 3] q1)), (1, jI jZ q2)] (by simp [hx0, hx1]) _ (by kernel_rfl) ⟨_, rfl, gb, q1, q2, ga8, S, f0, f1, f2, f3, f4, f5, f6, fun _ => rfl, f8, o3_0, o3_2, o4_2, fun _ => h2, fun _ => h6, o9_2, o9_6, o9_8, k0, k1⟩
   · obtain rfl := inj_ ho
     have nst := nofb hDi o9_8
     refine op_nxAt 84 rfl S 3 (by simp only [gs_, gz_, cnd_f hDi]) _ Tryz.zeroValue84 (fun g w S => ⟨_, rfl, gb, q1, q2, g, (by have e : updB D 8 9 = false := nst; rw [e]; exact S), f0, f1, f2, f3, f4, f5, f6, f7, fun _ => rfl, o3_0, o3_2, o4_2, o7_2, o7_6, o9_2, o9_6, fun _ => rfl, k0, k1⟩)
   · obtain rfl := inj_ ho
     have h8 := aft_ haf 8 rfl
     have h7 := aft_ haf 7 rfl
     have h2 : D 2 = true := o7_2 h7
     have h6 : D 6 = true := o7_6 h7
     have ha : D 8 = true := aft_ haf 8 rfl
     exact op_putR 84 _ _ rfl S 3 (g := ga8) (C := #[jI jZ 0, jI jZ 0, jI jZ 0]) (t := 84) (by simp only [gs_, gz_, cnd_t ha, cnd_f hDi]) (hev.at_ 8 3 rfl rfl h8 f8) _ (hev.at_ 7 11 rfl rfl h7 f7) rfl (by kernel_rfl) rfl (fun w S => ⟨_, rfl, gb, q1, q2, ga8, (by have e : updB D 9 8 = true := ha; rw [e]; exact S), f0, f1, f2, f3, f4, f5, f6, f7, f8, o3_0, o3_2, o4_2, o7_2, o7_6, fun _ => h2, fun _ => h6, fun _ => h8, k0, k1⟩)
   · exact absurd ho (by simp)
 intro V w hI
 obtain ⟨gb, q1, q2, ga8, S, f0, f1, f2, f3, f4, f5, f6, f7, f8, o3_0, o3_2, o4_2, o7_2, o7_6, o9_2, o9_6, o9_8, k0, k1⟩ := hI
 replace S : Hid (Sep (cuX g) w0 [bx rc #[jI jZ 0, jI jZ 0, jI jZ 0] 84, cuI g A n c, bx gb (IL [1, 2, 2, 2, 3]).toArray 2, bx ga8 #[jI jZ (iAt [1, 2, 2, 2, 3] q1), jI jZ q2, jI jZ 0] 84] w) := Lib.hid S
 simp only [putF, Act.put, sa_, sb_, sc_, f0 rfl, f1 rfl, f2 rfl, f3 rfl, f4 rfl, f5 rfl, f6 rfl, f7 rfl, f8 rfl]
 clear f0 f1 f2 f3 f4 f5 f6 f7 f8 o3_0 o3_2 o4_2 o7_2 o7_6 o9_2 o9_6 o9_8
 have HQ1 := Lib.hid (k0 rfl)
 have HQ2 := Lib.hid (k1 rfl)
 clear k0 k1
 by_cases h2 : iAt [1, 2, 2, 2, 3] q1 = 2
 · have g1 : (iAt [1, 2, 2, 2, 3] q1 == 2) = true := by simp [h2]
   clear h2
   go_wp2_with (first
       | go_skip
       | (refine wpList_op rfl (op_get 2 _ rfl S.out 3 rfl _ rfl Tryz.isAgg2 _ rfl ?_)))
   refine (below_any g A n c 100 _ (S.out.cur 1 rfl HCU.out)).mono ?_
   rintro e w ⟨r9, rfl, hp9, hc9, hg9⟩
   replace S : Hid (Sep (cuX g) w0 [bx rc #[jI jZ 0, jI jZ 0, jI jZ 0] 84, cuI g A n c, bx gb (IL [1, 2, 2, 2, 3]).toArray 2, bx ga8 #[jI jZ (iAt [1, 2, 2, 2, 3] q1), jI jZ q2, jI jZ 0] 84] w) := Lib.hid (S.out.drawn 1 rfl hc9 hg9)
   have HP := Lib.hid (hp9.2 (by omega))
   clear hp9 hc9 hg9
   go_wp2_with (first
       | go_skip
       | (refine wpList_op rfl (op_put1_3 2 _ _ rfl S _ rfl _ rfl rfl (by kernel_rfl) (of_decide_eq_true rfl) ?_); clear S; intro w S)
       | (refine wpList_op rfl (op_row 84 _ rfl S.out 3 rfl rfl Tryz.isAgg84 (by kernel_rfl) ?_))
       | (refine wpList_op rfl (op_putR_0 84 _ _ rfl S rfl _ rfl rfl (by kernel_rfl) rfl ?_); clear S; intro w S))
   exact bodyPost_ret (results_c rfl _ S.out 0 rfl rfl Tryz.isAgg84 (by kernel_rfl)) rfl ⟨_, _, _, rfl, codes_in q1 HQ1.out, by have := HQ2.out; omega, HP.out, S.out.cur 1 rfl HCU.out, S.out.grown⟩
 · have g1 : (iAt [1, 2, 2, 2, 3] q1 == 2) = false := by simp [h2]
   clear h2
   go_wp2_with (first
       | go_skip
       | (refine wpList_op rfl (op_get 2 _ rfl S.out 3 rfl _ rfl Tryz.isAgg2 _ rfl ?_))
       | (refine wpList_op rfl (op_row 84 _ rfl S.out 3 rfl rfl Tryz.isAgg84 (by kernel_rfl) ?_))
       | (refine wpList_op rfl (op_putR_0 84 _ _ rfl S rfl _ rfl rfl (by kernel_rfl) rfl ?_); clear S; intro w S))
   exact bodyPost_ret (results_c rfl _ S.out 0 rfl rfl Tryz.isAgg84 (by kernel_rfl)) rfl ⟨_, _, _, rfl, codes_in q1 HQ1.out, by have := HQ2.out; omega, by omega, S.out.cur 1 rfl HCU.out, S.out.grown⟩
end Go.Proofs.YtpffkhjegpddbaaGreat
