/- The walk of the model's Alone. (Made by genY28.py.) -/
import Derived.Test.YtjookicpmjmdhaaQ44
import Derived.Test.YtjookicpmjmdhaaQ24
open Go.Value renaming int → jI, slice → jS
open Go.IntKind renaming i64 → jZ
namespace Go.Proofs.Ytjookicpmjmdhaa
open Go.RowKit

set_option maxRecDepth 100000 in
set_option maxHeartbeats 16000000 in
theorem alone_no0 (W : Wd) (A : Option Addr) (n c : Nat) (A1 : Option Addr) (n1 c1 : Nat) (A2 : Option Addr) (n2 c2 : Nat) (who most : Int) (w0 : World) (hW : IsW w0 w0.heap.size W A n A1 n1 A2 n2) (hk : worldOk W = false) :
   Calls Try.prog 71 #[.agg #[jI jZ W.root, jS A n c, jS A1 n1 c1, jS A2 n2 c2, jI jZ W.now], jI jZ who, jI jZ most] w0 (GivesWI w0 (aloneW W who most) (aloneN W who most)) := by
 have l1 : W.hs.length = n1 := hW.hs.1
 have e1 : aloneW W who most = zeroW := by unfold aloneW; rw [l1, hk]; rfl
 have e2 : aloneN W who most = -1 := by unfold aloneN; rw [l1, hk]; rfl
 rw [e1, e2]
 have WK := Lib.hid (fun w hW => sWorldOk_any W A n c A1 n1 c1 A2 n2 c2 w hW)
 have TA := Lib.hid (fun w => task_any W.root W.now who A n c A1 n1 c1 A2 n2 c2 w hW.h1)
 have HW := Lib.hid hW
 rw [hk] at WK
 obtain ⟨r, hr⟩ : ∃ r, r = W.root := ⟨_, rfl⟩
 obtain ⟨now, hnow⟩ : ∃ now, now = W.now := ⟨_, rfl⟩
 rw [← hr, ← hnow] at WK TA
 rw [← hr, ← hnow]
 clear e1 e2 l1 hW hk hr hnow
 have S := Lib.hid (Sep.start noX w0)
 have tok0 : True := trivial
 have tok1 : True := trivial
 go_enter Try.func71, Try.ntmps71
 go_wp2_with (first
     | go_skip
     | (clear tok0; refine bx_ 81 S rfl rfl rfl ?_; clear S; intro gw w S)
     | (clear tok1; refine nx_ 81 S rfl rfl Try.zeroValue81 ?_; clear S; intro rw w S)
     | (refine wpList_op rfl (op_row 81 _ rfl S.out 1 rfl rfl Try.isAgg81 (by kernel_rfl) ?_)))
 refine (WK.out _ (HW.out.on S.out.below)).mono ?_
 rintro e w ⟨rfl, b⟩
 replace S := Lib.hid (S.out.call b)
 clear b
 go_wp2_with (first
     | go_skip
     | (refine wpList_op rfl (op_build 81 _ rfl [] rfl #[jI jZ 0, jS none 0 0, jS none 0 0, jS none 0 0, jI jZ 0] (by kernel_rfl) ?_))
     | (refine wpList_op rfl (op_putR_0 81 _ _ rfl S rfl _ rfl rfl (by kernel_rfl) rfl ?_); clear S; intro w S))
 exact bodyPost_ret (results_cs rfl _ S.out 0 rfl rfl Try.isAgg81 (by kernel_rfl)) rfl (by exact zero_WI S.out.below (-1))

set_option maxRecDepth 100000 in
set_option maxHeartbeats 16000000 in
theorem alone_no1 (W : Wd) (A : Option Addr) (n c : Nat) (A1 : Option Addr) (n1 c1 : Nat) (A2 : Option Addr) (n2 c2 : Nat) (who most : Int) (w0 : World) (hW : IsW w0 w0.heap.size W A n A1 n1 A2 n2) (hk : worldOk W = true) (hw : hasB n1 who = false) :
   Calls Try.prog 71 #[.agg #[jI jZ W.root, jS A n c, jS A1 n1 c1, jS A2 n2 c2, jI jZ W.now], jI jZ who, jI jZ most] w0 (GivesWI w0 (aloneW W who most) (aloneN W who most)) := by
 have l1 : W.hs.length = n1 := hW.hs.1
 have e1 : aloneW W who most = zeroW := by unfold aloneW; rw [l1, hk]; rw [hw]; rfl
 have e2 : aloneN W who most = -1 := by unfold aloneN; rw [l1, hk]; rw [hw]; rfl
 rw [e1, e2]
 have WK := Lib.hid (fun w hW => sWorldOk_any W A n c A1 n1 c1 A2 n2 c2 w hW)
 have TA := Lib.hid (fun w => task_any W.root W.now who A n c A1 n1 c1 A2 n2 c2 w hW.h1)
 have HW := Lib.hid hW
 rw [hk] at WK
 rw [hw] at TA
 obtain ⟨r, hr⟩ : ∃ r, r = W.root := ⟨_, rfl⟩
 obtain ⟨now, hnow⟩ : ∃ now, now = W.now := ⟨_, rfl⟩
 rw [← hr, ← hnow] at WK TA
 rw [← hr, ← hnow]
 clear e1 e2 l1 hW hk hw hr hnow
 have S := Lib.hid (Sep.start noX w0)
 have tok0 : True := trivial
 have tok1 : True := trivial
 go_enter Try.func71, Try.ntmps71
 go_wp2_with (first
     | go_skip
     | (clear tok0; refine bx_ 81 S rfl rfl rfl ?_; clear S; intro gw w S)
     | (clear tok1; refine nx_ 81 S rfl rfl Try.zeroValue81 ?_; clear S; intro rw w S)
     | (refine wpList_op rfl (op_row 81 _ rfl S.out 1 rfl rfl Try.isAgg81 (by kernel_rfl) ?_)))
 refine (WK.out _ (HW.out.on S.out.below)).mono ?_
 rintro e w ⟨rfl, b⟩
 replace S := Lib.hid (S.out.call b)
 clear b
 go_wp2_with (first
     | go_skip
     | (refine wpList_op rfl (op_row 81 _ rfl S.out 1 rfl rfl Try.isAgg81 (by kernel_rfl) ?_)))
 refine (TA.out _).mono ?_
 rintro e w ⟨rfl, b⟩
 replace S := Lib.hid (S.out.call b)
 clear b
 go_wp2_with (first
     | go_skip
     | (refine wpList_op rfl (op_build 81 _ rfl [] rfl #[jI jZ 0, jS none 0 0, jS none 0 0, jS none 0 0, jI jZ 0] (by kernel_rfl) ?_))
     | (refine wpList_op rfl (op_putR_0 81 _ _ rfl S rfl _ rfl rfl (by kernel_rfl) rfl ?_); clear S; intro w S))
 exact bodyPost_ret (results_cs rfl _ S.out 0 rfl rfl Try.isAgg81 (by kernel_rfl)) rfl (by exact zero_WI S.out.below (-1))

set_option maxRecDepth 100000 in
set_option maxHeartbeats 16000000 in
theorem alone_out (W : Wd) (A : Option Addr) (n c : Nat) (A1 : Option Addr) (n1 c1 : Nat) (A2 : Option Addr) (n2 c2 : Nat) (who most : Int) (w0 : World) (hW : IsW w0 w0.heap.size W A n A1 n1 A2 n2) (hk : worldOk W = true) (hw : hasB n1 who = true) (hm : inB most 0 20000 = false) :
   Calls Try.prog 71 #[.agg #[jI jZ W.root, jS A n c, jS A1 n1 c1, jS A2 n2 c2, jI jZ W.now], jI jZ who, jI jZ most] w0 (GivesWI w0 (aloneW W who most) (aloneN W who most)) := by
 have e1 : aloneW W who most = W := by unfold aloneW; rw [show W.hs.length = n1 from hW.hs.1, hk, hw, hm]; rfl
 have e2 : aloneN W who most = -1 := by unfold aloneN; rw [show W.hs.length = n1 from hW.hs.1, hk, hw, hm]; rfl
 rw [e1, e2]
 have l1 : W.hs.length = n1 := hW.hs.1
 obtain ⟨q1, q2, q3, q4, q5, q6⟩ := world_of hk
 obtain ⟨h0, h1⟩ := (hasB_iff n1 who).1 hw
 obtain ⟨kk, rfl⟩ : ∃ kk : Nat, who = kk := ⟨who.toNat, by omega⟩
 have hkn : kk < n1 := by omega
 have hst : ∀ i, i < n1 → (hdAt W.hs i).st.length ≤ 1048576 := fun i hi => by have := hand_stack (q6 i (by omega)).1; omega
 have CT := Lib.hid (fun w hW => copyW_any W A n c A1 n1 c1 A2 n2 c2 w hW hst)
 have L1 := Lib.hid l1
 have HKN := Lib.hid hkn
 have HOK := Lib.hid hk
 have WK := Lib.hid (fun w hW => sWorldOk_any W A n c A1 n1 c1 A2 n2 c2 w hW)
 have TA := Lib.hid (fun w => task_any W.root W.now kk A n c A1 n1 c1 A2 n2 c2 w hW.h1)
 have HW := Lib.hid hW
 rw [hk] at WK
 rw [hw] at TA
 unfold GivesW wdV at CT
 unfold GivesWI wdV
 have NK := Lib.hid (fun w => now_any most w)
 rw [hm] at NK
 clear e1 e2 hk hw hst q1 q2 q3 q4 q5 q6 h0 h1 hkn l1 hW hm
 have S := Lib.hid (Sep.start noX w0)
 have tok6 : True := trivial
 have tok0 : True := trivial
 have tok1 : True := trivial
 go_enter Try.func71, Try.ntmps71
 go_wp2_with (first
     | go_skip
     | (clear tok0; refine bx_ 81 S rfl rfl rfl ?_; clear S; intro gw w S)
     | (clear tok1; refine nx_ 81 S rfl rfl Try.zeroValue81 ?_; clear S; intro rw w S)
     | (refine wpList_op rfl (op_row 81 _ rfl S.out 1 rfl rfl Try.isAgg81 (by kernel_rfl) ?_)))
 refine (WK.out _ (HW.out.on S.out.below)).mono ?_
 rintro e w ⟨rfl, b⟩
 replace S := Lib.hid (S.out.call b)
 clear b
 go_wp2_with (first
     | go_skip
     | (refine wpList_op rfl (op_row 81 _ rfl S.out 1 rfl rfl Try.isAgg81 (by kernel_rfl) ?_)))
 refine (TA.out _).mono ?_
 rintro e w ⟨rfl, b⟩
 replace S := Lib.hid (S.out.call b)
 clear b
 go_wp2_with (first
     | go_skip
     | (refine wpList_op rfl (op_row 81 _ rfl S.out 1 rfl rfl Try.isAgg81 (by kernel_rfl) ?_)))
 refine (CT.out _ (HW.out.on S.out.below)).mono ?_
 rintro e w ⟨AN, cN, FN, AH, cH, FH, AD, cD, FD, rfl, ⟨o1, o2, o3, a1, a2, a3⟩, f1, f2, f3, b9⟩
 obtain ⟨gH, rfl⟩ : ∃ gH, AH = some ⟨gH, 0, none⟩ := by
   obtain ⟨g9, cap, _, _, _, _, hv, _⟩ := OwnS.open o2 kk (by rw [L1.out]; exact HKN.out)
   refine ⟨g9, ?_⟩
   simp only [Value.slice.injEq] at hv
   exact hv.1
 replace S := Lib.hid (S.out.gain3 b9 (ow (jS AN W.ns.length cN) W.ns FN) (ow (jS (some ⟨gH, 0, none⟩) W.hs.length cH) W.hs FH) (ow (jS AD W.ds.length cD) W.ds FD) o1 o2 o3 f1 f2 f3 a1 a2 a3)
 clear o1 o2 o3 a1 a2 a3 f1 f2 f3 b9
 go_wp2_with (first
     | go_skip
     | (clear tok6; refine nx_ 81 S rfl rfl Try.zeroValue81 ?_; clear S; intro go w S)
     | (refine wpList_op rfl (op_putR_0 81 _ _ rfl S rfl _ rfl rfl (by kernel_rfl) rfl ?_); clear S; intro w S))
 refine (NK.out _).mono ?_
 rintro e w9 ⟨rfl, rfl⟩
 go_wp2_with (first
     | go_skip
     | (refine wpList_op rfl (op_row 81 _ rfl S.out 0 rfl rfl Try.isAgg81 (by kernel_rfl) ?_))
     | (refine wpList_op rfl (op_putR_4 81 _ _ rfl S rfl _ rfl rfl (by kernel_rfl) rfl ?_); clear S; intro w S))
 exact bodyPost_ret (results_cs rfl _ S.out 4 rfl rfl Try.isAgg81 (by kernel_rfl)) rfl (by exact ⟨AN, cN, FN, some ⟨gH, 0, none⟩, cH, FH, AD, cD, FD, rfl, S.out.ownW 1 2 3 (by omega) (by omega) (by omega) rfl rfl rfl rfl rfl rfl, (S.out.ends 1 rfl).2.1, (S.out.ends 2 rfl).2.1, (S.out.ends 3 rfl).2.1, S.out.below⟩)

set_option maxRecDepth 100000 in
set_option maxHeartbeats 16000000 in
theorem alone_go (W : Wd) (A : Option Addr) (n c : Nat) (A1 : Option Addr) (n1 c1 : Nat) (A2 : Option Addr) (n2 c2 : Nat) (who most : Int) (w0 : World) (hW : IsW w0 w0.heap.size W A n A1 n1 A2 n2) (hk : worldOk W = true) (hw : hasB n1 who = true) (hm : inB most 0 20000 = true) :
   Calls Try.prog 71 #[.agg #[jI jZ W.root, jS A n c, jS A1 n1 c1, jS A2 n2 c2, jI jZ W.now], jI jZ who, jI jZ most] w0 (GivesWI w0 (aloneW W who most) (aloneN W who most)) := by
 obtain ⟨M, rfl⟩ : ∃ M : Nat, most = M := ⟨most.toNat, by unfold inB at hm; simp at hm; omega⟩
 have hM : M ≤ 20000 := by unfold inB at hm; simp at hm; omega
 have e1 : aloneW W who M = (aloneF who.toNat M W).1 := by unfold aloneW; rw [show W.hs.length = n1 from hW.hs.1, hk, hw, hm]; rfl
 have e2 : aloneN W who M = ((aloneF who.toNat M W).2 : Int) := by unfold aloneN; rw [show W.hs.length = n1 from hW.hs.1, hk, hw, hm]; rfl
 rw [e1, e2]
 have l1 : W.hs.length = n1 := hW.hs.1
 obtain ⟨q1, q2, q3, q4, q5, q6⟩ := world_of hk
 obtain ⟨h0, h1⟩ := (hasB_iff n1 who).1 hw
 obtain ⟨kk, rfl⟩ : ∃ kk : Nat, who = kk := ⟨who.toNat, by omega⟩
 have hkn : kk < n1 := by omega
 have hst : ∀ i, i < n1 → (hdAt W.hs i).st.length ≤ 1048576 := fun i hi => by have := hand_stack (q6 i (by omega)).1; omega
 have CT := Lib.hid (fun w hW => copyW_any W A n c A1 n1 c1 A2 n2 c2 w hW hst)
 have L1 := Lib.hid l1
 have HKN := Lib.hid hkn
 have HOK := Lib.hid hk
 have WK := Lib.hid (fun w hW => sWorldOk_any W A n c A1 n1 c1 A2 n2 c2 w hW)
 have TA := Lib.hid (fun w => task_any W.root W.now kk A n c A1 n1 c1 A2 n2 c2 w hW.h1)
 have HW := Lib.hid hW
 rw [hk] at WK
 rw [hw] at TA
 unfold GivesW wdV at CT
 unfold GivesWI wdV
 rw [show ((kk : Int)).toNat = kk by omega]
 have NK := Lib.hid (fun w => now_any M w)
 rw [hm] at NK
 have HM := Lib.hid hM
 generalize hR : aloneF kk M W = R at *
 have HR0 := Lib.hid hR
 clear e1 e2 hk hw hst q1 q2 q3 q4 q5 q6 h0 h1 hkn l1 hW hm hM hR
 have S := Lib.hid (Sep.start noX w0)
 have tok6 : True := trivial
 have tok0 : True := trivial
 have tok1 : True := trivial
 go_enter Try.func71, Try.ntmps71
 go_wp2_with (first
     | go_skip
     | (clear tok0; refine bx_ 81 S rfl rfl rfl ?_; clear S; intro gw w S)
     | (clear tok1; refine nx_ 81 S rfl rfl Try.zeroValue81 ?_; clear S; intro rw w S)
     | (refine wpList_op rfl (op_row 81 _ rfl S.out 1 rfl rfl Try.isAgg81 (by kernel_rfl) ?_)))
 refine (WK.out _ (HW.out.on S.out.below)).mono ?_
 rintro e w ⟨rfl, b⟩
 replace S := Lib.hid (S.out.call b)
 clear b
 go_wp2_with (first
     | go_skip
     | (refine wpList_op rfl (op_row 81 _ rfl S.out 1 rfl rfl Try.isAgg81 (by kernel_rfl) ?_)))
 refine (TA.out _).mono ?_
 rintro e w ⟨rfl, b⟩
 replace S := Lib.hid (S.out.call b)
 clear b
 go_wp2_with (first
     | go_skip
     | (refine wpList_op rfl (op_row 81 _ rfl S.out 1 rfl rfl Try.isAgg81 (by kernel_rfl) ?_)))
 refine (CT.out _ (HW.out.on S.out.below)).mono ?_
 rintro e w ⟨AN, cN, FN, AH, cH, FH, AD, cD, FD, rfl, ⟨o1, o2, o3, a1, a2, a3⟩, f1, f2, f3, b9⟩
 obtain ⟨gH, rfl⟩ : ∃ gH, AH = some ⟨gH, 0, none⟩ := by
   obtain ⟨g9, cap, _, _, _, _, hv, _⟩ := OwnS.open o2 kk (by rw [L1.out]; exact HKN.out)
   refine ⟨g9, ?_⟩
   simp only [Value.slice.injEq] at hv
   exact hv.1
 replace S := Lib.hid (S.out.emI.gain3 b9 (ow (jS AN W.ns.length cN) W.ns FN) (ow (jS (some ⟨gH, 0, none⟩) W.hs.length cH) W.hs FH) (ow (jS AD W.ds.length cD) W.ds FD) o1 o2 o3 f1 f2 f3 a1 a2 a3)
 clear o1 o2 o3 a1 a2 a3 f1 f2 f3 b9 CT WK TA HW
 go_wp2_with (first
     | go_skip
     | (have _t := tok6; clear _t; refine wpList_op rfl (op_nxAt 81 rfl S.out 3 rfl _ Try.zeroValue81 ?_); clear S tok6; intro go w S; replace S : Hid (Sep noX w0 [ow (jS AN W.ns.length cN) W.ns FN, ow (jS (some ⟨gH, 0, none⟩) W.hs.length cH) W.hs FH, ow (jS AD W.ds.length cD) W.ds FD, bx go #[jI jZ 0, jS none 0 0, jS none 0 0, jS none 0 0, jI jZ 0] 81, bx rw #[jI jZ 0, jS none 0 0, jS none 0 0, jS none 0 0, jI jZ 0] 81, bx gw #[jI jZ W.root, jS A n c, jS A1 n1 c1, jS A2 n2 c2, jI jZ W.now] 81] w) := Lib.hid S)
     | (refine wpList_op rfl (op_putR_3 81 _ _ rfl S rfl _ rfl rfl (by kernel_rfl) rfl ?_); clear S; intro w S))
 refine (NK.out _).mono ?_
 rintro e w9 ⟨rfl, rfl⟩
 go_wp2_with fail
 go_loopw [9] (fun i wr => ∃ (k : Nat) (V : Wd) (AN : Option Addr) (cN : Nat) (FN : FP) (gH cH : Nat) (FH : FP) (AD : Option Addr) (cD : Nat) (FD : FP), i = jI jZ k ∧ k ≤ M ∧ Hid (worldOk V = true ∧ V.hs.length = n1 ∧ R = ((aloneF kk (M - k) V).1, (aloneF kk (M - k) V).2 + k)) ∧ Hid (Sep noX w0 [ow (jS AN V.ns.length cN) V.ns FN, ow (jS (some ⟨gH, 0, none⟩) V.hs.length cH) V.hs FH, ow (jS AD V.ds.length cD) V.ds FD, bx go #[jI jZ V.root, jS AN V.ns.length cN, jS (some ⟨gH, 0, none⟩) V.hs.length cH, jS AD V.ds.length cD, jI jZ V.now] 81, bx rw #[jI jZ 0, jS none 0 0, jS none 0 0, jS none 0 0, jI jZ 0] 81, bx gw #[jI jZ W.root, jS A n c, jS A1 n1 c1, jS A2 n2 c2, jI jZ W.now] 81] wr)) (fun i _ => M - (intOf i).toNat)
 case atStart => exact ⟨0, W, AN, cN, FN, gH, cH, FH, AD, cD, FD, rfl, by omega, Lib.hid ⟨HOK.out, L1.out, by rw [← HR0.out]; rfl⟩, S⟩
 case round =>
   clear S
   obtain ⟨k, V, AN, cN, FN, gH, cH, FH, AD, cD, FD, rfl, hkM, hv, S⟩ := hrel
   have hM := HM.out
   by_cases hlt : k < M
   · obtain ⟨b, off, hA, hb, A3, n3, c3, hcc, _⟩ := RS.hdAt (OwnS.rs (S.out.get 1 rfl : OwnS wr (jS (some ⟨gH, 0, none⟩) V.hs.length cH) V.hs FH) rfl) kk (by rw [hv.out.2.1]; exact HKN.out)
     obtain ⟨rfl, rfl⟩ : gH = b ∧ 0 = off := by simpa using hA
     have hc0 : wr.cell? ⟨gH, kk * 16, none⟩ = some (jI jZ (hdAt V.hs kk).pos) := by have := hcc 0 _ rfl; simpa using this
     have HC0 := Lib.hid hc0
     have HKV : Hid (kk < V.hs.length) := Lib.hid (by rw [hv.out.2.1]; exact HKN.out)
     have d1 : decide ((k : Int) < (M : Int)) = true := by rw [decide_eq_true_eq]; omega
     have HLT := Lib.hid hlt
     clear hA hb hcc hc0
     by_cases hp : (hdAt V.hs kk).pos = 0
     · have g1 : ((hdAt V.hs kk).pos != 0) = false := by simp [hp]
       have hE : R = (V, k) := by rw [hv.out.2.2, alone_rest hp]; simp
       have HE := Lib.hid hE
       clear hp hE
       go_wp2_with (first
           | go_skip
           | (refine wpList_op rfl (op_idx _ _ _ rfl 31 16 Try.underlying78 Try.sizeOf31 (k := kk) rfl rfl HKV.out ?_))
           | (refine wpList_op rfl (op_cell 2 _ rfl rfl Try.isAgg2 HC0.out ?_))
           | (refine wpList_op rfl (op_get 78 _ rfl S.out 3 rfl _ rfl Try.isAgg78 _ rfl ?_))
           | (refine wpList_op rfl (op_row 81 _ rfl S.out 3 rfl rfl Try.isAgg81 (by kernel_rfl) ?_))
           | (refine wpList_op rfl (op_putR_4 81 _ _ rfl S rfl _ rfl rfl (by kernel_rfl) rfl ?_); clear S; intro w S))
       exact bodyPost_ret (results_cs rfl _ S.out 4 rfl rfl Try.isAgg81 (by kernel_rfl)) rfl (by rw [HE.out]; exact ⟨AN, cN, FN, some ⟨gH, 0, none⟩, cH, FH, AD, cD, FD, rfl, S.out.ownW 0 1 2 (by omega) (by omega) (by omega) rfl rfl rfl rfl rfl rfl, (S.out.ends 0 rfl).2.1, (S.out.ends 1 rfl).2.1, (S.out.ends 2 rfl).2.1, S.out.below⟩)
     · have g1 : ((hdAt V.hs kk).pos != 0) = true := by simp [hp]
       have HP := Lib.hid hp
       have SW := Lib.hid (stepW_any V AN V.ns.length cN (some ⟨gH, 0, none⟩) V.hs.length cH AD V.ds.length cD kk wr (isW_own hv.out.1 (S.out.get 0 rfl) (S.out.get 1 rfl) (S.out.get 2 rfl)) hv.out.1 HKV.out)
       unfold GivesWB wdV at SW
       clear hp
       go_wp2_with (first
           | go_skip
           | (refine wpList_op rfl (op_idx _ _ _ rfl 31 16 Try.underlying78 Try.sizeOf31 (k := kk) rfl rfl HKV.out ?_))
           | (refine wpList_op rfl (op_cell 2 _ rfl rfl Try.isAgg2 HC0.out ?_))
           | (refine wpList_op rfl (op_get 78 _ rfl S.out 3 rfl _ rfl Try.isAgg78 _ rfl ?_))
           | (refine wpList_op rfl (op_row 81 _ rfl S.out 3 rfl rfl Try.isAgg81 (by kernel_rfl) ?_)))
       refine SW.out.mono ?_
       clear SW
       rintro e w ⟨A5, c5, F5, A6, c6, F6, A7, c7, F7, rfl, ⟨o1, o2, o3, a1, a2, a3⟩, f1, f2, f3, b9⟩
       replace S := Lib.hid (S.out.gain3 b9 (ow (jS A5 (stepW V kk).ns.length c5) (stepW V kk).ns F5) (ow (jS A6 (stepW V kk).hs.length c6) (stepW V kk).hs F6) (ow (jS A7 (stepW V kk).ds.length c7) (stepW V kk).ds F7) o1 o2 o3 f1 f2 f3 a1 a2 a3)
       clear o1 o3 a1 a2 a3 f1 f2 f3 b9
       have tok7 : True := trivial
       by_cases hs : stepsB V kk = true
       · obtain ⟨w1, w2⟩ := stepW_ok hv.out.1 HKV.out hs
         obtain ⟨g6, rfl⟩ : ∃ g6, A6 = some ⟨g6, 0, none⟩ := by
           obtain ⟨g9, cap, _, _, _, _, hv, _⟩ := OwnS.open o2 kk (by rw [w2]; exact HKV.out)
           refine ⟨g9, ?_⟩
           simp only [Value.slice.injEq] at hv
           exact hv.1
         have hR : R = ((aloneF kk (M - (k + 1)) (stepW V kk)).1, (aloneF kk (M - (k + 1)) (stepW V kk)).2 + (k + 1)) := by
           rw [hv.out.2.2, show M - k = (M - (k + 1)) + 1 by have := HLT.out; omega, alone_step HP.out hs]
           simp only [Prod.mk.injEq, true_and]
           omega
         have HV2 : Hid (worldOk (stepW V kk) = true ∧ (stepW V kk).hs.length = n1 ∧ R = ((aloneF kk (M - (k + 1)) (stepW V kk)).1, (aloneF kk (M - (k + 1)) (stepW V kk)).2 + (k + 1))) := Lib.hid ⟨w1, by rw [w2]; exact hv.out.2.1, hR⟩
         have W1 : IntKind.i64.wrap ((k : Int) + 1) = (k : Int) + 1 := IntWalk.i64_in _ (by have := HLT.out; omega)
         clear o2 w1 w2 hR hv
         generalize stepW V kk = V2 at *
         go_wp2_with (first
             | go_skip
             | (clear tok7; refine nx_ 81 S rfl rfl Try.zeroValue81 ?_; clear S; intro gx w S)
             | (refine wpList_op rfl (op_putR_0 81 _ _ rfl S rfl _ rfl rfl (by kernel_rfl) rfl ?_); clear S; intro w S)
             | (refine wpList_op rfl (op_row 81 _ rfl S.out 0 rfl rfl Try.isAgg81 (by kernel_rfl) ?_))
             | (refine wpList_op rfl (op_putR_7 81 _ _ rfl S rfl _ rfl rfl (by kernel_rfl) rfl ?_); clear S; intro w S))
         replace S : Hid (Sep noX w0 [ow (jS A5 V2.ns.length c5) V2.ns F5, ow (jS (some ⟨g6, 0, none⟩) V2.hs.length c6) V2.hs F6, ow (jS A7 V2.ds.length c7) V2.ds F7, bx go #[jI jZ V2.root, jS A5 V2.ns.length c5, jS (some ⟨g6, 0, none⟩) V2.hs.length c6, jS A7 V2.ds.length c7, jI jZ V2.now] 81, bx rw #[jI jZ 0, jS none 0 0, jS none 0 0, jS none 0 0, jI jZ 0] 81, bx gw #[jI jZ W.root, jS A n c, jS A1 n1 c1, jS A2 n2 c2, jI jZ W.now] 81] w) := Lib.hid (S.out.drop (List.Sublist.cons _ (List.Sublist.cons_cons _ (List.Sublist.cons_cons _ (List.Sublist.cons_cons _ (List.Sublist.cons _ (List.Sublist.cons _ (List.Sublist.cons _ (List.Sublist.refl _)))))))))
         go_roundw
         case rel => exact ⟨k + 1, V2, A5, c5, F5, g6, c6, F6, A7, c7, F7, by go_num, by have := HLT.out; omega, HV2, S⟩
         case measure => simp [intOf]; have := HLT.out; omega
       · have hs : stepsB V kk = false := by simpa using hs
         have hE : R = (V, k) := by rw [hv.out.2.2, alone_stands hs]; simp
         have HE := Lib.hid hE
         clear hE o2
         go_wp2_with (first
             | go_skip
             | (clear tok7; refine nx_ 81 S rfl rfl Try.zeroValue81 ?_; clear S; intro gx w S)
             | (refine wpList_op rfl (op_putR_0 81 _ _ rfl S rfl _ rfl rfl (by kernel_rfl) rfl ?_); clear S; intro w S)
             | (refine wpList_op rfl (op_row 81 _ rfl S.out 7 rfl rfl Try.isAgg81 (by kernel_rfl) ?_))
             | (refine wpList_op rfl (op_putR_8 81 _ _ rfl S rfl _ rfl rfl (by kernel_rfl) rfl ?_); clear S; intro w S))
         exact bodyPost_ret (results_cs rfl _ S.out 8 rfl rfl Try.isAgg81 (by kernel_rfl)) rfl (by rw [HE.out]; exact ⟨AN, cN, FN, some ⟨gH, 0, none⟩, cH, FH, AD, cD, FD, rfl, S.out.ownW 4 5 6 (by omega) (by omega) (by omega) rfl rfl rfl rfl rfl rfl, (S.out.ends 4 rfl).2.1, (S.out.ends 5 rfl).2.1, (S.out.ends 6 rfl).2.1, S.out.below⟩)
   · obtain rfl : k = M := by omega
     have hE : R = (V, k) := by rw [hv.out.2.2, Nat.sub_self]; simp [aloneF]
     have d1 : decide ((k : Int) < (k : Int)) = false := by rw [decide_eq_false_iff_not]; omega
     have HE := Lib.hid hE
     clear hE hlt hkM
     go_wp2_with (first
         | go_skip
         | (refine wpList_op rfl (op_row 81 _ rfl S.out 3 rfl rfl Try.isAgg81 (by kernel_rfl) ?_))
         | (refine wpList_op rfl (op_putR_4 81 _ _ rfl S rfl _ rfl rfl (by kernel_rfl) rfl ?_); clear S; intro w S))
     exact bodyPost_ret (results_cs rfl _ S.out 4 rfl rfl Try.isAgg81 (by kernel_rfl)) rfl (by rw [HE.out]; exact ⟨AN, cN, FN, some ⟨gH, 0, none⟩, cH, FH, AD, cD, FD, rfl, S.out.ownW 0 1 2 (by omega) (by omega) (by omega) rfl rfl rfl rfl rfl rfl, (S.out.ends 0 rfl).2.1, (S.out.ends 1 rfl).2.1, (S.out.ends 2 rfl).2.1, S.out.below⟩)

theorem sAlone_any (W : Wd) (A : Option Addr) (n c : Nat) (A1 : Option Addr) (n1 c1 : Nat) (A2 : Option Addr) (n2 c2 : Nat) (who most : Int) (w0 : World) (hW : IsW w0 w0.heap.size W A n A1 n1 A2 n2) :
   Calls Try.prog 71 #[.agg #[jI jZ W.root, jS A n c, jS A1 n1 c1, jS A2 n2 c2, jI jZ W.now], jI jZ who, jI jZ most] w0 (GivesWI w0 (aloneW W who most) (aloneN W who most)) := by
 by_cases hk : worldOk W = true
 · by_cases hw : hasB n1 who = true
   · by_cases hm : inB most 0 20000 = true
     · exact alone_go W A n c A1 n1 c1 A2 n2 c2 who most w0 hW hk hw hm
     · exact alone_out W A n c A1 n1 c1 A2 n2 c2 who most w0 hW hk hw (by simpa using hm)
   · exact alone_no1 W A n c A1 n1 c1 A2 n2 c2 who most w0 hW hk (by simpa using hw)
 · exact alone_no0 W A n c A1 n1 c1 A2 n2 c2 who most w0 hW (by simpa using hk)
end Go.Proofs.Ytjookicpmjmdhaa
