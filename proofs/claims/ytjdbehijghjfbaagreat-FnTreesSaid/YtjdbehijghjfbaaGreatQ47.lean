/- The walk of the model's Alone. (Made by genY28.py.) -/
import Derived.Test.YtjdbehijghjfbaaGreatQ46
import Derived.Test.YtjdbehijghjfbaaGreatQ24
namespace Go.Proofs.YtjdbehijghjfbaaGreat
open Go.RowKit

set_option maxRecDepth 100000 in
set_option maxHeartbeats 16000000 in
theorem alone_no0 (W : Wd) (A : Option Addr) (n c : Nat) (A1 : Option Addr) (n1 c1 : Nat) (A2 : Option Addr) (n2 c2 : Nat) (who most : Int) (w0 : World) (hW : IsW w0 w0.heap.size W A n A1 n1 A2 n2) (hk : worldOk W = false) :
    Calls Tryz.prog 65 #[.agg #[.int .i64 W.root, .slice A n c, .slice A1 n1 c1, .slice A2 n2 c2, .int .i64 W.now], .int .i64 who, .int .i64 most] w0 (GivesWI w0 (aloneW W who most) (aloneN W who most)) := by
  have l1 : W.hs.length = n1 := hW.hs.1
  have e1 : aloneW W who most = zeroW := by unfold aloneW; rw [l1, hk]; rfl
  have e2 : aloneN W who most = -1 := by unfold aloneN; rw [l1, hk]; rfl
  rw [e1, e2]
  have WK := Lib.hid (fun w hW => sWorldOk_any W A n c A1 n1 c1 A2 n2 c2 w hW)
  have TA := Lib.hid (fun w => task_any W.root W.now who A n c A1 n1 c1 A2 n2 c2 w hW.h1)
  have HW := Lib.hid hW
  rw [hk] at WK
  obtain ⟨r, hr⟩ : ∃ r, r = W.root := ⟨_, rfl⟩
  obtain ⟨now, hnow⟩ : ∃ now, now = W.now := ⟨_, rfl⟩
  rw [← hr, ← hnow] at WK TA
  rw [← hr, ← hnow]
  clear e1 e2 l1 hW hk hr hnow
  have S := Lib.hid (Sep.start noX w0)
  have tok0 : True := trivial
  have tok1 : True := trivial
  go_enter Tryz.func65, Tryz.ntmps65
  go_wp2_with (first
      | go_skip
      | (have _t := tok0; clear _t; refine wpList_op rfl (op_bx 71 _ rfl S.out _ rfl ?_); clear S tok0; intro gw w S; replace S := Lib.hid S)
      | (have _t := tok1; clear _t; refine wpList_op rfl (op_nx 71 rfl S.out _ Tryz.zeroValue71 ?_); clear S tok1; intro rw w S; replace S := Lib.hid S)
      | (refine wpList_op rfl (op_row 71 _ rfl S.out 1 rfl rfl Tryz.isAgg71 (by kernel_rfl) ?_)))
  refine (WK.out _ (HW.out.on S.out.below)).mono ?_
  rintro e w ⟨rfl, b⟩
  replace S := Lib.hid (S.out.call b)
  clear b
  go_wp2_with (first
      | go_skip
      | (refine wpList_op rfl (op_build 71 _ rfl [] rfl #[.int .i64 0, .slice none 0 0, .slice none 0 0, .slice none 0 0, .int .i64 0] (by kernel_rfl) ?_))
      | (refine wpList_op rfl (op_putR_0 71 _ _ rfl S rfl _ rfl rfl (by kernel_rfl) rfl ?_); clear S; intro w S))
  exact bodyPost_ret (results_cs rfl _ S.out 0 rfl rfl Tryz.isAgg71 (by kernel_rfl)) rfl (by exact zero_WI S.out.below (-1))

set_option maxRecDepth 100000 in
set_option maxHeartbeats 16000000 in
theorem alone_no1 (W : Wd) (A : Option Addr) (n c : Nat) (A1 : Option Addr) (n1 c1 : Nat) (A2 : Option Addr) (n2 c2 : Nat) (who most : Int) (w0 : World) (hW : IsW w0 w0.heap.size W A n A1 n1 A2 n2) (hk : worldOk W = true) (hw : hasB n1 who = false) :
    Calls Tryz.prog 65 #[.agg #[.int .i64 W.root, .slice A n c, .slice A1 n1 c1, .slice A2 n2 c2, .int .i64 W.now], .int .i64 who, .int .i64 most] w0 (GivesWI w0 (aloneW W who most) (aloneN W who most)) := by
  have l1 : W.hs.length = n1 := hW.hs.1
  have e1 : aloneW W who most = zeroW := by unfold aloneW; rw [l1, hk]; rw [hw]; rfl
  have e2 : aloneN W who most = -1 := by unfold aloneN; rw [l1, hk]; rw [hw]; rfl
  rw [e1, e2]
  have WK := Lib.hid (fun w hW => sWorldOk_any W A n c A1 n1 c1 A2 n2 c2 w hW)
  have TA := Lib.hid (fun w => task_any W.root W.now who A n c A1 n1 c1 A2 n2 c2 w hW.h1)
  have HW := Lib.hid hW
  rw [hk] at WK
  rw [hw] at TA
  obtain ⟨r, hr⟩ : ∃ r, r = W.root := ⟨_, rfl⟩
  obtain ⟨now, hnow⟩ : ∃ now, now = W.now := ⟨_, rfl⟩
  rw [← hr, ← hnow] at WK TA
  rw [← hr, ← hnow]
  clear e1 e2 l1 hW hk hw hr hnow
  have S := Lib.hid (Sep.start noX w0)
  have tok0 : True := trivial
  have tok1 : True := trivial
  go_enter Tryz.func65, Tryz.ntmps65
  go_wp2_with (first
      | go_skip
      | (have _t := tok0; clear _t; refine wpList_op rfl (op_bx 71 _ rfl S.out _ rfl ?_); clear S tok0; intro gw w S; replace S := Lib.hid S)
      | (have _t := tok1; clear _t; refine wpList_op rfl (op_nx 71 rfl S.out _ Tryz.zeroValue71 ?_); clear S tok1; intro rw w S; replace S := Lib.hid S)
      | (refine wpList_op rfl (op_row 71 _ rfl S.out 1 rfl rfl Tryz.isAgg71 (by kernel_rfl) ?_)))
  refine (WK.out _ (HW.out.on S.out.below)).mono ?_
  rintro e w ⟨rfl, b⟩
  replace S := Lib.hid (S.out.call b)
  clear b
  go_wp2_with (first
      | go_skip
      | (refine wpList_op rfl (op_row 71 _ rfl S.out 1 rfl rfl Tryz.isAgg71 (by kernel_rfl) ?_)))
  refine (TA.out _).mono ?_
  rintro e w ⟨rfl, b⟩
  replace S := Lib.hid (S.out.call b)
  clear b
  go_wp2_with (first
      | go_skip
      | (refine wpList_op rfl (op_build 71 _ rfl [] rfl #[.int .i64 0, .slice none 0 0, .slice none 0 0, .slice none 0 0, .int .i64 0] (by kernel_rfl) ?_))
      | (refine wpList_op rfl (op_putR_0 71 _ _ rfl S rfl _ rfl rfl (by kernel_rfl) rfl ?_); clear S; intro w S))
  exact bodyPost_ret (results_cs rfl _ S.out 0 rfl rfl Tryz.isAgg71 (by kernel_rfl)) rfl (by exact zero_WI S.out.below (-1))

set_option maxRecDepth 100000 in
set_option maxHeartbeats 16000000 in
theorem alone_out (W : Wd) (A : Option Addr) (n c : Nat) (A1 : Option Addr) (n1 c1 : Nat) (A2 : Option Addr) (n2 c2 : Nat) (who most : Int) (w0 : World) (hW : IsW w0 w0.heap.size W A n A1 n1 A2 n2) (hk : worldOk W = true) (hw : hasB n1 who = true) (hm : inB most 0 20000 = false) :
    Calls Tryz.prog 65 #[.agg #[.int .i64 W.root, .slice A n c, .slice A1 n1 c1, .slice A2 n2 c2, .int .i64 W.now], .int .i64 who, .int .i64 most] w0 (GivesWI w0 (aloneW W who most) (aloneN W who most)) := by
  have e1 : aloneW W who most = W := by unfold aloneW; rw [show W.hs.length = n1 from hW.hs.1, hk, hw, hm]; rfl
  have e2 : aloneN W who most = -1 := by unfold aloneN; rw [show W.hs.length = n1 from hW.hs.1, hk, hw, hm]; rfl
  rw [e1, e2]
  have l1 : W.hs.length = n1 := hW.hs.1
  obtain ⟨q1, q2, q3, q4, q5, q6⟩ := world_of hk
  obtain ⟨h0, h1⟩ := (hasB_iff n1 who).1 hw
  obtain ⟨kk, rfl⟩ : ∃ kk : Nat, who = kk := ⟨who.toNat, by omega⟩
  have hkn : kk < n1 := by omega
  have hst : ∀ i, i < n1 → (hdAt W.hs i).st.length ≤ 1048576 := fun i hi => by have := hand_stack (q6 i (by omega)).1; omega
  have CT := Lib.hid (fun w hW => copyW_any W A n c A1 n1 c1 A2 n2 c2 w hW hst)
  have L1 := Lib.hid l1
  have HKN := Lib.hid hkn
  have HOK := Lib.hid hk
  have WK := Lib.hid (fun w hW => sWorldOk_any W A n c A1 n1 c1 A2 n2 c2 w hW)
  have TA := Lib.hid (fun w => task_any W.root W.now kk A n c A1 n1 c1 A2 n2 c2 w hW.h1)
  have HW := Lib.hid hW
  rw [hk] at WK
  rw [hw] at TA
  unfold GivesW wdV at CT
  unfold GivesWI wdV
  have NK := Lib.hid (fun w => now_any most w)
  rw [hm] at NK
  clear e1 e2 hk hw hst q1 q2 q3 q4 q5 q6 h0 h1 hkn l1 hW hm
  have S := Lib.hid (Sep.start noX w0)
  have tok6 : True := trivial
  have tok0 : True := trivial
  have tok1 : True := trivial
  go_enter Tryz.func65, Tryz.ntmps65
  go_wp2_with (first
      | go_skip
      | (have _t := tok0; clear _t; refine wpList_op rfl (op_bx 71 _ rfl S.out _ rfl ?_); clear S tok0; intro gw w S; replace S := Lib.hid S)
      | (have _t := tok1; clear _t; refine wpList_op rfl (op_nx 71 rfl S.out _ Tryz.zeroValue71 ?_); clear S tok1; intro rw w S; replace S := Lib.hid S)
      | (refine wpList_op rfl (op_row 71 _ rfl S.out 1 rfl rfl Tryz.isAgg71 (by kernel_rfl) ?_)))
  refine (WK.out _ (HW.out.on S.out.below)).mono ?_
  rintro e w ⟨rfl, b⟩
  replace S := Lib.hid (S.out.call b)
  clear b
  go_wp2_with (first
      | go_skip
      | (refine wpList_op rfl (op_row 71 _ rfl S.out 1 rfl rfl Tryz.isAgg71 (by kernel_rfl) ?_)))
  refine (TA.out _).mono ?_
  rintro e w ⟨rfl, b⟩
  replace S := Lib.hid (S.out.call b)
  clear b
  go_wp2_with (first
      | go_skip
      | (refine wpList_op rfl (op_row 71 _ rfl S.out 1 rfl rfl Tryz.isAgg71 (by kernel_rfl) ?_)))
  refine (CT.out _ (HW.out.on S.out.below)).mono ?_
  rintro e w ⟨AN, cN, FN, AH, cH, FH, AD, cD, FD, rfl, ⟨o1, o2, o3, a1, a2, a3⟩, f1, f2, f3, b9⟩
  obtain ⟨gH, rfl⟩ : ∃ gH, AH = some ⟨gH, 0, none⟩ := by
    obtain ⟨g9, cap, _, _, _, _, hv, _⟩ := OwnS.open o2 kk (by rw [L1.out]; exact HKN.out)
    refine ⟨g9, ?_⟩
    simp only [Value.slice.injEq] at hv
    exact hv.1
  replace S := Lib.hid (S.out.gain3 b9 (ow (.slice AN W.ns.length cN) W.ns FN) (ow (.slice (some ⟨gH, 0, none⟩) W.hs.length cH) W.hs FH) (ow (.slice AD W.ds.length cD) W.ds FD) o1 o2 o3 f1 f2 f3 a1 a2 a3)
  clear o1 o2 o3 a1 a2 a3 f1 f2 f3 b9
  go_wp2_with (first
      | go_skip
      | (have _t := tok6; clear _t; refine wpList_op rfl (op_nx 71 rfl S.out _ Tryz.zeroValue71 ?_); clear S tok6; intro go w S; replace S := Lib.hid S)
      | (refine wpList_op rfl (op_putR_0 71 _ _ rfl S rfl _ rfl rfl (by kernel_rfl) rfl ?_); clear S; intro w S))
  refine (NK.out _).mono ?_
  rintro e w9 ⟨rfl, rfl⟩
  go_wp2_with (first
      | go_skip
      | (refine wpList_op rfl (op_row 71 _ rfl S.out 0 rfl rfl Tryz.isAgg71 (by kernel_rfl) ?_))
      | (refine wpList_op rfl (op_putR_4 71 _ _ rfl S rfl _ rfl rfl (by kernel_rfl) rfl ?_); clear S; intro w S))
  exact bodyPost_ret (results_cs rfl _ S.out 4 rfl rfl Tryz.isAgg71 (by kernel_rfl)) rfl (by exact ⟨AN, cN, FN, some ⟨gH, 0, none⟩, cH, FH, AD, cD, FD, rfl, S.out.ownW 1 2 3 (by omega) (by omega) (by omega) rfl rfl rfl rfl rfl rfl, (S.out.ends 1 rfl).2.1, (S.out.ends 2 rfl).2.1, (S.out.ends 3 rfl).2.1, S.out.below⟩)

set_option maxRecDepth 100000 in
set_option maxHeartbeats 16000000 in
theorem alone_go (W : Wd) (A : Option Addr) (n c : Nat) (A1 : Option Addr) (n1 c1 : Nat) (A2 : Option Addr) (n2 c2 : Nat) (who most : Int) (w0 : World) (hW : IsW w0 w0.heap.size W A n A1 n1 A2 n2) (hk : worldOk W = true) (hw : hasB n1 who = true) (hm : inB most 0 20000 = true) :
    Calls Tryz.prog 65 #[.agg #[.int .i64 W.root, .slice A n c, .slice A1 n1 c1, .slice A2 n2 c2, .int .i64 W.now], .int .i64 who, .int .i64 most] w0 (GivesWI w0 (aloneW W who most) (aloneN W who most)) := by
  obtain ⟨M, rfl⟩ : ∃ M : Nat, most = M := ⟨most.toNat, by unfold inB at hm; simp at hm; omega⟩
  have hM : M ≤ 20000 := by unfold inB at hm; simp at hm; omega
  have e1 : aloneW W who M = (aloneF who.toNat M W).1 := by unfold aloneW; rw [show W.hs.length = n1 from hW.hs.1, hk, hw, hm]; rfl
  have e2 : aloneN W who M = ((aloneF who.toNat M W).2 : Int) := by unfold aloneN; rw [show W.hs.length = n1 from hW.hs.1, hk, hw, hm]; rfl
  rw [e1, e2]
  have l1 : W.hs.length = n1 := hW.hs.1
  obtain ⟨q1, q2, q3, q4, q5, q6⟩ := world_of hk
  obtain ⟨h0, h1⟩ := (hasB_iff n1 who).1 hw
  obtain ⟨kk, rfl⟩ : ∃ kk : Nat, who = kk := ⟨who.toNat, by omega⟩
  have hkn : kk < n1 := by omega
  have hst : ∀ i, i < n1 → (hdAt W.hs i).st.length ≤ 1048576 := fun i hi => by have := hand_stack (q6 i (by omega)).1; omega
  have CT := Lib.hid (fun w hW => copyW_any W A n c A1 n1 c1 A2 n2 c2 w hW hst)
  have L1 := Lib.hid l1
  have HKN := Lib.hid hkn
  have HOK := Lib.hid hk
  have WK := Lib.hid (fun w hW => sWorldOk_any W A n c A1 n1 c1 A2 n2 c2 w hW)
  have TA := Lib.hid (fun w => task_any W.root W.now kk A n c A1 n1 c1 A2 n2 c2 w hW.h1)
  have HW := Lib.hid hW
  rw [hk] at WK
  rw [hw] at TA
  unfold GivesW wdV at CT
  unfold GivesWI wdV
  rw [show ((kk : Int)).toNat = kk by omega]
  have NK := Lib.hid (fun w => now_any M w)
  rw [hm] at NK
  have HM := Lib.hid hM
  generalize hR : aloneF kk M W = R at *
  have HR0 := Lib.hid hR
  clear e1 e2 hk hw hst q1 q2 q3 q4 q5 q6 h0 h1 hkn l1 hW hm hM hR
  have S := Lib.hid (Sep.start noX w0)
  have tok6 : True := trivial
  have tok0 : True := trivial
  have tok1 : True := trivial
  go_enter Tryz.func65, Tryz.ntmps65
  go_wp2_with (first
      | go_skip
      | (have _t := tok0; clear _t; refine wpList_op rfl (op_bx 71 _ rfl S.out _ rfl ?_); clear S tok0; intro gw w S; replace S := Lib.hid S)
      | (have _t := tok1; clear _t; refine wpList_op rfl (op_nx 71 rfl S.out _ Tryz.zeroValue71 ?_); clear S tok1; intro rw w S; replace S := Lib.hid S)
      | (refine wpList_op rfl (op_row 71 _ rfl S.out 1 rfl rfl Tryz.isAgg71 (by kernel_rfl) ?_)))
  refine (WK.out _ (HW.out.on S.out.below)).mono ?_
  rintro e w ⟨rfl, b⟩
  replace S := Lib.hid (S.out.call b)
  clear b
  go_wp2_with (first
      | go_skip
      | (refine wpList_op rfl (op_row 71 _ rfl S.out 1 rfl rfl Tryz.isAgg71 (by kernel_rfl) ?_)))
  refine (TA.out _).mono ?_
  rintro e w ⟨rfl, b⟩
  replace S := Lib.hid (S.out.call b)
  clear b
  go_wp2_with (first
      | go_skip
      | (refine wpList_op rfl (op_row 71 _ rfl S.out 1 rfl rfl Tryz.isAgg71 (by kernel_rfl) ?_)))
  refine (CT.out _ (HW.out.on S.out.below)).mono ?_
  rintro e w ⟨AN, cN, FN, AH, cH, FH, AD, cD, FD, rfl, ⟨o1, o2, o3, a1, a2, a3⟩, f1, f2, f3, b9⟩
  obtain ⟨gH, rfl⟩ : ∃ gH, AH = some ⟨gH, 0, none⟩ := by
    obtain ⟨g9, cap, _, _, _, _, hv, _⟩ := OwnS.open o2 kk (by rw [L1.out]; exact HKN.out)
    refine ⟨g9, ?_⟩
    simp only [Value.slice.injEq] at hv
    exact hv.1
  replace S := Lib.hid (S.out.emI.gain3 b9 (ow (.slice AN W.ns.length cN) W.ns FN) (ow (.slice (some ⟨gH, 0, none⟩) W.hs.length cH) W.hs FH) (ow (.slice AD W.ds.length cD) W.ds FD) o1 o2 o3 f1 f2 f3 a1 a2 a3)
  clear o1 o2 o3 a1 a2 a3 f1 f2 f3 b9 CT WK TA HW
  go_wp2_with (first
      | go_skip
      | (have _t := tok6; clear _t; refine wpList_op rfl (op_nxAt 71 rfl S.out 3 rfl _ Tryz.zeroValue71 ?_); clear S tok6; intro go w S; replace S : Hid (Sep noX w0 [ow (.slice AN W.ns.length cN) W.ns FN, ow (.slice (some ⟨gH, 0, none⟩) W.hs.length cH) W.hs FH, ow (.slice AD W.ds.length cD) W.ds FD, bx go #[.int .i64 0, .slice none 0 0, .slice none 0 0, .slice none 0 0, .int .i64 0] 71, bx rw #[.int .i64 0, .slice none 0 0, .slice none 0 0, .slice none 0 0, .int .i64 0] 71, bx gw #[.int .i64 W.root, .slice A n c, .slice A1 n1 c1, .slice A2 n2 c2, .int .i64 W.now] 71] w) := Lib.hid S)
      | (refine wpList_op rfl (op_putR_3 71 _ _ rfl S rfl _ rfl rfl (by kernel_rfl) rfl ?_); clear S; intro w S))
  refine (NK.out _).mono ?_
  rintro e w9 ⟨rfl, rfl⟩
  go_wp2_with fail
  go_loopw [9] (fun i wr => ∃ (k : Nat) (V : Wd) (AN : Option Addr) (cN : Nat) (FN : FP) (gH cH : Nat) (FH : FP) (AD : Option Addr) (cD : Nat) (FD : FP), i = .int .i64 k ∧ k ≤ M ∧ Hid (worldOk V = true ∧ V.hs.length = n1 ∧ R = ((aloneF kk (M - k) V).1, (aloneF kk (M - k) V).2 + k)) ∧ Hid (Sep noX w0 [ow (.slice AN V.ns.length cN) V.ns FN, ow (.slice (some ⟨gH, 0, none⟩) V.hs.length cH) V.hs FH, ow (.slice AD V.ds.length cD) V.ds FD, bx go #[.int .i64 V.root, .slice AN V.ns.length cN, .slice (some ⟨gH, 0, none⟩) V.hs.length cH, .slice AD V.ds.length cD, .int .i64 V.now] 71, bx rw #[.int .i64 0, .slice none 0 0, .slice none 0 0, .slice none 0 0, .int .i64 0] 71, bx gw #[.int .i64 W.root, .slice A n c, .slice A1 n1 c1, .slice A2 n2 c2, .int .i64 W.now] 71] wr)) (fun i _ => M - (intOf i).toNat)
  case atStart => exact ⟨0, W, AN, cN, FN, gH, cH, FH, AD, cD, FD, rfl, by omega, Lib.hid ⟨HOK.out, L1.out, by rw [← HR0.out]; rfl⟩, S⟩
  case round =>
    clear S
    obtain ⟨k, V, AN, cN, FN, gH, cH, FH, AD, cD, FD, rfl, hkM, hv, S⟩ := hrel
    have hM := HM.out
    by_cases hlt : k < M
    · obtain ⟨b, off, hA, hb, A3, n3, c3, hcc, _⟩ := RS.hdAt (OwnS.rs (S.out.get 1 rfl : OwnS wr (.slice (some ⟨gH, 0, none⟩) V.hs.length cH) V.hs FH) rfl) kk (by rw [hv.out.2.1]; exact HKN.out)
      obtain ⟨rfl, rfl⟩ : gH = b ∧ 0 = off := by simpa using hA
      have hc0 : wr.cell? ⟨gH, kk * 16, none⟩ = some (.int .i64 (hdAt V.hs kk).pos) := by have := hcc 0 _ rfl; simpa using this
      have HC0 := Lib.hid hc0
      have HKV : Hid (kk < V.hs.length) := Lib.hid (by rw [hv.out.2.1]; exact HKN.out)
      have d1 : decide ((k : Int) < (M : Int)) = true := by rw [decide_eq_true_eq]; omega
      have HLT := Lib.hid hlt
      clear hA hb hcc hc0
      by_cases hp : (hdAt V.hs kk).pos = 0
      · have g1 : ((hdAt V.hs kk).pos != 0) = false := by simp [hp]
        have hE : R = (V, k) := by rw [hv.out.2.2, alone_rest hp]; simp
        have HE := Lib.hid hE
        clear hp hE
        go_wp2_with (first
            | go_skip
            | (refine wpList_op rfl (op_idx _ _ _ rfl 96 16 Tryz.underlying68 Tryz.sizeOf96 (k := kk) rfl rfl HKV.out ?_))
            | (refine wpList_op rfl (op_cell 2 _ rfl rfl Tryz.isAgg2 HC0.out ?_))
            | (refine wpList_op rfl (op_get 68 _ rfl S.out 3 rfl _ rfl Tryz.isAgg68 _ rfl ?_))
            | (refine wpList_op rfl (op_row 71 _ rfl S.out 3 rfl rfl Tryz.isAgg71 (by kernel_rfl) ?_))
            | (refine wpList_op rfl (op_putR_4 71 _ _ rfl S rfl _ rfl rfl (by kernel_rfl) rfl ?_); clear S; intro w S))
        exact bodyPost_ret (results_cs rfl _ S.out 4 rfl rfl Tryz.isAgg71 (by kernel_rfl)) rfl (by rw [HE.out]; exact ⟨AN, cN, FN, some ⟨gH, 0, none⟩, cH, FH, AD, cD, FD, rfl, S.out.ownW 0 1 2 (by omega) (by omega) (by omega) rfl rfl rfl rfl rfl rfl, (S.out.ends 0 rfl).2.1, (S.out.ends 1 rfl).2.1, (S.out.ends 2 rfl).2.1, S.out.below⟩)
      · have g1 : ((hdAt V.hs kk).pos != 0) = true := by simp [hp]
        have HP := Lib.hid hp
        have SW := Lib.hid (stepW_any V AN V.ns.length cN (some ⟨gH, 0, none⟩) V.hs.length cH AD V.ds.length cD kk wr (isW_own hv.out.1 (S.out.get 0 rfl) (S.out.get 1 rfl) (S.out.get 2 rfl)) hv.out.1 HKV.out)
        unfold GivesWB wdV at SW
        clear hp
        go_wp2_with (first
            | go_skip
            | (refine wpList_op rfl (op_idx _ _ _ rfl 96 16 Tryz.underlying68 Tryz.sizeOf96 (k := kk) rfl rfl HKV.out ?_))
            | (refine wpList_op rfl (op_cell 2 _ rfl rfl Tryz.isAgg2 HC0.out ?_))
            | (refine wpList_op rfl (op_get 68 _ rfl S.out 3 rfl _ rfl Tryz.isAgg68 _ rfl ?_))
            | (refine wpList_op rfl (op_row 71 _ rfl S.out 3 rfl rfl Tryz.isAgg71 (by kernel_rfl) ?_)))
        refine SW.out.mono ?_
        clear SW
        rintro e w ⟨A5, c5, F5, A6, c6, F6, A7, c7, F7, rfl, ⟨o1, o2, o3, a1, a2, a3⟩, f1, f2, f3, b9⟩
        replace S := Lib.hid (S.out.gain3 b9 (ow (.slice A5 (stepW V kk).ns.length c5) (stepW V kk).ns F5) (ow (.slice A6 (stepW V kk).hs.length c6) (stepW V kk).hs F6) (ow (.slice A7 (stepW V kk).ds.length c7) (stepW V kk).ds F7) o1 o2 o3 f1 f2 f3 a1 a2 a3)
        clear o1 o3 a1 a2 a3 f1 f2 f3 b9
        have tok7 : True := trivial
        by_cases hs : stepsB V kk = true
        · obtain ⟨w1, w2⟩ := stepW_ok hv.out.1 HKV.out hs
          obtain ⟨g6, rfl⟩ : ∃ g6, A6 = some ⟨g6, 0, none⟩ := by
            obtain ⟨g9, cap, _, _, _, _, hv, _⟩ := OwnS.open o2 kk (by rw [w2]; exact HKV.out)
            refine ⟨g9, ?_⟩
            simp only [Value.slice.injEq] at hv
            exact hv.1
          have hR : R = ((aloneF kk (M - (k + 1)) (stepW V kk)).1, (aloneF kk (M - (k + 1)) (stepW V kk)).2 + (k + 1)) := by
            rw [hv.out.2.2, show M - k = (M - (k + 1)) + 1 by have := HLT.out; omega, alone_step HP.out hs]
            simp only [Prod.mk.injEq, true_and]
            omega
          have HV2 : Hid (worldOk (stepW V kk) = true ∧ (stepW V kk).hs.length = n1 ∧ R = ((aloneF kk (M - (k + 1)) (stepW V kk)).1, (aloneF kk (M - (k + 1)) (stepW V kk)).2 + (k + 1))) := Lib.hid ⟨w1, by rw [w2]; exact hv.out.2.1, hR⟩
          have W1 : IntKind.i64.wrap ((k : Int) + 1) = (k : Int) + 1 := IntWalk.i64_in _ (by have := HLT.out; omega)
          clear o2 w1 w2 hR hv
          generalize stepW V kk = V2 at *
          go_wp2_with (first
              | go_skip
              | (have _t := tok7; clear _t; refine wpList_op rfl (op_nx 71 rfl S.out _ Tryz.zeroValue71 ?_); clear S tok7; intro gx w S; replace S := Lib.hid S)
              | (refine wpList_op rfl (op_putR_0 71 _ _ rfl S rfl _ rfl rfl (by kernel_rfl) rfl ?_); clear S; intro w S)
              | (refine wpList_op rfl (op_row 71 _ rfl S.out 0 rfl rfl Tryz.isAgg71 (by kernel_rfl) ?_))
              | (refine wpList_op rfl (op_putR_7 71 _ _ rfl S rfl _ rfl rfl (by kernel_rfl) rfl ?_); clear S; intro w S))
          replace S : Hid (Sep noX w0 [ow (.slice A5 V2.ns.length c5) V2.ns F5, ow (.slice (some ⟨g6, 0, none⟩) V2.hs.length c6) V2.hs F6, ow (.slice A7 V2.ds.length c7) V2.ds F7, bx go #[.int .i64 V2.root, .slice A5 V2.ns.length c5, .slice (some ⟨g6, 0, none⟩) V2.hs.length c6, .slice A7 V2.ds.length c7, .int .i64 V2.now] 71, bx rw #[.int .i64 0, .slice none 0 0, .slice none 0 0, .slice none 0 0, .int .i64 0] 71, bx gw #[.int .i64 W.root, .slice A n c, .slice A1 n1 c1, .slice A2 n2 c2, .int .i64 W.now] 71] w) := Lib.hid (S.out.drop (List.Sublist.cons _ (List.Sublist.cons_cons _ (List.Sublist.cons_cons _ (List.Sublist.cons_cons _ (List.Sublist.cons _ (List.Sublist.cons _ (List.Sublist.cons _ (List.Sublist.refl _)))))))))
          go_roundw
          case rel => exact ⟨k + 1, V2, A5, c5, F5, g6, c6, F6, A7, c7, F7, by go_num, by have := HLT.out; omega, HV2, S⟩
          case measure => simp [intOf]; have := HLT.out; omega
        · have hs : stepsB V kk = false := by simpa using hs
          have hE : R = (V, k) := by rw [hv.out.2.2, alone_stands hs]; simp
          have HE := Lib.hid hE
          clear hE o2
          go_wp2_with (first
              | go_skip
              | (have _t := tok7; clear _t; refine wpList_op rfl (op_nx 71 rfl S.out _ Tryz.zeroValue71 ?_); clear S tok7; intro gx w S; replace S := Lib.hid S)
              | (refine wpList_op rfl (op_putR_0 71 _ _ rfl S rfl _ rfl rfl (by kernel_rfl) rfl ?_); clear S; intro w S)
              | (refine wpList_op rfl (op_row 71 _ rfl S.out 7 rfl rfl Tryz.isAgg71 (by kernel_rfl) ?_))
              | (refine wpList_op rfl (op_putR_8 71 _ _ rfl S rfl _ rfl rfl (by kernel_rfl) rfl ?_); clear S; intro w S))
          exact bodyPost_ret (results_cs rfl _ S.out 8 rfl rfl Tryz.isAgg71 (by kernel_rfl)) rfl (by rw [HE.out]; exact ⟨AN, cN, FN, some ⟨gH, 0, none⟩, cH, FH, AD, cD, FD, rfl, S.out.ownW 4 5 6 (by omega) (by omega) (by omega) rfl rfl rfl rfl rfl rfl, (S.out.ends 4 rfl).2.1, (S.out.ends 5 rfl).2.1, (S.out.ends 6 rfl).2.1, S.out.below⟩)
    · obtain rfl : k = M := by omega
      have hE : R = (V, k) := by rw [hv.out.2.2, Nat.sub_self]; simp [aloneF]
      have d1 : decide ((k : Int) < (k : Int)) = false := by rw [decide_eq_false_iff_not]; omega
      have HE := Lib.hid hE
      clear hE hlt hkM
      go_wp2_with (first
          | go_skip
          | (refine wpList_op rfl (op_row 71 _ rfl S.out 3 rfl rfl Tryz.isAgg71 (by kernel_rfl) ?_))
          | (refine wpList_op rfl (op_putR_4 71 _ _ rfl S rfl _ rfl rfl (by kernel_rfl) rfl ?_); clear S; intro w S))
      exact bodyPost_ret (results_cs rfl _ S.out 4 rfl rfl Tryz.isAgg71 (by kernel_rfl)) rfl (by rw [HE.out]; exact ⟨AN, cN, FN, some ⟨gH, 0, none⟩, cH, FH, AD, cD, FD, rfl, S.out.ownW 0 1 2 (by omega) (by omega) (by omega) rfl rfl rfl rfl rfl rfl, (S.out.ends 0 rfl).2.1, (S.out.ends 1 rfl).2.1, (S.out.ends 2 rfl).2.1, S.out.below⟩)

theorem sAlone_any (W : Wd) (A : Option Addr) (n c : Nat) (A1 : Option Addr) (n1 c1 : Nat) (A2 : Option Addr) (n2 c2 : Nat) (who most : Int) (w0 : World) (hW : IsW w0 w0.heap.size W A n A1 n1 A2 n2) :
    Calls Tryz.prog 65 #[.agg #[.int .i64 W.root, .slice A n c, .slice A1 n1 c1, .slice A2 n2 c2, .int .i64 W.now], .int .i64 who, .int .i64 most] w0 (GivesWI w0 (aloneW W who most) (aloneN W who most)) := by
  by_cases hk : worldOk W = true
  · by_cases hw : hasB n1 who = true
    · by_cases hm : inB most 0 20000 = true
      · exact alone_go W A n c A1 n1 c1 A2 n2 c2 who most w0 hW hk hw hm
      · exact alone_out W A n c A1 n1 c1 A2 n2 c2 who most w0 hW hk hw (by simpa using hm)
    · exact alone_no1 W A n c A1 n1 c1 A2 n2 c2 who most w0 hW hk (by simpa using hw)
  · exact alone_no0 W A n c A1 n1 c1 A2 n2 c2 who most w0 hW (by simpa using hk)
end Go.Proofs.YtjdbehijghjfbaaGreat
