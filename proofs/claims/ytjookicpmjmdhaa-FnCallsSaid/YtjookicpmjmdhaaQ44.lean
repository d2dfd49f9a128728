/- The walk of the model's l14Step. (Made by genY27.py.) -/
import Derived.Test.YtjookicpmjmdhaaQ27
import Derived.Test.YtjookicpmjmdhaaQ43
open Go.Value renaming int → jI, slice → jS
open Go.IntKind renaming i64 → jZ
namespace Go.Proofs.Ytjookicpmjmdhaa
open Go.RowKit

set_option maxRecDepth 100000 in
set_option maxHeartbeats 16000000 in
theorem stepW_any (W : Wd) (A : Option Addr) (n c : Nat) (A1 : Option Addr) (n1 c1 : Nat) (A2 : Option Addr) (n2 c2 : Nat) (kk : Nat) (w0 : World) (hW : IsW w0 w0.heap.size W A n A1 n1 A2 n2) (hk : worldOk W = true) (hkn : kk < n1) :
   Calls Try.prog 78 #[.agg #[jI jZ W.root, jS A n c, jS A1 n1 c1, jS A2 n2 c2, jI jZ W.now], jI jZ kk] w0 (GivesWB w0 (stepW W kk) (stepsB W kk)) := by
 have l1 : W.hs.length = n1 := hW.hs.1
 obtain ⟨q1, q2, q3, q4, q5, q6⟩ := world_of hk
 have hst : ∀ i, i < n1 → (hdAt W.hs i).st.length ≤ 1048576 := fun i hi => by have := hand_stack (q6 i (by omega)).1; omega
 have CT := Lib.hid (fun w hW => copyW_any W A n c A1 n1 c1 A2 n2 c2 w hW hst)
 have HW := Lib.hid hW
 obtain ⟨b, off, rfl, hb, A3, n3, c3, hcc, hR, _⟩ := RS.hdAt hW.hs kk hkn
 have hx3 : n3 ≤ 1048576 := by rw [← hR.1]; exact hst kk hkn
 have DB : Hid (stepsB W kk = ((stepS ⟨W.root, W.ns⟩ kk (hdAt W.hs kk)).b && (!decide (W.now = 20000) && (!decide ((stepS ⟨W.root, W.ns⟩ kk (hdAt W.hs kk)).h.pos = 0) || (decide (n2 < 1000) && replyOk (hdAt W.hs kk).cc (hdAt W.hs kk).ck (hdAt W.hs kk).cv (stepS ⟨W.root, W.ns⟩ kk (hdAt W.hs kk)).h.rep))))) := Lib.hid (by unfold stepsB; rw [hW.ds.1])
 have DW : Hid (stepW W kk = if stepsB W kk then ⟨(stepS ⟨W.root, W.ns⟩ kk (hdAt W.hs kk)).t.root, (stepS ⟨W.root, W.ns⟩ kk (hdAt W.hs kk)).t.ns, W.hs.set kk (stepS ⟨W.root, W.ns⟩ kk (hdAt W.hs kk)).h, if (stepS ⟨W.root, W.ns⟩ kk (hdAt W.hs kk)).h.pos = 0 then W.ds ++ [⟨kk, (hdAt W.hs kk).cc, (hdAt W.hs kk).ck, (hdAt W.hs kk).cv, (hdAt W.hs kk).beg, W.now + 1, (stepS ⟨W.root, W.ns⟩ kk (hdAt W.hs kk)).h.rep, (stepS ⟨W.root, W.ns⟩ kk (hdAt W.hs kk)).h.out⟩] else W.ds, W.now + 1⟩ else W) := Lib.hid rfl
 have SP := Lib.hid (fun w hR hH => sStep_any W.root W.ns A n c kk (hdAt W.hs kk) A3 n3 c3 w hR hW.sm hH hx3)
 have LN := Lib.hid hW.ns.1
 have L1 := Lib.hid l1
 have L2 := Lib.hid hW.ds.1
 have HN := Lib.hid hW.ns
 obtain ⟨x, hx⟩ : ∃ x, x = hdAt W.hs kk := ⟨_, rfl⟩
 rw [← hx] at hcc hR SP DB DW
 have HC : Hid (∀ j u, ([jI jZ x.pos, jI jZ x.cc, jI jZ x.ck, jI jZ x.cv, jI jZ x.cur, jI jZ x.want, jI jZ x.key, jI jZ x.kid, jI jZ x.old, jI jZ x.next, jI jZ x.new, jS A3 n3 c3, jI jZ x.thn, jI jZ x.beg, jI jZ x.rep, jI jZ x.out] : List Value)[j]? = some u → w0.cell? ⟨b, off + kk * 16 + j, none⟩ = some u) := Lib.hid hcc
 have HRX := Lib.hid hR
 have HB := Lib.hid hb
 have HKN := Lib.hid hkn
 have HQ5 := Lib.hid q5
 have HN2 : Hid (n2 ≤ 1048576) := Lib.hid hW.h2
 have RE := Lib.hid (fun rep w => sReplyOk_any x.cc x.ck x.cv rep w)
 unfold GivesS hdV at SP
 unfold GivesW wdV at CT
 unfold GivesWB
 generalize stepS ⟨W.root, W.ns⟩ kk x = s at *
 generalize stepW W kk = rW at *
 generalize stepsB W kk = rB at *
 clear hk hst q1 q2 q3 q4 q5 q6 hx3 hcc hR hx hb l1 hW hkn
 obtain ⟨r, ns, hs, ds, now⟩ := W
 simp only at CT SP LN L1 L2 DB DW HQ5 HN ⊢
 have S := Lib.hid (Sep.start noX w0)
 have tok0 : True := trivial
 have tok1 : True := trivial
 have tok9 : True := trivial
 have tok8 : True := trivial
 have tok7 : True := trivial
 have tok6 : True := trivial
 go_enter Try.func78, Try.ntmps78
 go_wp2_with (first
     | go_skip
     | (have _t := tok0; clear _t; refine wpList_op rfl (op_bx 81 _ rfl S.out _ rfl ?_); clear S tok0; intro gw w S; replace S := Lib.hid S; simp only [Act.put, sa_, sb_, sc_])
     | (have _t := tok1; clear _t; refine wpList_op rfl (op_nx 81 rfl S.out _ Try.zeroValue81 ?_); clear S tok1; intro rw w S; replace S := Lib.hid S; simp only [Act.put, sa_, sb_, sc_])
     | (refine wpList_op rfl (op_idx _ _ _ rfl 31 16 Try.underlying78 Try.sizeOf31 (k := kk) rfl rfl HKN.out ?_); simp only [Act.put, sa_, sb_, sc_])
     | (refine wpList_op rfl (op_cells0 31 _ rfl S.out HB.out rfl Try.isAgg31 [jI jZ x.pos, jI jZ x.cc, jI jZ x.ck, jI jZ x.cv, jI jZ x.cur, jI jZ x.want, jI jZ x.key, jI jZ x.kid, jI jZ x.old, jI jZ x.next, jI jZ x.new, jS A3 n3 c3, jI jZ x.thn, jI jZ x.beg, jI jZ x.rep, jI jZ x.out] HC.out (by kernel_rfl) #[jI jZ x.pos, jI jZ x.cc, jI jZ x.ck, jI jZ x.cv, jI jZ x.cur, jI jZ x.want, jI jZ x.key, jI jZ x.kid, jI jZ x.old, jI jZ x.next, jI jZ x.new, jS A3 n3 c3, jI jZ x.thn, jI jZ x.beg, jI jZ x.rep, jI jZ x.out] rfl ?_); simp only [Act.put, sa_, sb_, sc_])
     | (have _t := tok9; clear _t; refine wpList_op rfl (op_nx 31 rfl S.out _ Try.zeroValue31 ?_); clear S tok9; intro gh w S; replace S := Lib.hid S; simp only [Act.put, sa_, sb_, sc_])
     | (refine wpList_op rfl (op_getK 77 _ rfl S.out 2 rfl 0 rfl Try.isAgg77 [jI jZ r, jS A n c] rfl (by kernel_rfl) ?_); simp only [Act.put, sa_, sb_, sc_])
     | (refine wpList_op rfl (op_get 78 _ rfl S.out 1 rfl _ rfl Try.isAgg78 _ rfl ?_); simp only [Act.put, sa_, sb_, sc_])
     | (refine wpList_op rfl (op_get 78 _ rfl S.out 2 rfl _ rfl Try.isAgg78 _ rfl ?_); simp only [Act.put, sa_, sb_, sc_])
     | (refine wpList_op rfl (op_putR_0 31 _ _ rfl S rfl _ rfl rfl (by kernel_rfl) rfl ?_); clear S; intro w S; simp only [Act.put])
     | (refine wpList_op rfl (op_row 31 _ rfl S.out 0 rfl rfl Try.isAgg31 (by kernel_rfl) ?_); simp only [Act.put, sa_, sb_, sc_]))
 refine (SP.out _ (S.out.rs HN.out) (S.out.rs HRX.out)).mono ?_
 rintro e w ⟨A5, c5, F5, A6, c6, F6, rfl, o5, o6, ap, f5, f6, b9⟩
 replace S := Lib.hid (S.out.gain2 b9 (ow (jS A5 s.t.ns.length c5) s.t.ns F5) (ow (jS A6 s.h.st.length c6) s.h.st F6) o5 o6 f5 f6 ap)
 clear o5 o6 ap f5 f6 b9 SP HN HRX
 have g0 : ∀ v : Bool, True := fun _ => trivial
 by_cases hsb : s.b = true
 · by_cases hnow : now = 20000
   · have g2 : (now == 20000) = true := by simp [hnow]
     have hB : rB = false := by rw [DB.out, hsb, hnow]; rfl
     have hE : rW = ⟨r, ns, hs, ds, now⟩ := by rw [DW.out, hB]; rfl
     have HE := Lib.hid hE
     have HEB := Lib.hid hB
     clear hE hB hnow DB DW g0
     go_wp2_with (first
         | go_skip
         | (have _t := tok8; clear _t; refine wpList_op rfl (op_nx 77 rfl S.out _ Try.zeroValue77 ?_); clear S tok8; intro gt w S; replace S := Lib.hid S; simp only [Act.put, sa_, sb_, sc_])
         | (have _t := tok7; clear _t; refine wpList_op rfl (op_nx 31 rfl S.out _ Try.zeroValue31 ?_); clear S tok7; intro gx w S; replace S := Lib.hid S; simp only [Act.put, sa_, sb_, sc_])
         | (refine wpList_op rfl (op_putR_1 77 _ _ rfl S rfl _ rfl rfl (by kernel_rfl) rfl ?_); clear S; intro w S; simp only [Act.put])
         | (refine wpList_op rfl (op_putR_0 31 _ _ rfl S rfl _ rfl rfl (by kernel_rfl) rfl ?_); clear S; intro w S; simp only [Act.put])
         | (refine wpList_op rfl (op_get 2 _ rfl S.out 6 rfl _ rfl Try.isAgg2 _ rfl ?_); simp only [Act.put, sa_, sb_, sc_])
         | (refine wpList_op rfl (op_row 81 _ rfl S.out 6 rfl rfl Try.isAgg81 (by kernel_rfl) ?_); simp only [Act.put, sa_, sb_, sc_]))
     refine (CT.out _ (HW.out.on S.out.below)).mono ?_
     rintro e w ⟨AN, cN, FN, AH, cH, FH, AD, cD, FD, rfl, ⟨o1, o2, o3, a1, a2, a3⟩, f1, f2, f3, b9⟩
     rw [LN.out] at o1
     rw [L1.out] at o2
     rw [L2.out] at o3
     rw [LN.out, L1.out, L2.out]
     replace S := Lib.hid (S.out.gain3 b9 (ow (jS AN n cN) ns FN) (ow (jS AH n1 cH) hs FH) (ow (jS AD n2 cD) ds FD) o1 o2 o3 f1 f2 f3 a1 a2 a3)
     clear o1 o2 o3 a1 a2 a3 f1 f2 f3 b9
     go_wp2_with (first
         | go_skip
         | (refine wpList_op rfl (op_putR_8 81 _ _ rfl S rfl _ rfl rfl (by kernel_rfl) rfl ?_); clear S; intro w S))
     exact bodyPost_ret (results_cs rfl _ S.out 8 rfl rfl Try.isAgg81 (by kernel_rfl)) rfl (by rw [HE.out, HEB.out]; exact ⟨AN, cN, FN, AH, cH, FH, AD, cD, FD, by unfold wdV; rw [LN.out, L1.out, L2.out]; rfl, S.out.ownW 0 1 2 (by omega) (by omega) (by omega) rfl rfl rfl LN.out L1.out L2.out, (S.out.ends 0 rfl).2.1, (S.out.ends 1 rfl).2.1, (S.out.ends 2 rfl).2.1, S.out.below⟩)
   · have g2 : (now == 20000) = false := by simp [hnow]
     have W1 : IntKind.i64.wrap (now + 1) = now + 1 := IntWalk.i64_in _ (by have := HQ5.out; omega)
     have HNOW := Lib.hid hnow
     have HSB := Lib.hid hsb
     clear hnow g0
     go_wp2_with (first
         | go_skip
         | (have _t := tok8; clear _t; refine wpList_op rfl (op_nx 77 rfl S.out _ Try.zeroValue77 ?_); clear S tok8; intro gt w S; replace S := Lib.hid S; simp only [Act.put, sa_, sb_, sc_])
         | (have _t := tok7; clear _t; refine wpList_op rfl (op_nx 31 rfl S.out _ Try.zeroValue31 ?_); clear S tok7; intro gx w S; replace S := Lib.hid S; simp only [Act.put, sa_, sb_, sc_])
         | (refine wpList_op rfl (op_putR_1 77 _ _ rfl S rfl _ rfl rfl (by kernel_rfl) rfl ?_); clear S; intro w S; simp only [Act.put])
         | (refine wpList_op rfl (op_putR_0 31 _ _ rfl S rfl _ rfl rfl (by kernel_rfl) rfl ?_); clear S; intro w S; simp only [Act.put])
         | (refine wpList_op rfl (op_get 2 _ rfl S.out 6 rfl _ rfl Try.isAgg2 _ rfl ?_); simp only [Act.put, sa_, sb_, sc_])
         | (refine wpList_op rfl (op_row 81 _ rfl S.out 6 rfl rfl Try.isAgg81 (by kernel_rfl) ?_); simp only [Act.put, sa_, sb_, sc_]))
     refine (CT.out _ (HW.out.on S.out.below)).mono ?_
     rintro e w ⟨AN, cN, FN, AH, cH, FH, AD, cD, FD, rfl, ⟨o1, o2, o3, a1, a2, a3⟩, f1, f2, f3, b9⟩
     rw [LN.out] at o1
     rw [L1.out] at o2
     rw [L2.out] at o3
     rw [LN.out, L1.out, L2.out]
     obtain ⟨gH, rfl⟩ : ∃ gH, AH = some ⟨gH, 0, none⟩ := by
       obtain ⟨g9, cap, _, _, _, _, hv, _⟩ := OwnS.open o2 kk (by rw [L1.out]; exact HKN.out)
       refine ⟨g9, ?_⟩
       simp only [Value.slice.injEq] at hv
       exact hv.1
     replace S := Lib.hid (S.out.gain3 b9 (ow (jS AN n cN) ns FN) (ow (jS (some ⟨gH, 0, none⟩) n1 cH) hs FH) (ow (jS AD n2 cD) ds FD) o1 o2 o3 f1 f2 f3 a1 a2 a3)
     clear o1 o2 o3 a1 a2 a3 f1 f2 f3 b9
     by_cases hp : s.h.pos = 0
     · have g3 : (s.h.pos != 0) = false := by simp [hp]
       have HP := Lib.hid hp
       clear hp
       by_cases h1000 : 1000 ≤ n2
       · have g4 : decide ((1000 : Int) ≤ (n2 : Int)) = true := by rw [decide_eq_true_eq]; omega
         have g5 : decide (1000 ≤ n2) = true := by rw [decide_eq_true_eq]; omega
         have hB : rB = false := by
           have e5 : decide (n2 < 1000) = false := by rw [decide_eq_false_iff_not]; omega
           rw [DB.out, HSB.out, HP.out, e5]; simp
         have hE : rW = ⟨r, ns, hs, ds, now⟩ := by rw [DW.out, hB]; rfl
         have HE := Lib.hid hE
         have HEB := Lib.hid hB
         clear hE hB DB DW h1000
         go_wp2_with (first
             | go_skip
             | (clear tok6; refine nx_ 81 S rfl rfl Try.zeroValue81 ?_; clear S; intro go w S)
             | (refine wpList_op rfl (op_idx _ _ _ rfl 31 16 Try.underlying78 Try.sizeOf31 (k := kk) rfl rfl HKN.out ?_))
             | (refine wpList_op rfl (op_put 77 _ _ rfl S.out 0 (g := go) (C := #[jI jZ r, jS AN n cN, jS (some ⟨gH, 0, none⟩) n1 cH, jS AD n2 cD, jI jZ (now + 1)]) (t := 81) rfl 0 rfl _ rfl _ rfl rfl (by kernel_rfl) (of_decide_eq_true rfl) #[jI jZ s.t.root, jS A5 s.t.ns.length c5, jS (some ⟨gH, 0, none⟩) n1 cH, jS AD n2 cD, jI jZ (now + 1)] rfl ?_); clear S; intro w S; replace S : Hid (Sep noX w0 [bx go #[jI jZ s.t.root, jS A5 s.t.ns.length c5, jS (some ⟨gH, 0, none⟩) n1 cH, jS AD n2 cD, jI jZ (now + 1)] 81, ow (jS AN n cN) ns FN, ow (jS (some ⟨gH, 0, none⟩) n1 cH) (hs) FH, ow (jS AD n2 cD) ds FD, bx gx #[jI jZ s.h.pos, jI jZ s.h.cc, jI jZ s.h.ck, jI jZ s.h.cv, jI jZ s.h.cur, jI jZ s.h.want, jI jZ s.h.key, jI jZ s.h.kid, jI jZ s.h.old, jI jZ s.h.next, jI jZ s.h.new, jS A6 s.h.st.length c6, jI jZ s.h.thn, jI jZ s.h.beg, jI jZ s.h.rep, jI jZ s.h.out] 31, bx gt #[jI jZ s.t.root, jS A5 s.t.ns.length c5] 77, ow (jS A5 s.t.ns.length c5) s.t.ns F5, ow (jS A6 s.h.st.length c6) s.h.st F6, bx gh #[jI jZ x.pos, jI jZ x.cc, jI jZ x.ck, jI jZ x.cv, jI jZ x.cur, jI jZ x.want, jI jZ x.key, jI jZ x.kid, jI jZ x.old, jI jZ x.next, jI jZ x.new, jS A3 n3 c3, jI jZ x.thn, jI jZ x.beg, jI jZ x.rep, jI jZ x.out] 31, bx rw #[jI jZ 0, jS none 0 0, jS none 0 0, jS none 0 0, jI jZ 0] 81, bx gw #[jI jZ r, jS A n c, jS (some ⟨b, off, none⟩) n1 c1, jS A2 n2 c2, jI jZ now] 81] w) := Lib.hid S)
             | (refine wpList_op rfl (op_putEl 31 (by kernel_rfl) _ _ rfl S.out (C := #[jI jZ s.h.pos, jI jZ s.h.cc, jI jZ s.h.ck, jI jZ s.h.cv, jI jZ s.h.cur, jI jZ s.h.want, jI jZ s.h.key, jI jZ s.h.kid, jI jZ s.h.old, jI jZ s.h.next, jI jZ s.h.new, jS A6 s.h.st.length c6, jI jZ s.h.thn, jI jZ s.h.beg, jI jZ s.h.rep, jI jZ s.h.out]) (J := ow (jS A6 s.h.st.length c6) s.h.st F6) s.h 2 7 (by omega) rfl rfl (el_hand s.h A6 c6 F6) (by simp [Value.oneCell']) HKN.out rfl (by show _ = kk * 16; omega) rfl ?_); clear S; intro w S; replace S : Hid (Sep noX w0 [bx go #[jI jZ s.t.root, jS A5 s.t.ns.length c5, jS (some ⟨gH, 0, none⟩) n1 cH, jS AD n2 cD, jI jZ (now + 1)] 81, ow (jS AN n cN) ns FN, ow (jS (some ⟨gH, 0, none⟩) n1 cH) (hs.set kk s.h) (fun q => FH q ∨ F6 q), ow (jS AD n2 cD) ds FD, bx gx #[jI jZ s.h.pos, jI jZ s.h.cc, jI jZ s.h.ck, jI jZ s.h.cv, jI jZ s.h.cur, jI jZ s.h.want, jI jZ s.h.key, jI jZ s.h.kid, jI jZ s.h.old, jI jZ s.h.next, jI jZ s.h.new, jS A6 s.h.st.length c6, jI jZ s.h.thn, jI jZ s.h.beg, jI jZ s.h.rep, jI jZ s.h.out] 31, bx gt #[jI jZ s.t.root, jS A5 s.t.ns.length c5] 77, ow (jS A5 s.t.ns.length c5) s.t.ns F5, em, bx gh #[jI jZ x.pos, jI jZ x.cc, jI jZ x.ck, jI jZ x.cv, jI jZ x.cur, jI jZ x.want, jI jZ x.key, jI jZ x.kid, jI jZ x.old, jI jZ x.next, jI jZ x.new, jS A3 n3 c3, jI jZ x.thn, jI jZ x.beg, jI jZ x.rep, jI jZ x.out] 31, bx rw #[jI jZ 0, jS none 0 0, jS none 0 0, jS none 0 0, jI jZ 0] 81, bx gw #[jI jZ r, jS A n c, jS (some ⟨b, off, none⟩) n1 c1, jS A2 n2 c2, jI jZ now] 81] w) := Lib.hid S)
             | (refine wpList_op rfl (op_putR_0 81 _ _ rfl S rfl _ rfl rfl (by kernel_rfl) rfl ?_); clear S; intro w S)
             | (refine wpList_op rfl (op_get 2 _ rfl S.out 10 rfl _ rfl Try.isAgg2 _ rfl ?_))
             | (refine wpList_op rfl (op_put1_0 2 _ _ rfl S _ rfl _ rfl rfl (by kernel_rfl) (of_decide_eq_true rfl) ?_); clear S; intro w S; replace S : Hid (Sep noX w0 [bx go #[jI jZ r, jS AN n cN, jS (some ⟨gH, 0, none⟩) n1 cH, jS AD n2 cD, jI jZ (now + 1)] 81, ow (jS AN n cN) ns FN, ow (jS (some ⟨gH, 0, none⟩) n1 cH) (hs) FH, ow (jS AD n2 cD) ds FD, bx gx #[jI jZ s.h.pos, jI jZ s.h.cc, jI jZ s.h.ck, jI jZ s.h.cv, jI jZ s.h.cur, jI jZ s.h.want, jI jZ s.h.key, jI jZ s.h.kid, jI jZ s.h.old, jI jZ s.h.next, jI jZ s.h.new, jS A6 s.h.st.length c6, jI jZ s.h.thn, jI jZ s.h.beg, jI jZ s.h.rep, jI jZ s.h.out] 31, bx gt #[jI jZ s.t.root, jS A5 s.t.ns.length c5] 77, ow (jS A5 s.t.ns.length c5) s.t.ns F5, ow (jS A6 s.h.st.length c6) s.h.st F6, bx gh #[jI jZ x.pos, jI jZ x.cc, jI jZ x.ck, jI jZ x.cv, jI jZ x.cur, jI jZ x.want, jI jZ x.key, jI jZ x.kid, jI jZ x.old, jI jZ x.next, jI jZ x.new, jS A3 n3 c3, jI jZ x.thn, jI jZ x.beg, jI jZ x.rep, jI jZ x.out] 31, bx rw #[jI jZ 0, jS none 0 0, jS none 0 0, jS none 0 0, jI jZ 0] 81, bx gw #[jI jZ r, jS A n c, jS (some ⟨b, off, none⟩) n1 c1, jS A2 n2 c2, jI jZ now] 81] w) := S)
             | (refine wpList_op rfl (op_row 77 _ rfl S.out 5 rfl rfl Try.isAgg77 (by kernel_rfl) ?_))
             | (refine wpList_op rfl (op_get 78 _ rfl S.out 0 rfl _ rfl Try.isAgg78 _ rfl ?_))
             | (refine wpList_op rfl (op_row 31 _ rfl S.out 4 rfl rfl Try.isAgg31 (by kernel_rfl) ?_))
             | (refine wpList_op rfl (op_get 2 _ rfl S.out 4 rfl _ rfl Try.isAgg2 _ rfl ?_))
             | (refine wpList_op rfl (op_get 79 _ rfl S.out 10 rfl _ rfl Try.isAgg79 _ rfl ?_))
             | (refine wpList_op rfl (op_row 81 _ rfl S.out 10 rfl rfl Try.isAgg81 (by kernel_rfl) ?_)))
         refine (CT.out _ (HW.out.on S.out.below)).mono ?_
         rintro e w ⟨AN, cN, FN, AH, cH, FH, AD, cD, FD, rfl, ⟨o1, o2, o3, a1, a2, a3⟩, f1, f2, f3, b9⟩
         rw [LN.out] at o1
         rw [L1.out] at o2
         rw [L2.out] at o3
         rw [LN.out, L1.out, L2.out]
         replace S := Lib.hid (S.out.gain3 b9 (ow (jS AN n cN) ns FN) (ow (jS AH n1 cH) hs FH) (ow (jS AD n2 cD) ds FD) o1 o2 o3 f1 f2 f3 a1 a2 a3)
         clear o1 o2 o3 a1 a2 a3 f1 f2 f3 b9
         go_wp2_with (first
             | go_skip
             | (refine wpList_op rfl (op_putR_12 81 _ _ rfl S rfl _ rfl rfl (by kernel_rfl) rfl ?_); clear S; intro w S))
         exact bodyPost_ret (results_cs rfl _ S.out 12 rfl rfl Try.isAgg81 (by kernel_rfl)) rfl (by rw [HE.out, HEB.out]; exact ⟨AN, cN, FN, AH, cH, FH, AD, cD, FD, by unfold wdV; rw [LN.out, L1.out, L2.out]; rfl, S.out.ownW 0 1 2 (by omega) (by omega) (by omega) rfl rfl rfl LN.out L1.out L2.out, (S.out.ends 0 rfl).2.1, (S.out.ends 1 rfl).2.1, (S.out.ends 2 rfl).2.1, S.out.below⟩)
       · have g4 : decide ((1000 : Int) ≤ (n2 : Int)) = false := by rw [decide_eq_false_iff_not]; omega
         have g5 : decide (1000 ≤ n2) = false := by rw [decide_eq_false_iff_not]; omega
         have e5 : decide (n2 < 1000) = true := by rw [decide_eq_true_eq]; omega
         have RE2 := Lib.hid (RE.out s.h.rep)
         replace DB := DB.out
         rw [HSB.out, HP.out, e5] at DB
         have H10 := Lib.hid h1000
         clear RE e5 h1000
         generalize hre : replyOk x.cc x.ck x.cv s.h.rep = q at *
         clear hre
         go_wp2_with (first
             | go_skip
             | (clear tok6; refine nx_ 81 S rfl rfl Try.zeroValue81 ?_; clear S; intro go w S)
             | (refine wpList_op rfl (op_idx _ _ _ rfl 31 16 Try.underlying78 Try.sizeOf31 (k := kk) rfl rfl HKN.out ?_))
             | (refine wpList_op rfl (op_put 77 _ _ rfl S.out 0 (g := go) (C := #[jI jZ r, jS AN n cN, jS (some ⟨gH, 0, none⟩) n1 cH, jS AD n2 cD, jI jZ (now + 1)]) (t := 81) rfl 0 rfl _ rfl _ rfl rfl (by kernel_rfl) (of_decide_eq_true rfl) #[jI jZ s.t.root, jS A5 s.t.ns.length c5, jS (some ⟨gH, 0, none⟩) n1 cH, jS AD n2 cD, jI jZ (now + 1)] rfl ?_); clear S; intro w S; replace S : Hid (Sep noX w0 [bx go #[jI jZ s.t.root, jS A5 s.t.ns.length c5, jS (some ⟨gH, 0, none⟩) n1 cH, jS AD n2 cD, jI jZ (now + 1)] 81, ow (jS AN n cN) ns FN, ow (jS (some ⟨gH, 0, none⟩) n1 cH) (hs) FH, ow (jS AD n2 cD) ds FD, bx gx #[jI jZ s.h.pos, jI jZ s.h.cc, jI jZ s.h.ck, jI jZ s.h.cv, jI jZ s.h.cur, jI jZ s.h.want, jI jZ s.h.key, jI jZ s.h.kid, jI jZ s.h.old, jI jZ s.h.next, jI jZ s.h.new, jS A6 s.h.st.length c6, jI jZ s.h.thn, jI jZ s.h.beg, jI jZ s.h.rep, jI jZ s.h.out] 31, bx gt #[jI jZ s.t.root, jS A5 s.t.ns.length c5] 77, ow (jS A5 s.t.ns.length c5) s.t.ns F5, ow (jS A6 s.h.st.length c6) s.h.st F6, bx gh #[jI jZ x.pos, jI jZ x.cc, jI jZ x.ck, jI jZ x.cv, jI jZ x.cur, jI jZ x.want, jI jZ x.key, jI jZ x.kid, jI jZ x.old, jI jZ x.next, jI jZ x.new, jS A3 n3 c3, jI jZ x.thn, jI jZ x.beg, jI jZ x.rep, jI jZ x.out] 31, bx rw #[jI jZ 0, jS none 0 0, jS none 0 0, jS none 0 0, jI jZ 0] 81, bx gw #[jI jZ r, jS A n c, jS (some ⟨b, off, none⟩) n1 c1, jS A2 n2 c2, jI jZ now] 81] w) := Lib.hid S)
             | (refine wpList_op rfl (op_putEl 31 (by kernel_rfl) _ _ rfl S.out (C := #[jI jZ s.h.pos, jI jZ s.h.cc, jI jZ s.h.ck, jI jZ s.h.cv, jI jZ s.h.cur, jI jZ s.h.want, jI jZ s.h.key, jI jZ s.h.kid, jI jZ s.h.old, jI jZ s.h.next, jI jZ s.h.new, jS A6 s.h.st.length c6, jI jZ s.h.thn, jI jZ s.h.beg, jI jZ s.h.rep, jI jZ s.h.out]) (J := ow (jS A6 s.h.st.length c6) s.h.st F6) s.h 2 7 (by omega) rfl rfl (el_hand s.h A6 c6 F6) (by simp [Value.oneCell']) HKN.out rfl (by show _ = kk * 16; omega) rfl ?_); clear S; intro w S; replace S : Hid (Sep noX w0 [bx go #[jI jZ s.t.root, jS A5 s.t.ns.length c5, jS (some ⟨gH, 0, none⟩) n1 cH, jS AD n2 cD, jI jZ (now + 1)] 81, ow (jS AN n cN) ns FN, ow (jS (some ⟨gH, 0, none⟩) n1 cH) (hs.set kk s.h) (fun q => FH q ∨ F6 q), ow (jS AD n2 cD) ds FD, bx gx #[jI jZ s.h.pos, jI jZ s.h.cc, jI jZ s.h.ck, jI jZ s.h.cv, jI jZ s.h.cur, jI jZ s.h.want, jI jZ s.h.key, jI jZ s.h.kid, jI jZ s.h.old, jI jZ s.h.next, jI jZ s.h.new, jS A6 s.h.st.length c6, jI jZ s.h.thn, jI jZ s.h.beg, jI jZ s.h.rep, jI jZ s.h.out] 31, bx gt #[jI jZ s.t.root, jS A5 s.t.ns.length c5] 77, ow (jS A5 s.t.ns.length c5) s.t.ns F5, em, bx gh #[jI jZ x.pos, jI jZ x.cc, jI jZ x.ck, jI jZ x.cv, jI jZ x.cur, jI jZ x.want, jI jZ x.key, jI jZ x.kid, jI jZ x.old, jI jZ x.next, jI jZ x.new, jS A3 n3 c3, jI jZ x.thn, jI jZ x.beg, jI jZ x.rep, jI jZ x.out] 31, bx rw #[jI jZ 0, jS none 0 0, jS none 0 0, jS none 0 0, jI jZ 0] 81, bx gw #[jI jZ r, jS A n c, jS (some ⟨b, off, none⟩) n1 c1, jS A2 n2 c2, jI jZ now] 81] w) := Lib.hid S)
             | (refine wpList_op rfl (op_getK 25 _ rfl S.out 8 rfl 1 rfl Try.isAgg25 [jI jZ x.cc, jI jZ x.ck, jI jZ x.cv] rfl (by kernel_rfl) ?_))
             | (refine wpList_op rfl (op_putR_0 81 _ _ rfl S rfl _ rfl rfl (by kernel_rfl) rfl ?_); clear S; intro w S)
             | (refine wpList_op rfl (op_get 2 _ rfl S.out 10 rfl _ rfl Try.isAgg2 _ rfl ?_))
             | (refine wpList_op rfl (op_put1_0 2 _ _ rfl S _ rfl _ rfl rfl (by kernel_rfl) (of_decide_eq_true rfl) ?_); clear S; intro w S; replace S : Hid (Sep noX w0 [bx go #[jI jZ r, jS AN n cN, jS (some ⟨gH, 0, none⟩) n1 cH, jS AD n2 cD, jI jZ (now + 1)] 81, ow (jS AN n cN) ns FN, ow (jS (some ⟨gH, 0, none⟩) n1 cH) (hs) FH, ow (jS AD n2 cD) ds FD, bx gx #[jI jZ s.h.pos, jI jZ s.h.cc, jI jZ s.h.ck, jI jZ s.h.cv, jI jZ s.h.cur, jI jZ s.h.want, jI jZ s.h.key, jI jZ s.h.kid, jI jZ s.h.old, jI jZ s.h.next, jI jZ s.h.new, jS A6 s.h.st.length c6, jI jZ s.h.thn, jI jZ s.h.beg, jI jZ s.h.rep, jI jZ s.h.out] 31, bx gt #[jI jZ s.t.root, jS A5 s.t.ns.length c5] 77, ow (jS A5 s.t.ns.length c5) s.t.ns F5, ow (jS A6 s.h.st.length c6) s.h.st F6, bx gh #[jI jZ x.pos, jI jZ x.cc, jI jZ x.ck, jI jZ x.cv, jI jZ x.cur, jI jZ x.want, jI jZ x.key, jI jZ x.kid, jI jZ x.old, jI jZ x.next, jI jZ x.new, jS A3 n3 c3, jI jZ x.thn, jI jZ x.beg, jI jZ x.rep, jI jZ x.out] 31, bx rw #[jI jZ 0, jS none 0 0, jS none 0 0, jS none 0 0, jI jZ 0] 81, bx gw #[jI jZ r, jS A n c, jS (some ⟨b, off, none⟩) n1 c1, jS A2 n2 c2, jI jZ now] 81] w) := S)
             | (refine wpList_op rfl (op_row 77 _ rfl S.out 5 rfl rfl Try.isAgg77 (by kernel_rfl) ?_))
             | (refine wpList_op rfl (op_get 78 _ rfl S.out 0 rfl _ rfl Try.isAgg78 _ rfl ?_))
             | (refine wpList_op rfl (op_row 31 _ rfl S.out 4 rfl rfl Try.isAgg31 (by kernel_rfl) ?_))
             | (refine wpList_op rfl (op_get 2 _ rfl S.out 4 rfl _ rfl Try.isAgg2 _ rfl ?_))
             | (refine wpList_op rfl (op_get 79 _ rfl S.out 10 rfl _ rfl Try.isAgg79 _ rfl ?_)))
         refine (RE2.out _).mono ?_
         rintro e w ⟨rfl, b9⟩
         replace S := Lib.hid (S.out.call b9)
         clear b9
         cases q
         · have hB : rB = false := by rw [DB]; simp
           have hE : rW = ⟨r, ns, hs, ds, now⟩ := by rw [DW.out, hB]; rfl
           have HE := Lib.hid hE
           have HEB := Lib.hid hB
           clear hE hB DB DW
           go_wp2_with (first
               | go_skip
               | (refine wpList_op rfl (op_row 81 _ rfl S.out 10 rfl rfl Try.isAgg81 (by kernel_rfl) ?_)))
           refine (CT.out _ (HW.out.on S.out.below)).mono ?_
           rintro e w ⟨AN, cN, FN, AH, cH, FH, AD, cD, FD, rfl, ⟨o1, o2, o3, a1, a2, a3⟩, f1, f2, f3, b9⟩
           rw [LN.out] at o1
           rw [L1.out] at o2
           rw [L2.out] at o3
           rw [LN.out, L1.out, L2.out]
           replace S := Lib.hid (S.out.gain3 b9 (ow (jS AN n cN) ns FN) (ow (jS AH n1 cH) hs FH) (ow (jS AD n2 cD) ds FD) o1 o2 o3 f1 f2 f3 a1 a2 a3)
           clear o1 o2 o3 a1 a2 a3 f1 f2 f3 b9
           go_wp2_with (first
               | go_skip
               | (refine wpList_op rfl (op_putR_12 81 _ _ rfl S rfl _ rfl rfl (by kernel_rfl) rfl ?_); clear S; intro w S))
           exact bodyPost_ret (results_cs rfl _ S.out 12 rfl rfl Try.isAgg81 (by kernel_rfl)) rfl (by rw [HE.out, HEB.out]; exact ⟨AN, cN, FN, AH, cH, FH, AD, cD, FD, by unfold wdV; rw [LN.out, L1.out, L2.out]; rfl, S.out.ownW 0 1 2 (by omega) (by omega) (by omega) rfl rfl rfl LN.out L1.out L2.out, (S.out.ends 0 rfl).2.1, (S.out.ends 1 rfl).2.1, (S.out.ends 2 rfl).2.1, S.out.below⟩)
         · have hB : rB = true := by rw [DB]; simp [HNOW.out]
           have hE : rW = ⟨s.t.root, s.t.ns, hs.set kk s.h, ds ++ [⟨kk, x.cc, x.ck, x.cv, x.beg, now + 1, s.h.rep, s.h.out⟩], now + 1⟩ := by rw [DW.out, if_pos hB, if_pos HP.out]
           have HE := Lib.hid hE
           have HEB := Lib.hid hB
           clear hE hB DB DW
           go_wp2_with (first
               | go_skip
               | (refine wpList_op rfl (op_getK 25 _ rfl S.out 8 rfl 1 rfl Try.isAgg25 [jI jZ x.cc, jI jZ x.ck, jI jZ x.cv] rfl (by kernel_rfl) ?_); simp only [Act.put, sa_, sb_, sc_])
               | (refine wpList_op rfl (op_build 104 _ rfl [(0, jI jZ kk), (1, .agg #[jI jZ x.cc, jI jZ x.ck, jI jZ x.cv]), (2, jI jZ x.beg), (3, jI jZ (now + 1)), (4, jI jZ s.h.rep), (5, jI jZ s.h.out)] rfl #[jI jZ kk, jI jZ x.cc, jI jZ x.ck, jI jZ x.cv, jI jZ x.beg, jI jZ (now + 1), jI jZ s.h.rep, jI jZ s.h.out] (by kernel_rfl) ?_); simp only [Act.put, sa_, sb_, sc_])
               | (refine wpList_op rfl (op_bsD1 _ rfl S.out rfl ?_); clear S; intro gd w S; replace S := Lib.hid S; simp only [Act.put, sa_, sb_, sc_])
               | (refine wpList_op rfl (op_appEl 79 8 64 kd_deal rfl Try.underlying79 (by omega) _ _ rfl S.out (v := jS AD n2 cD) (xs := ds) (F := FD) (C := #[jI jZ kk, jI jZ x.cc, jI jZ x.ck, jI jZ x.cv, jI jZ x.beg, jI jZ (now + 1), jI jZ s.h.rep, jI jZ s.h.out]) (J := em) (y := ⟨kk, x.cc, x.ck, x.cv, x.beg, now + 1, s.h.rep, s.h.out⟩) 4 8 0 (by omega) rfl rfl rfl (fun _ _ => rfl) (by simp [Value.oneCell']) L2.out (by have := HN2.out; omega) (by omega) rfl rfl ?_); clear S; intro A7 c7 F7 w S; replace S : Hid (Sep noX w0 [bx gd #[jI jZ kk, jI jZ x.cc, jI jZ x.ck, jI jZ x.cv, jI jZ x.beg, jI jZ (now + 1), jI jZ s.h.rep, jI jZ s.h.out] 104, bx go #[jI jZ s.t.root, jS A5 s.t.ns.length c5, jS (some ⟨gH, 0, none⟩) n1 cH, jS AD n2 cD, jI jZ (now + 1)] 81, ow (jS AN n cN) ns FN, ow (jS (some ⟨gH, 0, none⟩) n1 cH) (hs.set kk s.h) (fun q => FH q ∨ F6 q), ow (jS A7 (n2 + 1) c7) (ds ++ [⟨kk, x.cc, x.ck, x.cv, x.beg, now + 1, s.h.rep, s.h.out⟩]) F7, bx gx #[jI jZ s.h.pos, jI jZ s.h.cc, jI jZ s.h.ck, jI jZ s.h.cv, jI jZ s.h.cur, jI jZ s.h.want, jI jZ s.h.key, jI jZ s.h.kid, jI jZ s.h.old, jI jZ s.h.next, jI jZ s.h.new, jS A6 s.h.st.length c6, jI jZ s.h.thn, jI jZ s.h.beg, jI jZ s.h.rep, jI jZ s.h.out] 31, bx gt #[jI jZ s.t.root, jS A5 s.t.ns.length c5] 77, ow (jS A5 s.t.ns.length c5) s.t.ns F5, em, bx gh #[jI jZ x.pos, jI jZ x.cc, jI jZ x.ck, jI jZ x.cv, jI jZ x.cur, jI jZ x.want, jI jZ x.key, jI jZ x.kid, jI jZ x.old, jI jZ x.next, jI jZ x.new, jS A3 n3 c3, jI jZ x.thn, jI jZ x.beg, jI jZ x.rep, jI jZ x.out] 31, bx rw #[jI jZ 0, jS none 0 0, jS none 0 0, jS none 0 0, jI jZ 0] 81, bx gw #[jI jZ r, jS A n c, jS (some ⟨b, off, none⟩) n1 c1, jS A2 n2 c2, jI jZ now] 81] w) := Lib.hid S; simp only [Act.put, sa_, sb_, sc_])
               | (refine wpList_op rfl (op_get 79 _ rfl S.out 0 rfl _ rfl Try.isAgg79 _ rfl ?_); simp only [Act.put, sa_, sb_, sc_])
               | (refine wpList_op rfl (op_get 2 _ rfl S.out 8 rfl _ rfl Try.isAgg2 _ rfl ?_); simp only [Act.put, sa_, sb_, sc_])
               | (refine wpList_op rfl (op_get 2 _ rfl S.out 0 rfl _ rfl Try.isAgg2 _ rfl ?_); simp only [Act.put, sa_, sb_, sc_])
               | (refine wpList_op rfl (op_get 2 _ rfl S.out 4 rfl _ rfl Try.isAgg2 _ rfl ?_); simp only [Act.put, sa_, sb_, sc_])
               | (refine wpList_op rfl (op_put1_1 79 _ _ rfl S _ rfl _ rfl rfl (by kernel_rfl) (of_decide_eq_true rfl) ?_); clear S; intro w S; replace S : Hid (Sep noX w0 [bx gd #[jI jZ kk, jI jZ x.cc, jI jZ x.ck, jI jZ x.cv, jI jZ x.beg, jI jZ (now + 1), jI jZ s.h.rep, jI jZ s.h.out] 104, bx go #[jI jZ s.t.root, jS A5 s.t.ns.length c5, jS (some ⟨gH, 0, none⟩) n1 cH, jS A7 (n2 + 1) c7, jI jZ (now + 1)] 81, ow (jS AN n cN) ns FN, ow (jS (some ⟨gH, 0, none⟩) n1 cH) (hs.set kk s.h) (fun q => FH q ∨ F6 q), ow (jS A7 (n2 + 1) c7) (ds ++ [⟨kk, x.cc, x.ck, x.cv, x.beg, now + 1, s.h.rep, s.h.out⟩]) F7, bx gx #[jI jZ s.h.pos, jI jZ s.h.cc, jI jZ s.h.ck, jI jZ s.h.cv, jI jZ s.h.cur, jI jZ s.h.want, jI jZ s.h.key, jI jZ s.h.kid, jI jZ s.h.old, jI jZ s.h.next, jI jZ s.h.new, jS A6 s.h.st.length c6, jI jZ s.h.thn, jI jZ s.h.beg, jI jZ s.h.rep, jI jZ s.h.out] 31, bx gt #[jI jZ s.t.root, jS A5 s.t.ns.length c5] 77, ow (jS A5 s.t.ns.length c5) s.t.ns F5, em, bx gh #[jI jZ x.pos, jI jZ x.cc, jI jZ x.ck, jI jZ x.cv, jI jZ x.cur, jI jZ x.want, jI jZ x.key, jI jZ x.kid, jI jZ x.old, jI jZ x.next, jI jZ x.new, jS A3 n3 c3, jI jZ x.thn, jI jZ x.beg, jI jZ x.rep, jI jZ x.out] 31, bx rw #[jI jZ 0, jS none 0 0, jS none 0 0, jS none 0 0, jI jZ 0] 81, bx gw #[jI jZ r, jS A n c, jS (some ⟨b, off, none⟩) n1 c1, jS A2 n2 c2, jI jZ now] 81] w) := S; simp only [Act.put])
               | (refine wpList_op rfl (op_row 81 _ rfl S.out 1 rfl rfl Try.isAgg81 (by kernel_rfl) ?_); simp only [Act.put, sa_, sb_, sc_])
               | (refine wpList_op rfl (op_putR_10 81 _ _ rfl S rfl _ rfl rfl (by kernel_rfl) rfl ?_); clear S; intro w S; simp only [Act.put]))
           exact bodyPost_ret (results_cs rfl _ S.out 10 rfl rfl Try.isAgg81 (by kernel_rfl)) rfl (by rw [HE.out, HEB.out]; exact ⟨A5, c5, F5, some ⟨gH, 0, none⟩, cH, _, A7, c7, F7, by unfold wdV; simp only [List.length_set, List.length_append, List.length_cons, List.length_nil, L1.out, L2.out, Nat.zero_add]; rfl, S.out.ownW 7 3 4 (by omega) (by omega) (by omega) rfl rfl rfl rfl (by simp only [List.length_set]; exact L1.out) (by simp only [List.length_append, List.length_cons, List.length_nil, L2.out, Nat.zero_add]), (S.out.ends 7 rfl).2.1, (S.out.ends 3 rfl).2.1, (S.out.ends 4 rfl).2.1, S.out.below⟩)
     · have g3 : (s.h.pos != 0) = true := by simp [hp]
       have hB : rB = true := by rw [DB.out, HSB.out]; simp [hp, HNOW.out]
       have hE : rW = ⟨s.t.root, s.t.ns, hs.set kk s.h, ds, now + 1⟩ := by rw [DW.out, if_pos hB, if_neg hp]
       have HE := Lib.hid hE
       have HEB := Lib.hid hB
       clear hE hB hp DB DW
       go_wp2_with (first
           | go_skip
           | (clear tok6; refine nx_ 81 S rfl rfl Try.zeroValue81 ?_; clear S; intro go w S)
           | (refine wpList_op rfl (op_idx _ _ _ rfl 31 16 Try.underlying78 Try.sizeOf31 (k := kk) rfl rfl HKN.out ?_))
           | (refine wpList_op rfl (op_put 77 _ _ rfl S.out 0 (g := go) (C := #[jI jZ r, jS AN n cN, jS (some ⟨gH, 0, none⟩) n1 cH, jS AD n2 cD, jI jZ (now + 1)]) (t := 81) rfl 0 rfl _ rfl _ rfl rfl (by kernel_rfl) (of_decide_eq_true rfl) #[jI jZ s.t.root, jS A5 s.t.ns.length c5, jS (some ⟨gH, 0, none⟩) n1 cH, jS AD n2 cD, jI jZ (now + 1)] rfl ?_); clear S; intro w S; replace S : Hid (Sep noX w0 [bx go #[jI jZ s.t.root, jS A5 s.t.ns.length c5, jS (some ⟨gH, 0, none⟩) n1 cH, jS AD n2 cD, jI jZ (now + 1)] 81, ow (jS AN n cN) ns FN, ow (jS (some ⟨gH, 0, none⟩) n1 cH) (hs) FH, ow (jS AD n2 cD) ds FD, bx gx #[jI jZ s.h.pos, jI jZ s.h.cc, jI jZ s.h.ck, jI jZ s.h.cv, jI jZ s.h.cur, jI jZ s.h.want, jI jZ s.h.key, jI jZ s.h.kid, jI jZ s.h.old, jI jZ s.h.next, jI jZ s.h.new, jS A6 s.h.st.length c6, jI jZ s.h.thn, jI jZ s.h.beg, jI jZ s.h.rep, jI jZ s.h.out] 31, bx gt #[jI jZ s.t.root, jS A5 s.t.ns.length c5] 77, ow (jS A5 s.t.ns.length c5) s.t.ns F5, ow (jS A6 s.h.st.length c6) s.h.st F6, bx gh #[jI jZ x.pos, jI jZ x.cc, jI jZ x.ck, jI jZ x.cv, jI jZ x.cur, jI jZ x.want, jI jZ x.key, jI jZ x.kid, jI jZ x.old, jI jZ x.next, jI jZ x.new, jS A3 n3 c3, jI jZ x.thn, jI jZ x.beg, jI jZ x.rep, jI jZ x.out] 31, bx rw #[jI jZ 0, jS none 0 0, jS none 0 0, jS none 0 0, jI jZ 0] 81, bx gw #[jI jZ r, jS A n c, jS (some ⟨b, off, none⟩) n1 c1, jS A2 n2 c2, jI jZ now] 81] w) := Lib.hid S)
           | (refine wpList_op rfl (op_putEl 31 (by kernel_rfl) _ _ rfl S.out (C := #[jI jZ s.h.pos, jI jZ s.h.cc, jI jZ s.h.ck, jI jZ s.h.cv, jI jZ s.h.cur, jI jZ s.h.want, jI jZ s.h.key, jI jZ s.h.kid, jI jZ s.h.old, jI jZ s.h.next, jI jZ s.h.new, jS A6 s.h.st.length c6, jI jZ s.h.thn, jI jZ s.h.beg, jI jZ s.h.rep, jI jZ s.h.out]) (J := ow (jS A6 s.h.st.length c6) s.h.st F6) s.h 2 7 (by omega) rfl rfl (el_hand s.h A6 c6 F6) (by simp [Value.oneCell']) HKN.out rfl (by show _ = kk * 16; omega) rfl ?_); clear S; intro w S; replace S : Hid (Sep noX w0 [bx go #[jI jZ s.t.root, jS A5 s.t.ns.length c5, jS (some ⟨gH, 0, none⟩) n1 cH, jS AD n2 cD, jI jZ (now + 1)] 81, ow (jS AN n cN) ns FN, ow (jS (some ⟨gH, 0, none⟩) n1 cH) (hs.set kk s.h) (fun q => FH q ∨ F6 q), ow (jS AD n2 cD) ds FD, bx gx #[jI jZ s.h.pos, jI jZ s.h.cc, jI jZ s.h.ck, jI jZ s.h.cv, jI jZ s.h.cur, jI jZ s.h.want, jI jZ s.h.key, jI jZ s.h.kid, jI jZ s.h.old, jI jZ s.h.next, jI jZ s.h.new, jS A6 s.h.st.length c6, jI jZ s.h.thn, jI jZ s.h.beg, jI jZ s.h.rep, jI jZ s.h.out] 31, bx gt #[jI jZ s.t.root, jS A5 s.t.ns.length c5] 77, ow (jS A5 s.t.ns.length c5) s.t.ns F5, em, bx gh #[jI jZ x.pos, jI jZ x.cc, jI jZ x.ck, jI jZ x.cv, jI jZ x.cur, jI jZ x.want, jI jZ x.key, jI jZ x.kid, jI jZ x.old, jI jZ x.next, jI jZ x.new, jS A3 n3 c3, jI jZ x.thn, jI jZ x.beg, jI jZ x.rep, jI jZ x.out] 31, bx rw #[jI jZ 0, jS none 0 0, jS none 0 0, jS none 0 0, jI jZ 0] 81, bx gw #[jI jZ r, jS A n c, jS (some ⟨b, off, none⟩) n1 c1, jS A2 n2 c2, jI jZ now] 81] w) := Lib.hid S)
           | (refine wpList_op rfl (op_putR_0 81 _ _ rfl S rfl _ rfl rfl (by kernel_rfl) rfl ?_); clear S; intro w S)
           | (refine wpList_op rfl (op_get 2 _ rfl S.out 10 rfl _ rfl Try.isAgg2 _ rfl ?_))
           | (refine wpList_op rfl (op_put1_0 2 _ _ rfl S _ rfl _ rfl rfl (by kernel_rfl) (of_decide_eq_true rfl) ?_); clear S; intro w S; replace S : Hid (Sep noX w0 [bx go #[jI jZ r, jS AN n cN, jS (some ⟨gH, 0, none⟩) n1 cH, jS AD n2 cD, jI jZ (now + 1)] 81, ow (jS AN n cN) ns FN, ow (jS (some ⟨gH, 0, none⟩) n1 cH) (hs) FH, ow (jS AD n2 cD) ds FD, bx gx #[jI jZ s.h.pos, jI jZ s.h.cc, jI jZ s.h.ck, jI jZ s.h.cv, jI jZ s.h.cur, jI jZ s.h.want, jI jZ s.h.key, jI jZ s.h.kid, jI jZ s.h.old, jI jZ s.h.next, jI jZ s.h.new, jS A6 s.h.st.length c6, jI jZ s.h.thn, jI jZ s.h.beg, jI jZ s.h.rep, jI jZ s.h.out] 31, bx gt #[jI jZ s.t.root, jS A5 s.t.ns.length c5] 77, ow (jS A5 s.t.ns.length c5) s.t.ns F5, ow (jS A6 s.h.st.length c6) s.h.st F6, bx gh #[jI jZ x.pos, jI jZ x.cc, jI jZ x.ck, jI jZ x.cv, jI jZ x.cur, jI jZ x.want, jI jZ x.key, jI jZ x.kid, jI jZ x.old, jI jZ x.next, jI jZ x.new, jS A3 n3 c3, jI jZ x.thn, jI jZ x.beg, jI jZ x.rep, jI jZ x.out] 31, bx rw #[jI jZ 0, jS none 0 0, jS none 0 0, jS none 0 0, jI jZ 0] 81, bx gw #[jI jZ r, jS A n c, jS (some ⟨b, off, none⟩) n1 c1, jS A2 n2 c2, jI jZ now] 81] w) := S)
           | (refine wpList_op rfl (op_row 77 _ rfl S.out 5 rfl rfl Try.isAgg77 (by kernel_rfl) ?_))
           | (refine wpList_op rfl (op_get 78 _ rfl S.out 0 rfl _ rfl Try.isAgg78 _ rfl ?_))
           | (refine wpList_op rfl (op_row 31 _ rfl S.out 4 rfl rfl Try.isAgg31 (by kernel_rfl) ?_))
           | (refine wpList_op rfl (op_get 2 _ rfl S.out 4 rfl _ rfl Try.isAgg2 _ rfl ?_))
           | (refine wpList_op rfl (op_row 81 _ rfl S.out 0 rfl rfl Try.isAgg81 (by kernel_rfl) ?_))
           | (refine wpList_op rfl (op_putR_9 81 _ _ rfl S rfl _ rfl rfl (by kernel_rfl) rfl ?_); clear S; intro w S))
       exact bodyPost_ret (results_cs rfl _ S.out 9 rfl rfl Try.isAgg81 (by kernel_rfl)) rfl (by rw [HE.out, HEB.out]; exact ⟨A5, c5, F5, some ⟨gH, 0, none⟩, cH, _, AD, cD, FD, by unfold wdV; simp only [List.length_set, L1.out, L2.out]; rfl, S.out.ownW 6 2 3 (by omega) (by omega) (by omega) rfl rfl rfl rfl (by simp only [List.length_set]; exact L1.out) L2.out, (S.out.ends 6 rfl).2.1, (S.out.ends 2 rfl).2.1, (S.out.ends 3 rfl).2.1, S.out.below⟩)
 · have hsb : s.b = false := by simpa using hsb
   have hB : rB = false := by rw [DB.out, hsb]; rfl
   have hE : rW = ⟨r, ns, hs, ds, now⟩ := by rw [DW.out, hB]; rfl
   have HE := Lib.hid hE
   have HEB := Lib.hid hB
   clear hE hB DB DW g0
   go_wp2_with (first
       | go_skip
       | (have _t := tok8; clear _t; refine wpList_op rfl (op_nx 77 rfl S.out _ Try.zeroValue77 ?_); clear S tok8; intro gt w S; replace S := Lib.hid S; simp only [Act.put, sa_, sb_, sc_])
       | (have _t := tok7; clear _t; refine wpList_op rfl (op_nx 31 rfl S.out _ Try.zeroValue31 ?_); clear S tok7; intro gx w S; replace S := Lib.hid S; simp only [Act.put, sa_, sb_, sc_])
       | (refine wpList_op rfl (op_putR_1 77 _ _ rfl S rfl _ rfl rfl (by kernel_rfl) rfl ?_); clear S; intro w S; simp only [Act.put])
       | (refine wpList_op rfl (op_putR_0 31 _ _ rfl S rfl _ rfl rfl (by kernel_rfl) rfl ?_); clear S; intro w S; simp only [Act.put])
       | (refine wpList_op rfl (op_get 2 _ rfl S.out 6 rfl _ rfl Try.isAgg2 _ rfl ?_); simp only [Act.put, sa_, sb_, sc_])
       | (refine wpList_op rfl (op_row 81 _ rfl S.out 6 rfl rfl Try.isAgg81 (by kernel_rfl) ?_); simp only [Act.put, sa_, sb_, sc_]))
   refine (CT.out _ (HW.out.on S.out.below)).mono ?_
   rintro e w ⟨AN, cN, FN, AH, cH, FH, AD, cD, FD, rfl, ⟨o1, o2, o3, a1, a2, a3⟩, f1, f2, f3, b9⟩
   rw [LN.out] at o1
   rw [L1.out] at o2
   rw [L2.out] at o3
   rw [LN.out, L1.out, L2.out]
   replace S := Lib.hid (S.out.gain3 b9 (ow (jS AN n cN) ns FN) (ow (jS AH n1 cH) hs FH) (ow (jS AD n2 cD) ds FD) o1 o2 o3 f1 f2 f3 a1 a2 a3)
   clear o1 o2 o3 a1 a2 a3 f1 f2 f3 b9
   go_wp2_with (first
       | go_skip
       | (refine wpList_op rfl (op_putR_8 81 _ _ rfl S rfl _ rfl rfl (by kernel_rfl) rfl ?_); clear S; intro w S))
   exact bodyPost_ret (results_cs rfl _ S.out 8 rfl rfl Try.isAgg81 (by kernel_rfl)) rfl (by rw [HE.out, HEB.out]; exact ⟨AN, cN, FN, AH, cH, FH, AD, cD, FD, by unfold wdV; rw [LN.out, L1.out, L2.out]; rfl, S.out.ownW 0 1 2 (by omega) (by omega) (by omega) rfl rfl rfl LN.out L1.out L2.out, (S.out.ends 0 rfl).2.1, (S.out.ends 1 rfl).2.1, (S.out.ends 2 rfl).2.1, S.out.below⟩)
end Go.Proofs.Ytjookicpmjmdhaa
