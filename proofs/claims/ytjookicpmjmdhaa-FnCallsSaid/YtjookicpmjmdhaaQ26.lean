/- Worlds stay right: a new one, one in which something is asked, one stepped for a while. Plain facts. -/
import Derived.Test.YtjookicpmjmdhaaQ25
import Derived.Test.YtjookicpmjmdhaaQ20
open Go.Value renaming int → jI, slice → jS
open Go.IntKind renaming i64 → jZ
namespace Go.Proofs.Ytjookicpmjmdhaa
open Go.RowKit

theorem rest_ok : handOk (restH 0 0) = true := by decide
theorem newT_ok : treeOk 0 [newNd] = true := by decide
theorem newW_ok {k : Int} (h : inB k 1 6 = true) : worldOk (newW k) = true ∧ (newW k).hs.length = k.toNat := by
 have hk : 1 ≤ k ∧ k ≤ 6 := by unfold inB at h; simpa using h
 unfold newW
 rw [if_pos h]
 refine ⟨?_, by simp⟩
 unfold worldOk
 simp only [newT_ok, List.length_replicate, List.length_nil, Bool.true_and, Bool.and_eq_true, decide_eq_true_eq, List.all_nil, and_true]
 refine ⟨by omega, by omega, by omega, by decide, ?_⟩
 rw [List.all_eq_true]
 intro x hx
 obtain ⟨_, rfl⟩ := List.mem_replicate.1 hx
 rw [rest_ok]
 rfl
theorem called_ok {h : Hd} {c k v b : Int} (hc : calledC h c k v = 0) (hb : 0 ≤ b ∧ b ≤ 20000) : handOk { calledH h c k v with beg := b } = true := by
 unfold calledC at hc
 split at hc
 · split at hc
   · split at hc
     · rename_i h1 h2 h3
       have e : calledH h c k v = { zeroH with pos := 1, cc := c, ck := k, cv := v, key := k } := by unfold calledH; rw [if_pos h1, if_pos h2, if_pos h3]
       rw [e]
       have hck : 0 ≤ k ∧ k ≤ 99 := by
         have h4 := h3
         unfold callOk at h4
         simp only [Bool.and_eq_true] at h4
         have h5 := h4.2.1
         unfold inB at h5
         simpa using h5
       unfold handOk
       simp only [h3, zeroH, Bool.true_or, Bool.true_and, Bool.and_eq_true]
       refine ⟨by decide, by decide, by decide, by decide, by decide, by decide, by decide, by decide, by unfold inB; simpa using hck, by decide, by unfold inB; simpa using hb, by decide, by decide⟩
     · cases hc
   · cases hc
 · cases hc
theorem asked_ok {W : Wd} {who c k v : Int} (h : worldOk W = true) (hw : hasB W.hs.length who = true) : worldOk (askedW W who c k v) = true ∧ (askedW W who c k v).hs.length = W.hs.length := by
 unfold askedW
 rw [if_pos (by rw [h, hw]; rfl)]
 by_cases hq : askedC W who c k v = 0
 · rw [if_pos hq]
   obtain ⟨q1, q2, q3, q4, q5, q6⟩ := world_of h
   obtain ⟨h0, h1⟩ := (hasB_iff _ who).1 hw
   unfold askedC at hq
   rw [if_pos (by rw [h, hw]; rfl)] at hq
   have hc : calledC (hdAt W.hs who.toNat) c k v = 0 := by
     split at hq
     · assumption
     · rename_i h9; exact absurd hq h9
   rw [if_pos hc] at hq
   have hnow : W.now ≠ 20000 := by
     intro e
     rw [if_pos e] at hq
     cases hq
   have hcall := called_ok (b := W.now + 1) hc (by omega)
   have hall : W.hs.all (fun h => handOk h && decide (h.beg ≤ W.now)) = true ∧ W.ds.all (dealOk W.hs.length W.now) = true := by
     unfold worldOk at h
     simp only [Bool.and_eq_true] at h
     exact ⟨h.2.2.2.2.2.1, h.2.2.2.2.2.2⟩
   have hh1 : (W.hs.set who.toNat { calledH (hdAt W.hs who.toNat) c k v with beg := W.now + 1 }).all (fun h => handOk h && decide (h.beg ≤ W.now + 1)) = true := by
     refine all_set ?_ (by rw [hcall]; simp)
     rw [List.all_eq_true]
     intro y hy
     have := (List.all_eq_true.1 hall.1) y hy
     simp only [Bool.and_eq_true, decide_eq_true_eq] at this ⊢
     exact ⟨this.1, by omega⟩
   have hd1 : W.ds.all (dealOk W.hs.length (W.now + 1)) = true := by
     rw [List.all_eq_true]
     intro y hy
     have := (List.all_eq_true.1 hall.2) y hy
     unfold dealOk inB at this ⊢
     simp only [Bool.and_eq_true, decide_eq_true_eq] at this ⊢
     obtain ⟨t1, t2, t3, t4, t5⟩ := this
     exact ⟨t1, t2, by omega, by omega, t5⟩
   refine ⟨?_, by simp⟩
   unfold worldOk
   simp only [List.length_set, q1, hh1, hd1, Bool.true_and, Bool.and_true, Bool.and_eq_true, decide_eq_true_eq]
   exact ⟨q2, q3, q4, by unfold inB; simp; omega⟩
 · rw [if_neg hq]
   exact ⟨h, rfl⟩
theorem aloneF_ok {kk : Nat} : ∀ (f : Nat) {W : Wd}, worldOk W = true → kk < W.hs.length → worldOk (aloneF kk f W).1 = true ∧ (aloneF kk f W).1.hs.length = W.hs.length
 | 0, _, h, _ => ⟨h, rfl⟩
 | f + 1, W, h, hk => by
   unfold aloneF
   split
   · exact ⟨h, rfl⟩
   · split
     · rename_i hs
       obtain ⟨w1, w2⟩ := stepW_ok h hk hs
       obtain ⟨w3, w4⟩ := aloneF_ok f w1 (by rw [w2]; exact hk)
       exact ⟨w3, by rw [w4, w2]⟩
     · exact ⟨h, rfl⟩
theorem alone_ok {W : Wd} {who most : Int} (h : worldOk W = true) (hw : hasB W.hs.length who = true) : worldOk (aloneW W who most) = true ∧ (aloneW W who most).hs.length = W.hs.length := by
 obtain ⟨h0, h1⟩ := (hasB_iff _ who).1 hw
 unfold aloneW
 rw [if_pos (by rw [h, hw]; rfl)]
 split
 · exact aloneF_ok _ h (by omega)
 · exact ⟨h, rfl⟩
def DrawnW (g : Nat) (A : Option Addr) (n c : Nat) (w : World) (e : Ending) (w' : World) : Prop :=
 ∃ W A0 c0 F0 A1 c1 F1 A2 c2 F2, e = .returned (wdV W A0 c0 A1 c1 A2 c2) ∧ worldOk W = true ∧ OwnW w' W A0 c0 F0 A1 c1 F1 A2 c2 F2 ∧ Fresh F0 w w' ∧ Fresh F1 w w' ∧ Fresh F2 w w' ∧ Cur w' g A n c ∧ w.grownBy w' (some g)
end Go.Proofs.Ytjookicpmjmdhaa
namespace Go.Proofs.Ytjookicpmjmdhaa
open Go.RowKit

set_option maxRecDepth 100000 in
set_option maxHeartbeats 16000000 in
theorem world_go (W : Wd) (A : Option Addr) (n c : Nat) (A1 : Option Addr) (n1 c1 : Nat) (A2 : Option Addr) (n2 c2 : Nat) (w0 : World) (hW : IsW w0 w0.heap.size W A n A1 n1 A2 n2) (q0 : treeOk W.root W.ns = true) (q1 : 1 ≤ n1) (q2 : n1 ≤ 6) (q3 : n2 ≤ 1000) (q4 : inB W.now 0 20000 = true) :
   Calls Try.prog 74 #[.agg #[jI jZ W.root, jS A n c, jS A1 n1 c1, jS A2 n2 c2, jI jZ W.now]] w0 fun e w' => e = .returned (.bool (worldOk W)) ∧ Below w0.heap.size w0 w' := by
 have TK := Lib.hid (fun w hR => sTreeOk_any W.root W.ns A n c w hR hW.sm)
 have HN := Lib.hid hW.ns
 have HH := Lib.hid hW.hs
 have HD := Lib.hid hW.ds
 have L1 := Lib.hid hW.hs.1
 have L2 := Lib.hid hW.ds.1
 have hb1 := hW.h1
 have hb2 := hW.h2
 have l1 : W.hs.length = n1 := hW.hs.1
 have l2 : W.ds.length = n2 := hW.ds.1
 have HEAD : Hid (worldOk W = (W.hs.all (fun h => handOk h && decide (h.beg ≤ W.now)) && W.ds.all (dealOk n1 W.now))) := Lib.hid (by unfold worldOk; rw [l1, l2]; simp [q0, q1, q2, q3, q4])
 rw [q0] at TK
 have ga1 : decide (n1 < 1) = false := by rw [decide_eq_false_iff_not]; omega
 have gb1 : decide ((n1 : Int) < 1) = false := by rw [decide_eq_false_iff_not]; omega
 have ga2 : decide (6 < n1) = false := by rw [decide_eq_false_iff_not]; omega
 have gb2 : decide ((6 : Int) < (n1 : Int)) = false := by rw [decide_eq_false_iff_not]; omega
 have ga3 : decide (1000 < n2) = false := by rw [decide_eq_false_iff_not]; omega
 have gb3 : decide ((1000 : Int) < (n2 : Int)) = false := by rw [decide_eq_false_iff_not]; omega
 have NW : ∀ w, Calls Try.prog 77 #[jI jZ W.now] w fun e w' => e = .returned (.bool true) ∧ w = w' := fun w => by rw [← q4]; exact now_any _ w
 have HK := Lib.hid sHandOk_any
 obtain ⟨r, hr⟩ : ∃ r, r = W.root := ⟨_, rfl⟩
 obtain ⟨now, hnow⟩ : ∃ now, now = W.now := ⟨_, rfl⟩
 have HNOW := Lib.hid hnow
 rw [← hr] at TK
 rw [← hnow] at NW
 rw [← hr, ← hnow]
 have NK := Lib.hid NW
 have HB1 := Lib.hid hb1
 have HB2 := Lib.hid hb2
 clear l1 l2 hb1 hb2 hW q0 q1 q2 q3 q4 NW hr hnow
 have S := Lib.hid (Sep.start noX w0)
 have tok0 : True := trivial
 go_enter Try.func74, Try.ntmps74
 go_wp2_with (first
     | go_skip
     | (clear tok0; refine bx_ 81 S rfl rfl rfl ?_; clear S; intro gw w S)
     | (refine wpList_op rfl (op_getK 77 _ rfl S.out 0 rfl 0 rfl Try.isAgg77 [jI jZ r, jS A n c] rfl (by kernel_rfl) ?_)))
 refine (TK.out _ (S.out.rs HN.out)).mono ?_
 rintro e w ⟨rfl, b⟩
 replace S := Lib.hid (S.out.call b)
 clear b
 go_wp2_with (first
     | go_skip
     | (go_at_call 77; refine (NK.out _).mono ?_; rintro e w9 ⟨rfl, rfl⟩)
     | (refine wpList_op rfl (op_get 78 _ rfl S.out 0 rfl _ rfl Try.isAgg78 _ rfl ?_))
     | (refine wpList_op rfl (op_get 79 _ rfl S.out 0 rfl _ rfl Try.isAgg79 _ rfl ?_))
     | (refine wpList_op rfl (op_get 2 _ rfl S.out 0 rfl _ rfl Try.isAgg2 _ rfl ?_)))
 clear ga1 gb1 ga2 gb2 ga3 gb3 NK TK HN
 go_loopw [3] (fun i wr => ∃ k : Nat, i = jI jZ k ∧ k ≤ n1 ∧ Hid (∀ j, j < k → (handOk (hdAt W.hs j) && decide ((hdAt W.hs j).beg ≤ W.now)) = true) ∧ Hid (Sep noX w0 [bx gw #[jI jZ r, jS A n c, jS A1 n1 c1, jS A2 n2 c2, jI jZ now] 81] wr)) (fun i _ => n1 - (intOf i).toNat)
 case atStart => exact ⟨0, rfl, by omega, Lib.hid (by intro j hj; omega), S⟩
 case round =>
   clear S
   obtain ⟨k, rfl, hk, ho, S⟩ := hrel
   have hb1 := HB1.out
   by_cases hlt : k < n1
   · obtain ⟨b, off, rfl, hb, A3, n3, c3, hc, hR, _⟩ := RS.hdAt HH.out k hlt
     obtain ⟨x, hx⟩ : ∃ x, x = hdAt W.hs k := ⟨_, rfl⟩
     rw [← hx] at hc hR
     have HX := Lib.hid hx
     have HC : Hid (∀ w, (∃ s : Later wr, w = s.wd) → ∀ j u, ([jI jZ x.pos, jI jZ x.cc, jI jZ x.ck, jI jZ x.cv, jI jZ x.cur, jI jZ x.want, jI jZ x.key, jI jZ x.kid, jI jZ x.old, jI jZ x.next, jI jZ x.new, jS A3 n3 c3, jI jZ x.thn, jI jZ x.beg, jI jZ x.rep, jI jZ x.out] : List Value)[j]? = some u → w.cell? ⟨b, off + k * 16 + j, none⟩ = some u) := Lib.hid (fun w ⟨s, hs⟩ j u hu => by rw [hs]; exact (Later.below_of S.out.below s).cell hb |>.trans (hc j u hu))
     have q13 : ∀ s : Later wr, s.wd.cell? ⟨b, off + k * 16 + 13, none⟩ = some (jI jZ x.beg) := fun s => HC.out _ ⟨s, rfl⟩ 13 _ rfl
     have qb := (S.out.get 0 rfl : wr.heap[gw]? = some (.cells #[jI jZ r, jS A n c, jS (some ⟨b, off, none⟩) n1 c1, jS A2 n2 c2, jI jZ now] 81 (0, 0)))
     have qh : ∀ s : Later wr, s.wd.cell? ⟨gw, 2, none⟩ = some (.slice (some ⟨b, off, none⟩) n1 c1) := Later.of_cell (by rw [cell_of_row _ _ 2 _ _ _ qb]; rfl) (Below.refl _ _) (Array.getElem?_eq_some_iff.1 qb).1
     have qn : ∀ s : Later wr, s.wd.cell? ⟨gw, 4, none⟩ = some (jI jZ now) := Later.of_cell (by rw [cell_of_row _ _ 4 _ _ _ qb]; rfl) (Below.refl _ _) (Array.getElem?_eq_some_iff.1 qb).1
     have hRw : RS wr wr.heap.size A3 n3 x.st := hR.on S.out.below
     have HRW := Lib.hid hRw
     have HK2 := Lib.hid (fun w hR => HK.out x A3 n3 c3 w hR)
     generalize hq : handOk x = q at HK2
     have HQ := Lib.hid hq
     have hlt' := Lib.hid hlt
     clear hc hR hx qb hRw hq
     unfold hdV at HK2
     go_wp2_with (first
         | go_skip
         | (refine wpList_op rfl (op_get 78 _ rfl S.out 0 rfl _ rfl Try.isAgg78 _ rfl ?_)))
     cases q
     · refine wp_region_later (by kernel_rfl) (by kernel_rfl) ?_
       repeat (first | (go_big_quiet_want; refine quiet_cells 31 _ rfl rfl Try.isAgg31 [jI jZ x.pos, jI jZ x.cc, jI jZ x.ck, jI jZ x.cv, jI jZ x.cur, jI jZ x.want, jI jZ x.key, jI jZ x.kid, jI jZ x.old, jI jZ x.next, jI jZ x.new, jS A3 n3 c3, jI jZ x.thn, jI jZ x.beg, jI jZ x.rep, jI jZ x.out] HC.out (by kernel_rfl) ?_; simp only [Act.put, sa_, sb_, sc_]; go_big_quiet_on) | go_big_quiet_step ((go_at_call 22; exact Calls.later (HK2.out _ (HRW.out.on (Later.below _))))))
       refine wpQuiet_nil ?_
       intro _ hw'
       obtain ⟨s6, rfl⟩ := hw'
       replace S := Lib.hid (S.out.call s6.2)
       clear q13 qh qn
       go_wp2_with fail
       go_ret
       exact ⟨ret_bool (by rw [HEAD.out, all_no (d := zeroH) (k := k) (by rw [L1.out]; exact hlt'.out) (by show (handOk (hdAt W.hs k) && _) = false; rw [← HX.out, HQ.out]; rfl)]; rfl), S.out.below⟩
     · by_cases hbg : x.beg ≤ now
       · have gg : decide (now < x.beg) = false := by rw [decide_eq_false_iff_not]; omega
         have HBG := Lib.hid hbg
         clear hbg
         refine wp_region_later (by kernel_rfl) (by kernel_rfl) ?_
         repeat (first | (go_big_quiet_want; refine quiet_cells 31 _ rfl rfl Try.isAgg31 [jI jZ x.pos, jI jZ x.cc, jI jZ x.ck, jI jZ x.cv, jI jZ x.cur, jI jZ x.want, jI jZ x.key, jI jZ x.kid, jI jZ x.old, jI jZ x.next, jI jZ x.new, jS A3 n3 c3, jI jZ x.thn, jI jZ x.beg, jI jZ x.rep, jI jZ x.out] HC.out (by kernel_rfl) ?_; simp only [Act.put, sa_, sb_, sc_]; go_big_quiet_on) | go_big_quiet_step ((go_at_call 22; exact Calls.later (HK2.out _ (HRW.out.on (Later.below _))))))
         refine wpQuiet_nil ?_
         intro _ hw'
         obtain ⟨s6, rfl⟩ := hw'
         replace S := Lib.hid (S.out.call s6.2)
         clear q13 qh qn
         go_wp2_with fail
         go_roundw
         case rel => exact ⟨k + 1, by go_num, by have := hlt'.out; omega, Lib.hid (fun j hj => by
           rcases Nat.lt_or_ge j k with h' | h'
           · exact ho.out j h'
           · obtain rfl : j = k := by omega
             rw [← HX.out, HQ.out, ← HNOW.out]
             simpa using HBG.out), S⟩
         case measure => simp [intOf]; have := hlt'.out; omega
       · have gg : decide (now < x.beg) = true := by rw [decide_eq_true_eq]; omega
         have HBG := Lib.hid hbg
         clear hbg
         refine wp_region_later (by kernel_rfl) (by kernel_rfl) ?_
         repeat (first | (go_big_quiet_want; refine quiet_cells 31 _ rfl rfl Try.isAgg31 [jI jZ x.pos, jI jZ x.cc, jI jZ x.ck, jI jZ x.cv, jI jZ x.cur, jI jZ x.want, jI jZ x.key, jI jZ x.kid, jI jZ x.old, jI jZ x.next, jI jZ x.new, jS A3 n3 c3, jI jZ x.thn, jI jZ x.beg, jI jZ x.rep, jI jZ x.out] HC.out (by kernel_rfl) ?_; simp only [Act.put, sa_, sb_, sc_]; go_big_quiet_on) | go_big_quiet_step ((go_at_call 22; exact Calls.later (HK2.out _ (HRW.out.on (Later.below _))))))
         refine wpQuiet_nil ?_
         intro _ hw'
         obtain ⟨s6, rfl⟩ := hw'
         replace S := Lib.hid (S.out.call s6.2)
         clear q13 qh qn
         go_wp2_with fail
         go_ret
         exact ⟨ret_bool (by rw [HEAD.out, all_no (d := zeroH) (k := k) (by rw [L1.out]; exact hlt'.out) (by show (handOk (hdAt W.hs k) && decide ((hdAt W.hs k).beg ≤ W.now)) = false; rw [← HX.out, HQ.out, ← HNOW.out]; simpa using HBG.out)]; rfl), S.out.below⟩
   · obtain rfl : n1 = k := by omega
     have H1 : Hid (W.hs.all (fun h => handOk h && decide (h.beg ≤ W.now)) = true) := Lib.hid (all_yes (d := zeroH) (by rw [L1.out]; exact ho.out))
     clear ho hlt hk
     go_wp2_with (first
         | go_skip
         | (refine wpList_op rfl (op_get 78 _ rfl S.out 0 rfl _ rfl Try.isAgg78 _ rfl ?_)))
     go_loopw [4] (fun i wr => ∃ k : Nat, i = jI jZ k ∧ k ≤ n2 ∧ Hid (∀ j, j < k → dealOk n1 W.now (dealAt W.ds j) = true) ∧ Hid (Sep noX w0 [bx gw #[jI jZ r, jS A n c, jS A1 n1 c1, jS A2 n2 c2, jI jZ now] 81] wr)) (fun i _ => n2 - (intOf i).toNat)
     case atStart => exact ⟨0, rfl, by omega, Lib.hid (by intro j hj; omega), S⟩
     case round =>
       clear S
       obtain ⟨m, rfl, hm, ho, S⟩ := hrel
       have hb2 := HB2.out
       by_cases hlt : m < n2
       · obtain ⟨b, off, rfl, hb, hc⟩ := RS.dlAt HD.out m hlt
         obtain ⟨d, hd⟩ : ∃ d, d = dealAt W.ds m := ⟨_, rfl⟩
         have hc2 : ∀ j u, (dlC d)[j]? = some u → w0.cell? ⟨b, off + m * 8 + j, none⟩ = some u := by rw [hd]; exact hc
         have DC : Hid (∀ j u, ([jI jZ d.task, jI jZ d.cc, jI jZ d.ck, jI jZ d.cv, jI jZ d.beg, jI jZ d.fin, jI jZ d.rep, jI jZ d.out] : List Value)[j]? = some u → w0.cell? ⟨b, off + m * 8 + j, none⟩ = some u) := Lib.hid hc2
         have HDD := Lib.hid hd
         have HB := Lib.hid hb
         have HLT := Lib.hid hlt
         have NO : Hid (dealOk n1 now d = false → worldOk W = false) := Lib.hid (fun h => by rw [HEAD.out, all_no (d := encDl.dflt) (k := m) (by rw [L2.out]; exact hlt) (by rw [← HNOW.out]; show dealOk n1 now (dealAt W.ds m) = false; rw [← hd]; exact h), Bool.and_false])
         have TA := Lib.hid (fun w => task_any r now d.task A n c A1 n1 c1 (some ⟨b, off, none⟩) n2 c2 w HB1.out)
         have RE := Lib.hid (fun w => sReplyOk_any d.cc d.ck d.cv d.rep w)
         have I1 := Lib.hid (fun w => in_any d.beg 0 now w)
         have I2 := Lib.hid (fun w => in_any d.fin 0 now w)
         have I3 := Lib.hid (fun w => in_any d.out 0 999 w)
         have DEF : Hid (dealOk n1 now d = (hasB n1 d.task && (replyOk d.cc d.ck d.cv d.rep && (inB d.beg 0 now && (inB d.fin 0 now && inB d.out 0 999))))) := Lib.hid rfl
         generalize hasB n1 d.task = t1 at *
         generalize replyOk d.cc d.ck d.cv d.rep = t2 at *
         generalize inB d.beg 0 now = t3 at *
         generalize inB d.fin 0 now = t4 at *
         generalize inB d.out 0 999 = t5 at *
         have tokd : True := trivial
         clear hc hc2 hd hb hlt
         go_wp2_with (first
             | go_skip
             | (refine wpList_op rfl (op_idx _ _ _ rfl 104 8 Try.underlying79 Try.sizeOf104 (k := m) rfl rfl HLT.out ?_); simp only [Act.put, sa_, sb_, sc_])
             | (refine wpList_op rfl (op_cells0 104 _ rfl S.out HB.out rfl Try.isAgg104 [jI jZ d.task, jI jZ d.cc, jI jZ d.ck, jI jZ d.cv, jI jZ d.beg, jI jZ d.fin, jI jZ d.rep, jI jZ d.out] DC.out (by kernel_rfl) #[jI jZ d.task, jI jZ d.cc, jI jZ d.ck, jI jZ d.cv, jI jZ d.beg, jI jZ d.fin, jI jZ d.rep, jI jZ d.out] rfl ?_); simp only [Act.put, sa_, sb_, sc_])
             | (have _t := tokd; clear _t; refine wpList_op rfl (op_nx 104 rfl S.out _ Try.zeroValue104 ?_); clear S tokd; intro gd w S; replace S := Lib.hid S; simp only [Act.put, sa_, sb_, sc_])
             | (refine wpList_op rfl (op_get 79 _ rfl S.out 0 rfl _ rfl Try.isAgg79 _ rfl ?_); simp only [Act.put, sa_, sb_, sc_])
             | (refine wpList_op rfl (op_putR_0 104 _ _ rfl S rfl _ rfl rfl (by kernel_rfl) rfl ?_); clear S; intro w S; simp only [Act.put])
             | (refine wpList_op rfl (op_row 81 _ rfl S.out 1 rfl rfl Try.isAgg81 (by kernel_rfl) ?_); simp only [Act.put, sa_, sb_, sc_])
             | (refine wpList_op rfl (op_get 2 _ rfl S.out 0 rfl _ rfl Try.isAgg2 _ rfl ?_); simp only [Act.put, sa_, sb_, sc_]))
         refine (TA.out _).mono ?_
         rintro e w ⟨rfl, b⟩
         replace S := Lib.hid (S.out.call b)
         clear b
         cases t1
         · have HNO : Hid (worldOk W = false) := Lib.hid (NO.out (by rw [DEF.out]; rfl))
           clear NO DEF
           go_wp2_with fail
           go_ret
           exact ⟨ret_bool HNO.out.symm, S.out.below⟩
         go_wp2_with (first
             | go_skip
             | (refine wpList_op rfl (op_getK 25 _ rfl S.out 0 rfl 1 rfl Try.isAgg25 [jI jZ d.cc, jI jZ d.ck, jI jZ d.cv] rfl (by kernel_rfl) ?_); simp only [Act.put, sa_, sb_, sc_])
             | (refine wpList_op rfl (op_get 2 _ rfl S.out 0 rfl _ rfl Try.isAgg2 _ rfl ?_); simp only [Act.put, sa_, sb_, sc_]))
         refine (RE.out _).mono ?_
         rintro e w ⟨rfl, b⟩
         replace S := Lib.hid (S.out.call b)
         clear b
         cases t2
         · have HNO : Hid (worldOk W = false) := Lib.hid (NO.out (by rw [DEF.out]; rfl))
           clear NO DEF
           go_wp2_with fail
           go_ret
           exact ⟨ret_bool HNO.out.symm, S.out.below⟩
         go_wp2_with (first
             | go_skip
             | (refine wpList_op rfl (op_get 2 _ rfl S.out 0 rfl _ rfl Try.isAgg2 _ rfl ?_); simp only [Act.put, sa_, sb_, sc_])
             | (refine wpList_op rfl (op_get 2 _ rfl S.out 1 rfl _ rfl Try.isAgg2 _ rfl ?_); simp only [Act.put, sa_, sb_, sc_]))
         refine (I1.out _).mono ?_
         rintro e w9 ⟨rfl, rfl⟩
         cases t3
         · have HNO : Hid (worldOk W = false) := Lib.hid (NO.out (by rw [DEF.out]; rfl))
           clear NO DEF
           go_wp2_with fail
           go_ret
           exact ⟨ret_bool HNO.out.symm, S.out.below⟩
         go_wp2_with (first
             | go_skip
             | (refine wpList_op rfl (op_get 2 _ rfl S.out 0 rfl _ rfl Try.isAgg2 _ rfl ?_); simp only [Act.put, sa_, sb_, sc_])
             | (refine wpList_op rfl (op_get 2 _ rfl S.out 1 rfl _ rfl Try.isAgg2 _ rfl ?_); simp only [Act.put, sa_, sb_, sc_]))
         refine (I2.out _).mono ?_
         rintro e w9 ⟨rfl, rfl⟩
         cases t4
         · have HNO : Hid (worldOk W = false) := Lib.hid (NO.out (by rw [DEF.out]; rfl))
           clear NO DEF
           go_wp2_with fail
           go_ret
           exact ⟨ret_bool HNO.out.symm, S.out.below⟩
         go_wp2_with (first
             | go_skip
             | (refine wpList_op rfl (op_get 2 _ rfl S.out 0 rfl _ rfl Try.isAgg2 _ rfl ?_); simp only [Act.put, sa_, sb_, sc_]))
         refine (I3.out _).mono ?_
         rintro e w9 ⟨rfl, rfl⟩
         cases t5
         · have HNO : Hid (worldOk W = false) := Lib.hid (NO.out (by rw [DEF.out]; rfl))
           clear NO DEF
           go_wp2_with fail
           go_ret
           exact ⟨ret_bool HNO.out.symm, S.out.below⟩
         have YES : Hid (dealOk n1 now d = true) := Lib.hid (by rw [DEF.out]; rfl)
         clear NO DEF
         go_wp2_with fail
         replace S : Hid (Sep noX w0 [bx gw #[jI jZ r, jS A n c, jS A1 n1 c1, jS (some ⟨b, off, none⟩) n2 c2, jI jZ now] 81] w) := Lib.hid (S.out.drop (List.Sublist.cons _ (List.Sublist.refl _)))
         go_roundw
         case rel => exact ⟨m + 1, by go_num, by have := HLT.out; omega, Lib.hid (fun j hj => by
           rcases Nat.lt_or_ge j m with h' | h'
           · exact ho.out j h'
           · obtain rfl : j = m := by omega
             rw [← HDD.out, ← HNOW.out]
             exact YES.out), S⟩
         case measure => simp [intOf]; have := HLT.out; omega
       · obtain rfl : m = n2 := by omega
         have hall : W.ds.all (dealOk n1 W.now) = true := all_yes (d := encDl.dflt) (by rw [L2.out]; exact ho.out)
         have HALL := Lib.hid hall
         clear hall ho hm hlt
         go_wp2_with (first
             | go_skip
             | (refine wpList_op rfl (op_get 79 _ rfl S.out 0 rfl _ rfl Try.isAgg79 _ rfl ?_)))
         go_ret
         exact ⟨ret_bool (by rw [HEAD.out, H1.out, HALL.out]; rfl), S.out.below⟩

set_option maxRecDepth 100000 in
theorem sWorldOk_any (W : Wd) (A : Option Addr) (n c : Nat) (A1 : Option Addr) (n1 c1 : Nat) (A2 : Option Addr) (n2 c2 : Nat) (w0 : World) (hW : IsW w0 w0.heap.size W A n A1 n1 A2 n2) :
   Calls Try.prog 74 #[.agg #[jI jZ W.root, jS A n c, jS A1 n1 c1, jS A2 n2 c2, jI jZ W.now]] w0 fun e w' => e = .returned (.bool (worldOk W)) ∧ Below w0.heap.size w0 w' := by
 by_cases q0 : treeOk W.root W.ns = true
 · by_cases q1 : 1 ≤ n1
   · by_cases q2 : n1 ≤ 6
     · by_cases q3 : n2 ≤ 1000
       · by_cases q4 : inB W.now 0 20000 = true
         · exact world_go W A n c A1 n1 c1 A2 n2 c2 w0 hW q0 q1 q2 q3 q4
         · exact world_no4 W A n c A1 n1 c1 A2 n2 c2 w0 hW q0 q1 q2 q3 q4
       · exact world_no3 W A n c A1 n1 c1 A2 n2 c2 w0 hW q0 q1 q2 q3
     · exact world_no2 W A n c A1 n1 c1 A2 n2 c2 w0 hW q0 q1 q2
   · exact world_no1 W A n c A1 n1 c1 A2 n2 c2 w0 hW q0 q1
 · exact world_no0 W A n c A1 n1 c1 A2 n2 c2 w0 hW q0
end Go.Proofs.Ytjookicpmjmdhaa
