/- The law FnCalls, walked: it returns true, and nothing that was there is turned. (Made by genLc.py.) -/
import Derived.Test.YtjookicpmjmdhaaQ50
import Derived.Test.YtjookicpmjmdhaaQ51
import Derived.Test.YtjookicpmjmdhaaQ53
import Derived.Test.YtjookicpmjmdhaaQ46
open Go.Value renaming int → jI, slice → jS
open Go.IntKind renaming i64 → jZ
namespace Go.Proofs.Ytjookicpmjmdhaa
open Go.RowKit

theorem op_neqBC {o : Oper} {a : Act} {w : World} {K : Act → World → Prop} {Q : Exit → Act → World → Prop} (x y : Operand) (ho : o.op = .binOp .neq 4 x y 4) {q : Bool} (hx : a.eval x = .bool q) (hy : a.eval y = .bool q) (hK : K (a.put o.dst (.bool false)) w) : o.wp Try.prog a w K Q := by
 refine op_val ?_ hK
 generalize a.eval = E at hx hy ⊢
 simp [execOp, ho, hx, hy, go_sem]
theorem op_neqIC {o : Oper} {a : Act} {w : World} {K : Act → World → Prop} {Q : Exit → Act → World → Prop} (x y : Operand) (ho : o.op = .binOp .neq 2 x y 2) {q : Int} (hx : a.eval x = jI jZ q) (hy : a.eval y = jI jZ q) (hK : K (a.put o.dst (.bool false)) w) : o.wp Try.prog a w K Q := by
 refine op_val ?_ hK
 generalize a.eval = E at hx hy ⊢
 simp [execOp, ho, hx, hy, go_sem]
theorem called_facts {h : Hd} {c k v : Int} (hq : calledC h c k v = 0) : handOk (calledH h c k v) = true ∧ (calledH h c k v).pos = 1 ∧ (calledH h c k v).key = k ∧ calledC (calledH h c k v) c k v = 1 := by
 unfold calledC at hq
 split at hq
 · rename_i h1
   split at hq
   · rename_i h2
     split at hq
     · rename_i h3
       have e : calledH h c k v = { zeroH with pos := 1, cc := c, ck := k, cv := v, key := k } := by
         unfold calledH
         rw [if_pos h1, if_pos h2, if_pos h3]
       have hk : inB k 0 99 = true := by
         unfold callOk at h3
         simp only [Bool.and_eq_true] at h3
         exact h3.2.1
       have ho : handOk { zeroH with pos := 1, cc := c, ck := k, cv := v, key := k } = true := by
         unfold handOk
         simp only [h3, zeroH, Bool.true_or, Bool.true_and, Bool.and_eq_true]
         refine ⟨by decide, by decide, by decide, by decide, by decide, by decide, by decide, by decide, hk, by decide, by decide, by decide, by decide⟩
       rw [e]
       refine ⟨ho, rfl, rfl, ?_⟩
       unfold calledC
       rw [if_pos ho, if_neg (by show ¬ (1 : Int) = 0; decide)]
     · cases hq
   · cases hq
 · cases hq
theorem callH_len (h : Hd) (c k v : Int) (hl : h.st.length ≤ 8) : (calledH h c k v).st.length ≤ 8 := by
 have hz : zeroH.st.length ≤ 8 := Nat.zero_le _
 unfold calledH
 split
 · split
   · split
     · exact Nat.zero_le _
     · exact hl
   · exact hl
 · exact hz

set_option maxRecDepth 100000 in
set_option maxHeartbeats 16000000 in
theorem lawCalls_walk (A : Option Addr) (n c : Nat) (w0 : World) (h : Bys w0 w0.heap.size A n) (hm : n ≤ 9223372036854775807) :
   Calls Try.prog 3 #[jS A n c] w0 fun e w' => e = .returned (.bool true) ∧ Below w0.heap.size w0 w' := by
 have HH := Lib.hid h
 clear h
 by_cases hn : 4096 < n
 · have hd : ∀ w, Calls Try.prog 9 #[jS A n c] w fun e w' => e = .returned (.bool true) ∧ w = w' := fun w => by
     have := big_any A n c w hm; rwa [decide_eq_true hn] at this
   go_enter Try.func3, Try.ntmps3
   go_wp2_with (go_at_call 9; refine (hd _).mono ?_; rintro e w1 ⟨rfl, rfl⟩)
   go_ret
   exact ⟨rfl, Below.refl _ _⟩
 have hd : ∀ w, Calls Try.prog 9 #[jS A n c] w fun e w' => e = .returned (.bool false) ∧ w = w' := fun w => by
   have := big_any A n c w hm; rwa [decide_eq_false hn] at this
 have hn : n ≤ 4096 := by omega
 have HD := Lib.hid hd
 have HN := Lib.hid hn
 clear hd hn hm
 have S := Lib.hid (Sep.start noX w0)
 go_enter Try.func3, Try.ntmps3
 go_wp2_with (go_at_call 9; refine (HD.out _).mono ?_; rintro e w1 ⟨rfl, rfl⟩)
 refine (dReplyOk_any A n c _ (bys_on HH.out S.out.below) HN.out).mono ?_
 rintro e w1 ⟨c1, c2, c3, rp, rfl, b⟩
 replace S := Lib.hid (S.out.call b)
 clear b
 have tok_gA : True := trivial
 go_wp2_with (first
     | go_skip
     | (have _t := tok_gA; clear _t; refine wpList_op rfl (op_nx 25 rfl S.out _ Try.zeroValue25 ?_); clear S tok_gA; intro gA w S; replace S := Lib.hid S; simp only [Act.put, sa_, sb_, sc_])
     | (refine wpList_op rfl (op_putR_0 25 _ _ rfl S rfl _ rfl rfl (by kernel_rfl) rfl ?_); clear S; intro w S; simp only [Act.put]))
 refine (dCallOk_any A n c _ (bys_on HH.out S.out.below) HN.out).mono ?_
 rintro e w1 ⟨e1, e2, e3, rfl, b⟩
 replace S := Lib.hid (S.out.call b)
 clear b
 have tok_gB : True := trivial
 go_wp2_with (first
     | go_skip
     | (have _t := tok_gB; clear _t; refine wpList_op rfl (op_nx 25 rfl S.out _ Try.zeroValue25 ?_); clear S tok_gB; intro gB w S; replace S := Lib.hid S; simp only [Act.put, sa_, sb_, sc_])
     | (refine wpList_op rfl (op_putR_0 25 _ _ rfl S rfl _ rfl rfl (by kernel_rfl) rfl ?_); clear S; intro w S; simp only [Act.put]))
 refine (dHandOk_any A n c _ (bys_on HH.out S.out.below) HN.out).mono ?_
 rintro e w1 ⟨hh, Ah, dh, Fh, rfl, hl, ho, hf, b⟩
 have HLh := Lib.hid hl
 unfold hdV
 replace S : Hid (Sep noX w0 [ow (jS Ah hh.st.length dh) hh.st Fh, bx gB #[jI jZ e1, jI jZ e2, jI jZ e3] 25, bx gA #[jI jZ c1, jI jZ c2, jI jZ c3] 25] w1) := Lib.hid (S.out.own b ho hf)
 clear hl ho hf b
 have tok_gH : True := trivial
 go_wp2_with (first
     | go_skip
     | (have _t := tok_gH; clear _t; refine wpList_op rfl (op_nx 31 rfl S.out _ Try.zeroValue31 ?_); clear S tok_gH; intro gH w S; replace S := Lib.hid S; simp only [Act.put, sa_, sb_, sc_])
     | (refine wpList_op rfl (op_putR_0 31 _ _ rfl S rfl _ rfl rfl (by kernel_rfl) rfl ?_); clear S; intro w S; simp only [Act.put]))
 refine (dResting_any A n c _ (bys_on HH.out S.out.below) HN.out).mono ?_
 rintro e w1 ⟨r1, r2, rfl, b⟩
 replace S := Lib.hid (S.out.call b)
 clear b
 go_wp2_with fail
 refine (dCalled_any A n c _ (bys_on HH.out S.out.below) HN.out).mono ?_
 rintro e w1 ⟨uu, Au, du, Fu, fa, fb, fc, rfl, hl, ho, hf, b⟩
 have HLu := Lib.hid hl
 have HLx := Lib.hid (callH_len uu fa fb fc hl)
 have HCF := Lib.hid (fun hq => called_facts (h := uu) (c := fa) (k := fb) (v := fc) hq)
 have IC := Lib.hid (fun (A : Option Addr) (c : Nat) w (ho : OwnS w (jS A uu.st.length c) uu.st Fu) => iCalled_any uu A uu.st.length c fa fb fc w (OwnS.rs ho rfl) (by show uu.st.length ≤ _; omega) (OwnS.cap ho).1 (OwnS.cap ho).2)
 have SC := Lib.hid (fun (A : Option Addr) (c : Nat) w (ho : OwnS w (jS A uu.st.length c) uu.st Fu) => sCalled_any uu A uu.st.length c fa fb fc w (OwnS.rs ho rfl) (by omega))
 generalize calledH uu fa fb fc = xx at *
 generalize calledC uu fa fb fc = kq at *
 unfold hdV at *
 replace S : Hid (Sep noX w0 [ow (jS Au uu.st.length du) uu.st Fu, bx gH #[jI jZ hh.pos, jI jZ hh.cc, jI jZ hh.ck, jI jZ hh.cv, jI jZ hh.cur, jI jZ hh.want, jI jZ hh.key, jI jZ hh.kid, jI jZ hh.old, jI jZ hh.next, jI jZ hh.new, jS Ah hh.st.length dh, jI jZ hh.thn, jI jZ hh.beg, jI jZ hh.rep, jI jZ hh.out] 31, ow (jS Ah hh.st.length dh) hh.st Fh, bx gB #[jI jZ e1, jI jZ e2, jI jZ e3] 25, bx gA #[jI jZ c1, jI jZ c2, jI jZ c3] 25] w1) := Lib.hid (S.out.own b ho hf)
 clear hl ho hf b
 have tok_gU : True := trivial
 have tok_gF : True := trivial
 go_wp2_with (first
     | go_skip
     | (have _t := tok_gU; clear _t; refine wpList_op rfl (op_nx 31 rfl S.out _ Try.zeroValue31 ?_); clear S tok_gU; intro gU w S; replace S := Lib.hid S; simp only [Act.put, sa_, sb_, sc_])
     | (have _t := tok_gF; clear _t; refine wpList_op rfl (op_nx 25 rfl S.out _ Try.zeroValue25 ?_); clear S tok_gF; intro gF w S; replace S := Lib.hid S; simp only [Act.put, sa_, sb_, sc_])
     | (refine wpList_op rfl (op_putR_1 31 _ _ rfl S rfl _ rfl rfl (by kernel_rfl) rfl ?_); clear S; intro w S; simp only [Act.put])
     | (refine wpList_op rfl (op_putR_0 25 _ _ rfl S rfl _ rfl rfl (by kernel_rfl) rfl ?_); clear S; intro w S; simp only [Act.put])
     | (refine wpList_op rfl (op_row 31 _ rfl S.out 1 rfl rfl Try.isAgg31 (by kernel_rfl) ?_); simp only [Act.put, sa_, sb_, sc_])
     | (refine wpList_op rfl (op_row 25 _ rfl S.out 0 rfl rfl Try.isAgg25 (by kernel_rfl) ?_); simp only [Act.put, sa_, sb_, sc_]))
 refine (IC.out _ _ _ (S.out.get 2 (I := ow (jS Au uu.st.length du) uu.st Fu) rfl)).mono ?_
 rintro e w1 ⟨Ax, dx, Fx, rfl, ho, hf, b⟩
 replace S : Hid (Sep noX w0 [ow (jS Ax xx.st.length dx) xx.st Fx, bx gF #[jI jZ fa, jI jZ fb, jI jZ fc] 25, bx gU #[jI jZ uu.pos, jI jZ uu.cc, jI jZ uu.ck, jI jZ uu.cv, jI jZ uu.cur, jI jZ uu.want, jI jZ uu.key, jI jZ uu.kid, jI jZ uu.old, jI jZ uu.next, jI jZ uu.new, jS Au uu.st.length du, jI jZ uu.thn, jI jZ uu.beg, jI jZ uu.rep, jI jZ uu.out] 31, ow (jS Au uu.st.length du) uu.st Fu, bx gH #[jI jZ hh.pos, jI jZ hh.cc, jI jZ hh.ck, jI jZ hh.cv, jI jZ hh.cur, jI jZ hh.want, jI jZ hh.key, jI jZ hh.kid, jI jZ hh.old, jI jZ hh.next, jI jZ hh.new, jS Ah hh.st.length dh, jI jZ hh.thn, jI jZ hh.beg, jI jZ hh.rep, jI jZ hh.out] 31, ow (jS Ah hh.st.length dh) hh.st Fh, bx gB #[jI jZ e1, jI jZ e2, jI jZ e3] 25, bx gA #[jI jZ c1, jI jZ c2, jI jZ c3] 25] w1) := Lib.hid (S.out.own b ho hf)
 clear ho hf b
 unfold hdV
 have tok_gX : True := trivial
 go_wp2_with (first
     | go_skip
     | (have _t := tok_gX; clear _t; refine wpList_op rfl (op_nx 31 rfl S.out _ Try.zeroValue31 ?_); clear S tok_gX; intro gX w S; replace S := Lib.hid S; simp only [Act.put, sa_, sb_, sc_])
     | (refine wpList_op rfl (op_putR_0 31 _ _ rfl S rfl _ rfl rfl (by kernel_rfl) rfl ?_); clear S; intro w S; simp only [Act.put])
     | (refine wpList_op rfl (op_row 31 _ rfl S.out 3 rfl rfl Try.isAgg31 (by kernel_rfl) ?_); simp only [Act.put, sa_, sb_, sc_])
     | (refine wpList_op rfl (op_row 25 _ rfl S.out 2 rfl rfl Try.isAgg25 (by kernel_rfl) ?_); simp only [Act.put, sa_, sb_, sc_]))
 refine (SC.out _ _ _ (S.out.get 4 (I := ow (jS Au uu.st.length du) uu.st Fu) rfl)).mono ?_
 rintro e w1 ⟨Ay, dy, Fy, rfl, ho, hf, b⟩
 replace S : Hid (Sep noX w0 [ow (jS Ay xx.st.length dy) xx.st Fy, bx gX #[jI jZ xx.pos, jI jZ xx.cc, jI jZ xx.ck, jI jZ xx.cv, jI jZ xx.cur, jI jZ xx.want, jI jZ xx.key, jI jZ xx.kid, jI jZ xx.old, jI jZ xx.next, jI jZ xx.new, jS Ax xx.st.length dx, jI jZ xx.thn, jI jZ xx.beg, jI jZ xx.rep, jI jZ xx.out] 31, ow (jS Ax xx.st.length dx) xx.st Fx, bx gF #[jI jZ fa, jI jZ fb, jI jZ fc] 25, bx gU #[jI jZ uu.pos, jI jZ uu.cc, jI jZ uu.ck, jI jZ uu.cv, jI jZ uu.cur, jI jZ uu.want, jI jZ uu.key, jI jZ uu.kid, jI jZ uu.old, jI jZ uu.next, jI jZ uu.new, jS Au uu.st.length du, jI jZ uu.thn, jI jZ uu.beg, jI jZ uu.rep, jI jZ uu.out] 31, ow (jS Au uu.st.length du) uu.st Fu, bx gH #[jI jZ hh.pos, jI jZ hh.cc, jI jZ hh.ck, jI jZ hh.cv, jI jZ hh.cur, jI jZ hh.want, jI jZ hh.key, jI jZ hh.kid, jI jZ hh.old, jI jZ hh.next, jI jZ hh.new, jS Ah hh.st.length dh, jI jZ hh.thn, jI jZ hh.beg, jI jZ hh.rep, jI jZ hh.out] 31, ow (jS Ah hh.st.length dh) hh.st Fh, bx gB #[jI jZ e1, jI jZ e2, jI jZ e3] 25, bx gA #[jI jZ c1, jI jZ c2, jI jZ c3] 25] w1) := Lib.hid (S.out.own b ho hf)
 clear ho hf b
 unfold hdV
 have tok_gY : True := trivial
 go_wp2_with (first
     | go_skip
     | (have _t := tok_gY; clear _t; refine wpList_op rfl (op_nx 31 rfl S.out _ Try.zeroValue31 ?_); clear S tok_gY; intro gY w S; replace S := Lib.hid S; simp only [Act.put, sa_, sb_, sc_])
     | (refine wpList_op rfl (op_putR_0 31 _ _ rfl S rfl _ rfl rfl (by kernel_rfl) rfl ?_); clear S; intro w S; simp only [Act.put]))
 have IR := Lib.hid (fun w => iReplyOk_any c1 c2 c3 rp w)
 have SR := Lib.hid (fun w => sReplyOk_any c1 c2 c3 rp w)
 have IK := Lib.hid (fun w => iCallOk_any e1 e2 e3 w)
 have SK := Lib.hid (fun w => sCallOk_any e1 e2 e3 w)
 have IH := Lib.hid (fun w (ho : OwnS w (jS Ah hh.st.length dh) hh.st Fh) => iHandOk_any hh Ah hh.st.length dh w (OwnS.rs ho rfl) (by show hh.st.length ≤ _; have := HLh.out; omega) (OwnS.cap ho).1 (OwnS.cap ho).2)
 have SH := Lib.hid (fun w (ho : OwnS w (jS Ah hh.st.length dh) hh.st Fh) => sHandOk_any hh Ah hh.st.length dh w (OwnS.rs ho rfl))
 generalize replyOk c1 c2 c3 rp = qa at *
 generalize callOk e1 e2 e3 = qb at *
 generalize handOk hh = qc at *
 unfold hdV at IH SH
 refine wp_region_evg (by kernel_rfl) _ (by kernel_rfl) (by kernel_rfl) 120 rfl (by kernel_rfl) (fun D V w => ∃ AR : Option Addr, ∃ dR : Nat, ∃ AS : Option Addr, ∃ dS : Nat, Sep noX w0 [bx gY #[jI jZ xx.pos, jI jZ xx.cc, jI jZ xx.ck, jI jZ xx.cv, jI jZ xx.cur, jI jZ xx.want, jI jZ xx.key, jI jZ xx.kid, jI jZ xx.old, jI jZ xx.next, jI jZ xx.new, jS Ay xx.st.length dy, jI jZ xx.thn, jI jZ xx.beg, jI jZ xx.rep, jI jZ xx.out] 31, ow (jS Ay xx.st.length dy) xx.st Fy, bx gX #[jI jZ xx.pos, jI jZ xx.cc, jI jZ xx.ck, jI jZ xx.cv, jI jZ xx.cur, jI jZ xx.want, jI jZ xx.key, jI jZ xx.kid, jI jZ xx.old, jI jZ xx.next, jI jZ xx.new, jS Ax xx.st.length dx, jI jZ xx.thn, jI jZ xx.beg, jI jZ xx.rep, jI jZ xx.out] 31, ow (jS Ax xx.st.length dx) xx.st Fx, bx gF #[jI jZ fa, jI jZ fb, jI jZ fc] 25, bx gU #[jI jZ uu.pos, jI jZ uu.cc, jI jZ uu.ck, jI jZ uu.cv, jI jZ uu.cur, jI jZ uu.want, jI jZ uu.key, jI jZ uu.kid, jI jZ uu.old, jI jZ uu.next, jI jZ uu.new, jS Au uu.st.length du, jI jZ uu.thn, jI jZ uu.beg, jI jZ uu.rep, jI jZ uu.out] 31, ow (jS Au uu.st.length du) uu.st Fu, bx gH #[jI jZ hh.pos, jI jZ hh.cc, jI jZ hh.ck, jI jZ hh.cv, jI jZ hh.cur, jI jZ hh.want, jI jZ hh.key, jI jZ hh.kid, jI jZ hh.old, jI jZ hh.next, jI jZ hh.new, jS Ah hh.st.length dh, jI jZ hh.thn, jI jZ hh.beg, jI jZ hh.rep, jI jZ hh.out] 31, ow (jS Ah hh.st.length dh) hh.st Fh, bx gB #[jI jZ e1, jI jZ e2, jI jZ e3] 25, bx gA #[jI jZ c1, jI jZ c2, jI jZ c3] 25] w ∧ (D 0 = true → V 0 = .agg #[jI jZ c1, jI jZ c2, jI jZ c3]) ∧ (D 1 = true → V 1 = jI jZ rp) ∧ (D 2 = true → V 2 = .bool qa) ∧ (D 3 = true → V 3 = .agg #[jI jZ c1, jI jZ c2, jI jZ c3]) ∧ (D 4 = true → V 4 = jI jZ rp) ∧ (D 5 = true → V 5 = .bool qa) ∧ (D 6 = true → V 6 = .bool false) ∧ (D 7 = true → V 7 = .bool false) ∧ (D 8 = true → V 8 = .agg #[jI jZ e1, jI jZ e2, jI jZ e3]) ∧ (D 9 = true → V 9 = .bool qb) ∧ (D 10 = true → V 10 = .agg #[jI jZ e1, jI jZ e2, jI jZ e3]) ∧ (D 11 = true → V 11 = .bool qb) ∧ (D 12 = true → V 12 = .bool false) ∧ (D 13 = true → V 13 = .bool false) ∧ (D 14 = true → V 14 = .bool false) ∧ (D 15 = true → V 15 = .agg #[jI jZ hh.pos, jI jZ hh.cc, jI jZ hh.ck, jI jZ hh.cv, jI jZ hh.cur, jI jZ hh.want, jI jZ hh.key, jI jZ hh.kid, jI jZ hh.old, jI jZ hh.next, jI jZ hh.new, jS Ah hh.st.length dh, jI jZ hh.thn, jI jZ hh.beg, jI jZ hh.rep, jI jZ hh.out]) ∧ (D 16 = true → V 16 = .bool qc) ∧ (D 17 = true → V 17 = .agg #[jI jZ hh.pos, jI jZ hh.cc, jI jZ hh.ck, jI jZ hh.cv, jI jZ hh.cur, jI jZ hh.want, jI jZ hh.key, jI jZ hh.kid, jI jZ hh.old, jI jZ hh.next, jI jZ hh.new, jS Ah hh.st.length dh, jI jZ hh.thn, jI jZ hh.beg, jI jZ hh.rep, jI jZ hh.out]) ∧ (D 18 = true → V 18 = .bool qc) ∧ (D 19 = true → V 19 = .bool false) ∧ (D 20 = true → V 20 = .bool false) ∧ (D 21 = true → V 21 = .bool false) ∧ (D 22 = true → V 22 = jI jZ r1) ∧ (D 23 = true → V 23 = jI jZ r2) ∧ (D 24 = true → V 24 = .agg #[jI jZ 0, jI jZ 0, jI jZ 0, jI jZ 0, jI jZ 0, jI jZ 0, jI jZ 0, jI jZ 0, jI jZ 0, jI jZ 0, jI jZ 0, jS AR 0 dR, jI jZ 0, jI jZ 0, jI jZ r1, jI jZ r2]) ∧ (D 25 = true → V 25 = jI jZ r1) ∧ (D 26 = true → V 26 = jI jZ r2) ∧ (D 27 = true → V 27 = .agg #[jI jZ 0, jI jZ 0, jI jZ 0, jI jZ 0, jI jZ 0, jI jZ 0, jI jZ 0, jI jZ 0, jI jZ 0, jI jZ 0, jI jZ 0, jS AS 0 dS, jI jZ 0, jI jZ 0, jI jZ r1, jI jZ r2]) ∧ (D 28 = true → V 28 = .bool true) ∧ (D 29 = true → V 29 = .bool false) ∧ (D 30 = true → V 30 = .bool false) ∧ (D 31 = true → V 31 = .bool false) ∧ (D 32 = true → V 32 = .agg #[jI jZ xx.pos, jI jZ xx.cc, jI jZ xx.ck, jI jZ xx.cv, jI jZ xx.cur, jI jZ xx.want, jI jZ xx.key, jI jZ xx.kid, jI jZ xx.old, jI jZ xx.next, jI jZ xx.new, jS Ax xx.st.length dx, jI jZ xx.thn, jI jZ xx.beg, jI jZ xx.rep, jI jZ xx.out]) ∧ (D 33 = true → V 33 = .agg #[jI jZ xx.pos, jI jZ xx.cc, jI jZ xx.ck, jI jZ xx.cv, jI jZ xx.cur, jI jZ xx.want, jI jZ xx.key, jI jZ xx.kid, jI jZ xx.old, jI jZ xx.next, jI jZ xx.new, jS Ay xx.st.length dy, jI jZ xx.thn, jI jZ xx.beg, jI jZ xx.rep, jI jZ xx.out]) ∧ (D 34 = true → V 34 = .bool true) ∧ (D 35 = true → V 35 = .bool false) ∧ (D 36 = true → V 36 = .bool false) ∧ (D 37 = true → V 37 = .bool false) ∧ (D 38 = true → V 38 = jI jZ kq) ∧ (D 39 = true → V 39 = jI jZ kq) ∧ (D 40 = true → V 40 = .bool false) ∧ (D 41 = true → V 41 = .bool false)) ?_ ?_ ?_
 · intro D hD
   exact ⟨none, 0, none, 0, by exact S.out.drew.ems 0, (nof (hD 0 (by decide))), (nof (hD 1 (by decide))), (nof (hD 2 (by decide))), (nof (hD 3 (by decide))), (nof (hD 4 (by decide))), (nof (hD 5 (by decide))), (nof (hD 6 (by decide))), (nof (hD 7 (by decide))), (nof (hD 8 (by decide))), (nof (hD 9 (by decide))), (nof (hD 10 (by decide))), (nof (hD 11 (by decide))), (nof (hD 12 (by decide))), (nof (hD 13 (by decide))), (nof (hD 14 (by decide))), (nof (hD 15 (by decide))), (nof (hD 16 (by decide))), (nof (hD 17 (by decide))), (nof (hD 18 (by decide))), (nof (hD 19 (by decide))), (nof (hD 20 (by decide))), (nof (hD 21 (by decide))), (nof (hD 22 (by decide))), (nof (hD 23 (by decide))), (nof (hD 24 (by decide))), (nof (hD 25 (by decide))), (nof (hD 26 (by decide))), (nof (hD 27 (by decide))), (nof (hD 28 (by decide))), (nof (hD 29 (by decide))), (nof (hD 30 (by decide))), (nof (hD 31 (by decide))), (nof (hD 32 (by decide))), (nof (hD 33 (by decide))), (nof (hD 34 (by decide))), (nof (hD 35 (by decide))), (nof (hD 36 (by decide))), (nof (hD 37 (by decide))), (nof (hD 38 (by decide))), (nof (hD 39 (by decide))), (nof (hD 40 (by decide))), (nof (hD 41 (by decide)))⟩
 · intro i o D V w a ho hI hDi haf hev
   obtain ⟨AR, dR, AS, dS, S, f0, f1, f2, f3, f4, f5, f6, f7, f8, f9, f10, f11, f12, f13, f14, f15, f16, f17, f18, f19, f20, f21, f22, f23, f24, f25, f26, f27, f28, f29, f30, f31, f32, f33, f34, f35, f36, f37, f38, f39, f40, f41⟩ := hI
   rcases i with _ | _ | _ | _ | _ | _ | _ | _ | _ | _ | _ | _ | _ | _ | _ | _ | _ | _ | _ | _ | _ | _ | _ | _ | _ | _ | _ | _ | _ | _ | _ | _ | _ | _ | _ | _ | _ | _ | _ | _ | _ | _ | i
   · obtain rfl := inj_ ho
     refine ⟨fun _ _ hq => (nomatch hq), ?_⟩
     exact op_row 25 _ rfl S 10 rfl ((hev.old 3 (by kernel_rfl)).trans rfl) Try.isAgg25 (by kernel_rfl) ⟨_, rfl, AR, dR, AS, dS, S, fun _ => rfl, f1, f2, f3, f4, f5, f6, f7, f8, f9, f10, f11, f12, f13, f14, f15, f16, f17, f18, f19, f20, f21, f22, f23, f24, f25, f26, f27, f28, f29, f30, f31, f32, f33, f34, f35, f36, f37, f38, f39, f40, f41⟩
   · obtain rfl := inj_ ho
     refine ⟨fun _ _ hq => (nomatch hq), ?_⟩
     exact op_move (.inl rfl) ((hev.old 4 (by kernel_rfl)).trans rfl) ⟨_, rfl, AR, dR, AS, dS, S, f0, fun _ => rfl, f2, f3, f4, f5, f6, f7, f8, f9, f10, f11, f12, f13, f14, f15, f16, f17, f18, f19, f20, f21, f22, f23, f24, f25, f26, f27, f28, f29, f30, f31, f32, f33, f34, f35, f36, f37, f38, f39, f40, f41⟩
   · obtain rfl := inj_ ho
     have h0 := after_on haf 0 rfl
     have h1 := after_on haf 1 rfl
     refine ⟨fun _ _ hq => (nomatch hq), ?_⟩
     have hx0 := (hev.at_ 0 50 rfl rfl h0 f0)
     have hx1 := (hev.at_ 1 51 rfl rfl h1 f1)
     refine op_call _ _ _ rfl (enters_of Try.func17 (by kernel_rfl) rfl) #[.agg #[jI jZ c1, jI jZ c2, jI jZ c3], jI jZ rp] (by simp [hx0, hx1]) (IR.out w) (fun e w2 hh => ?_)
     obtain ⟨rfl, b⟩ := hh
     exact ⟨_, rfl, ⟨_, rfl, AR, dR, AS, dS, S.call b, f0, f1, fun _ => rfl, f3, f4, f5, f6, f7, f8, f9, f10, f11, f12, f13, f14, f15, f16, f17, f18, f19, f20, f21, f22, f23, f24, f25, f26, f27, f28, f29, f30, f31, f32, f33, f34, f35, f36, f37, f38, f39, f40, f41⟩⟩
   · obtain rfl := inj_ ho
     refine ⟨fun _ _ hq => (nomatch hq), ?_⟩
     exact op_row 25 _ rfl S 10 rfl ((hev.old 3 (by kernel_rfl)).trans rfl) Try.isAgg25 (by kernel_rfl) ⟨_, rfl, AR, dR, AS, dS, S, f0, f1, f2, fun _ => rfl, f4, f5, f6, f7, f8, f9, f10, f11, f12, f13, f14, f15, f16, f17, f18, f19, f20, f21, f22, f23, f24, f25, f26, f27, f28, f29, f30, f31, f32, f33, f34, f35, f36, f37, f38, f39, f40, f41⟩
   · obtain rfl := inj_ ho
     refine ⟨fun _ _ hq => (nomatch hq), ?_⟩
     exact op_move (.inl rfl) ((hev.old 4 (by kernel_rfl)).trans rfl) ⟨_, rfl, AR, dR, AS, dS, S, f0, f1, f2, f3, fun _ => rfl, f5, f6, f7, f8, f9, f10, f11, f12, f13, f14, f15, f16, f17, f18, f19, f20, f21, f22, f23, f24, f25, f26, f27, f28, f29, f30, f31, f32, f33, f34, f35, f36, f37, f38, f39, f40, f41⟩
   · obtain rfl := inj_ ho
     have h3 := after_on haf 3 rfl
     have h4 := after_on haf 4 rfl
     refine ⟨fun _ _ hq => (nomatch hq), ?_⟩
     have hx0 := (hev.at_ 3 53 rfl rfl h3 f3)
     have hx1 := (hev.at_ 4 54 rfl rfl h4 f4)
     refine op_call _ _ _ rfl (enters_of Try.func18 (by kernel_rfl) rfl) #[.agg #[jI jZ c1, jI jZ c2, jI jZ c3], jI jZ rp] (by simp [hx0, hx1]) (SR.out w) (fun e w2 hh => ?_)
     obtain ⟨rfl, b⟩ := hh
     exact ⟨_, rfl, ⟨_, rfl, AR, dR, AS, dS, S.call b, f0, f1, f2, f3, f4, fun _ => rfl, f6, f7, f8, f9, f10, f11, f12, f13, f14, f15, f16, f17, f18, f19, f20, f21, f22, f23, f24, f25, f26, f27, f28, f29, f30, f31, f32, f33, f34, f35, f36, f37, f38, f39, f40, f41⟩⟩
   · obtain rfl := inj_ ho
     have h2 := after_on haf 2 rfl
     have h5 := after_on haf 5 rfl
     refine ⟨fun _ _ hq => (nomatch hq), ?_⟩
     exact op_neqBC _ _ rfl (hev.at_ 2 52 rfl rfl h2 f2) (hev.at_ 5 55 rfl rfl h5 f5) ⟨_, rfl, AR, dR, AS, dS, S, f0, f1, f2, f3, f4, f5, fun _ => rfl, f7, f8, f9, f10, f11, f12, f13, f14, f15, f16, f17, f18, f19, f20, f21, f22, f23, f24, f25, f26, f27, f28, f29, f30, f31, f32, f33, f34, f35, f36, f37, f38, f39, f40, f41⟩
   · obtain rfl := inj_ ho
     have h6 := after_on haf 6 rfl
     refine ⟨fun _ _ hq => (nomatch hq), ?_⟩
     exact op_move (.inl rfl) (hev.at_ 6 56 rfl rfl h6 f6) ⟨_, rfl, AR, dR, AS, dS, S, f0, f1, f2, f3, f4, f5, f6, fun _ => rfl, f8, f9, f10, f11, f12, f13, f14, f15, f16, f17, f18, f19, f20, f21, f22, f23, f24, f25, f26, f27, f28, f29, f30, f31, f32, f33, f34, f35, f36, f37, f38, f39, f40, f41⟩
   · obtain rfl := inj_ ho
     have h7 := after_on haf 7 rfl
     refine ⟨fun _ _ hq => by cases Option.some.inj hq; exact ⟨h7, f7 h7⟩, ?_⟩
     exact op_row 25 _ rfl S 9 rfl ((hev.old 5 (by kernel_rfl)).trans rfl) Try.isAgg25 (by kernel_rfl) ⟨_, rfl, AR, dR, AS, dS, S, f0, f1, f2, f3, f4, f5, f6, f7, fun _ => rfl, f9, f10, f11, f12, f13, f14, f15, f16, f17, f18, f19, f20, f21, f22, f23, f24, f25, f26, f27, f28, f29, f30, f31, f32, f33, f34, f35, f36, f37, f38, f39, f40, f41⟩
   · obtain rfl := inj_ ho
     have h8 := after_on haf 8 rfl
     have h7 := after_on haf 7 rfl
     refine ⟨fun _ _ hq => by cases Option.some.inj hq; exact ⟨h7, f7 h7⟩, ?_⟩
     have hx0 := (hev.at_ 8 58 rfl rfl h8 f8)
     refine op_call _ _ _ rfl (enters_of Try.func19 (by kernel_rfl) rfl) #[.agg #[jI jZ e1, jI jZ e2, jI jZ e3]] (by simp [hx0]) (IK.out w) (fun e w2 hh => ?_)
     obtain ⟨rfl, b⟩ := hh
     exact ⟨_, rfl, ⟨_, rfl, AR, dR, AS, dS, S.call b, f0, f1, f2, f3, f4, f5, f6, f7, f8, fun _ => rfl, f10, f11, f12, f13, f14, f15, f16, f17, f18, f19, f20, f21, f22, f23, f24, f25, f26, f27, f28, f29, f30, f31, f32, f33, f34, f35, f36, f37, f38, f39, f40, f41⟩⟩
   · obtain rfl := inj_ ho
     have h7 := after_on haf 7 rfl
     refine ⟨fun _ _ hq => by cases Option.some.inj hq; exact ⟨h7, f7 h7⟩, ?_⟩
     exact op_row 25 _ rfl S 9 rfl ((hev.old 5 (by kernel_rfl)).trans rfl) Try.isAgg25 (by kernel_rfl) ⟨_, rfl, AR, dR, AS, dS, S, f0, f1, f2, f3, f4, f5, f6, f7, f8, f9, fun _ => rfl, f11, f12, f13, f14, f15, f16, f17, f18, f19, f20, f21, f22, f23, f24, f25, f26, f27, f28, f29, f30, f31, f32, f33, f34, f35, f36, f37, f38, f39, f40, f41⟩
   · obtain rfl := inj_ ho
     have h10 := after_on haf 10 rfl
     have h7 := after_on haf 7 rfl
     refine ⟨fun _ _ hq => by cases Option.some.inj hq; exact ⟨h7, f7 h7⟩, ?_⟩
     have hx0 := (hev.at_ 10 60 rfl rfl h10 f10)
     refine op_call _ _ _ rfl (enters_of Try.func20 (by kernel_rfl) rfl) #[.agg #[jI jZ e1, jI jZ e2, jI jZ e3]] (by simp [hx0]) (SK.out w) (fun e w2 hh => ?_)
     obtain ⟨rfl, b⟩ := hh
     exact ⟨_, rfl, ⟨_, rfl, AR, dR, AS, dS, S.call b, f0, f1, f2, f3, f4, f5, f6, f7, f8, f9, f10, fun _ => rfl, f12, f13, f14, f15, f16, f17, f18, f19, f20, f21, f22, f23, f24, f25, f26, f27, f28, f29, f30, f31, f32, f33, f34, f35, f36, f37, f38, f39, f40, f41⟩⟩
   · obtain rfl := inj_ ho
     have h9 := after_on haf 9 rfl
     have h11 := after_on haf 11 rfl
     have h7 := after_on haf 7 rfl
     refine ⟨fun _ _ hq => by cases Option.some.inj hq; exact ⟨h7, f7 h7⟩, ?_⟩
     exact op_neqBC _ _ rfl (hev.at_ 9 59 rfl rfl h9 f9) (hev.at_ 11 61 rfl rfl h11 f11) ⟨_, rfl, AR, dR, AS, dS, S, f0, f1, f2, f3, f4, f5, f6, f7, f8, f9, f10, f11, fun _ => rfl, f13, f14, f15, f16, f17, f18, f19, f20, f21, f22, f23, f24, f25, f26, f27, f28, f29, f30, f31, f32, f33, f34, f35, f36, f37, f38, f39, f40, f41⟩
   · obtain rfl := inj_ ho
     have h7 := after_on haf 7 rfl
     have h12 := after_on haf 12 rfl
     refine ⟨fun _ _ hq => (nomatch hq), ?_⟩
     exact op_pick _ _ _ rfl (hev.at_ 7 57 rfl rfl h7 f7) ((hev.at_ 12 62 rfl rfl h12 f12)) ⟨_, rfl, AR, dR, AS, dS, S, f0, f1, f2, f3, f4, f5, f6, f7, f8, f9, f10, f11, f12, fun _ => rfl, f14, f15, f16, f17, f18, f19, f20, f21, f22, f23, f24, f25, f26, f27, f28, f29, f30, f31, f32, f33, f34, f35, f36, f37, f38, f39, f40, f41⟩
   · obtain rfl := inj_ ho
     have h13 := after_on haf 13 rfl
     refine ⟨fun _ _ hq => (nomatch hq), ?_⟩
     exact op_move (.inl rfl) (hev.at_ 13 63 rfl rfl h13 f13) ⟨_, rfl, AR, dR, AS, dS, S, f0, f1, f2, f3, f4, f5, f6, f7, f8, f9, f10, f11, f12, f13, fun _ => rfl, f15, f16, f17, f18, f19, f20, f21, f22, f23, f24, f25, f26, f27, f28, f29, f30, f31, f32, f33, f34, f35, f36, f37, f38, f39, f40, f41⟩
   · obtain rfl := inj_ ho
     have h14 := after_on haf 14 rfl
     refine ⟨fun _ _ hq => by cases Option.some.inj hq; exact ⟨h14, f14 h14⟩, ?_⟩
     exact op_row 31 _ rfl S 7 rfl ((hev.old 6 (by kernel_rfl)).trans rfl) Try.isAgg31 (by kernel_rfl) ⟨_, rfl, AR, dR, AS, dS, S, f0, f1, f2, f3, f4, f5, f6, f7, f8, f9, f10, f11, f12, f13, f14, fun _ => rfl, f16, f17, f18, f19, f20, f21, f22, f23, f24, f25, f26, f27, f28, f29, f30, f31, f32, f33, f34, f35, f36, f37, f38, f39, f40, f41⟩
   · obtain rfl := inj_ ho
     have h15 := after_on haf 15 rfl
     have h14 := after_on haf 14 rfl
     refine ⟨fun _ _ hq => by cases Option.some.inj hq; exact ⟨h14, f14 h14⟩, ?_⟩
     have hx0 := (hev.at_ 15 65 rfl rfl h15 f15)
     refine op_call _ _ _ rfl (enters_of Try.func21 (by kernel_rfl) rfl) #[.agg #[jI jZ hh.pos, jI jZ hh.cc, jI jZ hh.ck, jI jZ hh.cv, jI jZ hh.cur, jI jZ hh.want, jI jZ hh.key, jI jZ hh.kid, jI jZ hh.old, jI jZ hh.next, jI jZ hh.new, jS Ah hh.st.length dh, jI jZ hh.thn, jI jZ hh.beg, jI jZ hh.rep, jI jZ hh.out]] (by simp [hx0]) (IH.out w (S.get 8 (I := ow (jS Ah hh.st.length dh) hh.st Fh) rfl)) (fun e w2 hh => ?_)
     obtain ⟨rfl, b⟩ := hh
     exact ⟨_, rfl, ⟨_, rfl, AR, dR, AS, dS, S.call b, f0, f1, f2, f3, f4, f5, f6, f7, f8, f9, f10, f11, f12, f13, f14, f15, fun _ => rfl, f17, f18, f19, f20, f21, f22, f23, f24, f25, f26, f27, f28, f29, f30, f31, f32, f33, f34, f35, f36, f37, f38, f39, f40, f41⟩⟩
   · obtain rfl := inj_ ho
     have h14 := after_on haf 14 rfl
     refine ⟨fun _ _ hq => by cases Option.some.inj hq; exact ⟨h14, f14 h14⟩, ?_⟩
     exact op_row 31 _ rfl S 7 rfl ((hev.old 6 (by kernel_rfl)).trans rfl) Try.isAgg31 (by kernel_rfl) ⟨_, rfl, AR, dR, AS, dS, S, f0, f1, f2, f3, f4, f5, f6, f7, f8, f9, f10, f11, f12, f13, f14, f15, f16, fun _ => rfl, f18, f19, f20, f21, f22, f23, f24, f25, f26, f27, f28, f29, f30, f31, f32, f33, f34, f35, f36, f37, f38, f39, f40, f41⟩
   · obtain rfl := inj_ ho
     have h17 := after_on haf 17 rfl
     have h14 := after_on haf 14 rfl
     refine ⟨fun _ _ hq => by cases Option.some.inj hq; exact ⟨h14, f14 h14⟩, ?_⟩
     have hx0 := (hev.at_ 17 67 rfl rfl h17 f17)
     refine op_call _ _ _ rfl (enters_of Try.func22 (by kernel_rfl) rfl) #[.agg #[jI jZ hh.pos, jI jZ hh.cc, jI jZ hh.ck, jI jZ hh.cv, jI jZ hh.cur, jI jZ hh.want, jI jZ hh.key, jI jZ hh.kid, jI jZ hh.old, jI jZ hh.next, jI jZ hh.new, jS Ah hh.st.length dh, jI jZ hh.thn, jI jZ hh.beg, jI jZ hh.rep, jI jZ hh.out]] (by simp [hx0]) (SH.out w (S.get 8 (I := ow (jS Ah hh.st.length dh) hh.st Fh) rfl)) (fun e w2 hh => ?_)
     obtain ⟨rfl, b⟩ := hh
     exact ⟨_, rfl, ⟨_, rfl, AR, dR, AS, dS, S.call b, f0, f1, f2, f3, f4, f5, f6, f7, f8, f9, f10, f11, f12, f13, f14, f15, f16, f17, fun _ => rfl, f19, f20, f21, f22, f23, f24, f25, f26, f27, f28, f29, f30, f31, f32, f33, f34, f35, f36, f37, f38, f39, f40, f41⟩⟩
   · obtain rfl := inj_ ho
     have h16 := after_on haf 16 rfl
     have h18 := after_on haf 18 rfl
     have h14 := after_on haf 14 rfl
     refine ⟨fun _ _ hq => by cases Option.some.inj hq; exact ⟨h14, f14 h14⟩, ?_⟩
     exact op_neqBC _ _ rfl (hev.at_ 16 66 rfl rfl h16 f16) (hev.at_ 18 68 rfl rfl h18 f18) ⟨_, rfl, AR, dR, AS, dS, S, f0, f1, f2, f3, f4, f5, f6, f7, f8, f9, f10, f11, f12, f13, f14, f15, f16, f17, f18, fun _ => rfl, f20, f21, f22, f23, f24, f25, f26, f27, f28, f29, f30, f31, f32, f33, f34, f35, f36, f37, f38, f39, f40, f41⟩
   · obtain rfl := inj_ ho
     have h14 := after_on haf 14 rfl
     have h19 := after_on haf 19 rfl
     refine ⟨fun _ _ hq => (nomatch hq), ?_⟩
     exact op_pick _ _ _ rfl (hev.at_ 14 64 rfl rfl h14 f14) ((hev.at_ 19 69 rfl rfl h19 f19)) ⟨_, rfl, AR, dR, AS, dS, S, f0, f1, f2, f3, f4, f5, f6, f7, f8, f9, f10, f11, f12, f13, f14, f15, f16, f17, f18, f19, fun _ => rfl, f21, f22, f23, f24, f25, f26, f27, f28, f29, f30, f31, f32, f33, f34, f35, f36, f37, f38, f39, f40, f41⟩
   · obtain rfl := inj_ ho
     have h20 := after_on haf 20 rfl
     refine ⟨fun _ _ hq => (nomatch hq), ?_⟩
     exact op_move (.inl rfl) (hev.at_ 20 70 rfl rfl h20 f20) ⟨_, rfl, AR, dR, AS, dS, S, f0, f1, f2, f3, f4, f5, f6, f7, f8, f9, f10, f11, f12, f13, f14, f15, f16, f17, f18, f19, f20, fun _ => rfl, f22, f23, f24, f25, f26, f27, f28, f29, f30, f31, f32, f33, f34, f35, f36, f37, f38, f39, f40, f41⟩
   · obtain rfl := inj_ ho
     have h21 := after_on haf 21 rfl
     refine ⟨fun _ _ hq => by cases Option.some.inj hq; exact ⟨h21, f21 h21⟩, ?_⟩
     exact op_move (.inl rfl) ((hev.old 7 (by kernel_rfl)).trans rfl) ⟨_, rfl, AR, dR, AS, dS, S, f0, f1, f2, f3, f4, f5, f6, f7, f8, f9, f10, f11, f12, f13, f14, f15, f16, f17, f18, f19, f20, f21, fun _ => rfl, f23, f24, f25, f26, f27, f28, f29, f30, f31, f32, f33, f34, f35, f36, f37, f38, f39, f40, f41⟩
   · obtain rfl := inj_ ho
     have h21 := after_on haf 21 rfl
     refine ⟨fun _ _ hq => by cases Option.some.inj hq; exact ⟨h21, f21 h21⟩, ?_⟩
     exact op_move (.inl rfl) ((hev.old 8 (by kernel_rfl)).trans rfl) ⟨_, rfl, AR, dR, AS, dS, S, f0, f1, f2, f3, f4, f5, f6, f7, f8, f9, f10, f11, f12, f13, f14, f15, f16, f17, f18, f19, f20, f21, f22, fun _ => rfl, f24, f25, f26, f27, f28, f29, f30, f31, f32, f33, f34, f35, f36, f37, f38, f39, f40, f41⟩
   · obtain rfl := inj_ ho
     have h22 := after_on haf 22 rfl
     have h23 := after_on haf 23 rfl
     have h21 := after_on haf 21 rfl
     refine ⟨fun _ _ hq => by cases Option.some.inj hq; exact ⟨h21, f21 h21⟩, ?_⟩
     have hx0 := (hev.at_ 22 72 rfl rfl h22 f22)
     have hx1 := (hev.at_ 23 73 rfl rfl h23 f23)
     refine op_call _ _ _ rfl (enters_of Try.func24 (by kernel_rfl) rfl) #[jI jZ r1, jI jZ r2] (by simp [hx0, hx1]) (iResting_any r1 r2 w) (fun e w2 hh => ?_)
     obtain ⟨A9, c9, F9, rfl, _, _, bb⟩ := hh
     exact ⟨_, rfl, ⟨_, rfl, A9, c9, AS, dS, (S.call bb), f0, f1, f2, f3, f4, f5, f6, f7, f8, f9, f10, f11, f12, f13, f14, f15, f16, f17, f18, f19, f20, f21, f22, f23, fun _ => rfl, f25, f26, f27, f28, f29, f30, f31, f32, f33, f34, f35, f36, f37, f38, f39, f40, f41⟩⟩
   · obtain rfl := inj_ ho
     have h21 := after_on haf 21 rfl
     refine ⟨fun _ _ hq => by cases Option.some.inj hq; exact ⟨h21, f21 h21⟩, ?_⟩
     exact op_move (.inl rfl) ((hev.old 7 (by kernel_rfl)).trans rfl) ⟨_, rfl, AR, dR, AS, dS, S, f0, f1, f2, f3, f4, f5, f6, f7, f8, f9, f10, f11, f12, f13, f14, f15, f16, f17, f18, f19, f20, f21, f22, f23, f24, fun _ => rfl, f26, f27, f28, f29, f30, f31, f32, f33, f34, f35, f36, f37, f38, f39, f40, f41⟩
   · obtain rfl := inj_ ho
     have h21 := after_on haf 21 rfl
     refine ⟨fun _ _ hq => by cases Option.some.inj hq; exact ⟨h21, f21 h21⟩, ?_⟩
     exact op_move (.inl rfl) ((hev.old 8 (by kernel_rfl)).trans rfl) ⟨_, rfl, AR, dR, AS, dS, S, f0, f1, f2, f3, f4, f5, f6, f7, f8, f9, f10, f11, f12, f13, f14, f15, f16, f17, f18, f19, f20, f21, f22, f23, f24, f25, fun _ => rfl, f27, f28, f29, f30, f31, f32, f33, f34, f35, f36, f37, f38, f39, f40, f41⟩
   · obtain rfl := inj_ ho
     have h25 := after_on haf 25 rfl
     have h26 := after_on haf 26 rfl
     have h21 := after_on haf 21 rfl
     refine ⟨fun _ _ hq => by cases Option.some.inj hq; exact ⟨h21, f21 h21⟩, ?_⟩
     have hx0 := (hev.at_ 25 75 rfl rfl h25 f25)
     have hx1 := (hev.at_ 26 76 rfl rfl h26 f26)
     refine op_call _ _ _ rfl (enters_of Try.func25 (by kernel_rfl) rfl) #[jI jZ r1, jI jZ r2] (by simp [hx0, hx1]) (sResting_any r1 r2 w) (fun e w2 hh => ?_)
     obtain ⟨A9, c9, F9, rfl, _, _, bb⟩ := hh
     exact ⟨_, rfl, ⟨_, rfl, AR, dR, A9, c9, (S.call bb), f0, f1, f2, f3, f4, f5, f6, f7, f8, f9, f10, f11, f12, f13, f14, f15, f16, f17, f18, f19, f20, f21, f22, f23, f24, f25, f26, fun _ => rfl, f28, f29, f30, f31, f32, f33, f34, f35, f36, f37, f38, f39, f40, f41⟩⟩
   · obtain rfl := inj_ ho
     have h24 := after_on haf 24 rfl
     have h27 := after_on haf 27 rfl
     have h21 := after_on haf 21 rfl
     refine ⟨fun _ _ hq => by cases Option.some.inj hq; exact ⟨h21, f21 h21⟩, ?_⟩
     have hx0 := (hev.at_ 24 74 rfl rfl h24 f24)
     have hx1 := (hev.at_ 27 77 rfl rfl h27 f27)
     refine op_call _ _ _ rfl (enters_of Try.func23 (by kernel_rfl) rfl) #[.agg #[jI jZ 0, jI jZ 0, jI jZ 0, jI jZ 0, jI jZ 0, jI jZ 0, jI jZ 0, jI jZ 0, jI jZ 0, jI jZ 0, jI jZ 0, jS AR 0 dR, jI jZ 0, jI jZ 0, jI jZ r1, jI jZ r2], .agg #[jI jZ 0, jI jZ 0, jI jZ 0, jI jZ 0, jI jZ 0, jI jZ 0, jI jZ 0, jI jZ 0, jI jZ 0, jI jZ 0, jI jZ 0, jS AS 0 dS, jI jZ 0, jI jZ 0, jI jZ r1, jI jZ r2]] (by simp [hx0, hx1]) (likeH_yes (restH r1 r2) AR AS 0 dR dS w (RS.nil _ _ _) (RS.nil _ _ _) (by omega)) (fun e w2 hh => ?_)
     obtain ⟨rfl, b⟩ := hh
     exact ⟨_, rfl, ⟨_, rfl, AR, dR, AS, dS, S.call b, f0, f1, f2, f3, f4, f5, f6, f7, f8, f9, f10, f11, f12, f13, f14, f15, f16, f17, f18, f19, f20, f21, f22, f23, f24, f25, f26, f27, fun _ => rfl, f29, f30, f31, f32, f33, f34, f35, f36, f37, f38, f39, f40, f41⟩⟩
   · obtain rfl := inj_ ho
     have h28 := after_on haf 28 rfl
     have h21 := after_on haf 21 rfl
     refine ⟨fun _ _ hq => by cases Option.some.inj hq; exact ⟨h21, f21 h21⟩, ?_⟩
     exact op_not _ _ rfl (hev.at_ 28 78 rfl rfl h28 f28) ⟨_, rfl, AR, dR, AS, dS, S, f0, f1, f2, f3, f4, f5, f6, f7, f8, f9, f10, f11, f12, f13, f14, f15, f16, f17, f18, f19, f20, f21, f22, f23, f24, f25, f26, f27, f28, fun _ => rfl, f30, f31, f32, f33, f34, f35, f36, f37, f38, f39, f40, f41⟩
   · obtain rfl := inj_ ho
     have h21 := after_on haf 21 rfl
     have h29 := after_on haf 29 rfl
     refine ⟨fun _ _ hq => (nomatch hq), ?_⟩
     exact op_pick _ _ _ rfl (hev.at_ 21 71 rfl rfl h21 f21) ((hev.at_ 29 79 rfl rfl h29 f29)) ⟨_, rfl, AR, dR, AS, dS, S, f0, f1, f2, f3, f4, f5, f6, f7, f8, f9, f10, f11, f12, f13, f14, f15, f16, f17, f18, f19, f20, f21, f22, f23, f24, f25, f26, f27, f28, f29, fun _ => rfl, f31, f32, f33, f34, f35, f36, f37, f38, f39, f40, f41⟩
   · obtain rfl := inj_ ho
     have h30 := after_on haf 30 rfl
     refine ⟨fun _ _ hq => (nomatch hq), ?_⟩
     exact op_move (.inl rfl) (hev.at_ 30 80 rfl rfl h30 f30) ⟨_, rfl, AR, dR, AS, dS, S, f0, f1, f2, f3, f4, f5, f6, f7, f8, f9, f10, f11, f12, f13, f14, f15, f16, f17, f18, f19, f20, f21, f22, f23, f24, f25, f26, f27, f28, f29, f30, fun _ => rfl, f32, f33, f34, f35, f36, f37, f38, f39, f40, f41⟩
   · obtain rfl := inj_ ho
     have h31 := after_on haf 31 rfl
     refine ⟨fun _ _ hq => by cases Option.some.inj hq; exact ⟨h31, f31 h31⟩, ?_⟩
     exact op_row 31 _ rfl S 2 rfl ((hev.old 11 (by kernel_rfl)).trans rfl) Try.isAgg31 (by kernel_rfl) ⟨_, rfl, AR, dR, AS, dS, S, f0, f1, f2, f3, f4, f5, f6, f7, f8, f9, f10, f11, f12, f13, f14, f15, f16, f17, f18, f19, f20, f21, f22, f23, f24, f25, f26, f27, f28, f29, f30, f31, fun _ => rfl, f33, f34, f35, f36, f37, f38, f39, f40, f41⟩
   · obtain rfl := inj_ ho
     have h31 := after_on haf 31 rfl
     refine ⟨fun _ _ hq => by cases Option.some.inj hq; exact ⟨h31, f31 h31⟩, ?_⟩
     exact op_row 31 _ rfl S 0 rfl ((hev.old 13 (by kernel_rfl)).trans rfl) Try.isAgg31 (by kernel_rfl) ⟨_, rfl, AR, dR, AS, dS, S, f0, f1, f2, f3, f4, f5, f6, f7, f8, f9, f10, f11, f12, f13, f14, f15, f16, f17, f18, f19, f20, f21, f22, f23, f24, f25, f26, f27, f28, f29, f30, f31, f32, fun _ => rfl, f34, f35, f36, f37, f38, f39, f40, f41⟩
   · obtain rfl := inj_ ho
     have h32 := after_on haf 32 rfl
     have h33 := after_on haf 33 rfl
     have h31 := after_on haf 31 rfl
     refine ⟨fun _ _ hq => by cases Option.some.inj hq; exact ⟨h31, f31 h31⟩, ?_⟩
     have hx0 := (hev.at_ 32 82 rfl rfl h32 f32)
     have hx1 := (hev.at_ 33 83 rfl rfl h33 f33)
     refine op_call _ _ _ rfl (enters_of Try.func23 (by kernel_rfl) rfl) #[.agg #[jI jZ xx.pos, jI jZ xx.cc, jI jZ xx.ck, jI jZ xx.cv, jI jZ xx.cur, jI jZ xx.want, jI jZ xx.key, jI jZ xx.kid, jI jZ xx.old, jI jZ xx.next, jI jZ xx.new, jS Ax xx.st.length dx, jI jZ xx.thn, jI jZ xx.beg, jI jZ xx.rep, jI jZ xx.out], .agg #[jI jZ xx.pos, jI jZ xx.cc, jI jZ xx.ck, jI jZ xx.cv, jI jZ xx.cur, jI jZ xx.want, jI jZ xx.key, jI jZ xx.kid, jI jZ xx.old, jI jZ xx.next, jI jZ xx.new, jS Ay xx.st.length dy, jI jZ xx.thn, jI jZ xx.beg, jI jZ xx.rep, jI jZ xx.out]] (by simp [hx0, hx1]) (likeH_yes xx Ax Ay xx.st.length dx dy w (OwnS.rs (S.get 3 (I := ow (jS Ax xx.st.length dx) xx.st Fx) rfl) rfl) (OwnS.rs (S.get 1 (I := ow (jS Ay xx.st.length dy) xx.st Fy) rfl) rfl) (by have := HLx.out; omega)) (fun e w2 hh => ?_)
     obtain ⟨rfl, b⟩ := hh
     exact ⟨_, rfl, ⟨_, rfl, AR, dR, AS, dS, S.call b, f0, f1, f2, f3, f4, f5, f6, f7, f8, f9, f10, f11, f12, f13, f14, f15, f16, f17, f18, f19, f20, f21, f22, f23, f24, f25, f26, f27, f28, f29, f30, f31, f32, f33, fun _ => rfl, f35, f36, f37, f38, f39, f40, f41⟩⟩
   · obtain rfl := inj_ ho
     have h34 := after_on haf 34 rfl
     have h31 := after_on haf 31 rfl
     refine ⟨fun _ _ hq => by cases Option.some.inj hq; exact ⟨h31, f31 h31⟩, ?_⟩
     exact op_not _ _ rfl (hev.at_ 34 84 rfl rfl h34 f34) ⟨_, rfl, AR, dR, AS, dS, S, f0, f1, f2, f3, f4, f5, f6, f7, f8, f9, f10, f11, f12, f13, f14, f15, f16, f17, f18, f19, f20, f21, f22, f23, f24, f25, f26, f27, f28, f29, f30, f31, f32, f33, f34, fun _ => rfl, f36, f37, f38, f39, f40, f41⟩
   · obtain rfl := inj_ ho
     have h31 := after_on haf 31 rfl
     have h35 := after_on haf 35 rfl
     refine ⟨fun _ _ hq => (nomatch hq), ?_⟩
     exact op_pick _ _ _ rfl (hev.at_ 31 81 rfl rfl h31 f31) ((hev.at_ 35 85 rfl rfl h35 f35)) ⟨_, rfl, AR, dR, AS, dS, S, f0, f1, f2, f3, f4, f5, f6, f7, f8, f9, f10, f11, f12, f13, f14, f15, f16, f17, f18, f19, f20, f21, f22, f23, f24, f25, f26, f27, f28, f29, f30, f31, f32, f33, f34, f35, fun _ => rfl, f37, f38, f39, f40, f41⟩
   · obtain rfl := inj_ ho
     have h36 := after_on haf 36 rfl
     refine ⟨fun _ _ hq => (nomatch hq), ?_⟩
     exact op_move (.inl rfl) (hev.at_ 36 86 rfl rfl h36 f36) ⟨_, rfl, AR, dR, AS, dS, S, f0, f1, f2, f3, f4, f5, f6, f7, f8, f9, f10, f11, f12, f13, f14, f15, f16, f17, f18, f19, f20, f21, f22, f23, f24, f25, f26, f27, f28, f29, f30, f31, f32, f33, f34, f35, f36, fun _ => rfl, f38, f39, f40, f41⟩
   · obtain rfl := inj_ ho
     have h37 := after_on haf 37 rfl
     refine ⟨fun _ _ hq => by cases Option.some.inj hq; exact ⟨h37, f37 h37⟩, ?_⟩
     exact op_move (.inl rfl) ((hev.old 12 (by kernel_rfl)).trans rfl) ⟨_, rfl, AR, dR, AS, dS, S, f0, f1, f2, f3, f4, f5, f6, f7, f8, f9, f10, f11, f12, f13, f14, f15, f16, f17, f18, f19, f20, f21, f22, f23, f24, f25, f26, f27, f28, f29, f30, f31, f32, f33, f34, f35, f36, f37, fun _ => rfl, f39, f40, f41⟩
   · obtain rfl := inj_ ho
     have h37 := after_on haf 37 rfl
     refine ⟨fun _ _ hq => by cases Option.some.inj hq; exact ⟨h37, f37 h37⟩, ?_⟩
     exact op_move (.inl rfl) ((hev.old 14 (by kernel_rfl)).trans rfl) ⟨_, rfl, AR, dR, AS, dS, S, f0, f1, f2, f3, f4, f5, f6, f7, f8, f9, f10, f11, f12, f13, f14, f15, f16, f17, f18, f19, f20, f21, f22, f23, f24, f25, f26, f27, f28, f29, f30, f31, f32, f33, f34, f35, f36, f37, f38, fun _ => rfl, f40, f41⟩
   · obtain rfl := inj_ ho
     have h38 := after_on haf 38 rfl
     have h39 := after_on haf 39 rfl
     have h37 := after_on haf 37 rfl
     refine ⟨fun _ _ hq => by cases Option.some.inj hq; exact ⟨h37, f37 h37⟩, ?_⟩
     exact op_neqIC _ _ rfl (hev.at_ 38 88 rfl rfl h38 f38) (hev.at_ 39 89 rfl rfl h39 f39) ⟨_, rfl, AR, dR, AS, dS, S, f0, f1, f2, f3, f4, f5, f6, f7, f8, f9, f10, f11, f12, f13, f14, f15, f16, f17, f18, f19, f20, f21, f22, f23, f24, f25, f26, f27, f28, f29, f30, f31, f32, f33, f34, f35, f36, f37, f38, f39, fun _ => rfl, f41⟩
   · obtain rfl := inj_ ho
     have h37 := after_on haf 37 rfl
     have h40 := after_on haf 40 rfl
     refine ⟨fun _ _ hq => (nomatch hq), ?_⟩
     exact op_pick _ _ _ rfl (hev.at_ 37 87 rfl rfl h37 f37) ((hev.at_ 40 90 rfl rfl h40 f40)) ⟨_, rfl, AR, dR, AS, dS, S, f0, f1, f2, f3, f4, f5, f6, f7, f8, f9, f10, f11, f12, f13, f14, f15, f16, f17, f18, f19, f20, f21, f22, f23, f24, f25, f26, f27, f28, f29, f30, f31, f32, f33, f34, f35, f36, f37, f38, f39, f40, fun _ => rfl⟩
   · exact absurd ho (by simp)
 intro V w hI
 obtain ⟨AR, dR, AS, dS, S, f0, f1, f2, f3, f4, f5, f6, f7, f8, f9, f10, f11, f12, f13, f14, f15, f16, f17, f18, f19, f20, f21, f22, f23, f24, f25, f26, f27, f28, f29, f30, f31, f32, f33, f34, f35, f36, f37, f38, f39, f40, f41⟩ := hI
 replace S : Hid (Sep noX w0 [bx gY #[jI jZ xx.pos, jI jZ xx.cc, jI jZ xx.ck, jI jZ xx.cv, jI jZ xx.cur, jI jZ xx.want, jI jZ xx.key, jI jZ xx.kid, jI jZ xx.old, jI jZ xx.next, jI jZ xx.new, jS Ay xx.st.length dy, jI jZ xx.thn, jI jZ xx.beg, jI jZ xx.rep, jI jZ xx.out] 31, ow (jS Ay xx.st.length dy) xx.st Fy, bx gX #[jI jZ xx.pos, jI jZ xx.cc, jI jZ xx.ck, jI jZ xx.cv, jI jZ xx.cur, jI jZ xx.want, jI jZ xx.key, jI jZ xx.kid, jI jZ xx.old, jI jZ xx.next, jI jZ xx.new, jS Ax xx.st.length dx, jI jZ xx.thn, jI jZ xx.beg, jI jZ xx.rep, jI jZ xx.out] 31, ow (jS Ax xx.st.length dx) xx.st Fx, bx gF #[jI jZ fa, jI jZ fb, jI jZ fc] 25, bx gU #[jI jZ uu.pos, jI jZ uu.cc, jI jZ uu.ck, jI jZ uu.cv, jI jZ uu.cur, jI jZ uu.want, jI jZ uu.key, jI jZ uu.kid, jI jZ uu.old, jI jZ uu.next, jI jZ uu.new, jS Au uu.st.length du, jI jZ uu.thn, jI jZ uu.beg, jI jZ uu.rep, jI jZ uu.out] 31, ow (jS Au uu.st.length du) uu.st Fu, bx gH #[jI jZ hh.pos, jI jZ hh.cc, jI jZ hh.ck, jI jZ hh.cv, jI jZ hh.cur, jI jZ hh.want, jI jZ hh.key, jI jZ hh.kid, jI jZ hh.old, jI jZ hh.next, jI jZ hh.new, jS Ah hh.st.length dh, jI jZ hh.thn, jI jZ hh.beg, jI jZ hh.rep, jI jZ hh.out] 31, ow (jS Ah hh.st.length dh) hh.st Fh, bx gB #[jI jZ e1, jI jZ e2, jI jZ e3] 25, bx gA #[jI jZ c1, jI jZ c2, jI jZ c3] 25] w) := Lib.hid S
 simp only [putF, Act.put, sa_, sb_, sc_, f0 rfl, f1 rfl, f2 rfl, f3 rfl, f4 rfl, f5 rfl, f6 rfl, f7 rfl, f8 rfl, f9 rfl, f10 rfl, f11 rfl, f12 rfl, f13 rfl, f14 rfl, f15 rfl, f16 rfl, f17 rfl, f18 rfl, f19 rfl, f20 rfl, f21 rfl, f22 rfl, f23 rfl, f24 rfl, f25 rfl, f26 rfl, f27 rfl, f28 rfl, f29 rfl, f30 rfl, f31 rfl, f32 rfl, f33 rfl, f34 rfl, f35 rfl, f36 rfl, f37 rfl, f38 rfl, f39 rfl, f40 rfl, f41 rfl]
 clear f0 f1 f2 f3 f4 f5 f6 f7 f8 f9 f10 f11 f12 f13 f14 f15 f16 f17 f18 f19 f20 f21 f22 f23 f24 f25 f26 f27 f28 f29 f30 f31 f32 f33 f34 f35 f36 f37 f38 f39 f40 f41
 clear IR SR IK SK IH SH IC SC HLh HLu
 by_cases hk : kq = 0
 · obtain ⟨q1, q2, q3, q4⟩ := HCF.out hk
   have gk : (kq == 0) = true := by simp [hk]
   have gp : (xx.pos == 1) = true := by simp [q2]
   have gq : (xx.key == fb) = true := by simp [q3]
   have IC := Lib.hid (fun (A : Option Addr) (c : Nat) w (ho : OwnS w (jS A xx.st.length c) xx.st Fx) => iCalled_any xx A xx.st.length c fa fb fc w (OwnS.rs ho rfl) (by show xx.st.length ≤ _; have := HLx.out; omega) (OwnS.cap ho).1 (OwnS.cap ho).2)
   have IH := Lib.hid (fun (A : Option Addr) (c : Nat) w (ho : OwnS w (jS A xx.st.length c) xx.st Fx) => iHandOk_any xx A xx.st.length c w (OwnS.rs ho rfl) (by show xx.st.length ≤ _; have := HLx.out; omega) (OwnS.cap ho).1 (OwnS.cap ho).2)
   rw [q4] at IC
   rw [q1] at IH
   generalize calledH xx fa fb fc = zz at *
   unfold hdV at IC IH
   clear hk q1 q2 q3 q4 HCF
   go_wp2_with (first
       | go_skip
       | (refine wpList_op rfl (op_row 31 _ rfl S.out 2 rfl rfl Try.isAgg31 (by kernel_rfl) ?_); simp only [Act.put, sa_, sb_, sc_])
       | (refine wpList_op rfl (op_row 25 _ rfl S.out 4 rfl rfl Try.isAgg25 (by kernel_rfl) ?_); simp only [Act.put, sa_, sb_, sc_]))
   refine (IC.out _ _ _ (S.out.get 3 (I := ow (jS Ax xx.st.length dx) xx.st Fx) rfl)).mono ?_
   rintro e w1 ⟨Az, dz, Fz, rfl, ho, hf, b⟩
   replace S : Hid (Sep noX w0 [ow (jS Az zz.st.length dz) zz.st Fz, bx gY #[jI jZ xx.pos, jI jZ xx.cc, jI jZ xx.ck, jI jZ xx.cv, jI jZ xx.cur, jI jZ xx.want, jI jZ xx.key, jI jZ xx.kid, jI jZ xx.old, jI jZ xx.next, jI jZ xx.new, jS Ay xx.st.length dy, jI jZ xx.thn, jI jZ xx.beg, jI jZ xx.rep, jI jZ xx.out] 31, ow (jS Ay xx.st.length dy) xx.st Fy, bx gX #[jI jZ xx.pos, jI jZ xx.cc, jI jZ xx.ck, jI jZ xx.cv, jI jZ xx.cur, jI jZ xx.want, jI jZ xx.key, jI jZ xx.kid, jI jZ xx.old, jI jZ xx.next, jI jZ xx.new, jS Ax xx.st.length dx, jI jZ xx.thn, jI jZ xx.beg, jI jZ xx.rep, jI jZ xx.out] 31, ow (jS Ax xx.st.length dx) xx.st Fx, bx gF #[jI jZ fa, jI jZ fb, jI jZ fc] 25, bx gU #[jI jZ uu.pos, jI jZ uu.cc, jI jZ uu.ck, jI jZ uu.cv, jI jZ uu.cur, jI jZ uu.want, jI jZ uu.key, jI jZ uu.kid, jI jZ uu.old, jI jZ uu.next, jI jZ uu.new, jS Au uu.st.length du, jI jZ uu.thn, jI jZ uu.beg, jI jZ uu.rep, jI jZ uu.out] 31, ow (jS Au uu.st.length du) uu.st Fu, bx gH #[jI jZ hh.pos, jI jZ hh.cc, jI jZ hh.ck, jI jZ hh.cv, jI jZ hh.cur, jI jZ hh.want, jI jZ hh.key, jI jZ hh.kid, jI jZ hh.old, jI jZ hh.next, jI jZ hh.new, jS Ah hh.st.length dh, jI jZ hh.thn, jI jZ hh.beg, jI jZ hh.rep, jI jZ hh.out] 31, ow (jS Ah hh.st.length dh) hh.st Fh, bx gB #[jI jZ e1, jI jZ e2, jI jZ e3] 25, bx gA #[jI jZ c1, jI jZ c2, jI jZ c3] 25] w1) := Lib.hid (S.out.own b ho hf)
   clear ho hf b
   unfold hdV
   have tok_gZ : True := trivial
   go_wp2_with (first
       | go_skip
       | (have _t := tok_gZ; clear _t; refine wpList_op rfl (op_nx 31 rfl S.out _ Try.zeroValue31 ?_); clear S tok_gZ; intro gZ w S; replace S := Lib.hid S; simp only [Act.put, sa_, sb_, sc_])
       | (refine wpList_op rfl (op_putR_0 31 _ _ rfl S rfl _ rfl rfl (by kernel_rfl) rfl ?_); clear S; intro w S; simp only [Act.put])
       | (refine wpList_op rfl (op_row 31 _ rfl S.out 4 rfl rfl Try.isAgg31 (by kernel_rfl) ?_); simp only [Act.put, sa_, sb_, sc_]))
   refine (IH.out _ _ _ (S.out.get 5 (I := ow (jS Ax xx.st.length dx) xx.st Fx) rfl)).mono ?_
   rintro e w1 ⟨rfl, b⟩
   replace S := Lib.hid (S.out.call b)
   clear b
   go_wp2_with (first
       | go_skip
       | (refine wpList_op rfl (op_get 2 _ rfl S.out 4 rfl _ rfl Try.isAgg2 _ rfl ?_); simp only [Act.put, sa_, sb_, sc_])
       | (refine wpList_op rfl (op_get 2 _ rfl S.out 6 rfl _ rfl Try.isAgg2 _ rfl ?_); simp only [Act.put, sa_, sb_, sc_]))
   go_ret
   exact ⟨rfl, S.out.below⟩
 · have gk : (kq == 0) = false := by simpa using hk
   clear hk HCF
   go_wp2_with fail
   refine (iResting_any 0 0 _).mono ?_
   rintro e w1 ⟨Az, dz, Fz, rfl, ho, hf, b⟩
   have IH := Lib.hid (iHandOk_any (restH 0 0) Az (restH 0 0).st.length dz w1 (OwnS.rs ho rfl) (Nat.zero_le _) (OwnS.cap ho).1 (OwnS.cap ho).2)
   rw [show handOk (restH 0 0) = true by decide] at IH
   replace S := Lib.hid (S.out.call b)
   clear ho hf b
   generalize hdV (restH 0 0) Az (restH 0 0).st.length dz = vz at *
   go_wp2_with fail
   refine IH.out.mono ?_
   rintro e w2 ⟨rfl, b⟩
   replace S := Lib.hid (S.out.call b)
   clear b
   go_wp2
   go_ret
   exact ⟨rfl, S.out.below⟩
end Go.Proofs.Ytjookicpmjmdhaa
