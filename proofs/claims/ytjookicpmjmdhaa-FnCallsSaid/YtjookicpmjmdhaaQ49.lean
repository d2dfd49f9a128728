/- The draws of calls and hands, walked. (Made by genDa.py.) -/
import Derived.Test.YtjookicpmjmdhaaQ46
import Derived.Test.YtjookicpmjmdhaaQ48
open Go.Value renaming int → jI, slice → jS
open Go.IntKind renaming i64 → jZ
namespace Go.Proofs.Ytjookicpmjmdhaa
open Go.RowKit

def DrawnK (g : Nat) (A : Option Addr) (n c : Nat) (w : World) (e : Ending) (w' : World) : Prop :=
 ∃ cc ck cv : Int, e = .returned (.agg #[jI jZ cc, jI jZ ck, jI jZ cv]) ∧ Cur w' g A n c ∧ w.grownBy w' (some g)
def DrawnH (g : Nat) (A : Option Addr) (n c : Nat) (w : World) (e : Ending) (w' : World) : Prop :=
 ∃ (h : Hd) (B : Option Addr) (d : Nat) (F : FP), e = .returned (hdV h B h.st.length d) ∧ h.st.length ≤ 8 ∧ OwnS w' (jS B h.st.length d) h.st F ∧ Fresh F w w' ∧ Cur w' g A n c ∧ w.grownBy w' (some g)
theorem OwnS.mono {α : Type} [E : Enc α] {w : World} {v : Value} {xs : List α} {F G : FP} (h : OwnS w v xs F) (hFG : ∀ k, F k → G k) : OwnS w v xs G := by
 obtain ⟨css, f, h1, h2, h3, h4, h5, h6⟩ := h
 exact ⟨css, f, h1, h2, h3, fun i hi k hk => ⟨hFG k (h4 i hi k hk).1, (h4 i hi k hk).2⟩, h5, fun k hk => hFG k (h6 k hk)⟩
theorem handsAt {w : World} {gN c : Nat} {hs : List Hd} {F : FP} (hO : OwnS w (jS (some ⟨gN, 0, none⟩) hs.length c) hs F) :
   ∃ f : Nat → Option Addr × Nat, ∀ k, k < hs.length → (∀ j u, (hdC (hdAt hs k) (f k).1 (hdAt hs k).st.length (f k).2).toList[j]? = some u → w.cell? ⟨gN, 0 + k * 16 + j, none⟩ = some u) ∧ OwnS w (jS (f k).1 (hdAt hs k).st.length (f k).2) (hdAt hs k).st F ∧ F gN := by
 have h1 : ∀ k, ∃ t : Option Addr × Nat, k < hs.length → (∀ j u, (hdC (hdAt hs k) t.1 (hdAt hs k).st.length t.2).toList[j]? = some u → w.cell? ⟨gN, 0 + k * 16 + j, none⟩ = some u) ∧ OwnS w (.slice t.1 (hdAt hs k).st.length t.2) (hdAt hs k).st F ∧ F gN := by
   intro k
   by_cases hk : k < hs.length
   · obtain ⟨g', cap, pre, cs, post, Fi, hv, hFg, _, hrow, hpre, hcs, hel, hFi, _⟩ := hO.open k hk
     obtain ⟨rfl, _⟩ : gN = g' ∧ c = cap := by simpa using hv
     obtain ⟨B, d, he, ho⟩ := hel
     refine ⟨⟨B, d⟩, fun _ => ⟨fun j u hu => ?_, ho.mono (fun q hq => (hFi q hq).1), hFg⟩⟩
     have he' : cs = (hdC (hdAt hs k) B (hdAt hs k).st.length d).toList := he
     have hcs' : cs.length = 16 := hcs
     have hpre' : pre.length = k * 16 := hpre
     rw [← he'] at hu
     have hj : j < 16 := by rw [← hcs']; exact (List.getElem?_eq_some_iff.1 hu).1
     have hc := hrow.cellAt (k * 16 + j) (by show k * 16 + j < hs.length * 16; omega)
     rw [Nat.zero_add, hc, List.append_assoc, List.getElem?_append_right (by omega), hpre', Nat.add_sub_cancel_left, List.getElem?_append_left (by omega)]
     exact hu
   · exact ⟨⟨none, 0⟩, fun h => absurd h hk⟩
 obtain ⟨f, hf⟩ := Classical.skolem.1 h1
 exact ⟨f, hf⟩
theorem pinHd {w1 w : World} {gN : Nat} {F : FP} {cs : List Value} {off : Nat} (hc : ∀ j u, cs[j]? = some u → w1.cell? ⟨gN, off + j, none⟩ = some u) (hF : F gN) (hp : (pin F w1).P w) : ∀ j u, cs[j]? = some u → w.cell? ⟨gN, off + j, none⟩ = some u :=
 fun j u hu => (World.cell?_of_block (hp gN hF).2).trans (hc j u hu)
theorem pinOwn {w1 w : World} {F : FP} {v : Value} {xs : List Int} (h : OwnS w1 v xs F) (hp : (pin F w1).P w) : OwnS w v xs F := h.keep (fun q hq _ => (hp q hq).2)
theorem pinFresh {w0 w1 w : World} {F : FP} (h : Fresh F w0 w1) (hp : (pin F w1).P w) : Fresh F w0 w := fun k hk =>
 ⟨(h k hk).1, (Array.getElem?_eq_some_iff.1 ((hp k hk).2.trans (Array.getElem?_eq_getElem (hp k hk).1))).1⟩

theorem made6 : (madeCells (Value.int .i64 0).cells (6 * 1)).toList = IL (List.replicate 6 0) := by kernel_rfl
theorem made7 : (madeCells (Value.int .i64 0).cells (7 * 1)).toList = IL (List.replicate 7 0) := by kernel_rfl
theorem op_mkZ {X : FP} {w0 w : World} {L : List Item} {o : Oper} {a : Act} {K : Act → World → Prop} {Q : Exit → Act → World → Prop} (n : Nat) (l c : Operand) (ho : o.op = .makeSlice 29 l c) (h : Sep X w0 L w) (hn : n ≤ 8) (e1 : (madeCells (Value.int .i64 0).cells (n * 1)).toList = IL (List.replicate n 0)) (hl : a.eval l = jI jZ n) (hc : a.eval c = jI jZ n)
   (hK : ∀ g F w', Sep X w0 (ow (jS (some ⟨g, 0, none⟩) n n) (List.replicate n (0 : Int)) F :: L) w' → K (a.put o.dst (jS (some ⟨g, 0, none⟩) n n)) w') : o.wp Try.prog a w K Q := by
 obtain ⟨i0, hi0, hz0, hz1, hz2⟩ := info_parts int_info
 obtain ⟨w', hr, ho', hg⟩ := run_makeSlice_full (P := Try.prog) (w := w) w.heap.size 29 2 i0 (jI jZ 0) 1 Try.underlying29 hi0 hz0 hz1 .i64 .i64 n (by omega) (by rw [hz2]; omega) (by unfold maxLen; omega) (Nat.le_refl _)
 rw [e1] at ho'
 have hb : Below w.heap.size w w' := ⟨hg.os, hg.tape, hg.output, hg.size, fun k hk => hg.block k hk (by simp)⟩
 have hS := h.own hb (OwnS.of_ints (xs := List.replicate n (0 : Int)) (F := blkF (Value.slice (some ⟨w.heap.size, 0, none⟩) n n).ownBlock) ho' (fun k hk => hk)) (fresh_blk ho' (Nat.le_refl _))
 unfold Oper.wp
 simp only [execOp, ho, hl, hc, Sem.run_bind, hr, Result.andThen]
 exact hK _ _ _ hS

set_option maxRecDepth 100000 in
set_option maxHeartbeats 16000000 in
theorem dAnyC_any (g : Nat) (A : Option Addr) (n c : Nat) (w0 : World) (hC : Cur w0 g A n c) :
   Calls Try.prog 33 #[.pointer (some ⟨g, 0, none⟩)] w0 (DrawnK g A n c w0) := by
 have HCU := Lib.hid hC
 have S := Lib.hid (Sep.startCur hC)
 clear hC
 unfold DrawnK
 have tok0 : True := trivial
 have tokk : True := trivial
 go_enter Try.func33, Try.ntmps33
 go_wp2_with (first
     | go_skip
     | (clear tok0; refine nx_ 25 S rfl rfl Try.zeroValue25 ?_; clear S; intro rc w S))
 refine (dCall_any g A n c _ (S.out.cur 1 rfl HCU.out)).mono ?_
 rintro e w ⟨x, y, z, rfl, _, _, _, hc9, hg9⟩
 replace S : Hid (Sep (cuX g) w0 [bx rc #[jI jZ 0, jI jZ 0, jI jZ 0] 25, cuI g A n c] w) := Lib.hid (S.out.drawn 1 rfl hc9 hg9)
 clear hc9 hg9
 go_wp2_with (first
     | go_skip
     | (clear tokk; refine nx_ 25 S rfl rfl Try.zeroValue25 ?_; clear S; intro gk w S)
     | (refine wpList_op rfl (op_putR_0 25 _ _ rfl S rfl _ rfl rfl (by kernel_rfl) rfl ?_); clear S; intro w S))
 refine (once_any g A n c 5 _ (S.out.cur 2 rfl HCU.out)).mono ?_
 rintro e w ⟨bb, rfl, hc9, hg9⟩
 replace S : Hid (Sep (cuX g) w0 [bx gk #[jI jZ x, jI jZ y, jI jZ z] 25, bx rc #[jI jZ 0, jI jZ 0, jI jZ 0] 25, cuI g A n c] w) := Lib.hid (S.out.drawn 2 rfl hc9 hg9)
 clear hc9 hg9
 cases bb
 ·
   go_wp2_with (first
       | go_skip
       | (refine wpList_op rfl (op_row 25 _ rfl S.out 0 rfl rfl Try.isAgg25 (by kernel_rfl) ?_))
       | (refine wpList_op rfl (op_putR_1 25 _ _ rfl S rfl _ rfl rfl (by kernel_rfl) rfl ?_); clear S; intro w S))
   exact bodyPost_ret (results_c rfl _ S.out 1 rfl rfl Try.isAgg25 (by kernel_rfl)) rfl ⟨_, _, _, rfl, S.out.cur 2 rfl HCU.out, S.out.grown⟩
 · go_wp2_with fail
   refine (below_any g A n c 3 _ (S.out.cur 2 rfl HCU.out)).mono ?_
   rintro e w ⟨r9, rfl, hp9, hc9, hg9⟩
   have hp8 := hp9.2 (by omega)
   obtain ⟨q, rfl⟩ : ∃ q9 : Nat, r9 = q9 := ⟨r9.toNat, by omega⟩
   replace S : Hid (Sep (cuX g) w0 [bx gk #[jI jZ x, jI jZ y, jI jZ z] 25, bx rc #[jI jZ 0, jI jZ 0, jI jZ 0] 25, cuI g A n c] w) := Lib.hid (S.out.drawn 2 rfl hc9 hg9)
   clear hp9 hc9 hg9
   by_cases q0 : q = 0
   ·
     have g0 : ((q : Int) == 0) = true := by simp [q0]
     clear hp8 q0
     go_wp2_with fail
     refine (from_any g A n c 0 4 _ (S.out.cur 2 rfl HCU.out)).mono ?_
     rintro e w ⟨z1, rfl, _, hc9, hg9⟩
     replace S : Hid (Sep (cuX g) w0 [bx gk #[jI jZ x, jI jZ y, jI jZ z] 25, bx rc #[jI jZ 0, jI jZ 0, jI jZ 0] 25, cuI g A n c] w) := Lib.hid (S.out.drawn 2 rfl hc9 hg9)
     clear hc9 hg9
     go_wp2_with (first
         | go_skip
         | (refine wpList_op rfl (op_put1_0 2 _ _ rfl S _ rfl _ rfl rfl (by kernel_rfl) (of_decide_eq_true rfl) ?_); clear S; intro w S)
         | (refine wpList_op rfl (op_row 25 _ rfl S.out 0 rfl rfl Try.isAgg25 (by kernel_rfl) ?_))
         | (refine wpList_op rfl (op_putR_1 25 _ _ rfl S rfl _ rfl rfl (by kernel_rfl) rfl ?_); clear S; intro w S))
     exact bodyPost_ret (results_c rfl _ S.out 1 rfl rfl Try.isAgg25 (by kernel_rfl)) rfl ⟨_, _, _, rfl, S.out.cur 2 rfl HCU.out, S.out.grown⟩
   by_cases q1 : q = 1
   ·
     have g0 : ((q : Int) == 0) = false := by simp; omega
     have g1 : ((q : Int) == 1) = true := by simp [q1]
     clear hp8 q0 q1
     go_wp2_with fail
     refine (num_any g A n c 99 _ (S.out.cur 2 rfl HCU.out) (by omega) (by omega)).mono ?_
     rintro e w ⟨z1, rfl, _, hc9, hg9⟩
     replace S : Hid (Sep (cuX g) w0 [bx gk #[jI jZ x, jI jZ y, jI jZ z] 25, bx rc #[jI jZ 0, jI jZ 0, jI jZ 0] 25, cuI g A n c] w) := Lib.hid (S.out.drawn 2 rfl hc9 hg9)
     clear hc9 hg9
     go_wp2_with (first
         | go_skip
         | (refine wpList_op rfl (op_put1_0 2 _ _ rfl S _ rfl _ rfl rfl (by kernel_rfl) (of_decide_eq_true rfl) ?_); clear S; intro w S)
         | (refine wpList_op rfl (op_row 25 _ rfl S.out 0 rfl rfl Try.isAgg25 (by kernel_rfl) ?_))
         | (refine wpList_op rfl (op_putR_1 25 _ _ rfl S rfl _ rfl rfl (by kernel_rfl) rfl ?_); clear S; intro w S))
     exact bodyPost_ret (results_c rfl _ S.out 1 rfl rfl Try.isAgg25 (by kernel_rfl)) rfl ⟨_, _, _, rfl, S.out.cur 2 rfl HCU.out, S.out.grown⟩
   have q2 : q = 2 := by omega
   have g0 : ((q : Int) == 0) = false := by simp; omega
   have g1 : ((q : Int) == 1) = false := by simp; omega
   have g2 : ((q : Int) == 2) = true := by simp [q2]
   clear hp8 q0 q1 q2
   go_wp2_with fail
   refine (num_any g A n c 999 _ (S.out.cur 2 rfl HCU.out) (by omega) (by omega)).mono ?_
   rintro e w ⟨z1, rfl, _, hc9, hg9⟩
   replace S : Hid (Sep (cuX g) w0 [bx gk #[jI jZ x, jI jZ y, jI jZ z] 25, bx rc #[jI jZ 0, jI jZ 0, jI jZ 0] 25, cuI g A n c] w) := Lib.hid (S.out.drawn 2 rfl hc9 hg9)
   clear hc9 hg9
   go_wp2_with (first
       | go_skip
       | (refine wpList_op rfl (op_put1_0 2 _ _ rfl S _ rfl _ rfl rfl (by kernel_rfl) (of_decide_eq_true rfl) ?_); clear S; intro w S)
       | (refine wpList_op rfl (op_row 25 _ rfl S.out 0 rfl rfl Try.isAgg25 (by kernel_rfl) ?_))
       | (refine wpList_op rfl (op_putR_1 25 _ _ rfl S rfl _ rfl rfl (by kernel_rfl) rfl ?_); clear S; intro w S))
   exact bodyPost_ret (results_c rfl _ S.out 1 rfl rfl Try.isAgg25 (by kernel_rfl)) rfl ⟨_, _, _, rfl, S.out.cur 2 rfl HCU.out, S.out.grown⟩
set_option maxRecDepth 100000 in
set_option maxHeartbeats 16000000 in
theorem dAnyH_any (g : Nat) (A : Option Addr) (n c : Nat) (w0 : World) (hC : Cur w0 g A n c) :
   Calls Try.prog 35 #[.pointer (some ⟨g, 0, none⟩)] w0 (DrawnH g A n c w0) := by
 have HCU := Lib.hid hC
 have S := Lib.hid (Sep.startCur hC)
 clear hC
 unfold DrawnH
 have tok0 : True := trivial
 have tokw : True := trivial
 go_enter Try.func35, Try.ntmps35
 go_wp2_with (first
     | go_skip
     | (clear tok0; refine nx_ 31 S rfl rfl Try.zeroValue31 ?_; clear S; intro rh w S))
 refine (draw14_any g A n c _ (S.out.cur 1 rfl HCU.out)).mono ?_
 rintro e w1 ⟨U, A0, c0, F0, A1, c1, F1, A2, c2, F2, rfl, hw, ⟨_, o1, _⟩, _, f1, _, hc9, hg9⟩
 have hsz := S.out.size
 replace S := Lib.hid (S.out.drawnGain 1 rfl hc9 hg9 (pin F1 w1) (fun k hk => ⟨(f1 k hk).2, rfl⟩) f1)
 have hfr : Fresh F1 w0 w1 := fun k hk => ⟨by have := (f1 k hk).1; omega, (f1 k hk).2⟩
 have HFR := Lib.hid hfr
 obtain ⟨_, h1, _, _, _, h6⟩ := world_of hw
 obtain ⟨gN, rfl⟩ : ∃ gN, A1 = some ⟨gN, 0, none⟩ := by
   obtain ⟨g9, cap, _, _, _, _, hv, _⟩ := OwnS.open o1 0 (by omega)
   refine ⟨g9, ?_⟩
   simp only [Value.slice.injEq] at hv
   exact hv.1
 have HS6 : Hid (∀ k, k < U.hs.length → (hdAt U.hs k).st.length ≤ 6) := Lib.hid (fun k hk => by
   have := (h6 k hk).1
   unfold handOk stackOk at this
   simp only [Bool.and_eq_true, decide_eq_true_eq] at this
   exact this.2.2.1.1)
 have HL1 : Hid (0 < U.hs.length) := Lib.hid (by omega)
 obtain ⟨f, hf⟩ := handsAt o1
 have HF := Lib.hid hf
 unfold wdV
 clear hw o1 f1 hc9 hg9 h1 h6 hf hsz hfr
 generalize U.ns.length = n0 at *
 generalize U.ds.length = n2 at *
 generalize U.hs = hs at *
 generalize U.root = rt at *
 generalize U.now = nw at *
 replace S : Hid (Sep (cuX g) w0 [pin F1 w1, bx rh #[jI jZ 0, jI jZ 0, jI jZ 0, jI jZ 0, jI jZ 0, jI jZ 0, jI jZ 0, jI jZ 0, jI jZ 0, jI jZ 0, jI jZ 0, jS none 0 0, jI jZ 0, jI jZ 0, jI jZ 0, jI jZ 0] 31, cuI g A n c] w1) := S
 go_wp2_with (first
     | go_skip
     | (have _t := tokw; clear _t; refine wpList_op rfl (op_nx 81 rfl S.out _ Try.zeroValue81 ?_); clear S tokw; intro gw w S; replace S := Lib.hid S; simp only [Act.put, sa_, sb_, sc_])
     | (refine wpList_op rfl (op_putR_0 81 _ _ rfl S rfl _ rfl rfl (by kernel_rfl) rfl ?_); clear S; intro w S; simp only [Act.put]))
 refine wp_region_ev (by kernel_rfl) _ (by kernel_rfl) (by kernel_rfl) 83 rfl (by kernel_rfl) (fun D V w => ∃ q1 : Nat, ∃ gr9 : Nat, Sep (cuX g) w0 [bx gw #[jI jZ rt, jS A0 n0 c0, jS (some ⟨gN, 0, none⟩) hs.length c1, jS A2 n2 c2, jI jZ nw] 81, pin F1 w1, bx rh #[jI jZ 0, jI jZ 0, jI jZ 0, jI jZ 0, jI jZ 0, jI jZ 0, jI jZ 0, jI jZ 0, jI jZ 0, jI jZ 0, jI jZ 0, jS none 0 0, jI jZ 0, jI jZ 0, jI jZ 0, jI jZ 0] 31, cuI g A n c, cnd (D 9) em (cnd (D 10) (bx gr9 #[jI jZ 0, jI jZ 0, jI jZ 0, jI jZ 0, jI jZ 0, jI jZ 0, jI jZ 0, jI jZ 0, jI jZ 0, jI jZ 0, jI jZ 0, jS none 0 0, jI jZ 0, jI jZ 0, jI jZ 0, jI jZ 0] 31) (bx gr9 #[jI jZ (hdAt hs q1).pos, jI jZ (hdAt hs q1).cc, jI jZ (hdAt hs q1).ck, jI jZ (hdAt hs q1).cv, jI jZ (hdAt hs q1).cur, jI jZ (hdAt hs q1).want, jI jZ (hdAt hs q1).key, jI jZ (hdAt hs q1).kid, jI jZ (hdAt hs q1).old, jI jZ (hdAt hs q1).next, jI jZ (hdAt hs q1).new, jS (f q1).1 (hdAt hs q1).st.length (f q1).2, jI jZ (hdAt hs q1).thn, jI jZ (hdAt hs q1).beg, jI jZ (hdAt hs q1).rep, jI jZ (hdAt hs q1).out] 31))] w ∧ (D 0 = true → V 0 = .pointer (some ⟨gw, 2, none⟩)) ∧ (D 1 = true → V 1 = jS (some ⟨gN, 0, none⟩) hs.length c1) ∧ (D 2 = true → V 2 = .pointer (some ⟨g, 0, none⟩)) ∧ (D 3 = true → V 3 = .pointer (some ⟨gw, 2, none⟩)) ∧ (D 4 = true → V 4 = jS (some ⟨gN, 0, none⟩) hs.length c1) ∧ (D 5 = true → V 5 = jI jZ hs.length) ∧ (D 6 = true → V 6 = jI jZ q1) ∧ (D 7 = true → V 7 = .pointer (some ⟨gN, 0 + q1 * 16, none⟩)) ∧ (D 8 = true → V 8 = .agg #[jI jZ (hdAt hs q1).pos, jI jZ (hdAt hs q1).cc, jI jZ (hdAt hs q1).ck, jI jZ (hdAt hs q1).cv, jI jZ (hdAt hs q1).cur, jI jZ (hdAt hs q1).want, jI jZ (hdAt hs q1).key, jI jZ (hdAt hs q1).kid, jI jZ (hdAt hs q1).old, jI jZ (hdAt hs q1).next, jI jZ (hdAt hs q1).new, jS (f q1).1 (hdAt hs q1).st.length (f q1).2, jI jZ (hdAt hs q1).thn, jI jZ (hdAt hs q1).beg, jI jZ (hdAt hs q1).rep, jI jZ (hdAt hs q1).out]) ∧ (D 9 = true → V 9 = .pointer (some ⟨gr9, 0, none⟩)) ∧ (D 7 = true → D 6 = true) ∧ (D 8 = true → D 6 = true) ∧ (D 10 = true → D 6 = true) ∧ (D 10 = true → D 9 = true) ∧ (D 6 = true → q1 < hs.length)) ?_ ?_ ?_
 · intro D hD
   have d9 := hD 9 (by decide)
   have d10 := hD 10 (by decide)
   exact ⟨0, 0, by rw [cnd_f d9]; exact S.out.drew.ems 1, (nof (hD 0 (by decide))), (nof (hD 1 (by decide))), (nof (hD 2 (by decide))), (nof (hD 3 (by decide))), (nof (hD 4 (by decide))), (nof (hD 5 (by decide))), (nof (hD 6 (by decide))), (nof (hD 7 (by decide))), (nof (hD 8 (by decide))), (nof (hD 9 (by decide))), (nof (hD 7 (by decide))), (nof (hD 8 (by decide))), (nof (hD 10 (by decide))), (nof (hD 10 (by decide))), (nof (hD 6 (by decide)))⟩
 · intro i o D V w a ho hI hDi haf hev
   obtain ⟨q1, gr9, S, f0, f1, f2, f3, f4, f5, f6, f7, f8, f9, o7_6, o8_6, o10_6, o10_9, k0⟩ := hI
   rcases i with _ | _ | _ | _ | _ | _ | _ | _ | _ | _ | _ | i
   · obtain rfl := inj_ ho
     exact op_field _ _ _ rfl ((hev.old 3 (by kernel_rfl)).trans rfl) (by kernel_rfl) ⟨_, rfl, q1, gr9, S, fun _ => rfl, f1, f2, f3, f4, f5, f6, f7, f8, f9, o7_6, o8_6, o10_6, o10_9, k0⟩
   · obtain rfl := inj_ ho
     have h0 := aft_ haf 0 rfl
     exact op_get 78 _ rfl S 0 rfl 2 (hev.at_ 0 7 rfl rfl h0 f0) Try.isAgg78 _ rfl ⟨_, rfl, q1, gr9, S, f0, fun _ => rfl, f2, f3, f4, f5, f6, f7, f8, f9, o7_6, o8_6, o10_6, o10_9, k0⟩
   · obtain rfl := inj_ ho
     exact op_move (.inl rfl) ((hev.old 0 (by kernel_rfl)).trans rfl) ⟨_, rfl, q1, gr9, S, f0, f1, fun _ => rfl, f3, f4, f5, f6, f7, f8, f9, o7_6, o8_6, o10_6, o10_9, k0⟩
   · obtain rfl := inj_ ho
     exact op_field _ _ _ rfl ((hev.old 3 (by kernel_rfl)).trans rfl) (by kernel_rfl) ⟨_, rfl, q1, gr9, S, f0, f1, f2, fun _ => rfl, f4, f5, f6, f7, f8, f9, o7_6, o8_6, o10_6, o10_9, k0⟩
   · obtain rfl := inj_ ho
     have h3 := aft_ haf 3 rfl
     exact op_get 78 _ rfl S 0 rfl 2 (hev.at_ 3 10 rfl rfl h3 f3) Try.isAgg78 _ rfl ⟨_, rfl, q1, gr9, S, f0, f1, f2, f3, fun _ => rfl, f5, f6, f7, f8, f9, o7_6, o8_6, o10_6, o10_9, k0⟩
   · obtain rfl := inj_ ho
     have h4 := aft_ haf 4 rfl
     exact op_lenN _ _ _ rfl Try.underlying78 (hev.at_ 4 11 rfl rfl h4 f4) ⟨_, rfl, q1, gr9, S, f0, f1, f2, f3, f4, fun _ => rfl, f6, f7, f8, f9, o7_6, o8_6, o10_6, o10_9, k0⟩
   · obtain rfl := inj_ ho
     have h2 := aft_ haf 2 rfl
     have h5 := aft_ haf 5 rfl
     have ns10 := nofb hDi o10_6
     have hx0 := (hev.at_ 2 9 rfl rfl h2 f2)
     have hx1 := (hev.at_ 5 12 rfl rfl h5 f5)
     refine op_call _ _ _ rfl (enters_of Try.func36 (by kernel_rfl) rfl) #[.pointer (some ⟨g, 0, none⟩), jI jZ hs.length] (by simp [hx0, hx1]) (below_any g A n c hs.length w (S.cur 3 rfl HCU.out)) (fun e w2 hh => ?_)
     obtain ⟨r9, rfl, hp9, hc9, hg9⟩ := hh
     have hp8 := hp9.2 (by have := HL1.out; omega)
     obtain ⟨q9, rfl⟩ : ∃ q9 : Nat, r9 = q9 := ⟨r9.toNat, by omega⟩
     exact ⟨_, rfl, ⟨_, rfl, q9, gr9, (by have SS := (S.drawn 3 rfl hc9 hg9); rw [cnd_f ns10] at SS; rw [show updB D 6 10 = false from ns10]; exact SS), f0, f1, f2, f3, f4, f5, fun _ => rfl, (fun h => nof hDi (o7_6 h)), (fun h => nof hDi (o8_6 h)), f9, fun _ => rfl, fun _ => rfl, fun _ => rfl, o10_9, (fun _ => by omega)⟩⟩
   · obtain rfl := inj_ ho
     have h1 := aft_ haf 1 rfl
     have h6 := aft_ haf 6 rfl
     exact op_idx _ _ _ rfl 31 16 Try.underlying78 Try.sizeOf31 (hev.at_ 1 8 rfl rfl h1 f1) (hev.at_ 6 13 rfl rfl h6 f6) (k0 h6) ⟨_, rfl, q1, gr9, S, f0, f1, f2, f3, f4, f5, f6, fun _ => rfl, f8, f9, fun _ => h6, o8_6, o10_6, o10_9, k0⟩
   · obtain rfl := inj_ ho
     have h7 := aft_ haf 7 rfl
     have h6 : D 6 = true := o7_6 h7
     have h6 := o7_6 h7
     exact op_cells 31 _ rfl (hev.at_ 7 14 rfl rfl h7 f7) Try.isAgg31 (hdC (hdAt hs q1) (f q1).1 (hdAt hs q1).st.length (f q1).2).toList (pinHd (HF.out q1 (k0 h6)).1 (HF.out q1 (k0 h6)).2.2 (S.get 1 rfl)) (by kernel_rfl) ⟨_, rfl, q1, gr9, S, f0, f1, f2, f3, f4, f5, f6, f7, fun _ => rfl, f9, o7_6, fun _ => h6, o10_6, o10_9, k0⟩
   · obtain rfl := inj_ ho
     have nst := nofb hDi o10_9
     refine op_nxAt 31 rfl S 4 (by simp only [gs_, gz_, cnd_f hDi]) _ Try.zeroValue31 (fun g w S => ⟨_, rfl, q1, g, (by have e : updB D 9 10 = false := nst; rw [e]; exact S), f0, f1, f2, f3, f4, f5, f6, f7, f8, fun _ => rfl, o7_6, o8_6, o10_6, fun _ => rfl, k0⟩)
   · obtain rfl := inj_ ho
     have h9 := aft_ haf 9 rfl
     have h8 := aft_ haf 8 rfl
     have h6 : D 6 = true := o8_6 h8
     have ha : D 9 = true := aft_ haf 9 rfl
     exact op_putR 31 _ _ rfl S 4 (g := gr9) (C := #[jI jZ 0, jI jZ 0, jI jZ 0, jI jZ 0, jI jZ 0, jI jZ 0, jI jZ 0, jI jZ 0, jI jZ 0, jI jZ 0, jI jZ 0, jS none 0 0, jI jZ 0, jI jZ 0, jI jZ 0, jI jZ 0]) (t := 31) (by simp only [gs_, gz_, cnd_t ha, cnd_f hDi]) (hev.at_ 9 4 rfl rfl h9 f9) _ (hev.at_ 8 15 rfl rfl h8 f8) rfl (by kernel_rfl) rfl (fun w S => ⟨_, rfl, q1, gr9, (by have e : updB D 10 9 = true := ha; rw [e]; exact S), f0, f1, f2, f3, f4, f5, f6, f7, f8, f9, o7_6, o8_6, fun _ => h6, fun _ => h9, k0⟩)
   · exact absurd ho (by simp)
 intro V w hI
 obtain ⟨q1, gr9, S, f0, f1, f2, f3, f4, f5, f6, f7, f8, f9, o7_6, o8_6, o10_6, o10_9, k0⟩ := hI
 replace S : Hid (Sep (cuX g) w0 [bx gw #[jI jZ rt, jS A0 n0 c0, jS (some ⟨gN, 0, none⟩) hs.length c1, jS A2 n2 c2, jI jZ nw] 81, pin F1 w1, bx rh #[jI jZ 0, jI jZ 0, jI jZ 0, jI jZ 0, jI jZ 0, jI jZ 0, jI jZ 0, jI jZ 0, jI jZ 0, jI jZ 0, jI jZ 0, jS none 0 0, jI jZ 0, jI jZ 0, jI jZ 0, jI jZ 0] 31, cuI g A n c, bx gr9 #[jI jZ (hdAt hs q1).pos, jI jZ (hdAt hs q1).cc, jI jZ (hdAt hs q1).ck, jI jZ (hdAt hs q1).cv, jI jZ (hdAt hs q1).cur, jI jZ (hdAt hs q1).want, jI jZ (hdAt hs q1).key, jI jZ (hdAt hs q1).kid, jI jZ (hdAt hs q1).old, jI jZ (hdAt hs q1).next, jI jZ (hdAt hs q1).new, jS (f q1).1 (hdAt hs q1).st.length (f q1).2, jI jZ (hdAt hs q1).thn, jI jZ (hdAt hs q1).beg, jI jZ (hdAt hs q1).rep, jI jZ (hdAt hs q1).out] 31] w) := Lib.hid S
 simp only [putF, Act.put, sa_, sb_, sc_, f0 rfl, f1 rfl, f2 rfl, f3 rfl, f4 rfl, f5 rfl, f6 rfl, f7 rfl, f8 rfl, f9 rfl]
 clear f0 f1 f2 f3 f4 f5 f6 f7 f8 f9 o7_6 o8_6 o10_6 o10_9
 have HQ := Lib.hid (k0 rfl)
 clear k0
 obtain ⟨x, hx⟩ : ∃ x, x = hdAt hs q1 := ⟨_, rfl⟩
 obtain ⟨B, hB⟩ : ∃ B, B = (f q1).1 := ⟨_, rfl⟩
 obtain ⟨d, hd⟩ : ∃ d, d = (f q1).2 := ⟨_, rfl⟩
 have HO : Hid (OwnS w1 (jS B x.st.length d) x.st F1) := Lib.hid (by rw [hx, hB, hd]; exact (HF.out q1 HQ.out).2.1)
 have HX8 : Hid (x.st.length ≤ 8) := Lib.hid (by have := HS6.out q1 HQ.out; rw [hx]; omega)
 have HX6 : Hid (x.st.length ≤ 6) := Lib.hid (by rw [hx]; exact HS6.out q1 HQ.out)
 rw [← hx, ← hB, ← hd] at S ⊢
 clear hx hB hd HF
 generalize gr9 = gh at *
 go_wp2_with fail
 refine (once_any g A n c 3 _ (S.out.cur 3 rfl HCU.out)).mono ?_
 rintro e w ⟨bb, rfl, hc9, hg9⟩
 replace S : Hid (Sep (cuX g) w0 [bx gw #[jI jZ rt, jS A0 n0 c0, jS (some ⟨gN, 0, none⟩) hs.length c1, jS A2 n2 c2, jI jZ nw] 81, pin F1 w1, bx rh #[jI jZ 0, jI jZ 0, jI jZ 0, jI jZ 0, jI jZ 0, jI jZ 0, jI jZ 0, jI jZ 0, jI jZ 0, jI jZ 0, jI jZ 0, jS none 0 0, jI jZ 0, jI jZ 0, jI jZ 0, jI jZ 0] 31, cuI g A n c, bx gh #[jI jZ x.pos, jI jZ x.cc, jI jZ x.ck, jI jZ x.cv, jI jZ x.cur, jI jZ x.want, jI jZ x.key, jI jZ x.kid, jI jZ x.old, jI jZ x.next, jI jZ x.new, jS B x.st.length d, jI jZ x.thn, jI jZ x.beg, jI jZ x.rep, jI jZ x.out] 31] w) := Lib.hid (S.out.drawn 3 rfl hc9 hg9)
 clear hc9 hg9
 cases bb
 ·
   go_wp2_with (first
       | go_skip
       | (refine wpList_op rfl (op_row 31 _ rfl S.out 4 rfl rfl Try.isAgg31 (by kernel_rfl) ?_))
       | (refine wpList_op rfl (op_putR_2 31 _ _ rfl S rfl _ rfl rfl (by kernel_rfl) rfl ?_); clear S; intro w S))
   exact bodyPost_ret (results_c rfl _ S.out 2 rfl rfl Try.isAgg31 (by kernel_rfl)) rfl ⟨x, B, d, F1, rfl, HX8.out, pinOwn HO.out (S.out.get 1 rfl), pinFresh HFR.out (S.out.get 1 rfl), S.out.cur 3 rfl HCU.out, S.out.grown⟩
 · go_wp2_with fail
   refine (below_any g A n c 11 _ (S.out.cur 3 rfl HCU.out)).mono ?_
   rintro e w ⟨r9, rfl, hp9, hc9, hg9⟩
   have hp8 := hp9.2 (by omega)
   obtain ⟨q, rfl⟩ : ∃ q9 : Nat, r9 = q9 := ⟨r9.toNat, by omega⟩
   replace S : Hid (Sep (cuX g) w0 [bx gw #[jI jZ rt, jS A0 n0 c0, jS (some ⟨gN, 0, none⟩) hs.length c1, jS A2 n2 c2, jI jZ nw] 81, pin F1 w1, bx rh #[jI jZ 0, jI jZ 0, jI jZ 0, jI jZ 0, jI jZ 0, jI jZ 0, jI jZ 0, jI jZ 0, jI jZ 0, jI jZ 0, jI jZ 0, jS none 0 0, jI jZ 0, jI jZ 0, jI jZ 0, jI jZ 0] 31, cuI g A n c, bx gh #[jI jZ x.pos, jI jZ x.cc, jI jZ x.ck, jI jZ x.cv, jI jZ x.cur, jI jZ x.want, jI jZ x.key, jI jZ x.kid, jI jZ x.old, jI jZ x.next, jI jZ x.new, jS B x.st.length d, jI jZ x.thn, jI jZ x.beg, jI jZ x.rep, jI jZ x.out] 31] w) := Lib.hid (S.out.drawn 3 rfl hc9 hg9)
   clear hp9 hc9 hg9
   by_cases q0 : q = 0
   ·
     have g0 : ((q : Int) == 0) = true := by simp [q0]
     clear hp8 q0
     go_wp2_with fail
     refine (from_any g A n c (-1) 12 _ (S.out.cur 3 rfl HCU.out)).mono ?_
     rintro e w ⟨z1, rfl, _, hc9, hg9⟩
     replace S : Hid (Sep (cuX g) w0 [bx gw #[jI jZ rt, jS A0 n0 c0, jS (some ⟨gN, 0, none⟩) hs.length c1, jS A2 n2 c2, jI jZ nw] 81, pin F1 w1, bx rh #[jI jZ 0, jI jZ 0, jI jZ 0, jI jZ 0, jI jZ 0, jI jZ 0, jI jZ 0, jI jZ 0, jI jZ 0, jI jZ 0, jI jZ 0, jS none 0 0, jI jZ 0, jI jZ 0, jI jZ 0, jI jZ 0] 31, cuI g A n c, bx gh #[jI jZ x.pos, jI jZ x.cc, jI jZ x.ck, jI jZ x.cv, jI jZ x.cur, jI jZ x.want, jI jZ x.key, jI jZ x.kid, jI jZ x.old, jI jZ x.next, jI jZ x.new, jS B x.st.length d, jI jZ x.thn, jI jZ x.beg, jI jZ x.rep, jI jZ x.out] 31] w) := Lib.hid (S.out.drawn 3 rfl hc9 hg9)
     clear hc9 hg9
     go_wp2_with (first
         | go_skip
         | (refine wpList_op rfl (op_put1_4 2 _ _ rfl S _ rfl _ rfl rfl (by kernel_rfl) (of_decide_eq_true rfl) ?_); clear S; intro w S)
         | (refine wpList_op rfl (op_row 31 _ rfl S.out 4 rfl rfl Try.isAgg31 (by kernel_rfl) ?_))
         | (refine wpList_op rfl (op_putR_2 31 _ _ rfl S rfl _ rfl rfl (by kernel_rfl) rfl ?_); clear S; intro w S))
     exact bodyPost_ret (results_c rfl _ S.out 2 rfl rfl Try.isAgg31 (by kernel_rfl)) rfl ⟨{ x with pos := z1 }, B, d, F1, rfl, HX8.out, pinOwn HO.out (S.out.get 1 rfl), pinFresh HFR.out (S.out.get 1 rfl), S.out.cur 3 rfl HCU.out, S.out.grown⟩
   by_cases q1 : q = 1
   ·
     have g0 : ((q : Int) == 0) = false := by simp; omega
     have g1 : ((q : Int) == 1) = true := by simp [q1]
     clear hp8 q0 q1
     go_wp2_with fail
     refine (dAnyC_any g A n c _ (S.out.cur 3 rfl HCU.out)).mono ?_
     rintro e w ⟨z1, z2, z3, rfl, hc9, hg9⟩
     replace S : Hid (Sep (cuX g) w0 [bx gw #[jI jZ rt, jS A0 n0 c0, jS (some ⟨gN, 0, none⟩) hs.length c1, jS A2 n2 c2, jI jZ nw] 81, pin F1 w1, bx rh #[jI jZ 0, jI jZ 0, jI jZ 0, jI jZ 0, jI jZ 0, jI jZ 0, jI jZ 0, jI jZ 0, jI jZ 0, jI jZ 0, jI jZ 0, jS none 0 0, jI jZ 0, jI jZ 0, jI jZ 0, jI jZ 0] 31, cuI g A n c, bx gh #[jI jZ x.pos, jI jZ x.cc, jI jZ x.ck, jI jZ x.cv, jI jZ x.cur, jI jZ x.want, jI jZ x.key, jI jZ x.kid, jI jZ x.old, jI jZ x.next, jI jZ x.new, jS B x.st.length d, jI jZ x.thn, jI jZ x.beg, jI jZ x.rep, jI jZ x.out] 31] w) := Lib.hid (S.out.drawn 3 rfl hc9 hg9)
     clear hc9 hg9
     go_wp2_with (first
         | go_skip
         | (refine wpList_op rfl (op_put 25 _ _ rfl S.out 4 rfl 1 rfl _ rfl [jI jZ z1, jI jZ z2, jI jZ z3] rfl rfl (by kernel_rfl) (of_decide_eq_true rfl) _ rfl ?_); clear S; intro w S; replace S : Hid (Sep (cuX g) w0 [bx gw #[jI jZ rt, jS A0 n0 c0, jS (some ⟨gN, 0, none⟩) hs.length c1, jS A2 n2 c2, jI jZ nw] 81, pin F1 w1, bx rh #[jI jZ 0, jI jZ 0, jI jZ 0, jI jZ 0, jI jZ 0, jI jZ 0, jI jZ 0, jI jZ 0, jI jZ 0, jI jZ 0, jI jZ 0, jS none 0 0, jI jZ 0, jI jZ 0, jI jZ 0, jI jZ 0] 31, cuI g A n c, bx gh #[jI jZ x.pos, jI jZ z1, jI jZ z2, jI jZ z3, jI jZ x.cur, jI jZ x.want, jI jZ x.key, jI jZ x.kid, jI jZ x.old, jI jZ x.next, jI jZ x.new, jS B x.st.length d, jI jZ x.thn, jI jZ x.beg, jI jZ x.rep, jI jZ x.out] 31] w) := Lib.hid S)
         | (refine wpList_op rfl (op_row 31 _ rfl S.out 4 rfl rfl Try.isAgg31 (by kernel_rfl) ?_))
         | (refine wpList_op rfl (op_putR_2 31 _ _ rfl S rfl _ rfl rfl (by kernel_rfl) rfl ?_); clear S; intro w S))
     exact bodyPost_ret (results_c rfl _ S.out 2 rfl rfl Try.isAgg31 (by kernel_rfl)) rfl ⟨{ x with cc := z1, ck := z2, cv := z3 }, B, d, F1, rfl, HX8.out, pinOwn HO.out (S.out.get 1 rfl), pinFresh HFR.out (S.out.get 1 rfl), S.out.cur 3 rfl HCU.out, S.out.grown⟩
   by_cases q2 : q = 2
   ·
     have g0 : ((q : Int) == 0) = false := by simp; omega
     have g1 : ((q : Int) == 1) = false := by simp; omega
     have g2 : ((q : Int) == 2) = true := by simp [q2]
     clear hp8 q0 q1 q2
     go_wp2_with fail
     refine (num_any g A n c 39 _ (S.out.cur 3 rfl HCU.out) (by omega) (by omega)).mono ?_
     rintro e w ⟨z1, rfl, _, hc9, hg9⟩
     replace S : Hid (Sep (cuX g) w0 [bx gw #[jI jZ rt, jS A0 n0 c0, jS (some ⟨gN, 0, none⟩) hs.length c1, jS A2 n2 c2, jI jZ nw] 81, pin F1 w1, bx rh #[jI jZ 0, jI jZ 0, jI jZ 0, jI jZ 0, jI jZ 0, jI jZ 0, jI jZ 0, jI jZ 0, jI jZ 0, jI jZ 0, jI jZ 0, jS none 0 0, jI jZ 0, jI jZ 0, jI jZ 0, jI jZ 0] 31, cuI g A n c, bx gh #[jI jZ x.pos, jI jZ x.cc, jI jZ x.ck, jI jZ x.cv, jI jZ x.cur, jI jZ x.want, jI jZ x.key, jI jZ x.kid, jI jZ x.old, jI jZ x.next, jI jZ x.new, jS B x.st.length d, jI jZ x.thn, jI jZ x.beg, jI jZ x.rep, jI jZ x.out] 31] w) := Lib.hid (S.out.drawn 3 rfl hc9 hg9)
     clear hc9 hg9
     go_wp2_with (first
         | go_skip
         | (refine wpList_op rfl (op_put1_4 2 _ _ rfl S _ rfl _ rfl rfl (by kernel_rfl) (of_decide_eq_true rfl) ?_); clear S; intro w S)
         | (refine wpList_op rfl (op_row 31 _ rfl S.out 4 rfl rfl Try.isAgg31 (by kernel_rfl) ?_))
         | (refine wpList_op rfl (op_putR_2 31 _ _ rfl S rfl _ rfl rfl (by kernel_rfl) rfl ?_); clear S; intro w S))
     exact bodyPost_ret (results_c rfl _ S.out 2 rfl rfl Try.isAgg31 (by kernel_rfl)) rfl ⟨{ x with cur := z1 }, B, d, F1, rfl, HX8.out, pinOwn HO.out (S.out.get 1 rfl), pinFresh HFR.out (S.out.get 1 rfl), S.out.cur 3 rfl HCU.out, S.out.grown⟩
   by_cases q3 : q = 3
   ·
     have g0 : ((q : Int) == 0) = false := by simp; omega
     have g1 : ((q : Int) == 1) = false := by simp; omega
     have g2 : ((q : Int) == 2) = false := by simp; omega
     have g3 : ((q : Int) == 3) = true := by simp [q3]
     clear hp8 q0 q1 q2 q3
     go_wp2_with fail
     refine (num_any g A n c 39 _ (S.out.cur 3 rfl HCU.out) (by omega) (by omega)).mono ?_
     rintro e w ⟨z1, rfl, _, hc9, hg9⟩
     replace S : Hid (Sep (cuX g) w0 [bx gw #[jI jZ rt, jS A0 n0 c0, jS (some ⟨gN, 0, none⟩) hs.length c1, jS A2 n2 c2, jI jZ nw] 81, pin F1 w1, bx rh #[jI jZ 0, jI jZ 0, jI jZ 0, jI jZ 0, jI jZ 0, jI jZ 0, jI jZ 0, jI jZ 0, jI jZ 0, jI jZ 0, jI jZ 0, jS none 0 0, jI jZ 0, jI jZ 0, jI jZ 0, jI jZ 0] 31, cuI g A n c, bx gh #[jI jZ x.pos, jI jZ x.cc, jI jZ x.ck, jI jZ x.cv, jI jZ x.cur, jI jZ x.want, jI jZ x.key, jI jZ x.kid, jI jZ x.old, jI jZ x.next, jI jZ x.new, jS B x.st.length d, jI jZ x.thn, jI jZ x.beg, jI jZ x.rep, jI jZ x.out] 31] w) := Lib.hid (S.out.drawn 3 rfl hc9 hg9)
     clear hc9 hg9
     go_wp2_with (first
         | go_skip
         | (refine wpList_op rfl (op_put1_4 2 _ _ rfl S _ rfl _ rfl rfl (by kernel_rfl) (of_decide_eq_true rfl) ?_); clear S; intro w S)
         | (refine wpList_op rfl (op_row 31 _ rfl S.out 4 rfl rfl Try.isAgg31 (by kernel_rfl) ?_))
         | (refine wpList_op rfl (op_putR_2 31 _ _ rfl S rfl _ rfl rfl (by kernel_rfl) rfl ?_); clear S; intro w S))
     exact bodyPost_ret (results_c rfl _ S.out 2 rfl rfl Try.isAgg31 (by kernel_rfl)) rfl ⟨{ x with kid := z1 }, B, d, F1, rfl, HX8.out, pinOwn HO.out (S.out.get 1 rfl), pinFresh HFR.out (S.out.get 1 rfl), S.out.cur 3 rfl HCU.out, S.out.grown⟩
   by_cases q4 : q = 4
   ·
     have g0 : ((q : Int) == 0) = false := by simp; omega
     have g1 : ((q : Int) == 1) = false := by simp; omega
     have g2 : ((q : Int) == 2) = false := by simp; omega
     have g3 : ((q : Int) == 3) = false := by simp; omega
     have g4 : ((q : Int) == 4) = true := by simp [q4]
     clear hp8 q0 q1 q2 q3 q4
     go_wp2_with fail
     refine (num_any g A n c 6 _ (S.out.cur 3 rfl HCU.out) (by omega) (by omega)).mono ?_
     rintro e w ⟨z1, rfl, _, hc9, hg9⟩
     replace S : Hid (Sep (cuX g) w0 [bx gw #[jI jZ rt, jS A0 n0 c0, jS (some ⟨gN, 0, none⟩) hs.length c1, jS A2 n2 c2, jI jZ nw] 81, pin F1 w1, bx rh #[jI jZ 0, jI jZ 0, jI jZ 0, jI jZ 0, jI jZ 0, jI jZ 0, jI jZ 0, jI jZ 0, jI jZ 0, jI jZ 0, jI jZ 0, jS none 0 0, jI jZ 0, jI jZ 0, jI jZ 0, jI jZ 0] 31, cuI g A n c, bx gh #[jI jZ x.pos, jI jZ x.cc, jI jZ x.ck, jI jZ x.cv, jI jZ x.cur, jI jZ x.want, jI jZ x.key, jI jZ x.kid, jI jZ x.old, jI jZ x.next, jI jZ x.new, jS B x.st.length d, jI jZ x.thn, jI jZ x.beg, jI jZ x.rep, jI jZ x.out] 31] w) := Lib.hid (S.out.drawn 3 rfl hc9 hg9)
     clear hc9 hg9
     go_wp2_with (first
         | go_skip
         | (refine wpList_op rfl (op_put1_4 2 _ _ rfl S _ rfl _ rfl rfl (by kernel_rfl) (of_decide_eq_true rfl) ?_); clear S; intro w S)
         | (refine wpList_op rfl (op_row 31 _ rfl S.out 4 rfl rfl Try.isAgg31 (by kernel_rfl) ?_))
         | (refine wpList_op rfl (op_putR_2 31 _ _ rfl S rfl _ rfl rfl (by kernel_rfl) rfl ?_); clear S; intro w S))
     exact bodyPost_ret (results_c rfl _ S.out 2 rfl rfl Try.isAgg31 (by kernel_rfl)) rfl ⟨{ x with want := z1 }, B, d, F1, rfl, HX8.out, pinOwn HO.out (S.out.get 1 rfl), pinFresh HFR.out (S.out.get 1 rfl), S.out.cur 3 rfl HCU.out, S.out.grown⟩
   by_cases q5 : q = 5
   ·
     have g0 : ((q : Int) == 0) = false := by simp; omega
     have g1 : ((q : Int) == 1) = false := by simp; omega
     have g2 : ((q : Int) == 2) = false := by simp; omega
     have g3 : ((q : Int) == 3) = false := by simp; omega
     have g4 : ((q : Int) == 4) = false := by simp; omega
     have g5 : ((q : Int) == 5) = true := by simp [q5]
     clear hp8 q0 q1 q2 q3 q4 q5
     go_wp2_with fail
     refine (num_any g A n c 99 _ (S.out.cur 3 rfl HCU.out) (by omega) (by omega)).mono ?_
     rintro e w ⟨z1, rfl, _, hc9, hg9⟩
     replace S : Hid (Sep (cuX g) w0 [bx gw #[jI jZ rt, jS A0 n0 c0, jS (some ⟨gN, 0, none⟩) hs.length c1, jS A2 n2 c2, jI jZ nw] 81, pin F1 w1, bx rh #[jI jZ 0, jI jZ 0, jI jZ 0, jI jZ 0, jI jZ 0, jI jZ 0, jI jZ 0, jI jZ 0, jI jZ 0, jI jZ 0, jI jZ 0, jS none 0 0, jI jZ 0, jI jZ 0, jI jZ 0, jI jZ 0] 31, cuI g A n c, bx gh #[jI jZ x.pos, jI jZ x.cc, jI jZ x.ck, jI jZ x.cv, jI jZ x.cur, jI jZ x.want, jI jZ x.key, jI jZ x.kid, jI jZ x.old, jI jZ x.next, jI jZ x.new, jS B x.st.length d, jI jZ x.thn, jI jZ x.beg, jI jZ x.rep, jI jZ x.out] 31] w) := Lib.hid (S.out.drawn 3 rfl hc9 hg9)
     clear hc9 hg9
     go_wp2_with (first
         | go_skip
         | (refine wpList_op rfl (op_put1_4 2 _ _ rfl S _ rfl _ rfl rfl (by kernel_rfl) (of_decide_eq_true rfl) ?_); clear S; intro w S)
         | (refine wpList_op rfl (op_row 31 _ rfl S.out 4 rfl rfl Try.isAgg31 (by kernel_rfl) ?_))
         | (refine wpList_op rfl (op_putR_2 31 _ _ rfl S rfl _ rfl rfl (by kernel_rfl) rfl ?_); clear S; intro w S))
     exact bodyPost_ret (results_c rfl _ S.out 2 rfl rfl Try.isAgg31 (by kernel_rfl)) rfl ⟨{ x with key := z1 }, B, d, F1, rfl, HX8.out, pinOwn HO.out (S.out.get 1 rfl), pinFresh HFR.out (S.out.get 1 rfl), S.out.cur 3 rfl HCU.out, S.out.grown⟩
   by_cases q6 : q = 6
   ·
     have g0 : ((q : Int) == 0) = false := by simp; omega
     have g1 : ((q : Int) == 1) = false := by simp; omega
     have g2 : ((q : Int) == 2) = false := by simp; omega
     have g3 : ((q : Int) == 3) = false := by simp; omega
     have g4 : ((q : Int) == 4) = false := by simp; omega
     have g5 : ((q : Int) == 5) = false := by simp; omega
     have g6 : ((q : Int) == 6) = true := by simp [q6]
     clear hp8 q0 q1 q2 q3 q4 q5 q6
     go_wp2_with (first
         | go_skip
         | (refine wpList_op rfl (op_get 29 _ rfl S.out 4 rfl _ rfl Try.isAgg29 _ rfl ?_)))
     refine (copyI_any x.st B x.st.length d _ (OwnS.rs (pinOwn HO.out (S.out.get 1 rfl)) rfl) (by have := HX8.out; omega)).mono ?_
     rintro e w9 ⟨v9, rfl, o9, b9⟩
     obtain ⟨A7, c7, rfl, _, _⟩ := own_shape o9
     obtain ⟨F7, o7, f7⟩ : ∃ F7, OwnS w9 (jS A7 x.st.length c7) x.st F7 ∧ Fresh F7 w w9 := ⟨_, OwnS.of_ints o9 (fun k hk => hk), fresh_blk o9 (Nat.le_refl _)⟩
     replace S : Hid (Sep (cuX g) w0 [ow (jS A7 x.st.length c7) x.st F7, bx gw #[jI jZ rt, jS A0 n0 c0, jS (some ⟨gN, 0, none⟩) hs.length c1, jS A2 n2 c2, jI jZ nw] 81, pin F1 w1, bx rh #[jI jZ 0, jI jZ 0, jI jZ 0, jI jZ 0, jI jZ 0, jI jZ 0, jI jZ 0, jI jZ 0, jI jZ 0, jI jZ 0, jI jZ 0, jS none 0 0, jI jZ 0, jI jZ 0, jI jZ 0, jI jZ 0] 31, cuI g A n c, bx gh #[jI jZ x.pos, jI jZ x.cc, jI jZ x.ck, jI jZ x.cv, jI jZ x.cur, jI jZ x.want, jI jZ x.key, jI jZ x.kid, jI jZ x.old, jI jZ x.next, jI jZ x.new, jS B x.st.length d, jI jZ x.thn, jI jZ x.beg, jI jZ x.rep, jI jZ x.out] 31] w9) := Lib.hid (S.out.own b9 o7 f7)
     clear o9 b9 o7 f7
     go_wp2_with fail
     refine (num_any g A n c 39 _ (S.out.cur 4 rfl HCU.out) (by omega) (by omega)).mono ?_
     rintro e w ⟨z1, rfl, _, hc9, hg9⟩
     replace S : Hid (Sep (cuX g) w0 [ow (jS A7 x.st.length c7) x.st F7, bx gw #[jI jZ rt, jS A0 n0 c0, jS (some ⟨gN, 0, none⟩) hs.length c1, jS A2 n2 c2, jI jZ nw] 81, pin F1 w1, bx rh #[jI jZ 0, jI jZ 0, jI jZ 0, jI jZ 0, jI jZ 0, jI jZ 0, jI jZ 0, jI jZ 0, jI jZ 0, jI jZ 0, jI jZ 0, jS none 0 0, jI jZ 0, jI jZ 0, jI jZ 0, jI jZ 0] 31, cuI g A n c, bx gh #[jI jZ x.pos, jI jZ x.cc, jI jZ x.ck, jI jZ x.cv, jI jZ x.cur, jI jZ x.want, jI jZ x.key, jI jZ x.kid, jI jZ x.old, jI jZ x.next, jI jZ x.new, jS B x.st.length d, jI jZ x.thn, jI jZ x.beg, jI jZ x.rep, jI jZ x.out] 31] w) := Lib.hid (S.out.drawn 4 rfl hc9 hg9)
     clear hc9 hg9
     replace S := Lib.hid S.out.emI
     go_wp2_with (first
         | go_skip
         | (refine wpList_op rfl (op_bsI 1 _ rfl S.out 0 rfl _ rfl [z1] (by kernel_rfl) (by omega) (by omega) ?_); clear S; intro gz w S; replace S := Lib.hid S)
         | (refine wpList_op rfl (op_appI _ _ rfl S.out 1 rfl rfl 0 [z1] rfl 1 1 rfl (by omega) rfl (by have := HX8.out; omega) ?_); clear S; intro A8 c8 F8 w S; replace S : Hid (Sep (cuX g) w0 [bx gz (IL [z1]).toArray 2, ow (jS A8 (x.st.length + 1) c8) (x.st ++ [z1]) F8, bx gw #[jI jZ rt, jS A0 n0 c0, jS (some ⟨gN, 0, none⟩) hs.length c1, jS A2 n2 c2, jI jZ nw] 81, pin F1 w1, bx rh #[jI jZ 0, jI jZ 0, jI jZ 0, jI jZ 0, jI jZ 0, jI jZ 0, jI jZ 0, jI jZ 0, jI jZ 0, jI jZ 0, jI jZ 0, jS none 0 0, jI jZ 0, jI jZ 0, jI jZ 0, jI jZ 0] 31, cuI g A n c, bx gh #[jI jZ x.pos, jI jZ x.cc, jI jZ x.ck, jI jZ x.cv, jI jZ x.cur, jI jZ x.want, jI jZ x.key, jI jZ x.kid, jI jZ x.old, jI jZ x.next, jI jZ x.new, jS B x.st.length d, jI jZ x.thn, jI jZ x.beg, jI jZ x.rep, jI jZ x.out] 31] w) := Lib.hid S)
         | (refine wpList_op rfl (op_put1_6 29 _ _ rfl S _ rfl _ rfl rfl (by kernel_rfl) (of_decide_eq_true rfl) ?_); clear S; intro w S)
         | (refine wpList_op rfl (op_row 31 _ rfl S.out 6 rfl rfl Try.isAgg31 (by kernel_rfl) ?_))
         | (refine wpList_op rfl (op_putR_4 31 _ _ rfl S rfl _ rfl rfl (by kernel_rfl) rfl ?_); clear S; intro w S))
     exact bodyPost_ret (results_c rfl _ S.out 4 rfl rfl Try.isAgg31 (by kernel_rfl)) rfl ⟨{ x with st := x.st ++ [z1] }, A8, c8, F8, by rw [show ({ x with st := x.st ++ [z1] } : Hd).st.length = x.st.length + 1 from by simp]; rfl, by rw [show ({ x with st := x.st ++ [z1] } : Hd).st.length = x.st.length + 1 from by simp]; have := HX6.out; omega, by rw [show ({ x with st := x.st ++ [z1] } : Hd).st.length = x.st.length + 1 from by simp]; exact S.out.get 1 rfl, S.out.freshCu 1 5 (by omega) rfl rfl, S.out.cur 5 rfl HCU.out, S.out.grown⟩
   by_cases q7 : q = 7
   ·
     have g0 : ((q : Int) == 0) = false := by simp; omega
     have g1 : ((q : Int) == 1) = false := by simp; omega
     have g2 : ((q : Int) == 2) = false := by simp; omega
     have g3 : ((q : Int) == 3) = false := by simp; omega
     have g4 : ((q : Int) == 4) = false := by simp; omega
     have g5 : ((q : Int) == 5) = false := by simp; omega
     have g6 : ((q : Int) == 6) = false := by simp; omega
     have g7 : ((q : Int) == 7) = true := by simp [q7]
     clear hp8 q0 q1 q2 q3 q4 q5 q6 q7
     go_wp2_with fail
     refine (below_any g A n c 2 _ (S.out.cur 3 rfl HCU.out)).mono ?_
     rintro e w ⟨r9, rfl, hp9, hc9, hg9⟩
     have hp8 := hp9.2 (by omega)
     obtain ⟨p, rfl⟩ : ∃ q9 : Nat, r9 = q9 := ⟨r9.toNat, by omega⟩
     replace S : Hid (Sep (cuX g) w0 [bx gw #[jI jZ rt, jS A0 n0 c0, jS (some ⟨gN, 0, none⟩) hs.length c1, jS A2 n2 c2, jI jZ nw] 81, pin F1 w1, bx rh #[jI jZ 0, jI jZ 0, jI jZ 0, jI jZ 0, jI jZ 0, jI jZ 0, jI jZ 0, jI jZ 0, jI jZ 0, jI jZ 0, jI jZ 0, jS none 0 0, jI jZ 0, jI jZ 0, jI jZ 0, jI jZ 0] 31, cuI g A n c, bx gh #[jI jZ x.pos, jI jZ x.cc, jI jZ x.ck, jI jZ x.cv, jI jZ x.cur, jI jZ x.want, jI jZ x.key, jI jZ x.kid, jI jZ x.old, jI jZ x.next, jI jZ x.new, jS B x.st.length d, jI jZ x.thn, jI jZ x.beg, jI jZ x.rep, jI jZ x.out] 31] w) := Lib.hid (S.out.drawn 3 rfl hc9 hg9)
     clear hp9 hc9 hg9
     by_cases hp : p = 0
     · obtain rfl := hp
       clear hp8
       go_wp2_with (first
           | go_skip
           | (refine wpList_op rfl (op_mkZ 6 _ _ rfl S.out (by omega) made6 rfl rfl ?_); clear S; intro gz F8 w S; replace S : Hid (Sep (cuX g) w0 [ow (jS (some ⟨gz, 0, none⟩) 6 6) (List.replicate 6 (0 : Int)) F8, bx gw #[jI jZ rt, jS A0 n0 c0, jS (some ⟨gN, 0, none⟩) hs.length c1, jS A2 n2 c2, jI jZ nw] 81, pin F1 w1, bx rh #[jI jZ 0, jI jZ 0, jI jZ 0, jI jZ 0, jI jZ 0, jI jZ 0, jI jZ 0, jI jZ 0, jI jZ 0, jI jZ 0, jI jZ 0, jS none 0 0, jI jZ 0, jI jZ 0, jI jZ 0, jI jZ 0] 31, cuI g A n c, bx gh #[jI jZ x.pos, jI jZ x.cc, jI jZ x.ck, jI jZ x.cv, jI jZ x.cur, jI jZ x.want, jI jZ x.key, jI jZ x.kid, jI jZ x.old, jI jZ x.next, jI jZ x.new, jS B x.st.length d, jI jZ x.thn, jI jZ x.beg, jI jZ x.rep, jI jZ x.out] 31] w) := Lib.hid S)
           | (refine wpList_op rfl (op_put1_5 29 _ _ rfl S _ rfl _ rfl rfl (by kernel_rfl) (of_decide_eq_true rfl) ?_); clear S; intro w S)
           | (refine wpList_op rfl (op_row 31 _ rfl S.out 5 rfl rfl Try.isAgg31 (by kernel_rfl) ?_))
           | (refine wpList_op rfl (op_putR_3 31 _ _ rfl S rfl _ rfl rfl (by kernel_rfl) rfl ?_); clear S; intro w S))
       exact bodyPost_ret (results_c rfl _ S.out 3 rfl rfl Try.isAgg31 (by kernel_rfl)) rfl ⟨{ x with st := List.replicate 6 (0 : Int) }, some ⟨gz, 0, none⟩, 6, F8, by rw [show ({ x with st := List.replicate 6 (0 : Int) } : Hd).st.length = 6 from rfl]; rfl, by rw [show ({ x with st := List.replicate 6 (0 : Int) } : Hd).st.length = 6 from rfl]; have := HX6.out; omega, by rw [show ({ x with st := List.replicate 6 (0 : Int) } : Hd).st.length = 6 from rfl]; exact S.out.get 0 rfl, S.out.freshCu 0 4 (by omega) rfl rfl, S.out.cur 4 rfl HCU.out, S.out.grown⟩
     have hp : p = 1 := by omega
     · obtain rfl := hp
       clear hp8
       go_wp2_with (first
           | go_skip
           | (refine wpList_op rfl (op_mkZ 7 _ _ rfl S.out (by omega) made7 rfl rfl ?_); clear S; intro gz F8 w S; replace S : Hid (Sep (cuX g) w0 [ow (jS (some ⟨gz, 0, none⟩) 7 7) (List.replicate 7 (0 : Int)) F8, bx gw #[jI jZ rt, jS A0 n0 c0, jS (some ⟨gN, 0, none⟩) hs.length c1, jS A2 n2 c2, jI jZ nw] 81, pin F1 w1, bx rh #[jI jZ 0, jI jZ 0, jI jZ 0, jI jZ 0, jI jZ 0, jI jZ 0, jI jZ 0, jI jZ 0, jI jZ 0, jI jZ 0, jI jZ 0, jS none 0 0, jI jZ 0, jI jZ 0, jI jZ 0, jI jZ 0] 31, cuI g A n c, bx gh #[jI jZ x.pos, jI jZ x.cc, jI jZ x.ck, jI jZ x.cv, jI jZ x.cur, jI jZ x.want, jI jZ x.key, jI jZ x.kid, jI jZ x.old, jI jZ x.next, jI jZ x.new, jS B x.st.length d, jI jZ x.thn, jI jZ x.beg, jI jZ x.rep, jI jZ x.out] 31] w) := Lib.hid S)
           | (refine wpList_op rfl (op_put1_5 29 _ _ rfl S _ rfl _ rfl rfl (by kernel_rfl) (of_decide_eq_true rfl) ?_); clear S; intro w S)
           | (refine wpList_op rfl (op_row 31 _ rfl S.out 5 rfl rfl Try.isAgg31 (by kernel_rfl) ?_))
           | (refine wpList_op rfl (op_putR_3 31 _ _ rfl S rfl _ rfl rfl (by kernel_rfl) rfl ?_); clear S; intro w S))
       exact bodyPost_ret (results_c rfl _ S.out 3 rfl rfl Try.isAgg31 (by kernel_rfl)) rfl ⟨{ x with st := List.replicate 7 (0 : Int) }, some ⟨gz, 0, none⟩, 7, F8, by rw [show ({ x with st := List.replicate 7 (0 : Int) } : Hd).st.length = 7 from rfl]; rfl, by rw [show ({ x with st := List.replicate 7 (0 : Int) } : Hd).st.length = 7 from rfl]; have := HX6.out; omega, by rw [show ({ x with st := List.replicate 7 (0 : Int) } : Hd).st.length = 7 from rfl]; exact S.out.get 0 rfl, S.out.freshCu 0 4 (by omega) rfl rfl, S.out.cur 4 rfl HCU.out, S.out.grown⟩
   by_cases q8 : q = 8
   ·
     have g0 : ((q : Int) == 0) = false := by simp; omega
     have g1 : ((q : Int) == 1) = false := by simp; omega
     have g2 : ((q : Int) == 2) = false := by simp; omega
     have g3 : ((q : Int) == 3) = false := by simp; omega
     have g4 : ((q : Int) == 4) = false := by simp; omega
     have g5 : ((q : Int) == 5) = false := by simp; omega
     have g6 : ((q : Int) == 6) = false := by simp; omega
     have g7 : ((q : Int) == 7) = false := by simp; omega
     have g8 : ((q : Int) == 8) = true := by simp [q8]
     clear hp8 q0 q1 q2 q3 q4 q5 q6 q7 q8
     go_wp2_with fail
     refine (from_any g A n c (-1) 3 _ (S.out.cur 3 rfl HCU.out)).mono ?_
     rintro e w ⟨z1, rfl, _, hc9, hg9⟩
     replace S : Hid (Sep (cuX g) w0 [bx gw #[jI jZ rt, jS A0 n0 c0, jS (some ⟨gN, 0, none⟩) hs.length c1, jS A2 n2 c2, jI jZ nw] 81, pin F1 w1, bx rh #[jI jZ 0, jI jZ 0, jI jZ 0, jI jZ 0, jI jZ 0, jI jZ 0, jI jZ 0, jI jZ 0, jI jZ 0, jI jZ 0, jI jZ 0, jS none 0 0, jI jZ 0, jI jZ 0, jI jZ 0, jI jZ 0] 31, cuI g A n c, bx gh #[jI jZ x.pos, jI jZ x.cc, jI jZ x.ck, jI jZ x.cv, jI jZ x.cur, jI jZ x.want, jI jZ x.key, jI jZ x.kid, jI jZ x.old, jI jZ x.next, jI jZ x.new, jS B x.st.length d, jI jZ x.thn, jI jZ x.beg, jI jZ x.rep, jI jZ x.out] 31] w) := Lib.hid (S.out.drawn 3 rfl hc9 hg9)
     clear hc9 hg9
     go_wp2_with (first
         | go_skip
         | (refine wpList_op rfl (op_put1_4 2 _ _ rfl S _ rfl _ rfl rfl (by kernel_rfl) (of_decide_eq_true rfl) ?_); clear S; intro w S)
         | (refine wpList_op rfl (op_row 31 _ rfl S.out 4 rfl rfl Try.isAgg31 (by kernel_rfl) ?_))
         | (refine wpList_op rfl (op_putR_2 31 _ _ rfl S rfl _ rfl rfl (by kernel_rfl) rfl ?_); clear S; intro w S))
     exact bodyPost_ret (results_c rfl _ S.out 2 rfl rfl Try.isAgg31 (by kernel_rfl)) rfl ⟨{ x with thn := z1 }, B, d, F1, rfl, HX8.out, pinOwn HO.out (S.out.get 1 rfl), pinFresh HFR.out (S.out.get 1 rfl), S.out.cur 3 rfl HCU.out, S.out.grown⟩
   by_cases q9 : q = 9
   ·
     have g0 : ((q : Int) == 0) = false := by simp; omega
     have g1 : ((q : Int) == 1) = false := by simp; omega
     have g2 : ((q : Int) == 2) = false := by simp; omega
     have g3 : ((q : Int) == 3) = false := by simp; omega
     have g4 : ((q : Int) == 4) = false := by simp; omega
     have g5 : ((q : Int) == 5) = false := by simp; omega
     have g6 : ((q : Int) == 6) = false := by simp; omega
     have g7 : ((q : Int) == 7) = false := by simp; omega
     have g8 : ((q : Int) == 8) = false := by simp; omega
     have g9 : ((q : Int) == 9) = true := by simp [q9]
     clear hp8 q0 q1 q2 q3 q4 q5 q6 q7 q8 q9
     go_wp2_with fail
     refine (num_any g A n c 20000 _ (S.out.cur 3 rfl HCU.out) (by omega) (by omega)).mono ?_
     rintro e w ⟨z1, rfl, _, hc9, hg9⟩
     replace S : Hid (Sep (cuX g) w0 [bx gw #[jI jZ rt, jS A0 n0 c0, jS (some ⟨gN, 0, none⟩) hs.length c1, jS A2 n2 c2, jI jZ nw] 81, pin F1 w1, bx rh #[jI jZ 0, jI jZ 0, jI jZ 0, jI jZ 0, jI jZ 0, jI jZ 0, jI jZ 0, jI jZ 0, jI jZ 0, jI jZ 0, jI jZ 0, jS none 0 0, jI jZ 0, jI jZ 0, jI jZ 0, jI jZ 0] 31, cuI g A n c, bx gh #[jI jZ x.pos, jI jZ x.cc, jI jZ x.ck, jI jZ x.cv, jI jZ x.cur, jI jZ x.want, jI jZ x.key, jI jZ x.kid, jI jZ x.old, jI jZ x.next, jI jZ x.new, jS B x.st.length d, jI jZ x.thn, jI jZ x.beg, jI jZ x.rep, jI jZ x.out] 31] w) := Lib.hid (S.out.drawn 3 rfl hc9 hg9)
     clear hc9 hg9
     go_wp2_with (first
         | go_skip
         | (refine wpList_op rfl (op_put1_4 2 _ _ rfl S _ rfl _ rfl rfl (by kernel_rfl) (of_decide_eq_true rfl) ?_); clear S; intro w S)
         | (refine wpList_op rfl (op_row 31 _ rfl S.out 4 rfl rfl Try.isAgg31 (by kernel_rfl) ?_))
         | (refine wpList_op rfl (op_putR_2 31 _ _ rfl S rfl _ rfl rfl (by kernel_rfl) rfl ?_); clear S; intro w S))
     exact bodyPost_ret (results_c rfl _ S.out 2 rfl rfl Try.isAgg31 (by kernel_rfl)) rfl ⟨{ x with beg := z1 }, B, d, F1, rfl, HX8.out, pinOwn HO.out (S.out.get 1 rfl), pinFresh HFR.out (S.out.get 1 rfl), S.out.cur 3 rfl HCU.out, S.out.grown⟩
   have q10 : q = 10 := by omega
   have g0 : ((q : Int) == 0) = false := by simp; omega
   have g1 : ((q : Int) == 1) = false := by simp; omega
   have g2 : ((q : Int) == 2) = false := by simp; omega
   have g3 : ((q : Int) == 3) = false := by simp; omega
   have g4 : ((q : Int) == 4) = false := by simp; omega
   have g5 : ((q : Int) == 5) = false := by simp; omega
   have g6 : ((q : Int) == 6) = false := by simp; omega
   have g7 : ((q : Int) == 7) = false := by simp; omega
   have g8 : ((q : Int) == 8) = false := by simp; omega
   have g9 : ((q : Int) == 9) = false := by simp; omega
   have g10 : ((q : Int) == 10) = true := by simp [q10]
   clear hp8 q0 q1 q2 q3 q4 q5 q6 q7 q8 q9 q10
   go_wp2_with fail
   refine (from_any g A n c (-1) 4 _ (S.out.cur 3 rfl HCU.out)).mono ?_
   rintro e w ⟨z1, rfl, _, hc9, hg9⟩
   replace S : Hid (Sep (cuX g) w0 [bx gw #[jI jZ rt, jS A0 n0 c0, jS (some ⟨gN, 0, none⟩) hs.length c1, jS A2 n2 c2, jI jZ nw] 81, pin F1 w1, bx rh #[jI jZ 0, jI jZ 0, jI jZ 0, jI jZ 0, jI jZ 0, jI jZ 0, jI jZ 0, jI jZ 0, jI jZ 0, jI jZ 0, jI jZ 0, jS none 0 0, jI jZ 0, jI jZ 0, jI jZ 0, jI jZ 0] 31, cuI g A n c, bx gh #[jI jZ x.pos, jI jZ x.cc, jI jZ x.ck, jI jZ x.cv, jI jZ x.cur, jI jZ x.want, jI jZ x.key, jI jZ x.kid, jI jZ x.old, jI jZ x.next, jI jZ x.new, jS B x.st.length d, jI jZ x.thn, jI jZ x.beg, jI jZ x.rep, jI jZ x.out] 31] w) := Lib.hid (S.out.drawn 3 rfl hc9 hg9)
   clear hc9 hg9
   go_wp2_with (first
       | go_skip
       | (refine wpList_op rfl (op_put1_4 2 _ _ rfl S _ rfl _ rfl rfl (by kernel_rfl) (of_decide_eq_true rfl) ?_); clear S; intro w S)
       | (refine wpList_op rfl (op_row 31 _ rfl S.out 4 rfl rfl Try.isAgg31 (by kernel_rfl) ?_))
       | (refine wpList_op rfl (op_putR_2 31 _ _ rfl S rfl _ rfl rfl (by kernel_rfl) rfl ?_); clear S; intro w S))
   exact bodyPost_ret (results_c rfl _ S.out 2 rfl rfl Try.isAgg31 (by kernel_rfl)) rfl ⟨{ x with rep := z1 }, B, d, F1, rfl, HX8.out, pinOwn HO.out (S.out.get 1 rfl), pinFresh HFR.out (S.out.get 1 rfl), S.out.cur 3 rfl HCU.out, S.out.grown⟩
end Go.Proofs.Ytjookicpmjmdhaa
