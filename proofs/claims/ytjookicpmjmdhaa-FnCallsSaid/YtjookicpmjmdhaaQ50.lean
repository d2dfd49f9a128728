/- The draws of chapter 8, walked. (Made by genDb.py.) -/
import Derived.Test.YtjookicpmjmdhaaQ49
import Derived.Test.YtjookicpmjmdhaaQ25
import Derived.Test.YtjookicpmjmdhaaQ20
open Go.Value renaming int → jI, slice → jS
open Go.IntKind renaming i64 → jZ
namespace Go.Proofs.Ytjookicpmjmdhaa
open Go.RowKit

def DrawnK0 (w : World) (e : Ending) (w' : World) : Prop := ∃ cc ck cv : Int, e = .returned (.agg #[jI jZ cc, jI jZ ck, jI jZ cv]) ∧ Below w.heap.size w w'
def DrawnKI (w : World) (e : Ending) (w' : World) : Prop := ∃ cc ck cv r : Int, e = .returned (.tuple #[.agg #[jI jZ cc, jI jZ ck, jI jZ cv], jI jZ r]) ∧ Below w.heap.size w w'
def DrawnH0 (w : World) (e : Ending) (w' : World) : Prop :=
 ∃ (h : Hd) (B : Option Addr) (d : Nat) (F : FP), e = .returned (hdV h B h.st.length d) ∧ h.st.length ≤ 8 ∧ OwnS w' (jS B h.st.length d) h.st F ∧ Fresh F w w' ∧ Below w.heap.size w w'
def DrawnHC (w : World) (e : Ending) (w' : World) : Prop :=
 ∃ (h : Hd) (B : Option Addr) (d : Nat) (F : FP) (cc ck cv : Int), e = .returned (.tuple #[hdV h B h.st.length d, .agg #[jI jZ cc, jI jZ ck, jI jZ cv]]) ∧ h.st.length ≤ 8 ∧ OwnS w' (jS B h.st.length d) h.st F ∧ Fresh F w w' ∧ Below w.heap.size w w'

set_option maxRecDepth 100000 in
set_option maxHeartbeats 16000000 in
theorem dCallOk_any (A : Option Addr) (n c : Nat) (w0 : World) (hb : Bys w0 w0.heap.size A n) (hn : n ≤ 4096) :
   Calls Try.prog 11 #[jS A n c] w0 (DrawnK0 w0) := by
 have HB := Lib.hid hb
 have HN := Lib.hid hn
 clear hb hn
 have S := Lib.hid (Sep.start noX w0)
 have tok0 : True := trivial
 go_enter Try.func11, Try.ntmps11
 go_wp2_with (first
     | go_skip
     | (clear tok0; refine nx_ 25 S rfl rfl Try.zeroValue25 ?_; clear S; intro rc w S))
 refine (new_any A n c _ (bys_on HB.out S.out.below) HN.out).mono ?_
 rintro e w1 ⟨gc, rfl, hg, hc, b⟩
 replace S := Lib.hid (S.out.newCur hc hg b)
 clear hc hg b
 go_wp2_with fail
 refine (dAnyC_any gc A n c _ (S.out.curA 0 rfl HB.out HN.out)).mono ?_
 rintro e w ⟨z1, z2, z3, rfl, hc9, hg9⟩
 replace S : Hid (Sep noX w0 [cuI gc A n c, bx rc #[jI jZ 0, jI jZ 0, jI jZ 0] 25] w) := Lib.hid (S.out.drawnA 0 rfl hc9 hg9)
 clear hc9 hg9
 go_wp2_with (first
     | go_skip
     | (refine wpList_op rfl (op_putR_1 25 _ _ rfl S rfl _ rfl rfl (by kernel_rfl) rfl ?_); clear S; intro w S))
 exact bodyPost_ret (results_c rfl _ S.out 1 rfl rfl Try.isAgg25 (by kernel_rfl)) rfl ⟨_, _, _, rfl, S.out.below⟩
set_option maxRecDepth 100000 in
set_option maxHeartbeats 16000000 in
theorem dReplyOk_any (A : Option Addr) (n c : Nat) (w0 : World) (hb : Bys w0 w0.heap.size A n) (hn : n ≤ 4096) :
   Calls Try.prog 10 #[jS A n c] w0 (DrawnKI w0) := by
 have HB := Lib.hid hb
 have HN := Lib.hid hn
 clear hb hn
 have S := Lib.hid (Sep.start noX w0)
 have tok0 : True := trivial
 go_enter Try.func10, Try.ntmps10
 go_wp2_with (first
     | go_skip
     | (clear tok0; refine nx_ 25 S rfl rfl Try.zeroValue25 ?_; clear S; intro rc w S))
 refine (new_any A n c _ (bys_on HB.out S.out.below) HN.out).mono ?_
 rintro e w1 ⟨gc, rfl, hg, hc, b⟩
 replace S := Lib.hid (S.out.newCur hc hg b)
 clear hc hg b
 go_wp2_with fail
 refine (dAnyC_any gc A n c _ (S.out.curA 0 rfl HB.out HN.out)).mono ?_
 rintro e w ⟨z1, z2, z3, rfl, hc9, hg9⟩
 replace S : Hid (Sep noX w0 [cuI gc A n c, bx rc #[jI jZ 0, jI jZ 0, jI jZ 0] 25] w) := Lib.hid (S.out.drawnA 0 rfl hc9 hg9)
 clear hc9 hg9
 have tokk : True := trivial
 go_wp2_with (first
     | go_skip
     | (have _t := tokk; clear _t; refine wpList_op rfl (op_nx 25 rfl S.out _ Try.zeroValue25 ?_); clear S tokk; intro gk w S; replace S := Lib.hid S; simp only [Act.put, sa_, sb_, sc_])
     | (refine wpList_op rfl (op_putR_0 25 _ _ rfl S rfl _ rfl rfl (by kernel_rfl) rfl ?_); clear S; intro w S; simp only [Act.put]))
 refine wp_region_ev (by kernel_rfl) _ (by kernel_rfl) (by kernel_rfl) 13 rfl (by kernel_rfl) (fun D V w => ∃ rp : Int, Sep noX w0 [bx gk #[jI jZ z1, jI jZ z2, jI jZ z3] 25, cuI gc A n c, cnd (D 3) (bx rc #[jI jZ 0, jI jZ 0, jI jZ 0] 25) (bx rc #[jI jZ z1, jI jZ z2, jI jZ z3] 25)] w ∧ (D 0 = true → V 0 = .agg #[jI jZ z1, jI jZ z2, jI jZ z3]) ∧ (D 1 = true → V 1 = .pointer (some ⟨gc, 0, none⟩)) ∧ (D 2 = true → V 2 = jI jZ rp) ∧ (D 4 = true → V 4 = jI jZ rp) ∧ (D 4 = true → D 2 = true)) ?_ ?_ ?_
 · intro D hD
   have d3 := hD 3 (by decide)
   exact ⟨0, by rw [cnd_f d3]; exact S.out.drew.ems 0, (nof (hD 0 (by decide))), (nof (hD 1 (by decide))), (nof (hD 2 (by decide))), (nof (hD 4 (by decide))), (nof (hD 4 (by decide)))⟩
 · intro i o D V w a ho hI hDi haf hev
   obtain ⟨rp, S, f0, f1, f2, f4, o4_2⟩ := hI
   rcases i with _ | _ | _ | _ | _ | i
   · obtain rfl := inj_ ho
     exact op_row 25 _ rfl S 0 rfl ((hev.old 5 (by kernel_rfl)).trans rfl) Try.isAgg25 (by kernel_rfl) ⟨_, rfl, rp, S, fun _ => rfl, f1, f2, f4, o4_2⟩
   · obtain rfl := inj_ ho
     exact op_move (.inl rfl) ((hev.old 4 (by kernel_rfl)).trans rfl) ⟨_, rfl, rp, S, f0, fun _ => rfl, f2, f4, o4_2⟩
   · obtain rfl := inj_ ho
     have h1 := aft_ haf 1 rfl
     have hx0 := (hev.at_ 1 11 rfl rfl h1 f1)
     refine op_call _ _ _ rfl (enters_of Try.func34 (by kernel_rfl) rfl) #[.pointer (some ⟨gc, 0, none⟩), jI jZ (-1), jI jZ 4] (by simp [hx0, eval_const]) (from_any gc A n c (-1) 4 w (S.curA 1 rfl HB.out HN.out)) (fun e w2 hh => ?_)
     obtain ⟨r9, rfl, _, hc9, hg9⟩ := hh
     exact ⟨_, rfl, ⟨_, rfl, r9, (S.drawnA 1 rfl hc9 hg9), f0, f1, fun _ => rfl, (fun h => nof hDi (o4_2 h)), fun _ => rfl⟩⟩
   · obtain rfl := inj_ ho
     have h0 := aft_ haf 0 rfl
     exact op_putR 25 _ _ rfl S 2 (g := rc) (C := #[jI jZ 0, jI jZ 0, jI jZ 0]) (t := 25) (by simp only [gs_, gz_, cnd_f hDi]) ((hev.old 2 (by kernel_rfl)).trans rfl) _ (hev.at_ 0 10 rfl rfl h0 f0) rfl (by kernel_rfl) rfl (fun w S => ⟨_, rfl, rp, S, f0, f1, f2, f4, o4_2⟩)
   · obtain rfl := inj_ ho
     have h2 := aft_ haf 2 rfl
     exact op_move (.inr rfl) (hev.at_ 2 12 rfl rfl h2 f2) ⟨_, rfl, rp, S, f0, f1, f2, fun _ => rfl, fun _ => h2⟩
   · exact absurd ho (by simp)
 intro V w hI
 obtain ⟨rp, S, f0, f1, f2, f4, o4_2⟩ := hI
 replace S : Hid (Sep noX w0 [bx gk #[jI jZ z1, jI jZ z2, jI jZ z3] 25, cuI gc A n c, bx rc #[jI jZ z1, jI jZ z2, jI jZ z3] 25] w) := Lib.hid S
 simp only [putF, Act.put, sa_, sb_, sc_, f0 rfl, f1 rfl, f2 rfl, f4 rfl]
 clear f0 f1 f2 f4 o4_2
 go_wp2_with fail
 exact bodyPost_ret (results_cs rfl _ S.out 2 rfl rfl Try.isAgg25 (by kernel_rfl)) rfl ⟨_, _, _, _, rfl, S.out.below⟩
set_option maxRecDepth 100000 in
set_option maxHeartbeats 16000000 in
theorem dHandOk_any (A : Option Addr) (n c : Nat) (w0 : World) (hb : Bys w0 w0.heap.size A n) (hn : n ≤ 4096) :
   Calls Try.prog 12 #[jS A n c] w0 (DrawnH0 w0) := by
 have HB := Lib.hid hb
 have HN := Lib.hid hn
 clear hb hn
 have S := Lib.hid (Sep.start noX w0)
 have tok0 : True := trivial
 go_enter Try.func12, Try.ntmps12
 go_wp2_with (first
     | go_skip
     | (clear tok0; refine nx_ 31 S rfl rfl Try.zeroValue31 ?_; clear S; intro rh w S))
 refine (new_any A n c _ (bys_on HB.out S.out.below) HN.out).mono ?_
 rintro e w1 ⟨gc, rfl, hg, hc, b⟩
 replace S := Lib.hid (S.out.newCur hc hg b)
 clear hc hg b
 go_wp2_with fail
 refine (dAnyH_any gc A n c _ (S.out.curA 0 rfl HB.out HN.out)).mono ?_
 rintro e w ⟨x, B, d, F, rfl, hl, ho, hf, hc9, hg9⟩
 have HL := Lib.hid hl
 replace S : Hid (Sep noX w0 [ow (jS B x.st.length d) x.st F, cuI gc A n c, bx rh #[jI jZ 0, jI jZ 0, jI jZ 0, jI jZ 0, jI jZ 0, jI jZ 0, jI jZ 0, jI jZ 0, jI jZ 0, jI jZ 0, jI jZ 0, jS none 0 0, jI jZ 0, jI jZ 0, jI jZ 0, jI jZ 0] 31] w) := Lib.hid (S.out.drawnGainA 0 rfl hc9 hg9 (ow (jS B x.st.length d) x.st F) ho hf)
 unfold hdV
 clear hl ho hf hc9 hg9
 go_wp2_with (first
     | go_skip
     | (refine wpList_op rfl (op_putR_2 31 _ _ rfl S rfl _ rfl rfl (by kernel_rfl) rfl ?_); clear S; intro w S))
 exact bodyPost_ret (results_c rfl _ S.out 2 rfl rfl Try.isAgg31 (by kernel_rfl)) rfl (by obtain ⟨u1, u2, u3⟩ := S.out.ends 0 rfl; exact ⟨x, B, d, F, rfl, HL.out, u1, u2, u3⟩)
set_option maxRecDepth 100000 in
set_option maxHeartbeats 16000000 in
theorem dResting_any (A : Option Addr) (n c : Nat) (w0 : World) (hb : Bys w0 w0.heap.size A n) (hn : n ≤ 4096) :
   Calls Try.prog 13 #[jS A n c] w0 fun e w' => ∃ r t : Int, e = .returned (.tuple #[jI jZ r, jI jZ t]) ∧ Below w0.heap.size w0 w' := by
 have HB := Lib.hid hb
 have HN := Lib.hid hn
 clear hb hn
 have S := Lib.hid (Sep.start noX w0)
 go_enter Try.func13, Try.ntmps13
 go_wp2_with fail
 refine (new_any A n c _ (bys_on HB.out S.out.below) HN.out).mono ?_
 rintro e w1 ⟨gc, rfl, hg, hc, b⟩
 replace S := Lib.hid (S.out.newCur hc hg b)
 clear hc hg b
 go_wp2_with fail
 refine (below_any gc A n c 4 _ (S.out.curA 0 rfl HB.out HN.out)).mono ?_
 rintro e w ⟨r1, rfl, _, hc9, hg9⟩
 replace S : Hid (Sep noX w0 [cuI gc A n c] w) := Lib.hid (S.out.drawnA 0 rfl hc9 hg9)
 clear hc9 hg9
 go_wp2_with fail
 refine (below_any gc A n c 100 _ (S.out.curA 0 rfl HB.out HN.out)).mono ?_
 rintro e w ⟨r2, rfl, _, hc9, hg9⟩
 replace S : Hid (Sep noX w0 [cuI gc A n c] w) := Lib.hid (S.out.drawnA 0 rfl hc9 hg9)
 clear hc9 hg9
 go_wp2_with fail
 exact bodyPost_ret (v := .tuple #[jI jZ r1, jI jZ r2]) (by simp [results, Try.results13, go_sem]) rfl ⟨r1, r2, rfl, S.out.below⟩
set_option maxRecDepth 100000 in
set_option maxHeartbeats 16000000 in
theorem dCalled_any (A : Option Addr) (n c : Nat) (w0 : World) (hb : Bys w0 w0.heap.size A n) (hn : n ≤ 4096) :
   Calls Try.prog 14 #[jS A n c] w0 (DrawnHC w0) := by
 have HB := Lib.hid hb
 have HN := Lib.hid hn
 clear hb hn
 have S := Lib.hid (Sep.start noX w0)
 have tok0 : True := trivial
 have tok1 : True := trivial
 go_enter Try.func14, Try.ntmps14
 go_wp2_with (first
     | go_skip
     | (clear tok0; refine nx_ 31 S rfl rfl Try.zeroValue31 ?_; clear S; intro rh w S)
     | (clear tok1; refine nx_ 25 S rfl rfl Try.zeroValue25 ?_; clear S; intro rc w S))
 refine (new_any A n c _ (bys_on HB.out S.out.below) HN.out).mono ?_
 rintro e w1 ⟨gc, rfl, hg, hc, b⟩
 replace S := Lib.hid (S.out.newCur hc hg b)
 clear hc hg b
 go_wp2_with fail
 refine (dAnyH_any gc A n c _ (S.out.curA 0 rfl HB.out HN.out)).mono ?_
 rintro e w ⟨x, B, d, F, rfl, hl, ho, hf, hc9, hg9⟩
 have HL := Lib.hid hl
 replace S : Hid (Sep noX w0 [ow (jS B x.st.length d) x.st F, cuI gc A n c, bx rc #[jI jZ 0, jI jZ 0, jI jZ 0] 25, bx rh #[jI jZ 0, jI jZ 0, jI jZ 0, jI jZ 0, jI jZ 0, jI jZ 0, jI jZ 0, jI jZ 0, jI jZ 0, jI jZ 0, jI jZ 0, jS none 0 0, jI jZ 0, jI jZ 0, jI jZ 0, jI jZ 0] 31] w) := Lib.hid (S.out.drawnGainA 0 rfl hc9 hg9 (ow (jS B x.st.length d) x.st F) ho hf)
 unfold hdV
 clear hl ho hf hc9 hg9
 have tok5 : True := trivial
 go_wp2_with (first
     | go_skip
     | (have _t := tok5; clear _t; refine wpList_op rfl (op_nx 31 rfl S.out _ Try.zeroValue31 ?_); clear S tok5; intro g5 w S; replace S := Lib.hid S; simp only [Act.put, sa_, sb_, sc_])
     | (refine wpList_op rfl (op_putR_0 31 _ _ rfl S rfl _ rfl rfl (by kernel_rfl) rfl ?_); clear S; intro w S; simp only [Act.put]))
 refine (once_any gc A n c 2 _ (S.out.curA 2 rfl HB.out HN.out)).mono ?_
 rintro e w ⟨bb, rfl, hc9, hg9⟩
 replace S : Hid (Sep noX w0 [bx g5 #[jI jZ x.pos, jI jZ x.cc, jI jZ x.ck, jI jZ x.cv, jI jZ x.cur, jI jZ x.want, jI jZ x.key, jI jZ x.kid, jI jZ x.old, jI jZ x.next, jI jZ x.new, jS B x.st.length d, jI jZ x.thn, jI jZ x.beg, jI jZ x.rep, jI jZ x.out] 31, ow (jS B x.st.length d) x.st F, cuI gc A n c, bx rc #[jI jZ 0, jI jZ 0, jI jZ 0] 25, bx rh #[jI jZ 0, jI jZ 0, jI jZ 0, jI jZ 0, jI jZ 0, jI jZ 0, jI jZ 0, jI jZ 0, jI jZ 0, jI jZ 0, jI jZ 0, jS none 0 0, jI jZ 0, jI jZ 0, jI jZ 0, jI jZ 0] 31] w) := Lib.hid (S.out.drawnA 2 rfl hc9 hg9)
 clear hc9 hg9
 cases bb
 · go_wp2_with fail
   refine wp_region_ev (by kernel_rfl) _ (by kernel_rfl) (by kernel_rfl) 18 rfl (by kernel_rfl) (fun D V w => ∃ z1 : Int, ∃ z2 : Int, ∃ z3 : Int, Sep noX w0 [bx g5 #[jI jZ x.pos, jI jZ x.cc, jI jZ x.ck, jI jZ x.cv, jI jZ x.cur, jI jZ x.want, jI jZ x.key, jI jZ x.kid, jI jZ x.old, jI jZ x.next, jI jZ x.new, jS B x.st.length d, jI jZ x.thn, jI jZ x.beg, jI jZ x.rep, jI jZ x.out] 31, ow (jS B x.st.length d) x.st F, cuI gc A n c, cnd (D 4) (bx rc #[jI jZ 0, jI jZ 0, jI jZ 0] 25) (bx rc #[jI jZ z1, jI jZ z2, jI jZ z3] 25), cnd (D 3) (bx rh #[jI jZ 0, jI jZ 0, jI jZ 0, jI jZ 0, jI jZ 0, jI jZ 0, jI jZ 0, jI jZ 0, jI jZ 0, jI jZ 0, jI jZ 0, jS none 0 0, jI jZ 0, jI jZ 0, jI jZ 0, jI jZ 0] 31) (bx rh #[jI jZ x.pos, jI jZ x.cc, jI jZ x.ck, jI jZ x.cv, jI jZ x.cur, jI jZ x.want, jI jZ x.key, jI jZ x.kid, jI jZ x.old, jI jZ x.next, jI jZ x.new, jS B x.st.length d, jI jZ x.thn, jI jZ x.beg, jI jZ x.rep, jI jZ x.out] 31)] w ∧ (D 0 = true → V 0 = .agg #[jI jZ x.pos, jI jZ x.cc, jI jZ x.ck, jI jZ x.cv, jI jZ x.cur, jI jZ x.want, jI jZ x.key, jI jZ x.kid, jI jZ x.old, jI jZ x.next, jI jZ x.new, jS B x.st.length d, jI jZ x.thn, jI jZ x.beg, jI jZ x.rep, jI jZ x.out]) ∧ (D 1 = true → V 1 = .pointer (some ⟨gc, 0, none⟩)) ∧ (D 2 = true → V 2 = .agg #[jI jZ z1, jI jZ z2, jI jZ z3]) ∧ (D 4 = true → D 2 = true)) ?_ ?_ ?_
   · intro D hD
     have d3 := hD 3 (by decide)
     have d4 := hD 4 (by decide)
     exact ⟨0, 0, 0, by rw [cnd_f d4, cnd_f d3]; exact S.out.drew.ems 0, (nof (hD 0 (by decide))), (nof (hD 1 (by decide))), (nof (hD 2 (by decide))), (nof (hD 4 (by decide)))⟩
   · intro i o D V w a ho hI hDi haf hev
     obtain ⟨z1, z2, z3, S, f0, f1, f2, o4_2⟩ := hI
     rcases i with _ | _ | _ | _ | _ | i
     · obtain rfl := inj_ ho
       exact op_row 31 _ rfl S 0 rfl ((hev.old 5 (by kernel_rfl)).trans rfl) Try.isAgg31 (by kernel_rfl) ⟨_, rfl, z1, z2, z3, S, fun _ => rfl, f1, f2, o4_2⟩
     · obtain rfl := inj_ ho
       exact op_move (.inl rfl) ((hev.old 4 (by kernel_rfl)).trans rfl) ⟨_, rfl, z1, z2, z3, S, f0, fun _ => rfl, f2, o4_2⟩
     · obtain rfl := inj_ ho
       have h1 := aft_ haf 1 rfl
       have ns4 := nofb hDi o4_2
       have hx0 := (hev.at_ 1 16 rfl rfl h1 f1)
       refine op_call _ _ _ rfl (enters_of Try.func33 (by kernel_rfl) rfl) #[.pointer (some ⟨gc, 0, none⟩)] (by simp [hx0]) (dAnyC_any gc A n c w (S.curA 2 rfl HB.out HN.out)) (fun e w2 hh => ?_)
       obtain ⟨y1, y2, y3, rfl, hc9, hg9⟩ := hh
       exact ⟨_, rfl, ⟨_, rfl, y1, y2, y3, (by have SS := (S.drawnA 2 rfl hc9 hg9); rw [cnd_f ns4] at SS; rw [show updB D 2 4 = false from ns4]; exact SS), f0, f1, fun _ => rfl, fun _ => rfl⟩⟩
     · obtain rfl := inj_ ho
       have h0 := aft_ haf 0 rfl
       exact op_putR 31 _ _ rfl S 4 (g := rh) (C := #[jI jZ 0, jI jZ 0, jI jZ 0, jI jZ 0, jI jZ 0, jI jZ 0, jI jZ 0, jI jZ 0, jI jZ 0, jI jZ 0, jI jZ 0, jS none 0 0, jI jZ 0, jI jZ 0, jI jZ 0, jI jZ 0]) (t := 31) (by simp only [gs_, gz_, cnd_f hDi]) ((hev.old 2 (by kernel_rfl)).trans rfl) _ (hev.at_ 0 15 rfl rfl h0 f0) rfl (by kernel_rfl) rfl (fun w S => ⟨_, rfl, z1, z2, z3, S, f0, f1, f2, o4_2⟩)
     · obtain rfl := inj_ ho
       have h2 := aft_ haf 2 rfl
       exact op_putR 25 _ _ rfl S 3 (g := rc) (C := #[jI jZ 0, jI jZ 0, jI jZ 0]) (t := 25) (by simp only [gs_, gz_, cnd_f hDi]) ((hev.old 3 (by kernel_rfl)).trans rfl) _ (hev.at_ 2 17 rfl rfl h2 f2) rfl (by kernel_rfl) rfl (fun w S => ⟨_, rfl, z1, z2, z3, S, f0, f1, f2, fun _ => h2⟩)
     · exact absurd ho (by simp)
   intro V w hI
   obtain ⟨z1, z2, z3, S, f0, f1, f2, o4_2⟩ := hI
   replace S : Hid (Sep noX w0 [bx g5 #[jI jZ x.pos, jI jZ x.cc, jI jZ x.ck, jI jZ x.cv, jI jZ x.cur, jI jZ x.want, jI jZ x.key, jI jZ x.kid, jI jZ x.old, jI jZ x.next, jI jZ x.new, jS B x.st.length d, jI jZ x.thn, jI jZ x.beg, jI jZ x.rep, jI jZ x.out] 31, ow (jS B x.st.length d) x.st F, cuI gc A n c, bx rc #[jI jZ z1, jI jZ z2, jI jZ z3] 25, bx rh #[jI jZ x.pos, jI jZ x.cc, jI jZ x.ck, jI jZ x.cv, jI jZ x.cur, jI jZ x.want, jI jZ x.key, jI jZ x.kid, jI jZ x.old, jI jZ x.next, jI jZ x.new, jS B x.st.length d, jI jZ x.thn, jI jZ x.beg, jI jZ x.rep, jI jZ x.out] 31] w) := Lib.hid S
   simp only [putF, Act.put, sa_, sb_, sc_, f0 rfl, f1 rfl, f2 rfl]
   clear f0 f1 f2 o4_2
   go_wp2_with fail
   exact bodyPost_ret (results_cc rfl _ S.out 4 3 rfl rfl rfl rfl Try.isAgg31 Try.isAgg25 (by kernel_rfl) (by kernel_rfl)) rfl (by obtain ⟨u1, u2, u3⟩ := S.out.ends 1 rfl; exact ⟨x, B, d, F, _, _, _, rfl, HL.out, u1, u2, u3⟩)
 · go_wp2_with fail
   refine (below_any gc A n c 3 _ (S.out.curA 2 rfl HB.out HN.out)).mono ?_
   rintro e w ⟨r1, rfl, _, hc9, hg9⟩
   replace S : Hid (Sep noX w0 [bx g5 #[jI jZ x.pos, jI jZ x.cc, jI jZ x.ck, jI jZ x.cv, jI jZ x.cur, jI jZ x.want, jI jZ x.key, jI jZ x.kid, jI jZ x.old, jI jZ x.next, jI jZ x.new, jS B x.st.length d, jI jZ x.thn, jI jZ x.beg, jI jZ x.rep, jI jZ x.out] 31, ow (jS B x.st.length d) x.st F, cuI gc A n c, bx rc #[jI jZ 0, jI jZ 0, jI jZ 0] 25, bx rh #[jI jZ 0, jI jZ 0, jI jZ 0, jI jZ 0, jI jZ 0, jI jZ 0, jI jZ 0, jI jZ 0, jI jZ 0, jI jZ 0, jI jZ 0, jS none 0 0, jI jZ 0, jI jZ 0, jI jZ 0, jI jZ 0] 31] w) := Lib.hid (S.out.drawnA 2 rfl hc9 hg9)
   clear hc9 hg9
   go_wp2_with fail
   refine (sResting_any r1 0 _).mono ?_
   rintro e w ⟨B2, d2, F2, rfl, ho, hf, b⟩
   have hl2 : (restH r1 0).st.length ≤ 8 := Nat.zero_le _
   generalize restH r1 0 = y at *
   have HL2 := Lib.hid hl2
   replace S : Hid (Sep noX w0 [ow (jS B2 y.st.length d2) y.st F2, bx g5 #[jI jZ x.pos, jI jZ x.cc, jI jZ x.ck, jI jZ x.cv, jI jZ x.cur, jI jZ x.want, jI jZ x.key, jI jZ x.kid, jI jZ x.old, jI jZ x.next, jI jZ x.new, jS B x.st.length d, jI jZ x.thn, jI jZ x.beg, jI jZ x.rep, jI jZ x.out] 31, ow (jS B x.st.length d) x.st F, cuI gc A n c, bx rc #[jI jZ 0, jI jZ 0, jI jZ 0] 25, bx rh #[jI jZ 0, jI jZ 0, jI jZ 0, jI jZ 0, jI jZ 0, jI jZ 0, jI jZ 0, jI jZ 0, jI jZ 0, jI jZ 0, jI jZ 0, jS none 0 0, jI jZ 0, jI jZ 0, jI jZ 0, jI jZ 0] 31] w) := Lib.hid (S.out.own b ho hf)
   unfold hdV
   clear hl2 ho hf b
   go_wp2_with (first
       | go_skip
       | (refine wpList_op rfl (op_putR_1 31 _ _ rfl S rfl _ rfl rfl (by kernel_rfl) rfl ?_); clear S; intro w S))
   replace S : Hid (Sep noX w0 [bx g5 #[jI jZ y.pos, jI jZ y.cc, jI jZ y.ck, jI jZ y.cv, jI jZ y.cur, jI jZ y.want, jI jZ y.key, jI jZ y.kid, jI jZ y.old, jI jZ y.next, jI jZ y.new, jS B2 y.st.length d2, jI jZ y.thn, jI jZ y.beg, jI jZ y.rep, jI jZ y.out] 31, ow (jS B2 y.st.length d2) y.st F2, cuI gc A n c, bx rc #[jI jZ 0, jI jZ 0, jI jZ 0] 25, bx rh #[jI jZ 0, jI jZ 0, jI jZ 0, jI jZ 0, jI jZ 0, jI jZ 0, jI jZ 0, jI jZ 0, jI jZ 0, jI jZ 0, jI jZ 0, jS none 0 0, jI jZ 0, jI jZ 0, jI jZ 0, jI jZ 0] 31] w) := by
     have h1 := (S.out.drop (L' := [ow (jS B2 y.st.length d2) y.st F2, bx g5 #[jI jZ y.pos, jI jZ y.cc, jI jZ y.ck, jI jZ y.cv, jI jZ y.cur, jI jZ y.want, jI jZ y.key, jI jZ y.kid, jI jZ y.old, jI jZ y.next, jI jZ y.new, jS B2 y.st.length d2, jI jZ y.thn, jI jZ y.beg, jI jZ y.rep, jI jZ y.out] 31, cuI gc A n c, bx rc #[jI jZ 0, jI jZ 0, jI jZ 0] 25, bx rh #[jI jZ 0, jI jZ 0, jI jZ 0, jI jZ 0, jI jZ 0, jI jZ 0, jI jZ 0, jI jZ 0, jI jZ 0, jI jZ 0, jI jZ 0, jS none 0 0, jI jZ 0, jI jZ 0, jI jZ 0, jI jZ 0] 31]) (by exact List.Sublist.cons_cons _ (List.Sublist.cons_cons _ (List.Sublist.cons _ (List.Sublist.refl _)))))
     exact Lib.hid (h1.perm (List.Perm.swap _ _ _))
   refine wp_region_ev (by kernel_rfl) _ (by kernel_rfl) (by kernel_rfl) 18 rfl (by kernel_rfl) (fun D V w => ∃ z1 : Int, ∃ z2 : Int, ∃ z3 : Int, Sep noX w0 [bx g5 #[jI jZ y.pos, jI jZ y.cc, jI jZ y.ck, jI jZ y.cv, jI jZ y.cur, jI jZ y.want, jI jZ y.key, jI jZ y.kid, jI jZ y.old, jI jZ y.next, jI jZ y.new, jS B2 y.st.length d2, jI jZ y.thn, jI jZ y.beg, jI jZ y.rep, jI jZ y.out] 31, ow (jS B2 y.st.length d2) y.st F2, cuI gc A n c, cnd (D 4) (bx rc #[jI jZ 0, jI jZ 0, jI jZ 0] 25) (bx rc #[jI jZ z1, jI jZ z2, jI jZ z3] 25), cnd (D 3) (bx rh #[jI jZ 0, jI jZ 0, jI jZ 0, jI jZ 0, jI jZ 0, jI jZ 0, jI jZ 0, jI jZ 0, jI jZ 0, jI jZ 0, jI jZ 0, jS none 0 0, jI jZ 0, jI jZ 0, jI jZ 0, jI jZ 0] 31) (bx rh #[jI jZ y.pos, jI jZ y.cc, jI jZ y.ck, jI jZ y.cv, jI jZ y.cur, jI jZ y.want, jI jZ y.key, jI jZ y.kid, jI jZ y.old, jI jZ y.next, jI jZ y.new, jS B2 y.st.length d2, jI jZ y.thn, jI jZ y.beg, jI jZ y.rep, jI jZ y.out] 31)] w ∧ (D 0 = true → V 0 = .agg #[jI jZ y.pos, jI jZ y.cc, jI jZ y.ck, jI jZ y.cv, jI jZ y.cur, jI jZ y.want, jI jZ y.key, jI jZ y.kid, jI jZ y.old, jI jZ y.next, jI jZ y.new, jS B2 y.st.length d2, jI jZ y.thn, jI jZ y.beg, jI jZ y.rep, jI jZ y.out]) ∧ (D 1 = true → V 1 = .pointer (some ⟨gc, 0, none⟩)) ∧ (D 2 = true → V 2 = .agg #[jI jZ z1, jI jZ z2, jI jZ z3]) ∧ (D 4 = true → D 2 = true)) ?_ ?_ ?_
   · intro D hD
     have d3 := hD 3 (by decide)
     have d4 := hD 4 (by decide)
     exact ⟨0, 0, 0, by rw [cnd_f d4, cnd_f d3]; exact S.out.drew.ems 0, (nof (hD 0 (by decide))), (nof (hD 1 (by decide))), (nof (hD 2 (by decide))), (nof (hD 4 (by decide)))⟩
   · intro i o D V w a ho hI hDi haf hev
     obtain ⟨z1, z2, z3, S, f0, f1, f2, o4_2⟩ := hI
     rcases i with _ | _ | _ | _ | _ | i
     · obtain rfl := inj_ ho
       exact op_row 31 _ rfl S 0 rfl ((hev.old 5 (by kernel_rfl)).trans rfl) Try.isAgg31 (by kernel_rfl) ⟨_, rfl, z1, z2, z3, S, fun _ => rfl, f1, f2, o4_2⟩
     · obtain rfl := inj_ ho
       exact op_move (.inl rfl) ((hev.old 4 (by kernel_rfl)).trans rfl) ⟨_, rfl, z1, z2, z3, S, f0, fun _ => rfl, f2, o4_2⟩
     · obtain rfl := inj_ ho
       have h1 := aft_ haf 1 rfl
       have ns4 := nofb hDi o4_2
       have hx0 := (hev.at_ 1 16 rfl rfl h1 f1)
       refine op_call _ _ _ rfl (enters_of Try.func33 (by kernel_rfl) rfl) #[.pointer (some ⟨gc, 0, none⟩)] (by simp [hx0]) (dAnyC_any gc A n c w (S.curA 2 rfl HB.out HN.out)) (fun e w2 hh => ?_)
       obtain ⟨y1, y2, y3, rfl, hc9, hg9⟩ := hh
       exact ⟨_, rfl, ⟨_, rfl, y1, y2, y3, (by have SS := (S.drawnA 2 rfl hc9 hg9); rw [cnd_f ns4] at SS; rw [show updB D 2 4 = false from ns4]; exact SS), f0, f1, fun _ => rfl, fun _ => rfl⟩⟩
     · obtain rfl := inj_ ho
       have h0 := aft_ haf 0 rfl
       exact op_putR 31 _ _ rfl S 4 (g := rh) (C := #[jI jZ 0, jI jZ 0, jI jZ 0, jI jZ 0, jI jZ 0, jI jZ 0, jI jZ 0, jI jZ 0, jI jZ 0, jI jZ 0, jI jZ 0, jS none 0 0, jI jZ 0, jI jZ 0, jI jZ 0, jI jZ 0]) (t := 31) (by simp only [gs_, gz_, cnd_f hDi]) ((hev.old 2 (by kernel_rfl)).trans rfl) _ (hev.at_ 0 15 rfl rfl h0 f0) rfl (by kernel_rfl) rfl (fun w S => ⟨_, rfl, z1, z2, z3, S, f0, f1, f2, o4_2⟩)
     · obtain rfl := inj_ ho
       have h2 := aft_ haf 2 rfl
       exact op_putR 25 _ _ rfl S 3 (g := rc) (C := #[jI jZ 0, jI jZ 0, jI jZ 0]) (t := 25) (by simp only [gs_, gz_, cnd_f hDi]) ((hev.old 3 (by kernel_rfl)).trans rfl) _ (hev.at_ 2 17 rfl rfl h2 f2) rfl (by kernel_rfl) rfl (fun w S => ⟨_, rfl, z1, z2, z3, S, f0, f1, f2, fun _ => h2⟩)
     · exact absurd ho (by simp)
   intro V w hI
   obtain ⟨z1, z2, z3, S, f0, f1, f2, o4_2⟩ := hI
   replace S : Hid (Sep noX w0 [bx g5 #[jI jZ y.pos, jI jZ y.cc, jI jZ y.ck, jI jZ y.cv, jI jZ y.cur, jI jZ y.want, jI jZ y.key, jI jZ y.kid, jI jZ y.old, jI jZ y.next, jI jZ y.new, jS B2 y.st.length d2, jI jZ y.thn, jI jZ y.beg, jI jZ y.rep, jI jZ y.out] 31, ow (jS B2 y.st.length d2) y.st F2, cuI gc A n c, bx rc #[jI jZ z1, jI jZ z2, jI jZ z3] 25, bx rh #[jI jZ y.pos, jI jZ y.cc, jI jZ y.ck, jI jZ y.cv, jI jZ y.cur, jI jZ y.want, jI jZ y.key, jI jZ y.kid, jI jZ y.old, jI jZ y.next, jI jZ y.new, jS B2 y.st.length d2, jI jZ y.thn, jI jZ y.beg, jI jZ y.rep, jI jZ y.out] 31] w) := Lib.hid S
   simp only [putF, Act.put, sa_, sb_, sc_, f0 rfl, f1 rfl, f2 rfl]
   clear f0 f1 f2 o4_2
   go_wp2_with fail
   exact bodyPost_ret (results_cc rfl _ S.out 4 3 rfl rfl rfl rfl Try.isAgg31 Try.isAgg25 (by kernel_rfl) (by kernel_rfl)) rfl (by obtain ⟨u1, u2, u3⟩ := S.out.ends 1 rfl; exact ⟨y, B2, d2, F2, _, _, _, rfl, HL2.out, u1, u2, u3⟩)
end Go.Proofs.Ytjookicpmjmdhaa
namespace Go.Proofs.Ytjookicpmjmdhaa
open Go.RowKit

theorem likeI_yes (A B : Option Addr) (n c d : Nat) (zs : List Int) (w : World) (h : RS w w.heap.size A n zs) (h' : RS w w.heap.size B n zs) (hn : n ≤ 1048576) :
   Calls Try.prog 49 #[jS A n c, jS B n d] w fun e w' => e = .returned (.bool true) ∧ Below w.heap.size w w' := by
 have HH := Lib.hid h
 have HH' := Lib.hid h'
 clear h h'
 go_enter Try.func49, Try.ntmps49
 go_wp2
 go_loopw [5] (fun i wr => ∃ k : Nat, i = jI jZ k ∧ k ≤ n ∧ Hid (Below w.heap.size w wr)) (fun i _ => n - (intOf i).toNat)
 case atStart => exact ⟨0, rfl, by omega, Lib.hid (Below.refl _ _)⟩
 case round =>
   obtain ⟨k, rfl, hk, hbw⟩ := hrel
   by_cases hlt : k < n
   · obtain ⟨b, off, rfl, hb, hc⟩ := HH.out.ints (by omega)
     obtain ⟨b', off', rfl, hb', hc'⟩ := HH'.out.ints (by omega)
     have c1 := Later.of_cell (hc k hlt) hbw.out hb
     have c3 := Later.of_cell (hc' k hlt) hbw.out hb'
     clear hc hc'
     go_wp2
     refine wp_region_later (by kernel_rfl) (by kernel_rfl) ?_
     repeat (go_big_quiet_step (fail))
     refine wpQuiet_nil ?_
     intro _ hw'
     obtain ⟨s, rfl⟩ := hw'
     go_wp2
     go_roundw
     case rel => exact ⟨k + 1, by go_num, by omega, Lib.hid (s.below_of hbw.out)⟩
     case measure => simp [intOf]; omega
   · go_wp2
     go_ret
     exact ⟨rfl, hbw.out⟩

end Go.Proofs.Ytjookicpmjmdhaa
