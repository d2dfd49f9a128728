/- The draws DrawTreeOk, DrawRowOf, walked; a row's links. (Made by genDt.py.) -/
import Derived.Test.YtpffkhjegpddbaaGreatV47
import Derived.Test.YtpffkhjegpddbaaGreatV25
import Derived.Test.YtpffkhjegpddbaaGreatV18
import Derived.Test.YtpffkhjegpddbaaGreatV23
open Go.Value renaming int → jI, slice → jS
open Go.IntKind renaming i64 → jZ
namespace Go.Proofs.YtpffkhjegpddbaaGreat
open Go.RowKit

def DrawnTI (w : World) (e : Ending) (w' : World) : Prop :=
 ∃ (r : Int) (xs : List Nd) (A0 : Option Addr) (c0 : Nat) (F : FP) (z : Int), e = .returned (.tuple #[.agg #[jI jZ r, jS A0 xs.length c0], jI jZ z]) ∧ Small.sm xs ∧ OwnS w' (jS A0 xs.length c0) xs F ∧ Fresh F w w' ∧ Below w.heap.size w w'
end Go.Proofs.YtpffkhjegpddbaaGreat
namespace Go.Proofs.YtpffkhjegpddbaaGreat
open Go.RowKit

theorem fromL_any (g : Nat) (A : Option Addr) (n c : Nat) (m : Nat) (hm : m ≤ 1048576) (w0 : World) (hC : Cur w0 g A n c) :
   Calls Tryz.prog 18 #[.pointer (some ⟨g, 0, none⟩), jI jZ (-1), jI jZ (m : Int)] w0 (Drawn g A n c (fun r => -1 ≤ r ∧ r ≤ 1048576) w0) := by
 have HC := Lib.hid hC
 clear hC
 go_enter Tryz.func18, Tryz.ntmps18
 go_wp2_with fail
 have e1 : (m : Int) - -1 + 1 = ((m + 2 : Nat) : Int) := by omega
 refine (below_any g A n c _ _ HC.out).mono ?_
 rintro e w ⟨r9, rfl, hp, hc9, hg9⟩
 have h9 : 0 ≤ r9 ∧ r9 < m + 2 := by
   have h1 := hp.2 (by omega)
   omega
 have HC9 := Lib.hid hc9
 have HG9 := Lib.hid hg9
 clear hc9 hg9 hp e1
 obtain ⟨h91, h92⟩ := h9
 go_wp2_with fail
 go_ret
 exact ⟨_, rfl, ⟨by omega, by omega⟩, HC9.out, HG9.out⟩
def DrawnTII (w : World) (e : Ending) (w' : World) : Prop :=
 ∃ (r : Int) (xs : List Nd) (A0 : Option Addr) (c0 : Nat) (F : FP) (z y : Int), e = .returned (.tuple #[.agg #[jI jZ r, jS A0 xs.length c0], jI jZ z, jI jZ y]) ∧ Small.sm xs ∧ OwnS w' (jS A0 xs.length c0) xs F ∧ (-1 ≤ z ∧ z ≤ 1048576) ∧ Fresh F w w' ∧ Below w.heap.size w w'

set_option maxRecDepth 100000 in
set_option maxHeartbeats 16000000 in
theorem dHeld_any (A : Option Addr) (n c : Nat) (w0 : World) (hb : Bys w0 w0.heap.size A n) (hn : n ≤ 4096) :
   Calls Tryz.prog 11 #[jS A n c] w0 (DrawnTI w0) := by
 have HB := Lib.hid hb
 have HN := Lib.hid hn
 clear hb hn
 have S := Lib.hid (Sep.start noX w0)
 have tok0 : True := trivial
 go_enter Tryz.func11, Tryz.ntmps11
 go_wp2_with (first
     | go_skip
     | (clear tok0; refine nx_ 26 S rfl rfl Tryz.zeroValue26 ?_; clear S; intro r1 w S))
 refine (new_any A n c _ (bys_on HB.out S.out.below) HN.out).mono ?_
 rintro e w1 ⟨gc, rfl, hg, hc, b⟩
 replace S := Lib.hid (S.out.newCur hc hg b)
 clear hc hg b
 go_wp2_with fail
 refine (drawT_any gc A n c _ (S.out.curA 0 rfl HB.out HN.out)).mono ?_
 rintro e w2 ⟨r, xs, A0, c0, F, rfl, hsm, ho, hf, hc, hgr⟩
 have HSM := Lib.hid hsm
 replace S : Hid (Sep noX w0 [ow (jS A0 xs.length c0) xs F, cuI gc A n c, bx r1 #[jI jZ 0, jS none 0 0] 26] w2) := Lib.hid (S.out.drawnGainA 0 rfl hc hgr (ow (jS A0 xs.length c0) xs F) ho hf)
 clear hsm ho hf hc hgr
 have tokA : True := trivial
 go_wp2_with (first
     | go_skip
     | (clear tokA; refine nx_ 26 S rfl rfl Tryz.zeroValue26 ?_; clear S; intro g5 w S)
     | (refine wpList_op rfl (op_putR_0 26 _ _ rfl S rfl _ rfl rfl (by kernel_rfl) rfl ?_); clear S; intro w S))
 refine wp_region_ev (by kernel_rfl) _ (by kernel_rfl) (by kernel_rfl) 13 rfl (by kernel_rfl) (fun D V w => ∃ z9 : Int, Sep noX w0 [bx g5 #[jI jZ r, jS A0 xs.length c0] 26, ow (jS A0 xs.length c0) xs F, cuI gc A n c, cnd (D 3) (bx r1 #[jI jZ 0, jS none 0 0] 26) (bx r1 #[jI jZ r, jS A0 xs.length c0] 26)] w ∧ (D 0 = true → V 0 = .agg #[jI jZ r, jS A0 xs.length c0]) ∧ (D 1 = true → V 1 = .pointer (some ⟨gc, 0, none⟩)) ∧ (D 2 = true → V 2 = jI jZ z9) ∧ (D 4 = true → V 4 = jI jZ z9) ∧ (D 4 = true → D 2 = true)) ?_ ?_ ?_
 · intro D hD
   have d3 := hD 3 (by decide)
   exact ⟨0, by rw [cnd_f d3]; exact S.out.drew.ems 0, (nof (hD 0 (by decide))), (nof (hD 1 (by decide))), (nof (hD 2 (by decide))), (nof (hD 4 (by decide))), (nof (hD 4 (by decide)))⟩
 · intro i o D V w a ho hI hDi haf hev
   obtain ⟨z9, S, f0, f1, f2, f4, o4_2⟩ := hI
   rcases i with _ | _ | _ | _ | _ | i
   · obtain rfl := inj_ ho
     exact op_row 26 _ rfl S 0 rfl ((hev.old 5 (by kernel_rfl)).trans rfl) Tryz.isAgg26 (by kernel_rfl) ⟨_, rfl, z9, S, fun _ => rfl, f1, f2, f4, o4_2⟩
   · obtain rfl := inj_ ho
     exact op_move (.inl rfl) ((hev.old 4 (by kernel_rfl)).trans rfl) ⟨_, rfl, z9, S, f0, fun _ => rfl, f2, f4, o4_2⟩
   · obtain rfl := inj_ ho
     have h1 := aft_ haf 1 rfl
     have hx0 := (hev.at_ 1 11 rfl rfl h1 f1)
     refine op_call _ _ _ rfl (enters_of Tryz.func18 (by kernel_rfl) rfl) #[.pointer (some ⟨gc, 0, none⟩), jI jZ (-1), jI jZ 6] (by simp [hx0, eval_const]) (from_any gc A n c (-1) 6 w (S.curA 2 rfl HB.out HN.out)) (fun e w2 hh => ?_)
     obtain ⟨z, rfl, _, hc9, hg9⟩ := hh
     have S2 := S.drawnA 2 rfl hc9 hg9
     exact ⟨_, rfl, ⟨_, rfl, z, S2, f0, f1, fun _ => rfl, (fun h => nof hDi (o4_2 h)), fun _ => rfl⟩⟩
   · obtain rfl := inj_ ho
     have h0 := aft_ haf 0 rfl
     exact op_putR 26 _ _ rfl S 3 (g := r1) (C := #[jI jZ 0, jS none 0 0]) (t := 26) (by simp only [gs_, gz_, cnd_f hDi]) ((hev.old 2 (by kernel_rfl)).trans rfl) _ (hev.at_ 0 10 rfl rfl h0 f0) rfl (by kernel_rfl) rfl (fun w S => ⟨_, rfl, z9, S, f0, f1, f2, f4, o4_2⟩)
   · obtain rfl := inj_ ho
     have h2 := aft_ haf 2 rfl
     exact op_move (.inr rfl) (hev.at_ 2 12 rfl rfl h2 f2) ⟨_, rfl, z9, S, f0, f1, f2, fun _ => rfl, fun _ => h2⟩
   · exact absurd ho (by simp)
 intro V w hI
 obtain ⟨z9, S, f0, f1, f2, f4, o4_2⟩ := hI
 replace S : Hid (Sep noX w0 [bx g5 #[jI jZ r, jS A0 xs.length c0] 26, ow (jS A0 xs.length c0) xs F, cuI gc A n c, bx r1 #[jI jZ r, jS A0 xs.length c0] 26] w) := Lib.hid S
 simp only [putF, Act.put, sa_, sb_, sc_, f0 rfl, f1 rfl, f2 rfl, f4 rfl]
 clear f0 f1 f2 f4 o4_2
 go_wp2_with fail
 exact bodyPost_ret (results_cs rfl _ S.out 3 rfl rfl Tryz.isAgg26 (by kernel_rfl)) rfl (by obtain ⟨u1, u2, u3⟩ := S.out.ends 1 rfl; exact ⟨r, xs, A0, c0, F, _, rfl, HSM.out, u1, u2, u3⟩)
theorem Sep.drawnTII {w0 w : World} {L : List Item} (h : Sep noX w0 L w) (p : Nat) {r z y : Int} {xs : List Nd} {A0 : Option Addr} {c0 m : Nat} {F : FP} (e : L[p]? = some (ow (jS A0 m c0) xs F)) (hm : xs.length = m) (hs : Small.sm xs) (hz : -1 ≤ z ∧ z ≤ 1048576) :
   DrawnTII w0 (.returned (.tuple #[.agg #[jI jZ r, jS A0 m c0], jI jZ z, jI jZ y])) w := by
 subst hm
 obtain ⟨u1, u2, u3⟩ := h.ends p e
 exact ⟨r, xs, A0, c0, F, z, y, rfl, hs, u1, hz, u2, u3⟩
theorem results_css {P : Program} {X : FP} {w0 w : World} {L : List Item} {fn : Func} {p u v : Tmp} {t1 : TypeId} (hf : fn.results = #[.cell p t1, .tmp u, .tmp v]) (tmps : Array Value) (h : Sep X w0 L w) (i : Nat) {g1 : Nat} {C1 : Array Value} {T1 : TypeId}
   (e1 : L[i]? = some (bx g1 C1 T1)) (hp : tmps.getD p undef = .pointer (some ⟨g1, 0, none⟩)) (hu1 : ∀ w, (isAgg t1).run P w = .ok true w) (hi1 : (P.info? t1).map (·.size) = some C1.size) :
   (results fn tmps).run P w = .ok (.tuple #[.agg C1, tmps.getD u undef, tmps.getD v undef]) w := by
 have hp' : tmps[p]?.getD undef = .pointer (some ⟨g1, 0, none⟩) := by simpa using hp
 simp [results, hf, hp', asAddr, run_box t1 h i e1 hu1 hi1]
set_option maxRecDepth 100000 in
set_option maxHeartbeats 16000000 in
theorem dLatched_any (A : Option Addr) (n c : Nat) (w0 : World) (hb : Bys w0 w0.heap.size A n) (hn : n ≤ 4096) :
   Calls Tryz.prog 5 #[jS A n c] w0 (DrawnTII w0) := by
 have HB := Lib.hid hb
 have HN := Lib.hid hn
 clear hb hn
 have S := Lib.hid (Sep.start noX w0)
 have tok0 : True := trivial
 go_enter Tryz.func5, Tryz.ntmps5
 go_wp2_with (first
     | go_skip
     | (clear tok0; refine nx_ 26 S rfl rfl Tryz.zeroValue26 ?_; clear S; intro r1 w S))
 refine (new_any A n c _ (bys_on HB.out S.out.below) HN.out).mono ?_
 rintro e w1 ⟨gc, rfl, hg, hc, b⟩
 replace S := Lib.hid (S.out.newCur hc hg b)
 clear hc hg b
 go_wp2_with fail
 refine (drawT_any gc A n c _ (S.out.curA 0 rfl HB.out HN.out)).mono ?_
 rintro e w2 ⟨r, xs, A0, c0, F, rfl, hsm, ho, hf, hc, hgr⟩
 have HSM := Lib.hid hsm
 replace S : Hid (Sep noX w0 [ow (jS A0 xs.length c0) xs F, cuI gc A n c, bx r1 #[jI jZ 0, jS none 0 0] 26] w2) := Lib.hid (S.out.drawnGainA 0 rfl hc hgr (ow (jS A0 xs.length c0) xs F) ho hf)
 clear hsm ho hf hc hgr
 have tokA : True := trivial
 go_wp2_with (first
     | go_skip
     | (have _t := tokA; clear _t; refine wpList_op rfl (op_nx 26 rfl S.out _ Tryz.zeroValue26 ?_); clear S tokA; intro g6 w S; replace S := Lib.hid S; simp only [Act.put, sa_, sb_, sc_])
     | (refine wpList_op rfl (op_putR_0 26 _ _ rfl S rfl _ rfl rfl (by kernel_rfl) rfl ?_); clear S; intro w S; simp only [Act.put])
     | (refine wpList_op rfl (op_get 24 _ rfl S.out 0 rfl _ rfl Tryz.isAgg24 _ rfl ?_); simp only [Act.put, sa_, sb_, sc_]))
 refine (fromL_any gc A n c xs.length (HSM.out.1) _ (S.out.curA 2 rfl HB.out HN.out)).mono ?_
 rintro e w9 ⟨at_, rfl, hat, hc9, hg9⟩
 have HAT := Lib.hid hat
 replace S := Lib.hid (S.out.drawnA 2 rfl hc9 hg9)
 clear hc9 hg9 hat
 go_wp2_with fail
 refine wp_region_ev (by kernel_rfl) _ (by kernel_rfl) (by kernel_rfl) 21 rfl (by kernel_rfl) (fun D V w => ∃ z9 : Int, Sep noX w0 [bx g6 #[jI jZ r, jS A0 xs.length c0] 26, ow (jS A0 xs.length c0) xs F, cuI gc A n c, cnd (D 4) (bx r1 #[jI jZ 0, jS none 0 0] 26) (bx r1 #[jI jZ r, jS A0 xs.length c0] 26)] w ∧ (D 0 = true → V 0 = .agg #[jI jZ r, jS A0 xs.length c0]) ∧ (D 1 = true → V 1 = jI jZ at_) ∧ (D 2 = true → V 2 = .pointer (some ⟨gc, 0, none⟩)) ∧ (D 3 = true → V 3 = jI jZ z9) ∧ (D 5 = true → V 5 = jI jZ at_) ∧ (D 6 = true → V 6 = jI jZ z9) ∧ (D 6 = true → D 3 = true)) ?_ ?_ ?_
 · intro D hD
   have d4 := hD 4 (by decide)
   exact ⟨0, by rw [cnd_f d4]; exact S.out.drew.ems 0, (nof (hD 0 (by decide))), (nof (hD 1 (by decide))), (nof (hD 2 (by decide))), (nof (hD 3 (by decide))), (nof (hD 5 (by decide))), (nof (hD 6 (by decide))), (nof (hD 6 (by decide)))⟩
 · intro i o D V w a ho hI hDi haf hev
   obtain ⟨z9, S, f0, f1, f2, f3, f5, f6, o6_3⟩ := hI
   rcases i with _ | _ | _ | _ | _ | _ | _ | i
   · obtain rfl := inj_ ho
     exact op_row 26 _ rfl S 0 rfl ((hev.old 6 (by kernel_rfl)).trans rfl) Tryz.isAgg26 (by kernel_rfl) ⟨_, rfl, z9, S, fun _ => rfl, f1, f2, f3, f5, f6, o6_3⟩
   · obtain rfl := inj_ ho
     exact op_move (.inl rfl) ((hev.old 7 (by kernel_rfl)).trans rfl) ⟨_, rfl, z9, S, f0, fun _ => rfl, f2, f3, f5, f6, o6_3⟩
   · obtain rfl := inj_ ho
     exact op_move (.inl rfl) ((hev.old 5 (by kernel_rfl)).trans rfl) ⟨_, rfl, z9, S, f0, f1, fun _ => rfl, f3, f5, f6, o6_3⟩
   · obtain rfl := inj_ ho
     have h2 := aft_ haf 2 rfl
     have hx0 := (hev.at_ 2 19 rfl rfl h2 f2)
     refine op_call _ _ _ rfl (enters_of Tryz.func18 (by kernel_rfl) rfl) #[.pointer (some ⟨gc, 0, none⟩), jI jZ (-1), jI jZ 6] (by simp [hx0, eval_const]) (from_any gc A n c (-1) 6 w (S.curA 2 rfl HB.out HN.out)) (fun e w2 hh => ?_)
     obtain ⟨z, rfl, _, hc9, hg9⟩ := hh
     have S2 := S.drawnA 2 rfl hc9 hg9
     exact ⟨_, rfl, ⟨_, rfl, z, S2, f0, f1, f2, fun _ => rfl, f5, (fun h => nof hDi (o6_3 h)), fun _ => rfl⟩⟩
   · obtain rfl := inj_ ho
     have h0 := aft_ haf 0 rfl
     exact op_putR 26 _ _ rfl S 3 (g := r1) (C := #[jI jZ 0, jS none 0 0]) (t := 26) (by simp only [gs_, gz_, cnd_f hDi]) ((hev.old 2 (by kernel_rfl)).trans rfl) _ (hev.at_ 0 17 rfl rfl h0 f0) rfl (by kernel_rfl) rfl (fun w S => ⟨_, rfl, z9, S, f0, f1, f2, f3, f5, f6, o6_3⟩)
   · obtain rfl := inj_ ho
     have h1 := aft_ haf 1 rfl
     exact op_move (.inr rfl) (hev.at_ 1 18 rfl rfl h1 f1) ⟨_, rfl, z9, S, f0, f1, f2, f3, fun _ => rfl, f6, o6_3⟩
   · obtain rfl := inj_ ho
     have h3 := aft_ haf 3 rfl
     exact op_move (.inr rfl) (hev.at_ 3 20 rfl rfl h3 f3) ⟨_, rfl, z9, S, f0, f1, f2, f3, f5, fun _ => rfl, fun _ => h3⟩
   · exact absurd ho (by simp)
 intro V w hI
 obtain ⟨z9, S, f0, f1, f2, f3, f5, f6, o6_3⟩ := hI
 replace S : Hid (Sep noX w0 [bx g6 #[jI jZ r, jS A0 xs.length c0] 26, ow (jS A0 xs.length c0) xs F, cuI gc A n c, bx r1 #[jI jZ r, jS A0 xs.length c0] 26] w) := Lib.hid S
 simp only [putF, Act.put, sa_, sb_, sc_, f0 rfl, f1 rfl, f2 rfl, f3 rfl, f5 rfl, f6 rfl]
 clear f0 f1 f2 f3 f5 f6 o6_3
 go_wp2_with fail
 exact bodyPost_ret (results_css rfl _ S.out 3 rfl rfl Tryz.isAgg26 (by kernel_rfl)) rfl (by obtain ⟨u1, u2, u3⟩ := S.out.ends 1 rfl; exact ⟨r, xs, A0, c0, F, _, _, rfl, HSM.out, u1, HAT.out, u2, u3⟩)
theorem op_subI {o : Oper} {a : Act} {w : World} {K : Act → World → Prop} {Q : Exit → Act → World → Prop} (x y : Operand) (ho : o.op = .binOp .sub 2 x y 2) {p q : Int} (hx : a.eval x = jI jZ p) (hy : a.eval y = jI jZ q) (hK : K (a.put o.dst (jI jZ (IntKind.i64.wrap (p - q)))) w) : o.wp Tryz.prog a w K Q := by
 refine op_val ?_ hK
 generalize a.eval = E at hx hy ⊢
 simp [execOp, ho, hx, hy, go_sem]
set_option maxRecDepth 100000 in
set_option maxHeartbeats 16000000 in
theorem dFreed_any (A : Option Addr) (n c : Nat) (w0 : World) (hb : Bys w0 w0.heap.size A n) (hn : n ≤ 4096) :
   Calls Tryz.prog 8 #[jS A n c] w0 (DrawnTII w0) := by
 have HB := Lib.hid hb
 have HN := Lib.hid hn
 clear hb hn
 have S := Lib.hid (Sep.start noX w0)
 have tok0 : True := trivial
 go_enter Tryz.func8, Tryz.ntmps8
 go_wp2_with (first
     | go_skip
     | (clear tok0; refine nx_ 26 S rfl rfl Tryz.zeroValue26 ?_; clear S; intro r1 w S))
 refine (new_any A n c _ (bys_on HB.out S.out.below) HN.out).mono ?_
 rintro e w1 ⟨gc, rfl, hg, hc, b⟩
 replace S := Lib.hid (S.out.newCur hc hg b)
 clear hc hg b
 go_wp2_with fail
 refine (dLatched_any A n c _ (bys_on HB.out S.out.below) HN.out).mono ?_
 rintro e w2 ⟨r, xs, A0, c0, F, at_, task, rfl, hsm, ho, hat, hf, b⟩
 generalize hx : xs.length = n0 at *
 have HX := Lib.hid hx
 have HSM := Lib.hid hsm
 have HAT := Lib.hid hat
 have HS0 : Hid (n0 ≤ 1048576) := Lib.hid (by rw [← hx]; exact hsm.1)
 replace S := Lib.hid (S.out.own b ho hf)
 clear ho hf b hx hsm hat
 have tokA : True := trivial
 go_wp2_with (first
     | go_skip
     | (have _t := tokA; clear _t; refine wpList_op rfl (op_nx 26 rfl S.out _ Tryz.zeroValue26 ?_); clear S tokA; intro g6 w S; replace S := Lib.hid S; simp only [Act.put, sa_, sb_, sc_])
     | (refine wpList_op rfl (op_putR_0 26 _ _ rfl S rfl _ rfl rfl (by kernel_rfl) rfl ?_); clear S; intro w S; simp only [Act.put]))
 replace S : Hid (Sep noX w0 [cuI gc A n c, bx g6 #[jI jZ r, jS A0 n0 c0] 26, ow (jS A0 n0 c0) xs F, bx r1 #[jI jZ 0, jS none 0 0] 26] w) := Lib.hid (S.out.perm (List.perm_append_comm (l₁ := [bx g6 #[jI jZ r, jS A0 n0 c0] 26, ow (jS A0 n0 c0) xs F]) (l₂ := [cuI gc A n c]) |>.append_right [bx r1 #[jI jZ 0, jS none 0 0] 26]))
 refine (once_any gc A n c _ _ (S.out.curA 0 rfl HB.out HN.out)).mono ?_
 rintro e w9 ⟨b1, rfl, hc9, hg9⟩
 replace S := Lib.hid (S.out.drawnA 0 rfl hc9 hg9)
 clear hc9 hg9
 cases b1
 · go_wp2_with (first
       | go_skip
       | (refine wpList_op rfl (op_row 26 _ rfl S.out 1 rfl rfl Tryz.isAgg26 (by kernel_rfl) ?_))
       | (refine wpList_op rfl (op_putR_3 26 _ _ rfl S rfl _ rfl rfl (by kernel_rfl) rfl ?_); clear S; intro w S))
   exact bodyPost_ret (results_css rfl _ S.out 3 rfl rfl Tryz.isAgg26 (by kernel_rfl)) rfl (S.out.drawnTII 2 rfl HX.out HSM.out HAT.out)
 · go_wp2_with fail
   go_loopw [9] (fun i wr => ∃ k : Nat, i = jI jZ k ∧ k ≤ n0 ∧ Hid (Sep noX w0 [cuI gc A n c, bx g6 #[jI jZ r, jS A0 n0 c0] 26, ow (jS A0 n0 c0) xs F, bx r1 #[jI jZ 0, jS none 0 0] 26] wr)) (fun i _ => n0 - (intOf i).toNat)
   case atStart => exact ⟨0, rfl, by omega, S⟩
   case round =>
     obtain ⟨k, rfl, hk, S1⟩ := hrel
     clear S
     have S := S1
     clear S1
     have hs0 := HS0.out
     obtain ⟨w, rfl⟩ : ∃ w, w = wr := ⟨_, rfl⟩
     by_cases hlt : k < n0
     · have gt : decide ((k : Int) < (n0 : Int)) = true := by simp; omega
       obtain ⟨bt, ot, hA0, hbt, A9, n9, c9, ⟨x0, x1, x2, x3, x4⟩, _⟩ := (OwnS.rs (S.out.get 2 rfl) HX.out).ndAt k hlt
       have CO : Hid (∀ w, OwnS w (jS A0 n0 c0) xs F → w.cell? ⟨bt, ot + k * 5 + 4, none⟩ = some (jI jZ (ndAt xs k).ow)) := Lib.hid (fun w oo => by
         obtain ⟨b', o', hA', _, _, _, _, ⟨_, _, _, _, y4⟩, _⟩ := (OwnS.rs oo HX.out).ndAt k hlt
         rw [hA0] at hA'
         cases hA'
         exact y4)
       have HA0 := Lib.hid hA0
       clear x0 x1 x2 x3 hA0
       generalize (ndAt xs k).ow = o_ at *
       have r6 : w.heap[g6]? = some (.cells #[jI jZ r, jS A0 n0 c0] 26 (0, 0)) := S.out.get 1 rfl
       have d1 : w.cell? ⟨g6, 1, none⟩ = some (.slice A0 n0 c0) := by rw [cell_of_row _ _ 1 _ _ _ r6]; rfl
       rw [HA0.out] at d1
       clear r6
       by_cases ho : 0 < o_
       · have go : decide (0 < o_) = true := by simpa using ho
         go_wp2_with fail
         clear d1 x4
         refine wp_region_ev (by kernel_rfl) _ (by kernel_rfl) (by kernel_rfl) 46 rfl (by kernel_rfl) (fun D V w => Sep noX w0 [cuI gc A n c, bx g6 #[jI jZ r, jS A0 n0 c0] 26, ow (jS A0 n0 c0) xs F, cnd (D 9) (bx r1 #[jI jZ 0, jS none 0 0] 26) (bx r1 #[jI jZ r, jS A0 n0 c0] 26)] w ∧ (D 0 = true → V 0 = .agg #[jI jZ r, jS A0 n0 c0]) ∧ (D 1 = true → V 1 = jI jZ k) ∧ (D 2 = true → V 2 = .pointer (some ⟨g6, 1, none⟩)) ∧ (D 3 = true → V 3 = jS A0 n0 c0) ∧ (D 4 = true → V 4 = jI jZ k) ∧ (D 5 = true → V 5 = .pointer (some ⟨bt, ot + k * 5, none⟩)) ∧ (D 6 = true → V 6 = .pointer (some ⟨bt, ot + k * 5 + 4, none⟩)) ∧ (D 7 = true → V 7 = jI jZ o_) ∧ (D 8 = true → V 8 = jI jZ (IntKind.i64.wrap (o_ - 1))) ∧ (D 10 = true → V 10 = jI jZ k) ∧ (D 11 = true → V 11 = jI jZ (IntKind.i64.wrap (o_ - 1)))) ?_ ?_ ?_
         · intro D hD
           have d9 := hD 9 (by decide)
           exact ⟨by rw [cnd_f d9]; exact S.out.drew.ems 0, (nof (hD 0 (by decide))), (nof (hD 1 (by decide))), (nof (hD 2 (by decide))), (nof (hD 3 (by decide))), (nof (hD 4 (by decide))), (nof (hD 5 (by decide))), (nof (hD 6 (by decide))), (nof (hD 7 (by decide))), (nof (hD 8 (by decide))), (nof (hD 10 (by decide))), (nof (hD 11 (by decide)))⟩
         · intro i o D V w a ho hI hDi haf hev
           obtain ⟨S, f0, f1, f2, f3, f4, f5, f6, f7, f8, f10, f11⟩ := hI
           rcases i with _ | _ | _ | _ | _ | _ | _ | _ | _ | _ | _ | _ | i
           · obtain rfl := inj_ ho
             exact op_row 26 _ rfl S 1 rfl ((hev.old 6 (by kernel_rfl)).trans rfl) Tryz.isAgg26 (by kernel_rfl) ⟨_, rfl, S, fun _ => rfl, f1, f2, f3, f4, f5, f6, f7, f8, f10, f11⟩
           · obtain rfl := inj_ ho
             exact op_move (.inl rfl) ((hev.old 9 (by kernel_rfl)).trans rfl) ⟨_, rfl, S, f0, fun _ => rfl, f2, f3, f4, f5, f6, f7, f8, f10, f11⟩
           · obtain rfl := inj_ ho
             exact op_field _ _ _ rfl ((hev.old 6 (by kernel_rfl)).trans rfl) (by kernel_rfl) ⟨_, rfl, S, f0, f1, fun _ => rfl, f3, f4, f5, f6, f7, f8, f10, f11⟩
           · obtain rfl := inj_ ho
             have h2 := aft_ haf 2 rfl
             exact op_get 24 _ rfl S 1 rfl 1 (hev.at_ 2 36 rfl rfl h2 f2) Tryz.isAgg24 _ rfl ⟨_, rfl, S, f0, f1, f2, fun _ => rfl, f4, f5, f6, f7, f8, f10, f11⟩
           · obtain rfl := inj_ ho
             exact op_move (.inl rfl) ((hev.old 9 (by kernel_rfl)).trans rfl) ⟨_, rfl, S, f0, f1, f2, f3, fun _ => rfl, f5, f6, f7, f8, f10, f11⟩
           · obtain rfl := inj_ ho
             have h3 := aft_ haf 3 rfl
             have h4 := aft_ haf 4 rfl
             have hx0 := (hev.at_ 3 37 rfl rfl h3 f3)
             have hx1 := (hev.at_ 4 38 rfl rfl h4 f4)
             rw [HA0.out] at hx0
             exact op_idx _ _ _ rfl 53 5 Tryz.underlying24 Tryz.sizeOf53 hx0 (k := k) hx1 hlt ⟨_, rfl, S, f0, f1, f2, f3, f4, fun _ => rfl, f6, f7, f8, f10, f11⟩
           · obtain rfl := inj_ ho
             have h5 := aft_ haf 5 rfl
             exact op_field _ _ _ rfl (hev.at_ 5 39 rfl rfl h5 f5) (by kernel_rfl) ⟨_, rfl, S, f0, f1, f2, f3, f4, f5, fun _ => rfl, f7, f8, f10, f11⟩
           · obtain rfl := inj_ ho
             have h6 := aft_ haf 6 rfl
             exact op_cell 2 _ rfl (hev.at_ 6 40 rfl rfl h6 f6) Tryz.isAgg2 (CO.out w (S.get 2 rfl)) ⟨_, rfl, S, f0, f1, f2, f3, f4, f5, f6, fun _ => rfl, f8, f10, f11⟩
           · obtain rfl := inj_ ho
             have h7 := aft_ haf 7 rfl
             exact op_subI _ _ rfl (hev.at_ 7 41 rfl rfl h7 f7) rfl ⟨_, rfl, S, f0, f1, f2, f3, f4, f5, f6, f7, fun _ => rfl, f10, f11⟩
           · obtain rfl := inj_ ho
             have h0 := aft_ haf 0 rfl
             exact op_putR 26 _ _ rfl S 3 (g := r1) (C := #[jI jZ 0, jS none 0 0]) (t := 26) (by simp only [gs_, gz_, cnd_f hDi]) ((hev.old 2 (by kernel_rfl)).trans rfl) _ (hev.at_ 0 34 rfl rfl h0 f0) rfl (by kernel_rfl) rfl (fun w S => ⟨_, rfl, S, f0, f1, f2, f3, f4, f5, f6, f7, f8, f10, f11⟩)
           · obtain rfl := inj_ ho
             have h1 := aft_ haf 1 rfl
             exact op_move (.inr rfl) (hev.at_ 1 35 rfl rfl h1 f1) ⟨_, rfl, S, f0, f1, f2, f3, f4, f5, f6, f7, f8, fun _ => rfl, f11⟩
           · obtain rfl := inj_ ho
             have h8 := aft_ haf 8 rfl
             exact op_move (.inr rfl) (hev.at_ 8 42 rfl rfl h8 f8) ⟨_, rfl, S, f0, f1, f2, f3, f4, f5, f6, f7, f8, f10, fun _ => rfl⟩
           · exact absurd ho (by simp)
         intro V w hI
         obtain ⟨S, f0, f1, f2, f3, f4, f5, f6, f7, f8, f10, f11⟩ := hI
         replace S : Hid (Sep noX w0 [cuI gc A n c, bx g6 #[jI jZ r, jS A0 n0 c0] 26, ow (jS A0 n0 c0) xs F, bx r1 #[jI jZ r, jS A0 n0 c0] 26] w) := Lib.hid S
         simp only [putF, Act.put, sa_, sb_, sc_, f0 rfl, f1 rfl, f2 rfl, f3 rfl, f4 rfl, f5 rfl, f6 rfl, f7 rfl, f8 rfl, f10 rfl, f11 rfl]
         clear f0 f1 f2 f3 f4 f5 f6 f7 f8 f10 f11
         go_wp2_with fail
         exact bodyPost_ret (results_css rfl _ S.out 3 rfl rfl Tryz.isAgg26 (by kernel_rfl)) rfl (S.out.drawnTII 2 rfl HX.out HSM.out ⟨by omega, by omega⟩)
       · have go : decide (0 < o_) = false := by simpa using ho
         go_wp2_with fail
         go_roundw
         case rel => exact ⟨k + 1, by go_num, by omega, S⟩
         case measure => simp [intOf]; omega
     · have gt : decide ((k : Int) < (n0 : Int)) = false := by simp; omega
       go_wp2_with (first
           | go_skip
           | (refine wpList_op rfl (op_get 24 _ rfl S.out 1 rfl _ rfl Tryz.isAgg24 _ rfl ?_))
           | (refine wpList_op rfl (op_row 26 _ rfl S.out 1 rfl rfl Tryz.isAgg26 (by kernel_rfl) ?_))
           | (refine wpList_op rfl (op_putR_3 26 _ _ rfl S rfl _ rfl rfl (by kernel_rfl) rfl ?_); clear S; intro w S))
       exact bodyPost_ret (results_css rfl _ S.out 3 rfl rfl Tryz.isAgg26 (by kernel_rfl)) rfl (S.out.drawnTII 2 rfl HX.out HSM.out HAT.out)
end Go.Proofs.YtpffkhjegpddbaaGreat
namespace Go.Proofs.YtpffkhjegpddbaaGreat
open Go.RowKit

set_option maxRecDepth 100000 in
set_option maxHeartbeats 16000000 in
theorem likeN_yes (x : Nd) (A B : Option Addr) (n c d : Nat) (w0 : World) (h : RP w0 w0.heap.size A n x.ps) (h' : RP w0 w0.heap.size B n x.ps) (hn : n ≤ 1048576) :
   Calls Tryz.prog 31 #[.agg #[jI jZ x.lv, jS A n c, jI jZ x.hi, jI jZ x.ri, jI jZ x.ow], .agg #[jI jZ x.lv, jS B n d, jI jZ x.hi, jI jZ x.ri, jI jZ x.ow]] w0 fun e w' => e = .returned (.bool true) ∧ Below w0.heap.size w0 w' := by
 have LK := Lib.hid (fun w h h' => like_yes A B n c d x.ps w h h' hn)
 have HA := Lib.hid h
 have HB := Lib.hid h'
 clear h h' hn
 have q1 : (x.lv == x.lv) = true := by simp
 have q2 : (x.hi == x.hi) = true := by simp
 have q3 : (x.ri == x.ri) = true := by simp
 have q4 : (x.ow == x.ow) = true := by simp
 have S := Lib.hid (Sep.start noX w0)
 have tok0 : True := trivial
 have tok1 : True := trivial
 go_enter Tryz.func31, Tryz.ntmps31
 go_wp2_with (first
     | go_skip
     | (clear tok0; refine bx_ 53 S rfl rfl rfl ?_; clear S; intro g1 w S)
     | (clear tok1; refine bx_ 53 S rfl rfl rfl ?_; clear S; intro g2 w S)
     | (refine wpList_op rfl (op_get 2 _ rfl S.out 1 rfl _ rfl Tryz.isAgg2 _ rfl ?_))
     | (refine wpList_op rfl (op_get 2 _ rfl S.out 0 rfl _ rfl Tryz.isAgg2 _ rfl ?_))
     | (refine wpList_op rfl (op_get 51 _ rfl S.out 1 rfl _ rfl Tryz.isAgg51 _ rfl ?_))
     | (refine wpList_op rfl (op_get 51 _ rfl S.out 0 rfl _ rfl Tryz.isAgg51 _ rfl ?_)))
 refine (LK.out _ (HA.out.on S.out.below) (HB.out.on S.out.below)).mono ?_
 rintro e w ⟨rfl, b⟩
 replace S := Lib.hid (S.out.call b)
 clear b
 go_wp2_with (first
     | go_skip
     | (refine wpList_op rfl (op_get 2 _ rfl S.out 1 rfl _ rfl Tryz.isAgg2 _ rfl ?_))
     | (refine wpList_op rfl (op_get 2 _ rfl S.out 0 rfl _ rfl Tryz.isAgg2 _ rfl ?_)))
 go_ret
 exact ⟨rfl, S.out.below⟩

theorem likeI_yes (A B : Option Addr) (n c d : Nat) (zs : List Int) (w : World) (h : RS w w.heap.size A n zs) (h' : RS w w.heap.size B n zs) (hn : n ≤ 1048576) :
   Calls Tryz.prog 13 #[jS A n c, jS B n d] w fun e w' => e = .returned (.bool true) ∧ Below w.heap.size w w' := by
 have HH := Lib.hid h
 have HH' := Lib.hid h'
 clear h h'
 go_enter Tryz.func13, Tryz.ntmps13
 go_wp2
 go_loopw [5] (fun i wr => ∃ k : Nat, i = jI jZ k ∧ k ≤ n ∧ Hid (Below w.heap.size w wr)) (fun i _ => n - (intOf i).toNat)
 case atStart => exact ⟨0, rfl, by omega, Lib.hid (Below.refl _ _)⟩
 case round =>
   obtain ⟨k, rfl, hk, hbw⟩ := hrel
   by_cases hlt : k < n
   · obtain ⟨b, off, rfl, hb, hc⟩ := HH.out.ints (by omega)
     obtain ⟨b', off', rfl, hb', hc'⟩ := HH'.out.ints (by omega)
     have c1 := Later.of_cell (hc k hlt) hbw.out hb
     have c3 := Later.of_cell (hc' k hlt) hbw.out hb'
     clear hc hc'
     go_wp2
     refine wp_region_later (by kernel_rfl) (by kernel_rfl) ?_
     repeat (go_big_quiet_step (fail))
     refine wpQuiet_nil ?_
     intro _ hw'
     obtain ⟨s, rfl⟩ := hw'
     go_wp2
     go_roundw
     case rel => exact ⟨k + 1, by go_num, by omega, Lib.hid (s.below_of hbw.out)⟩
     case measure => simp [intOf]; omega
   · go_wp2
     go_ret
     exact ⟨rfl, hbw.out⟩

set_option maxRecDepth 100000 in
set_option maxHeartbeats 16000000 in
theorem likeT_yes (r : Int) (xs : List Nd) (A B : Option Addr) (n c d : Nat) (w0 : World) (h : RS w0 w0.heap.size A n xs) (h' : RS w0 w0.heap.size B n xs) (hs : Small.sm xs) :
   Calls Tryz.prog 12 #[.agg #[jI jZ r, jS A n c], .agg #[jI jZ r, jS B n d]] w0 fun e w' => e = .returned (.bool true) ∧ Below w0.heap.size w0 w' := by
 have hn : n ≤ 1048576 := by rw [← h.1]; exact hs.1
 have HPS := Lib.hid hs.2
 have HL := Lib.hid h.1
 have HA := Lib.hid h
 have HB := Lib.hid h'
 clear h h' hs
 have q1 : (r == r) = true := by simp
 have q1' : (r != r) = false := by simp
 have q2 : ((n : Int) != (n : Int)) = false := by simp
 have S := Lib.hid (Sep.start noX w0)
 have tok0 : True := trivial
 have tok1 : True := trivial
 go_enter Tryz.func12, Tryz.ntmps12
 go_wp2_with (first
     | go_skip
     | (have _t := tok0; clear _t; refine wpList_op rfl (op_bx 26 _ rfl S.out _ rfl ?_); clear S tok0; intro g1 w S; replace S := Lib.hid S; simp only [Act.put, sa_, sb_, sc_])
     | (have _t := tok1; clear _t; refine wpList_op rfl (op_bx 26 _ rfl S.out _ rfl ?_); clear S tok1; intro g2 w S; replace S := Lib.hid S; simp only [Act.put, sa_, sb_, sc_])
     | (refine wpList_op rfl (op_get 2 _ rfl S.out 1 rfl _ rfl Tryz.isAgg2 _ rfl ?_); simp only [Act.put, sa_, sb_, sc_])
     | (refine wpList_op rfl (op_get 2 _ rfl S.out 0 rfl _ rfl Tryz.isAgg2 _ rfl ?_); simp only [Act.put, sa_, sb_, sc_])
     | (refine wpList_op rfl (op_get 24 _ rfl S.out 1 rfl _ rfl Tryz.isAgg24 _ rfl ?_); simp only [Act.put, sa_, sb_, sc_])
     | (refine wpList_op rfl (op_get 24 _ rfl S.out 0 rfl _ rfl Tryz.isAgg24 _ rfl ?_); simp only [Act.put, sa_, sb_, sc_]))
 go_loopw [5] (fun i wr => ∃ k : Nat, i = jI jZ k ∧ k ≤ n ∧ Hid (Sep noX w0 [bx g2 #[jI jZ r, jS B n d] 26, bx g1 #[jI jZ r, jS A n c] 26] wr)) (fun i _ => n - (intOf i).toNat)
 case atStart => exact ⟨0, rfl, by omega, S⟩
 case round =>
   obtain ⟨k, rfl, hk, S1⟩ := hrel
   clear S
   have S := S1
   clear S1
   have r1 : wr.heap[g1]? = some (.cells #[jI jZ r, jS A n c] 26 (0, 0)) := S.out.get 1 rfl
   have r2 : wr.heap[g2]? = some (.cells #[jI jZ r, jS B n d] 26 (0, 0)) := S.out.get 0 rfl
   have l1 : g1 < wr.heap.size := (Array.getElem?_eq_some_iff.1 r1).1
   have l2 : g2 < wr.heap.size := (Array.getElem?_eq_some_iff.1 r2).1
   have d1 : wr.cell? ⟨g1, 1, none⟩ = some (.slice A n c) := by rw [cell_of_row _ _ 1 _ _ _ r1]; rfl
   have d2 : wr.cell? ⟨g2, 1, none⟩ = some (.slice B n d) := by rw [cell_of_row _ _ 1 _ _ _ r2]; rfl
   have e1 := Later.of_cell d1 (Below.refl _ _) l1
   have e2 := Later.of_cell d2 (Below.refl _ _) l2
   clear r1 r2 l1 l2
   by_cases hlt : k < n
   · obtain ⟨b, off, rfl, hb, A2, n2, c2, ⟨x0, x1, x2, x3, x4⟩, hP, hcc⟩ := HA.out.ndAt k hlt
     obtain ⟨b', off', rfl, hb', B2, m2, c3, ⟨y0, y1, y2, y3, y4⟩, hP', hcc'⟩ := HB.out.ndAt k hlt
     have hm : m2 = n2 := by rw [← hP.1, ← hP'.1]
     subst hm
     have f0 := Later.of_cell x0 S.out.below hb
     have f1 := Later.of_cell x1 S.out.below hb
     have f2 := Later.of_cell x2 S.out.below hb
     have f3 := Later.of_cell x3 S.out.below hb
     have f4 := Later.of_cell x4 S.out.below hb
     have h0 := Later.of_cell y0 S.out.below hb'
     have h1 := Later.of_cell y1 S.out.below hb'
     have h2 := Later.of_cell y2 S.out.below hb'
     have h3 := Later.of_cell y3 S.out.below hb'
     have h4 := Later.of_cell y4 S.out.below hb'
     have hps := HPS.out k (by rw [HL.out]; exact hlt)
     have hn2 : m2 ≤ 1048576 := by rw [← hP.1]; exact hps
     have LN := Lib.hid (fun w h h' => likeN_yes (ndAt xs k) A2 B2 m2 c2 c3 w h h' hn2)
     have RA : Hid (∀ s : Later wr, RP s.wd s.wd.heap.size A2 m2 (ndAt xs k).ps) := Lib.hid (fun s => hP.on (s.below_of S.out.below))
     have RB : Hid (∀ s : Later wr, RP s.wd s.wd.heap.size B2 m2 (ndAt xs k).ps) := Lib.hid (fun s => hP'.on (s.below_of S.out.below))
     clear x0 x1 x2 x3 x4 y0 y1 y2 y3 y4 hP hP' hcc hcc' hps hn2
     generalize ndAt xs k = x at *
     go_wp2
     refine wp_region_later (by kernel_rfl) (by kernel_rfl) ?_
     repeat (go_big_quiet_step ((go_at_call 31; exact Calls.later (LN.out _ (RA.out _) (RB.out _)))))
     refine wpQuiet_nil ?_
     intro _ hw'
     obtain ⟨s, rfl⟩ := hw'
     have S3 := Lib.hid (S.out.call s.2)
     clear e1 e2 f0 f1 f2 f3 f4 h0 h1 h2 h3 h4 d1 d2
     go_wp2
     go_roundw
     case rel => exact ⟨k + 1, by go_num, by omega, S3⟩
     case measure => simp [intOf]; omega
   · obtain rfl : k = n := by omega
     go_wp2
     go_ret
     exact ⟨rfl, S.out.below⟩
end Go.Proofs.YtpffkhjegpddbaaGreat
