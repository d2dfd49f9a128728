/- The walk of the model's l8DrawCall. (Made by genY29.py.) -/
import Derived.Test.YtjookicpmjmdhaaQ25
import Derived.Test.YtjookicpmjmdhaaQ26
import Derived.Test.YtjookicpmjmdhaaQ45
open Go.Value renaming int → jI, slice → jS
open Go.IntKind renaming i64 → jZ
namespace Go.Proofs.Ytjookicpmjmdhaa
open Go.RowKit

set_option maxRecDepth 100000 in
set_option maxHeartbeats 16000000 in
theorem dCall_any (g : Nat) (A : Option Addr) (n c : Nat) (w0 : World) (hC : Cur w0 g A n c) :
   Calls Try.prog 56 #[.pointer (some ⟨g, 0, none⟩)] w0 (DrawnC g A n c w0) := by
 have HCU := Lib.hid hC
 have S := Lib.hid (Sep.startCur hC)
 clear hC
 unfold DrawnC
 have tok0 : True := trivial
 go_enter Try.func56, Try.ntmps56
 go_wp2_with (first
     | go_skip
     | (clear tok0; refine nx_ 25 S rfl rfl Try.zeroValue25 ?_; clear S; intro rc w S))
 refine wp_region_ev (by kernel_rfl) _ (by kernel_rfl) (by kernel_rfl) 19 rfl (by kernel_rfl) (fun D V w => ∃ gb : Nat, ∃ q1 : Nat, ∃ q2 : Nat, ∃ ga8 : Nat, Sep (cuX g) w0 [bx rc #[jI jZ 0, jI jZ 0, jI jZ 0] 25, cuI g A n c, cnd (D 0) em (bx gb (IL [1, 2, 2, 2, 3]).toArray 2), cnd (D 8) em (cnd (D 9) (bx ga8 #[jI jZ 0, jI jZ 0, jI jZ 0] 25) (bx ga8 #[jI jZ (iAt [1, 2, 2, 2, 3] q1), jI jZ q2, jI jZ 0] 25))] w ∧ (D 0 = true → V 0 = jS (some ⟨gb, 0, none⟩) 5 5) ∧ (D 1 = true → V 1 = .pointer (some ⟨g, 0, none⟩)) ∧ (D 2 = true → V 2 = jI jZ q1) ∧ (D 3 = true → V 3 = .pointer (some ⟨gb, 0 + q1 * 1, none⟩)) ∧ (D 4 = true → V 4 = jI jZ (iAt [1, 2, 2, 2, 3] q1)) ∧ (D 5 = true → V 5 = .pointer (some ⟨g, 0, none⟩)) ∧ (D 6 = true → V 6 = jI jZ q2) ∧ (D 7 = true → V 7 = .agg #[jI jZ (iAt [1, 2, 2, 2, 3] q1), jI jZ q2, jI jZ 0]) ∧ (D 8 = true → V 8 = .pointer (some ⟨ga8, 0, none⟩)) ∧ (D 3 = true → D 0 = true) ∧ (D 3 = true → D 2 = true) ∧ (D 4 = true → D 2 = true) ∧ (D 7 = true → D 2 = true) ∧ (D 7 = true → D 6 = true) ∧ (D 9 = true → D 2 = true) ∧ (D 9 = true → D 6 = true) ∧ (D 9 = true → D 8 = true) ∧ (D 2 = true → q1 < 5) ∧ (D 6 = true → q2 < 30)) ?_ ?_ ?_
 · intro D hD
   have d0 := hD 0 (by decide)
   have d8 := hD 8 (by decide)
   have d9 := hD 9 (by decide)
   exact ⟨0, 0, 0, 0, by rw [cnd_f d0, cnd_f d8]; exact S.out.drew.ems 2, (nof (hD 0 (by decide))), (nof (hD 1 (by decide))), (nof (hD 2 (by decide))), (nof (hD 3 (by decide))), (nof (hD 4 (by decide))), (nof (hD 5 (by decide))), (nof (hD 6 (by decide))), (nof (hD 7 (by decide))), (nof (hD 8 (by decide))), (nof (hD 3 (by decide))), (nof (hD 3 (by decide))), (nof (hD 4 (by decide))), (nof (hD 7 (by decide))), (nof (hD 7 (by decide))), (nof (hD 9 (by decide))), (nof (hD 9 (by decide))), (nof (hD 9 (by decide))), (nof (hD 2 (by decide))), (nof (hD 6 (by decide)))⟩
 · intro i o D V w a ho hI hDi haf hev
   obtain ⟨gb, q1, q2, ga8, S, f0, f1, f2, f3, f4, f5, f6, f7, f8, o3_0, o3_2, o4_2, o7_2, o7_6, o9_2, o9_6, o9_8, k0, k1⟩ := hI
   rcases i with _ | _ | _ | _ | _ | _ | _ | _ | _ | _ | i
   · obtain rfl := inj_ ho
     exact op_bsI 5 _ rfl S 2 (by simp only [gs_, gz_, cnd_f hDi]) _ rfl [1, 2, 2, 2, 3] (by kernel_rfl) (by omega) (by omega) (fun g9 w S => ⟨_, rfl, g9, q1, q2, ga8, S, fun _ => rfl, f1, f2, (fun h => nof hDi (o3_0 h)), f4, f5, f6, f7, f8, fun _ => rfl, o3_2, o4_2, o7_2, o7_6, o9_2, o9_6, o9_8, k0, k1⟩)
   · obtain rfl := inj_ ho
     exact op_move (.inl rfl) ((hev.old 0 (by kernel_rfl)).trans rfl) ⟨_, rfl, gb, q1, q2, ga8, S, f0, fun _ => rfl, f2, f3, f4, f5, f6, f7, f8, o3_0, o3_2, o4_2, o7_2, o7_6, o9_2, o9_6, o9_8, k0, k1⟩
   · obtain rfl := inj_ ho
     have h1 := aft_ haf 1 rfl
     have ns9 := nofb hDi o9_2
     have hx0 := (hev.at_ 1 5 rfl rfl h1 f1)
     refine op_call _ _ _ rfl (enters_of Try.func36 (by kernel_rfl) rfl) #[.pointer (some ⟨g, 0, none⟩), jI jZ 5] (by simp [hx0, eval_const]) (below_any g A n c 5 w (S.cur 1 rfl HCU.out)) (fun e w2 hh => ?_)
     obtain ⟨r9, rfl, hp9, hc9, hg9⟩ := hh
     have hp8 := hp9.2 (by omega)
     obtain ⟨q9, rfl⟩ : ∃ q9 : Nat, r9 = q9 := ⟨r9.toNat, by omega⟩
     exact ⟨_, rfl, ⟨_, rfl, gb, q9, q2, ga8, (by have SS := (S.drawn 1 rfl hc9 hg9); rw [cnd_f ns9] at SS; rw [show updB D 2 9 = false from ns9]; exact SS), f0, f1, fun _ => rfl, (fun h => nof hDi (o3_2 h)), (fun h => nof hDi (o4_2 h)), f5, f6, (fun h => nof hDi (o7_2 h)), f8, o3_0, fun _ => rfl, fun _ => rfl, fun _ => rfl, o7_6, fun _ => rfl, o9_6, o9_8, (fun _ => by omega), k1⟩⟩
   · obtain rfl := inj_ ho
     have h0 := aft_ haf 0 rfl
     have h2 := aft_ haf 2 rfl
     exact op_idx _ _ _ rfl 2 1 Try.underlying29 Try.sizeOf2 (hev.at_ 0 4 rfl rfl h0 f0) (hev.at_ 2 6 rfl rfl h2 f2) (k0 h2) ⟨_, rfl, gb, q1, q2, ga8, S, f0, f1, f2, fun _ => rfl, f4, f5, f6, f7, f8, fun _ => h0, fun _ => h2, o4_2, o7_2, o7_6, o9_2, o9_6, o9_8, k0, k1⟩
   · obtain rfl := inj_ ho
     have h3 := aft_ haf 3 rfl
     have h2 : D 2 = true := o3_2 h3
     have h2 := o3_2 h3
     have h0 := o3_0 h3
     exact op_get 2 _ rfl S 2 (g := gb) (C := (IL [1, 2, 2, 2, 3]).toArray) (t := 2) (by simp only [gs_, gz_, cnd_t h0]) (0 + q1 * 1) (hev.at_ 3 7 rfl rfl h3 f3) Try.isAgg2 _ (codes_cell q1 (k0 h2)) ⟨_, rfl, gb, q1, q2, ga8, S, f0, f1, f2, f3, fun _ => rfl, f5, f6, f7, f8, o3_0, o3_2, fun _ => h2, o7_2, o7_6, o9_2, o9_6, o9_8, k0, k1⟩
   · obtain rfl := inj_ ho
     exact op_move (.inl rfl) ((hev.old 0 (by kernel_rfl)).trans rfl) ⟨_, rfl, gb, q1, q2, ga8, S, f0, f1, f2, f3, f4, fun _ => rfl, f6, f7, f8, o3_0, o3_2, o4_2, o7_2, o7_6, o9_2, o9_6, o9_8, k0, k1⟩
   · obtain rfl := inj_ ho
     have h5 := aft_ haf 5 rfl
     have ns9 := nofb hDi o9_6
     have hx0 := (hev.at_ 5 9 rfl rfl h5 f5)
     refine op_call _ _ _ rfl (enters_of Try.func36 (by kernel_rfl) rfl) #[.pointer (some ⟨g, 0, none⟩), jI jZ 30] (by simp [hx0, eval_const]) (below_any g A n c 30 w (S.cur 1 rfl HCU.out)) (fun e w2 hh => ?_)
     obtain ⟨r9, rfl, hp9, hc9, hg9⟩ := hh
     have hp8 := hp9.2 (by omega)
     obtain ⟨q9, rfl⟩ : ∃ q9 : Nat, r9 = q9 := ⟨r9.toNat, by omega⟩
     exact ⟨_, rfl, ⟨_, rfl, gb, q1, q9, ga8, (by have SS := (S.drawn 1 rfl hc9 hg9); rw [cnd_f ns9] at SS; rw [show updB D 6 9 = false from ns9]; exact SS), f0, f1, f2, f3, f4, f5, fun _ => rfl, (fun h => nof hDi (o7_6 h)), f8, o3_0, o3_2, o4_2, o7_2, fun _ => rfl, o9_2, fun _ => rfl, o9_8, k0, (fun _ => by omega)⟩⟩
   · obtain rfl := inj_ ho
     have h4 := aft_ haf 4 rfl
     have h6 := aft_ haf 6 rfl
     have h2 : D 2 = true := o4_2 h4
     have hx0 := (hev.at_ 4 8 rfl rfl h4 f4)
     have hx1 := (hev.at_ 6 10 rfl rfl h6 f6)
     exact op_build _ _ rfl [(0, jI jZ (iAt [1, 2, 2, 2, 3] q1)), (1, jI jZ q2)] (by simp [hx0, hx1]) _ (by kernel_rfl) ⟨_, rfl, gb, q1, q2, ga8, S, f0, f1, f2, f3, f4, f5, f6, fun _ => rfl, f8, o3_0, o3_2, o4_2, fun _ => h2, fun _ => h6, o9_2, o9_6, o9_8, k0, k1⟩
   · obtain rfl := inj_ ho
     have nst := nofb hDi o9_8
     refine op_nxAt 25 rfl S 3 (by simp only [gs_, gz_, cnd_f hDi]) _ Try.zeroValue25 (fun g w S => ⟨_, rfl, gb, q1, q2, g, (by have e : updB D 8 9 = false := nst; rw [e]; exact S), f0, f1, f2, f3, f4, f5, f6, f7, fun _ => rfl, o3_0, o3_2, o4_2, o7_2, o7_6, o9_2, o9_6, fun _ => rfl, k0, k1⟩)
   · obtain rfl := inj_ ho
     have h8 := aft_ haf 8 rfl
     have h7 := aft_ haf 7 rfl
     have h2 : D 2 = true := o7_2 h7
     have h6 : D 6 = true := o7_6 h7
     have ha : D 8 = true := aft_ haf 8 rfl
     exact op_putR 25 _ _ rfl S 3 (g := ga8) (C := #[jI jZ 0, jI jZ 0, jI jZ 0]) (t := 25) (by simp only [gs_, gz_, cnd_t ha, cnd_f hDi]) (hev.at_ 8 3 rfl rfl h8 f8) _ (hev.at_ 7 11 rfl rfl h7 f7) rfl (by kernel_rfl) rfl (fun w S => ⟨_, rfl, gb, q1, q2, ga8, (by have e : updB D 9 8 = true := ha; rw [e]; exact S), f0, f1, f2, f3, f4, f5, f6, f7, f8, o3_0, o3_2, o4_2, o7_2, o7_6, fun _ => h2, fun _ => h6, fun _ => h8, k0, k1⟩)
   · exact absurd ho (by simp)
 intro V w hI
 obtain ⟨gb, q1, q2, ga8, S, f0, f1, f2, f3, f4, f5, f6, f7, f8, o3_0, o3_2, o4_2, o7_2, o7_6, o9_2, o9_6, o9_8, k0, k1⟩ := hI
 replace S : Hid (Sep (cuX g) w0 [bx rc #[jI jZ 0, jI jZ 0, jI jZ 0] 25, cuI g A n c, bx gb (IL [1, 2, 2, 2, 3]).toArray 2, bx ga8 #[jI jZ (iAt [1, 2, 2, 2, 3] q1), jI jZ q2, jI jZ 0] 25] w) := Lib.hid S
 simp only [putF, Act.put, sa_, sb_, sc_, f0 rfl, f1 rfl, f2 rfl, f3 rfl, f4 rfl, f5 rfl, f6 rfl, f7 rfl, f8 rfl]
 clear f0 f1 f2 f3 f4 f5 f6 f7 f8 o3_0 o3_2 o4_2 o7_2 o7_6 o9_2 o9_6 o9_8
 have HQ1 := Lib.hid (k0 rfl)
 have HQ2 := Lib.hid (k1 rfl)
 clear k0 k1
 by_cases h2 : iAt [1, 2, 2, 2, 3] q1 = 2
 · have g1 : (iAt [1, 2, 2, 2, 3] q1 == 2) = true := by simp [h2]
   clear h2
   go_wp2_with (first
       | go_skip
       | (refine wpList_op rfl (op_get 2 _ rfl S.out 3 rfl _ rfl Try.isAgg2 _ rfl ?_)))
   refine (below_any g A n c 100 _ (S.out.cur 1 rfl HCU.out)).mono ?_
   rintro e w ⟨r9, rfl, hp9, hc9, hg9⟩
   replace S : Hid (Sep (cuX g) w0 [bx rc #[jI jZ 0, jI jZ 0, jI jZ 0] 25, cuI g A n c, bx gb (IL [1, 2, 2, 2, 3]).toArray 2, bx ga8 #[jI jZ (iAt [1, 2, 2, 2, 3] q1), jI jZ q2, jI jZ 0] 25] w) := Lib.hid (S.out.drawn 1 rfl hc9 hg9)
   have HP := Lib.hid (hp9.2 (by omega))
   clear hp9 hc9 hg9
   go_wp2_with (first
       | go_skip
       | (refine wpList_op rfl (op_put1_3 2 _ _ rfl S _ rfl _ rfl rfl (by kernel_rfl) (of_decide_eq_true rfl) ?_); clear S; intro w S)
       | (refine wpList_op rfl (op_row 25 _ rfl S.out 3 rfl rfl Try.isAgg25 (by kernel_rfl) ?_))
       | (refine wpList_op rfl (op_putR_0 25 _ _ rfl S rfl _ rfl rfl (by kernel_rfl) rfl ?_); clear S; intro w S))
   exact bodyPost_ret (results_c rfl _ S.out 0 rfl rfl Try.isAgg25 (by kernel_rfl)) rfl ⟨_, _, _, rfl, codes_in q1 HQ1.out, by have := HQ2.out; omega, HP.out, S.out.cur 1 rfl HCU.out, S.out.grown⟩
 · have g1 : (iAt [1, 2, 2, 2, 3] q1 == 2) = false := by simp [h2]
   clear h2
   go_wp2_with (first
       | go_skip
       | (refine wpList_op rfl (op_get 2 _ rfl S.out 3 rfl _ rfl Try.isAgg2 _ rfl ?_))
       | (refine wpList_op rfl (op_row 25 _ rfl S.out 3 rfl rfl Try.isAgg25 (by kernel_rfl) ?_))
       | (refine wpList_op rfl (op_putR_0 25 _ _ rfl S rfl _ rfl rfl (by kernel_rfl) rfl ?_); clear S; intro w S))
   exact bodyPost_ret (results_c rfl _ S.out 0 rfl rfl Try.isAgg25 (by kernel_rfl)) rfl ⟨_, _, _, rfl, codes_in q1 HQ1.out, by have := HQ2.out; omega, by omega, S.out.cur 1 rfl HCU.out, S.out.grown⟩
end Go.Proofs.Ytjookicpmjmdhaa
namespace Go.Proofs.Ytjookicpmjmdhaa
open Go.RowKit

theorem Sep.gainAt3 {X : FP} {w0 w w' : World} {L : List Item} (h : Sep X w0 L w) (b : Below w.heap.size w w') (i j k : Nat) (hij : i ≠ j) (hik : i ≠ k) (hjk : j ≠ k) (e : L[i]? = some em) (e' : L[j]? = some em) (e2 : L[k]? = some em) (I J M : Item) (p : I.P w') (q : J.P w') (r : M.P w') (f : ∀ k, I.F k → w.heap.size ≤ k ∧ k < w'.heap.size) (g : ∀ k, J.F k → w.heap.size ≤ k ∧ k < w'.heap.size) (m : ∀ k, M.F k → w.heap.size ≤ k ∧ k < w'.heap.size)
   (a1 : Apart I.F J.F) (a2 : Apart I.F M.F) (a3 : Apart J.F M.F) : Sep X w0 (((L.set i I).set j J).set k M) w' := by
 have h3 := h.gain3 b M I J r p q m f g a2.symm a3.symm a1
 have h4 : Sep X w0 (I :: J :: (L.set k M)) w' := by
   have := h3.toAt (k + 2) (by simpa using e2)
   simpa using this
 have h5 : Sep X w0 (J :: ((L.set k M).set i I)) w' := by
   have := h4.toAt (i + 1) (by simp only [List.getElem?_cons_succ]; rw [List.getElem?_set_ne (by omega)]; exact e)
   simpa using this
 have h6 := h5.toAt j (by rw [List.getElem?_set_ne (by omega), List.getElem?_set_ne (by omega)]; exact e')
 rw [show ((L.set i I).set j J).set k M = ((L.set k M).set i I).set j J by rw [List.set_comm _ _ hjk, List.set_comm _ _ hik]]
 exact h6
section
variable {P : Program} {w : World} {o : Oper} {a : Act} {K : Act → World → Prop} {Q : Exit → Act → World → Prop}
theorem op_nilC (x : Operand) (ho : o.op = .nilCheck x) {p : Addr} (hx : a.eval x = .pointer (some p)) (hK : K (a.put o.dst (.pointer (some p))) w) : o.wp P a w K Q := by
 refine op_val ?_ hK
 generalize a.eval = E at hx ⊢
 simp [execOp, ho, hx, go_sem]
theorem op_addII (t : TypeId) (x y : Operand) (ho : o.op = .binOp .add t x y t) (_ht : Try.prog.underlying t = some (.int .i64)) {p q r : Int} (hx : a.eval x = jI jZ p) (hy : a.eval y = jI jZ q) (hr : IntKind.i64.wrap (p + q) = r) (hK : K (a.put o.dst (jI jZ r)) w) : o.wp Try.prog a w K Q := by
 refine op_val ?_ hK
 generalize a.eval = E at hx hy ⊢
 subst hr
 simp [execOp, ho, hx, hy, go_sem]
end
end Go.Proofs.Ytjookicpmjmdhaa
namespace Go.Proofs.Ytjookicpmjmdhaa
open Go.RowKit

theorem from_any (g : Nat) (A : Option Addr) (n c : Nat) (lo hi : Int) (w0 : World) (hC : Cur w0 g A n c) :
   Calls Try.prog 34 #[.pointer (some ⟨g, 0, none⟩), jI jZ lo, jI jZ hi] w0 (Drawn g A n c (fun _ => True) w0) := by
 have HC := Lib.hid hC
 clear hC
 go_enter Try.func34, Try.ntmps34
 go_wp2_with fail
 refine (below_any g A n c _ _ HC.out).mono ?_
 rintro e w ⟨r9, rfl, _, hc9, hg9⟩
 have HC9 := Lib.hid hc9
 have HG9 := Lib.hid hg9
 clear hc9 hg9
 go_wp2_with fail
 go_ret
 exact ⟨_, rfl, trivial, HC9.out, HG9.out⟩
section
variable {X F : FP} {w0 w : World} {L : List Item} {o : Oper} {a : Act} {K : Act → World → Prop} {Q : Exit → Act → World → Prop}
end
end Go.Proofs.Ytjookicpmjmdhaa
