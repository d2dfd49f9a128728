/- The walk of the model's l8DrawCall. (Made by genY29.py.) -/
import Derived.Test.YtjdbehijghjfbaaGreatQ27
import Derived.Test.YtjdbehijghjfbaaGreatQ28
import Derived.Test.YtjdbehijghjfbaaGreatQ47
namespace Go.Proofs.YtjdbehijghjfbaaGreat
open Go.RowKit

set_option maxRecDepth 100000 in
set_option maxHeartbeats 16000000 in
theorem dCall_any (g : Nat) (A : Option Addr) (n c : Nat) (w0 : World) (hC : Cur w0 g A n c) :
    Calls Tryz.prog 67 #[.pointer (some ⟨g, 0, none⟩)] w0 (DrawnC g A n c w0) := by
  have HCU := Lib.hid hC
  have S := Lib.hid (Sep.startCur hC)
  clear hC
  unfold DrawnC
  have tok0 : True := trivial
  go_enter Tryz.func67, Tryz.ntmps67
  go_wp2_with (first
      | go_skip
      | (have _t := tok0; clear _t; refine wpList_op rfl (op_nx 92 rfl S.out _ Tryz.zeroValue92 ?_); clear S tok0; intro rc w S; replace S := Lib.hid S))
  refine wp_region_ev (by kernel_rfl) _ (by kernel_rfl) (by kernel_rfl) 19 rfl (by kernel_rfl) (fun D V w => ∃ gb : Nat, ∃ q1 : Nat, ∃ q2 : Nat, ∃ ga8 : Nat, Sep (cuX g) w0 [bx rc #[.int .i64 0, .int .i64 0, .int .i64 0] 92, cuI g A n c, cnd (D 0) em (bx gb (IL [1, 2, 2, 2, 3]).toArray 2), cnd (D 8) em (cnd (D 9) (bx ga8 #[.int .i64 0, .int .i64 0, .int .i64 0] 92) (bx ga8 #[.int .i64 (iAt [1, 2, 2, 2, 3] q1), .int .i64 q2, .int .i64 0] 92))] w ∧ (D 0 = true → V 0 = .slice (some ⟨gb, 0, none⟩) 5 5) ∧ (D 1 = true → V 1 = .pointer (some ⟨g, 0, none⟩)) ∧ (D 2 = true → V 2 = .int .i64 q1) ∧ (D 3 = true → V 3 = .pointer (some ⟨gb, 0 + q1 * 1, none⟩)) ∧ (D 4 = true → V 4 = .int .i64 (iAt [1, 2, 2, 2, 3] q1)) ∧ (D 5 = true → V 5 = .pointer (some ⟨g, 0, none⟩)) ∧ (D 6 = true → V 6 = .int .i64 q2) ∧ (D 7 = true → V 7 = .agg #[.int .i64 (iAt [1, 2, 2, 2, 3] q1), .int .i64 q2, .int .i64 0]) ∧ (D 8 = true → V 8 = .pointer (some ⟨ga8, 0, none⟩)) ∧ (D 3 = true → D 0 = true) ∧ (D 3 = true → D 2 = true) ∧ (D 4 = true → D 2 = true) ∧ (D 7 = true → D 2 = true) ∧ (D 7 = true → D 6 = true) ∧ (D 9 = true → D 2 = true) ∧ (D 9 = true → D 6 = true) ∧ (D 9 = true → D 8 = true) ∧ (D 2 = true → q1 < 5) ∧ (D 6 = true → q2 < 30)) ?_ ?_ ?_
  · intro D hD
    have d0 := hD 0 (by decide)
    have d8 := hD 8 (by decide)
    have d9 := hD 9 (by decide)
    exact ⟨0, 0, 0, 0, by rw [cnd_f d0, cnd_f d8]; exact S.out.drew.ems 2, (nof (hD 0 (by decide))), (nof (hD 1 (by decide))), (nof (hD 2 (by decide))), (nof (hD 3 (by decide))), (nof (hD 4 (by decide))), (nof (hD 5 (by decide))), (nof (hD 6 (by decide))), (nof (hD 7 (by decide))), (nof (hD 8 (by decide))), (nof (hD 3 (by decide))), (nof (hD 3 (by decide))), (nof (hD 4 (by decide))), (nof (hD 7 (by decide))), (nof (hD 7 (by decide))), (nof (hD 9 (by decide))), (nof (hD 9 (by decide))), (nof (hD 9 (by decide))), (nof (hD 2 (by decide))), (nof (hD 6 (by decide)))⟩
  · intro i o D V w a ho hI hDi haf hev
    obtain ⟨gb, q1, q2, ga8, S, f0, f1, f2, f3, f4, f5, f6, f7, f8, o3_0, o3_2, o4_2, o7_2, o7_6, o9_2, o9_6, o9_8, k0, k1⟩ := hI
    rcases i with _ | _ | _ | _ | _ | _ | _ | _ | _ | _ | i
    · obtain rfl := inj_ ho
      exact op_bsI 5 _ rfl S 2 (by simp only [gs_, gz_, cnd_f hDi]) _ rfl [1, 2, 2, 2, 3] (by kernel_rfl) (by omega) (by omega) (fun g9 w S => ⟨_, rfl, g9, q1, q2, ga8, S, fun _ => rfl, f1, f2, (fun h => nof hDi (o3_0 h)), f4, f5, f6, f7, f8, fun _ => rfl, o3_2, o4_2, o7_2, o7_6, o9_2, o9_6, o9_8, k0, k1⟩)
    · obtain rfl := inj_ ho
      exact op_move (.inl rfl) ((hev.old 0 (by kernel_rfl)).trans rfl) ⟨_, rfl, gb, q1, q2, ga8, S, f0, fun _ => rfl, f2, f3, f4, f5, f6, f7, f8, o3_0, o3_2, o4_2, o7_2, o7_6, o9_2, o9_6, o9_8, k0, k1⟩
    · obtain rfl := inj_ ho
      have h1 : D 1 = true := aft_ haf 1 rfl
      have ns9 : D 9 = false := nofb hDi o9_2
      have hx0 := (hev.at_ 1 5 rfl rfl h1 f1)
      refine op_call _ _ _ rfl (enters_of Tryz.func46 (by kernel_rfl) rfl) #[.pointer (some ⟨g, 0, none⟩), .int .i64 5] (by simp [hx0, eval_const]) (below_any g A n c 5 w (S.cur 1 rfl HCU.out)) (fun e w2 hh => ?_)
      obtain ⟨r9, rfl, hp9, hc9, hg9⟩ := hh
      have hp8 := hp9.2 (by omega)
      obtain ⟨q9, rfl⟩ : ∃ q9 : Nat, r9 = q9 := ⟨r9.toNat, by omega⟩
      exact ⟨_, rfl, ⟨_, rfl, gb, q9, q2, ga8, (by have SS := (S.drawn 1 rfl hc9 hg9); rw [cnd_f ns9] at SS; rw [show updB D 2 9 = false from ns9]; exact SS), f0, f1, fun _ => rfl, (fun h => nof hDi (o3_2 h)), (fun h => nof hDi (o4_2 h)), f5, f6, (fun h => nof hDi (o7_2 h)), f8, o3_0, fun _ => rfl, fun _ => rfl, fun _ => rfl, o7_6, fun _ => rfl, o9_6, o9_8, (fun _ => by omega), k1⟩⟩
    · obtain rfl := inj_ ho
      have h0 : D 0 = true := aft_ haf 0 rfl
      have h2 : D 2 = true := aft_ haf 2 rfl
      exact op_idx _ _ _ rfl 2 1 Tryz.underlying29 Tryz.sizeOf2 (hev.at_ 0 4 rfl rfl h0 f0) (hev.at_ 2 6 rfl rfl h2 f2) (k0 h2) ⟨_, rfl, gb, q1, q2, ga8, S, f0, f1, f2, fun _ => rfl, f4, f5, f6, f7, f8, fun _ => h0, fun _ => h2, o4_2, o7_2, o7_6, o9_2, o9_6, o9_8, k0, k1⟩
    · obtain rfl := inj_ ho
      have h3 : D 3 = true := aft_ haf 3 rfl
      have h2 : D 2 = true := o3_2 h3
      have h2 := o3_2 h3
      have h0 := o3_0 h3
      exact op_get 2 _ rfl S 2 (g := gb) (C := (IL [1, 2, 2, 2, 3]).toArray) (t := 2) (by simp only [gs_, gz_, cnd_t h0]) (0 + q1 * 1) (hev.at_ 3 7 rfl rfl h3 f3) Tryz.isAgg2 _ (codes_cell q1 (k0 h2)) ⟨_, rfl, gb, q1, q2, ga8, S, f0, f1, f2, f3, fun _ => rfl, f5, f6, f7, f8, o3_0, o3_2, fun _ => h2, o7_2, o7_6, o9_2, o9_6, o9_8, k0, k1⟩
    · obtain rfl := inj_ ho
      exact op_move (.inl rfl) ((hev.old 0 (by kernel_rfl)).trans rfl) ⟨_, rfl, gb, q1, q2, ga8, S, f0, f1, f2, f3, f4, fun _ => rfl, f6, f7, f8, o3_0, o3_2, o4_2, o7_2, o7_6, o9_2, o9_6, o9_8, k0, k1⟩
    · obtain rfl := inj_ ho
      have h5 : D 5 = true := aft_ haf 5 rfl
      have ns9 : D 9 = false := nofb hDi o9_6
      have hx0 := (hev.at_ 5 9 rfl rfl h5 f5)
      refine op_call _ _ _ rfl (enters_of Tryz.func46 (by kernel_rfl) rfl) #[.pointer (some ⟨g, 0, none⟩), .int .i64 30] (by simp [hx0, eval_const]) (below_any g A n c 30 w (S.cur 1 rfl HCU.out)) (fun e w2 hh => ?_)
      obtain ⟨r9, rfl, hp9, hc9, hg9⟩ := hh
      have hp8 := hp9.2 (by omega)
      obtain ⟨q9, rfl⟩ : ∃ q9 : Nat, r9 = q9 := ⟨r9.toNat, by omega⟩
      exact ⟨_, rfl, ⟨_, rfl, gb, q1, q9, ga8, (by have SS := (S.drawn 1 rfl hc9 hg9); rw [cnd_f ns9] at SS; rw [show updB D 6 9 = false from ns9]; exact SS), f0, f1, f2, f3, f4, f5, fun _ => rfl, (fun h => nof hDi (o7_6 h)), f8, o3_0, o3_2, o4_2, o7_2, fun _ => rfl, o9_2, fun _ => rfl, o9_8, k0, (fun _ => by omega)⟩⟩
    · obtain rfl := inj_ ho
      have h4 : D 4 = true := aft_ haf 4 rfl
      have h6 : D 6 = true := aft_ haf 6 rfl
      have h2 : D 2 = true := o4_2 h4
      have hx0 := (hev.at_ 4 8 rfl rfl h4 f4)
      have hx1 := (hev.at_ 6 10 rfl rfl h6 f6)
      exact op_build _ _ rfl [(0, .int .i64 (iAt [1, 2, 2, 2, 3] q1)), (1, .int .i64 q2)] (by simp [hx0, hx1]) _ (by kernel_rfl) ⟨_, rfl, gb, q1, q2, ga8, S, f0, f1, f2, f3, f4, f5, f6, fun _ => rfl, f8, o3_0, o3_2, o4_2, fun _ => h2, fun _ => h6, o9_2, o9_6, o9_8, k0, k1⟩
    · obtain rfl := inj_ ho
      have nst : D 9 = false := nofb hDi o9_8
      refine op_nxAt 92 rfl S 3 (by simp only [gs_, gz_, cnd_f hDi]) _ Tryz.zeroValue92 (fun g w S => ⟨_, rfl, gb, q1, q2, g, (by have e : updB D 8 9 = false := nst; rw [e]; exact S), f0, f1, f2, f3, f4, f5, f6, f7, fun _ => rfl, o3_0, o3_2, o4_2, o7_2, o7_6, o9_2, o9_6, fun _ => rfl, k0, k1⟩)
    · obtain rfl := inj_ ho
      have h8 : D 8 = true := aft_ haf 8 rfl
      have h7 : D 7 = true := aft_ haf 7 rfl
      have h2 : D 2 = true := o7_2 h7
      have h6 : D 6 = true := o7_6 h7
      have ha : D 8 = true := aft_ haf 8 rfl
      exact op_putR 92 _ _ rfl S 3 (g := ga8) (C := #[.int .i64 0, .int .i64 0, .int .i64 0]) (t := 92) (by simp only [gs_, gz_, cnd_t ha, cnd_f hDi]) (hev.at_ 8 3 rfl rfl h8 f8) _ (hev.at_ 7 11 rfl rfl h7 f7) rfl (by kernel_rfl) rfl (fun w S => ⟨_, rfl, gb, q1, q2, ga8, (by have e : updB D 9 8 = true := ha; rw [e]; exact S), f0, f1, f2, f3, f4, f5, f6, f7, f8, o3_0, o3_2, o4_2, o7_2, o7_6, fun _ => h2, fun _ => h6, fun _ => h8, k0, k1⟩)
    · exact absurd ho (by simp)
  intro V w hI
  obtain ⟨gb, q1, q2, ga8, S, f0, f1, f2, f3, f4, f5, f6, f7, f8, o3_0, o3_2, o4_2, o7_2, o7_6, o9_2, o9_6, o9_8, k0, k1⟩ := hI
  replace f0 := f0 rfl
  replace f1 := f1 rfl
  replace f2 := f2 rfl
  replace f3 := f3 rfl
  replace f4 := f4 rfl
  replace f5 := f5 rfl
  replace f6 := f6 rfl
  replace f7 := f7 rfl
  replace f8 := f8 rfl
  replace S : Hid (Sep (cuX g) w0 [bx rc #[.int .i64 0, .int .i64 0, .int .i64 0] 92, cuI g A n c, bx gb (IL [1, 2, 2, 2, 3]).toArray 2, bx ga8 #[.int .i64 (iAt [1, 2, 2, 2, 3] q1), .int .i64 q2, .int .i64 0] 92] w) := Lib.hid S
  simp only [putF, Act.put, List.setIfInBounds_toArray, List.set_cons_succ, List.set_cons_zero, f0, f1, f2, f3, f4, f5, f6, f7, f8]
  clear f0 f1 f2 f3 f4 f5 f6 f7 f8 o3_0 o3_2 o4_2 o7_2 o7_6 o9_2 o9_6 o9_8
  have HQ1 := Lib.hid (k0 rfl)
  have HQ2 := Lib.hid (k1 rfl)
  clear k0 k1
  by_cases h2 : iAt [1, 2, 2, 2, 3] q1 = 2
  · have g1 : (iAt [1, 2, 2, 2, 3] q1 == 2) = true := by simp [h2]
    clear h2
    go_wp2_with (first
        | go_skip
        | (refine wpList_op rfl (op_get 2 _ rfl S.out 3 rfl _ rfl Tryz.isAgg2 _ rfl ?_)))
    refine (below_any g A n c 100 _ (S.out.cur 1 rfl HCU.out)).mono ?_
    rintro e w ⟨r9, rfl, hp9, hc9, hg9⟩
    replace S : Hid (Sep (cuX g) w0 [bx rc #[.int .i64 0, .int .i64 0, .int .i64 0] 92, cuI g A n c, bx gb (IL [1, 2, 2, 2, 3]).toArray 2, bx ga8 #[.int .i64 (iAt [1, 2, 2, 2, 3] q1), .int .i64 q2, .int .i64 0] 92] w) := Lib.hid (S.out.drawn 1 rfl hc9 hg9)
    have HP := Lib.hid (hp9.2 (by omega))
    clear hp9 hc9 hg9
    go_wp2_with (first
        | go_skip
        | (refine wpList_op rfl (op_put1_3 2 _ _ rfl S _ rfl _ rfl rfl (by kernel_rfl) (of_decide_eq_true rfl) ?_); clear S; intro w S)
        | (refine wpList_op rfl (op_row 92 _ rfl S.out 3 rfl rfl Tryz.isAgg92 (by kernel_rfl) ?_))
        | (refine wpList_op rfl (op_putR_0 92 _ _ rfl S rfl _ rfl rfl (by kernel_rfl) rfl ?_); clear S; intro w S))
    exact bodyPost_ret (results_c rfl _ S.out 0 rfl rfl Tryz.isAgg92 (by kernel_rfl)) rfl ⟨_, _, _, rfl, codes_in q1 HQ1.out, by have := HQ2.out; omega, HP.out, S.out.cur 1 rfl HCU.out, S.out.grown⟩
  · have g1 : (iAt [1, 2, 2, 2, 3] q1 == 2) = false := by simp [h2]
    clear h2
    go_wp2_with (first
        | go_skip
        | (refine wpList_op rfl (op_get 2 _ rfl S.out 3 rfl _ rfl Tryz.isAgg2 _ rfl ?_))
        | (refine wpList_op rfl (op_row 92 _ rfl S.out 3 rfl rfl Tryz.isAgg92 (by kernel_rfl) ?_))
        | (refine wpList_op rfl (op_putR_0 92 _ _ rfl S rfl _ rfl rfl (by kernel_rfl) rfl ?_); clear S; intro w S))
    exact bodyPost_ret (results_c rfl _ S.out 0 rfl rfl Tryz.isAgg92 (by kernel_rfl)) rfl ⟨_, _, _, rfl, codes_in q1 HQ1.out, by have := HQ2.out; omega, by omega, S.out.cur 1 rfl HCU.out, S.out.grown⟩
end Go.Proofs.YtjdbehijghjfbaaGreat
namespace Go.Proofs.YtjdbehijghjfbaaGreat
open Go.RowKit

theorem Sep.gainAt3 {X : FP} {w0 w w' : World} {L : List Item} (h : Sep X w0 L w) (b : Below w.heap.size w w') (i j k : Nat) (hij : i ≠ j) (hik : i ≠ k) (hjk : j ≠ k) (e : L[i]? = some em) (e' : L[j]? = some em) (e2 : L[k]? = some em) (I J M : Item) (p : I.P w') (q : J.P w') (r : M.P w') (f : ∀ k, I.F k → w.heap.size ≤ k ∧ k < w'.heap.size) (g : ∀ k, J.F k → w.heap.size ≤ k ∧ k < w'.heap.size) (m : ∀ k, M.F k → w.heap.size ≤ k ∧ k < w'.heap.size)
    (a1 : Apart I.F J.F) (a2 : Apart I.F M.F) (a3 : Apart J.F M.F) : Sep X w0 (((L.set i I).set j J).set k M) w' := by
  have h3 := h.gain3 b M I J r p q m f g a2.symm a3.symm a1
  have h4 : Sep X w0 (I :: J :: (L.set k M)) w' := by
    have := h3.toAt (k + 2) (by simpa using e2)
    simpa using this
  have h5 : Sep X w0 (J :: ((L.set k M).set i I)) w' := by
    have := h4.toAt (i + 1) (by simp only [List.getElem?_cons_succ]; rw [List.getElem?_set_ne (by omega)]; exact e)
    simpa using this
  have h6 := h5.toAt j (by rw [List.getElem?_set_ne (by omega), List.getElem?_set_ne (by omega)]; exact e')
  rw [show ((L.set i I).set j J).set k M = ((L.set k M).set i I).set j J by rw [List.set_comm _ _ hjk, List.set_comm _ _ hik]]
  exact h6
section
variable {P : Program} {w : World} {o : Oper} {a : Act} {K : Act → World → Prop} {Q : Exit → Act → World → Prop}
theorem op_nilC (x : Operand) (ho : o.op = .nilCheck x) {p : Addr} (hx : a.eval x = .pointer (some p)) (hK : K (a.put o.dst (.pointer (some p))) w) : o.wp P a w K Q := by
  refine op_val ?_ hK
  generalize a.eval = E at hx ⊢
  simp [execOp, ho, hx, go_sem]
theorem op_addII (t : TypeId) (x y : Operand) (ho : o.op = .binOp .add t x y t) (_ht : Tryz.prog.underlying t = some (.int .i64)) {p q r : Int} (hx : a.eval x = .int .i64 p) (hy : a.eval y = .int .i64 q) (hr : IntKind.i64.wrap (p + q) = r) (hK : K (a.put o.dst (.int .i64 r)) w) : o.wp Tryz.prog a w K Q := by
  refine op_val ?_ hK
  generalize a.eval = E at hx hy ⊢
  subst hr
  simp [execOp, ho, hx, hy, go_sem]
end
end Go.Proofs.YtjdbehijghjfbaaGreat
namespace Go.Proofs.YtjdbehijghjfbaaGreat
open Go.RowKit

theorem from_any (g : Nat) (A : Option Addr) (n c : Nat) (lo hi : Int) (w0 : World) (hC : Cur w0 g A n c) :
    Calls Tryz.prog 27 #[.pointer (some ⟨g, 0, none⟩), .int .i64 lo, .int .i64 hi] w0 (Drawn g A n c (fun _ => True) w0) := by
  have HC := Lib.hid hC
  clear hC
  go_enter Tryz.func27, Tryz.ntmps27
  go_wp2_with fail
  refine (below_any g A n c _ _ HC.out).mono ?_
  rintro e w ⟨r9, rfl, _, hc9, hg9⟩
  have HC9 := Lib.hid hc9
  have HG9 := Lib.hid hg9
  clear hc9 hg9
  go_wp2_with fail
  go_ret
  exact ⟨_, rfl, trivial, HC9.out, HG9.out⟩
section
variable {X F : FP} {w0 w : World} {L : List Item} {o : Oper} {a : Act} {K : Act → World → Prop} {Q : Exit → Act → World → Prop}
theorem op_fld (t : TypeId) (x : Operand) (k : Nat) (ho : o.op = .field t x k) {v u : Value} (hx : a.eval x = v) (hr : (Instr.field t v k).run Tryz.prog w = .ok u w) (hK : K (a.put o.dst u) w) : o.wp Tryz.prog a w K Q := by
  refine op_val ?_ hK
  simp only [execOp, ho, hx, Sem.run_bind, hr, Result.andThen_ok, Sem.run_pure]
theorem op_ndPut1 (f : Nat) (ty : TypeId) (x y : Operand) (ho : o.op = .store ty x y) (h : Sep X w0 L w) {g n c k q : Nat} {xs : List Nd} (x' : Nd) (i : Nat) (e : L[i]? = some (ow (.slice (some ⟨g, 0, none⟩) n c) xs F))
    (hps : x'.ps = (ndAt xs k).ps) (hk : k < n) (hx : a.eval x = .pointer (some ⟨g, q, none⟩)) (hq : q = k * 5 + f) (v : Value) (hy : a.eval y = v) (h1 : v.oneCell' = true) (hvc : v.cells.toList = [v]) (hi : (Tryz.prog.info? ty).map (·.size) = some 1) (hf : f + 1 ≤ 5)
    (hcs : ∀ u, [Value.int .i64 (ndAt xs k).lv, u, .int .i64 (ndAt xs k).hi, .int .i64 (ndAt xs k).ri, .int .i64 (ndAt xs k).ow].take f ++ [v] ++ [Value.int .i64 (ndAt xs k).lv, u, .int .i64 (ndAt xs k).hi, .int .i64 (ndAt xs k).ri, .int .i64 (ndAt xs k).ow].drop (f + 1) = [.int .i64 x'.lv, u, .int .i64 x'.hi, .int .i64 x'.ri, .int .i64 x'.ow])
    (hK : ∀ w', Sep X w0 (L.set i (ow (.slice (some ⟨g, 0, none⟩) n c) (xs.set k x') F)) w' → K (a.put o.dst undef) w') : o.wp Tryz.prog a w K Q := by
  have hOw : OwnS w (.slice (some ⟨g, 0, none⟩) n c) xs F := h.get i e
  have hlen : xs.length = n := by
    obtain ⟨A, c', hv, _⟩ := hOw.form
    simp only [Value.slice.injEq] at hv
    exact hv.2.1.symm
  obtain ⟨g', cap, pre, cs, post, Fi, hv, hFg, hgl, hrow, hpre, hcl, hown0, hFi, hclose⟩ := hOw.open k (by omega)
  obtain ⟨rfl, rfl, rfl⟩ : g = g' ∧ n = xs.length ∧ c = cap := by simpa using hv
  obtain ⟨u1, hcs1, hin, hF1⟩ := hown0
  have hpre5 : pre.length = k * 5 := hpre
  have hrow5 : w.ownsRow 0 38 5 (.slice (some ⟨g, 0, none⟩) xs.length c) xs.length (pre ++ cs ++ post) := hrow
  have hcl5 : cs.length = 5 := hcl
  subst hq
  refine op_storeC ty x y ho hx v hy [v] hvc (fun u hu => by obtain rfl := List.mem_singleton.1 hu; exact h1) (by rw [hi]; rfl) (fun m hm => ?_) (fun m => hrow5.frozenAt m) (hK _ ?_)
  · have hle : k * 5 + 5 ≤ xs.length * 5 := by omega
    simp only [List.length_cons, List.length_nil] at hm
    rw [show k * 5 + f + m = k * 5 + (f + m) by omega, hrow5.cellAt _ (by omega), mid_get hpre5 (by omega)]
    simp [show f + m < cs.length by omega]
  · have r4 := own_mids hpre5 [v] w cs f hrow5 (by simp only [List.length_cons, List.length_nil]; omega)
    subst hcs1
    have hcs2 := hcs u1
    have r5 : (w.setCells g (k * 5 + f) [v]).ownsRow 0 38 5 (.slice (some ⟨g, 0, none⟩) xs.length c) xs.length (pre ++ [.int .i64 x'.lv, u1, .int .i64 x'.hi, .int .i64 x'.ri, .int .i64 x'.ow] ++ post) := by
      rw [← hcs2]; exact r4
    have hin2 : (w.setCells g (k * 5 + f) [v]).ownsRow 0 55 2 u1 x'.ps.length (PL x'.ps) := by
      rw [hps]
      exact own_same hin (fun q hq _ => setCells_other g [v] _ w q (hFi q (hF1 q hq)).2)
    have h5 := hclose (w.setCells g (k * 5 + f) [v]) _ x' Fi r5 ⟨u1, rfl, hin2, hF1⟩ (fun q _ hn _ _ => setCells_other g [v] _ w q hn) (fun q hq => ⟨(hFi q hq).2, fun _ => hq⟩)
    have h6 : OwnS (w.setCells g (k * 5 + f) [v]) (.slice (some ⟨g, 0, none⟩) xs.length c) (xs.set k x') F := h5.more (fun q hq => hq.elim id (fun h => (hFi q h).1))
    have ho5 := setCells_only g [v] (k * 5 + f) w
    exact h.turn i e (w' := w.setCells g (k * 5 + f) [v]) ⟨ho5.os, ho5.tape, ho5.output, ho5.size, fun q hq hn => ho5.block q hq (fun e => hn (e ▸ hFg))⟩ _ h6 (fun q hq => ⟨.inl hq, Nat.lt_of_lt_of_le (h.fresh _ (List.mem_of_getElem? e) q hq).2 ho5.size⟩)
theorem op_ndPutL (ty : TypeId) (x y : Operand) (ho : o.op = .store ty x y) (h : Sep X w0 L w) {g n c k q : Nat} {xs : List Nd} {vz : Value} {zs : List Pr} {FZ : FP} (i j : Nat) (hij : i ≠ j) (e : L[i]? = some (ow (.slice (some ⟨g, 0, none⟩) n c) xs F)) (e' : L[j]? = some (ow vz zs FZ))
    (hk : k < n) (hx : a.eval x = .pointer (some ⟨g, q, none⟩)) (hq : q = k * 5 + 1) (hy : a.eval y = vz) (h1 : vz.oneCell' = true) (hvc : vz.cells.toList = [vz]) (hi : (Tryz.prog.info? ty).map (·.size) = some 1)
    (hK : ∀ w', Sep X w0 ((L.set i (ow (.slice (some ⟨g, 0, none⟩) n c) (xs.set k { ndAt xs k with ps := zs }) (fun q => F q ∨ FZ q))).set j em) w' → K (a.put o.dst undef) w') : o.wp Tryz.prog a w K Q := by
  have hOw : OwnS w (.slice (some ⟨g, 0, none⟩) n c) xs F := h.get i e
  have hZ : OwnS w vz zs FZ := h.get j e'
  have hlen : xs.length = n := by
    obtain ⟨A, c', hv, _⟩ := hOw.form
    simp only [Value.slice.injEq] at hv
    exact hv.2.1.symm
  have hap : Apart F FZ := h.apart_at i j hij e e'
  have h2 := h.merge i j hij e e' (both (.slice (some ⟨g, 0, none⟩) n c) xs F vz zs FZ) ⟨hOw, hZ, hap⟩ (fun k hk => hk)
  obtain ⟨g', cap, pre, cs, post, Fi, hv, hFg, hgl, hrow, hpre, hcl, hown0, hFi, hclose⟩ := hOw.open k (by omega)
  obtain ⟨rfl, rfl, rfl⟩ : g = g' ∧ n = xs.length ∧ c = cap := by simpa using hv
  obtain ⟨u1, hcs1, hin, hF1⟩ := hown0
  have hpre5 : pre.length = k * 5 := hpre
  have hrow5 : w.ownsRow 0 38 5 (.slice (some ⟨g, 0, none⟩) xs.length c) xs.length (pre ++ cs ++ post) := hrow
  have hcl5 : cs.length = 5 := hcl
  subst hq
  refine op_storeC ty x y ho hx vz hy [vz] hvc (fun u hu => by obtain rfl := List.mem_singleton.1 hu; exact h1) (by rw [hi]; rfl) (fun m hm => ?_) (fun m => hrow5.frozenAt m) (hK _ ?_)
  · have hle : k * 5 + 5 ≤ xs.length * 5 := by omega
    simp only [List.length_cons, List.length_nil] at hm
    rw [show k * 5 + 1 + m = k * 5 + (1 + m) by omega, hrow5.cellAt _ (by omega), mid_get hpre5 (by omega)]
    simp [show 1 + m < cs.length by omega]
  · have r4 := own_mids hpre5 [vz] w cs 1 hrow5 (by simp only [List.length_cons, List.length_nil]; omega)
    subst hcs1
    obtain ⟨z1, z2⟩ := hZ.pairs
    have hne : ∀ q, FZ q → q ≠ g := fun q hq e => hap g hFg (e ▸ hq)
    have h5 := hclose (w.setCells g (k * 5 + 1) [vz]) _ { ndAt xs k with ps := zs } (fun q => vz.ownBlock = some q) r4 ⟨vz, rfl, own_same z1 (fun q hq _ => setCells_other g [vz] _ w q (hne q (z2 q hq))), fun q hq => hq⟩
      (fun q _ hn _ _ => setCells_other g [vz] _ w q hn) (fun q hq => ⟨hne q (z2 q hq), fun hF => absurd (z2 q hq) (hap q hF)⟩)
    have h6 : OwnS (w.setCells g (k * 5 + 1) [vz]) (.slice (some ⟨g, 0, none⟩) xs.length c) (xs.set k { ndAt xs k with ps := zs }) (fun q => F q ∨ FZ q) := h5.more (fun q hq => hq.imp id (z2 q))
    have ho5 := setCells_only g [vz] (k * 5 + 1) w
    have hgi : ((L.set i (both (.slice (some ⟨g, 0, none⟩) xs.length c) xs F vz zs FZ)).set j em)[i]? = some (both (.slice (some ⟨g, 0, none⟩) xs.length c) xs F vz zs FZ) := by
      rw [List.getElem?_set_ne (by omega), List.getElem?_set_self (List.getElem?_eq_some_iff.1 e).1]
    have h7 := h2.turn i hgi (w' := w.setCells g (k * 5 + 1) [vz]) ⟨ho5.os, ho5.tape, ho5.output, ho5.size, fun q hq hn => ho5.block q hq (fun e => hn (.inl (e ▸ hFg)))⟩ (ow (.slice (some ⟨g, 0, none⟩) xs.length c) (xs.set k { ndAt xs k with ps := zs }) (fun q => F q ∨ FZ q)) h6
      (fun q hq => ⟨.inl hq, Nat.lt_of_lt_of_le (h2.fresh _ (List.mem_of_getElem? hgi) q hq).2 ho5.size⟩)
    rw [show ((L.set i (both (.slice (some ⟨g, 0, none⟩) xs.length c) xs F vz zs FZ)).set j em).set i (ow (.slice (some ⟨g, 0, none⟩) xs.length c) (xs.set k { ndAt xs k with ps := zs }) (fun q => F q ∨ FZ q)) = (L.set i (ow (.slice (some ⟨g, 0, none⟩) xs.length c) (xs.set k { ndAt xs k with ps := zs }) (fun q => F q ∨ FZ q))).set j em by rw [List.set_comm _ _ (by omega), List.set_set]] at h7
    exact h7
end
def DrawnT (g : Nat) (A : Option Addr) (n c : Nat) (w : World) (e : Ending) (w' : World) : Prop :=
  ∃ (r : Int) (xs : List Nd) (A0 : Option Addr) (c0 : Nat) (F : FP), e = .returned (.agg #[.int .i64 r, .slice A0 xs.length c0]) ∧ Small.sm xs ∧ OwnS w' (.slice A0 xs.length c0) xs F ∧ Fresh F w w' ∧ Cur w' g A n c ∧ w.grownBy w' (some g)
end Go.Proofs.YtjdbehijghjfbaaGreat
