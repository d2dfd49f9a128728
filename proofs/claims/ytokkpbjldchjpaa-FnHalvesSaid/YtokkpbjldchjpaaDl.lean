/- The draw DrawLowerOf, walked. (Made by genDh.py.) -/
import Derived.Test.YtokkpbjldchjpaaDh
import Derived.Test.YtokkpbjldchjpaaY11
namespace Go.Proofs.Ytokkpbjldchjpaa
open Go.RowKit

/-- Two drawn nodes. -/
def DrawnLo (w : World) (e : Ending) (w' : World) : Prop :=
  ∃ (x y : Nd) (A1 : Option Addr) (c1 : Nat) (F1 : FP) (A2 : Option Addr) (c2 : Nat) (F2 : FP), e = .returned (.tuple #[ndV x A1 x.ps.length c1, ndV y A2 y.ps.length c2]) ∧ OwnS w' (.slice A1 x.ps.length c1) x.ps F1 ∧ OwnS w' (.slice A2 y.ps.length c2) y.ps F2 ∧ x.ps.length ≤ 41 ∧ y.ps.length ≤ 41 ∧ Apart F1 F2 ∧ Fresh F1 w w' ∧ Fresh F2 w w' ∧ Below w.heap.size w w'
theorem Sep.drawnLo {w0 w : World} {L : List Item} (h : Sep noX w0 L w) (p q : Nat) (hpq : p ≠ q) {x y : Nd} {A1 A2 : Option Addr} {c1 m1 c2 m2 : Nat} {F1 F2 : FP} (e : L[p]? = some (ow (.slice A1 m1 c1) x.ps F1)) (e' : L[q]? = some (ow (.slice A2 m2 c2) y.ps F2)) (h1 : x.ps.length = m1) (h2 : y.ps.length = m2) (k1 : m1 ≤ 41) (k2 : m2 ≤ 41) :
    DrawnLo w0 (.returned (.tuple #[ndV x A1 m1 c1, ndV y A2 m2 c2])) w := by
  subst h1 h2
  obtain ⟨u1, u2, u3⟩ := h.ends p e
  obtain ⟨v1, v2, _⟩ := h.ends q e'
  refine ⟨x, y, A1, c1, F1, A2, c2, F2, rfl, u1, v1, k1, k2, ?_, u2, v2, u3⟩
  rcases Nat.lt_or_gt_of_ne hpq with h' | h'
  · exact h.two p q h' e e'
  · exact (h.two q p h' e' e).symm
theorem loH_len (x : Nd) (k v at_ : Int) (hx : x.ps.length ≤ 41) : (loH x k v at_).ps.length ≤ 41 := by
  unfold loH
  split
  · show ((insL x.ps k v).take 3).length ≤ 41
    rw [List.length_take]; omega
  · exact Nat.zero_le _
theorem upH_len (x : Nd) (k v at_ : Int) (hx : x.ps.length ≤ 41) : (upH x k v at_).ps.length ≤ 41 := by
  unfold upH
  split
  · show ((insL x.ps k v).drop 3).length ≤ 41
    have := insL_le x.ps k v
    rw [List.length_drop]; omega
  · exact Nat.zero_le _

set_option maxRecDepth 100000 in
set_option maxHeartbeats 16000000 in
theorem dLower_any (A : Option Addr) (n c : Nat) (w0 : World) (hb : Bys w0 w0.heap.size A n) (hn : n ≤ 4096) :
    Calls Try.prog 10 #[.slice A n c] w0 (DrawnLo w0) := by
  have HB := Lib.hid hb
  have HN := Lib.hid hn
  clear hb hn
  have S := Lib.hid (Sep.start noX w0)
  have tok0 : True := trivial
  have tok1 : True := trivial
  go_enter Try.func10, Try.ntmps10
  go_wp2_with (first
      | go_skip
      | (have _t := tok0; clear _t; refine wpList_op rfl (op_nx 26 rfl S.out _ Try.zeroValue26 ?_); clear S tok0; intro r1 w S; replace S := Lib.hid S)
      | (have _t := tok1; clear _t; refine wpList_op rfl (op_nx 26 rfl S.out _ Try.zeroValue26 ?_); clear S tok1; intro r2 w S; replace S := Lib.hid S))
  refine (new_any A n c _ (bys_on HB.out S.out.below) HN.out).mono ?_
  rintro e w1 ⟨gc, rfl, hg, hc, b⟩
  replace S := Lib.hid (S.out.newCur hc hg b)
  clear hc hg b
  go_wp2_with fail
  refine (dHalves_any A n c _ (bys_on HB.out S.out.below) HN.out).mono ?_
  rintro e w1 ⟨x, A1, c1, F1, k, v, at_, rfl, ho, hx41, hf, b⟩
  generalize hx : x.ps.length = n1 at *
  have HX := Lib.hid hx
  have HX41 := Lib.hid hx41
  replace S := Lib.hid (S.out.own b ho hf)
  clear ho hf b hx hx41
  unfold ndV
  have tokA : True := trivial
  have tokB : True := trivial
  go_wp2_with (first
      | go_skip
      | (have _t := tokA; clear _t; refine wpList_op rfl (op_nx 26 rfl S.out _ Try.zeroValue26 ?_); clear S tokA; intro g5 w S; replace S := Lib.hid S; simp only [Act.put, List.setIfInBounds_toArray, List.set_cons_succ, List.set_cons_zero])
      | (have _t := tokB; clear _t; refine wpList_op rfl (op_nx 28 rfl S.out _ Try.zeroValue28 ?_); clear S tokB; intro g6 w S; replace S := Lib.hid S; simp only [Act.put, List.setIfInBounds_toArray, List.set_cons_succ, List.set_cons_zero])
      | (refine wpList_op rfl (op_putR_1 26 _ _ rfl S rfl _ rfl rfl (by kernel_rfl) rfl ?_); clear S; intro w S; simp only [Act.put, List.setIfInBounds_toArray, List.set_cons_succ, List.set_cons_zero])
      | (refine wpList_op rfl (op_putR_0 28 _ _ rfl S rfl _ rfl rfl (by kernel_rfl) rfl ?_); clear S; intro w S; simp only [Act.put, List.setIfInBounds_toArray, List.set_cons_succ, List.set_cons_zero])
      | (refine wpList_op rfl (op_row 26 _ rfl S.out 1 rfl rfl Try.isAgg26 (by kernel_rfl) ?_); simp only [Act.put, List.setIfInBounds_toArray, List.set_cons_succ, List.set_cons_zero])
      | (refine wpList_op rfl (op_row 28 _ rfl S.out 0 rfl rfl Try.isAgg28 (by kernel_rfl) ?_); simp only [Act.put, List.setIfInBounds_toArray, List.set_cons_succ, List.set_cons_zero]))
  refine (halves_any x A1 n1 c1 k v at_ _ (OwnS.rp (S.out.get 2 rfl) HX.out) (by have := HX41.out; omega) (OwnS.cap (S.out.get 2 rfl)).1 (OwnS.cap (S.out.get 2 rfl)).2).mono ?_
  rintro e w1 ⟨A2, c2, F2, A3, c3, F3, rfl, o1, o2, ap, f1, f2, b⟩
  have hl41 := loH_len x k v at_ (by rw [HX.out]; exact HX41.out)
  have hu41 := upH_len x k v at_ (by rw [HX.out]; exact HX41.out)
  generalize loH x k v at_ = lo at *
  generalize upH x k v at_ = up at *
  generalize halfB x k v at_ = hb at *
  generalize hnl : lo.ps.length = nl at *
  generalize hnu : up.ps.length = nu at *
  have HNL := Lib.hid hnl
  have HNU := Lib.hid hnu
  have HL41 := Lib.hid hl41
  have HU41 := Lib.hid hu41
  replace S := Lib.hid (S.out.gain2 b (ow (.slice A2 nl c2) lo.ps F2) (ow (.slice A3 nu c3) up.ps F3) o1 o2 f1 f2 ap)
  clear hl41 hu41 hnl hnu o1 o2 f1 f2 ap b
  unfold ndV
  have tokC : True := trivial
  have tokD : True := trivial
  cases hb
  · have t9 : True := trivial
    go_wp2_with (first
        | go_skip
        | (have _t := tokC; clear _t; refine wpList_op rfl (op_nx 26 rfl S.out _ Try.zeroValue26 ?_); clear S tokC; intro g8 w S; replace S := Lib.hid S; simp only [Act.put, List.setIfInBounds_toArray, List.set_cons_succ, List.set_cons_zero])
        | (have _t := tokD; clear _t; refine wpList_op rfl (op_nx 26 rfl S.out _ Try.zeroValue26 ?_); clear S tokD; intro g9 w S; replace S := Lib.hid S; simp only [Act.put, List.setIfInBounds_toArray, List.set_cons_succ, List.set_cons_zero])
        | (refine wpList_op rfl (op_putR_1 26 _ _ rfl S rfl _ rfl rfl (by kernel_rfl) rfl ?_); clear S; intro w S; simp only [Act.put, List.setIfInBounds_toArray, List.set_cons_succ, List.set_cons_zero])
        | (refine wpList_op rfl (op_putR_0 26 _ _ rfl S rfl _ rfl rfl (by kernel_rfl) rfl ?_); clear S; intro w S; simp only [Act.put, List.setIfInBounds_toArray, List.set_cons_succ, List.set_cons_zero]))
    refine wp_region_ev (by kernel_rfl) _ (by kernel_rfl) (by kernel_rfl) 38 rfl (by kernel_rfl) (fun D V w => ∃ y : Nd, ∃ A4 : Option Addr, ∃ c4 : Nat, ∃ F4 : FP, Sep noX w0 [bx g9 #[.int .i64 up.lv, .slice A3 nu c3, .int .i64 up.hi, .int .i64 up.ri, .int .i64 up.ow] 26, bx g8 #[.int .i64 lo.lv, .slice A2 nl c2, .int .i64 lo.hi, .int .i64 lo.ri, .int .i64 lo.ow] 26, ow (.slice A2 nl c2) lo.ps F2, ow (.slice A3 nu c3) up.ps F3, bx g6 #[.int .i64 k, .int .i64 v] 28, bx g5 #[.int .i64 x.lv, .slice A1 n1 c1, .int .i64 x.hi, .int .i64 x.ri, .int .i64 x.ow] 26, ow (.slice A1 n1 c1) x.ps F1, cuI gc A n c, cnd (D 4) (bx r2 #[.int .i64 0, .slice none 0 0, .int .i64 0, .int .i64 0, .int .i64 0] 26) (bx r2 #[.int .i64 y.lv, .slice A4 y.ps.length c4, .int .i64 y.hi, .int .i64 y.ri, .int .i64 y.ow] 26), cnd (D 3) (bx r1 #[.int .i64 0, .slice none 0 0, .int .i64 0, .int .i64 0, .int .i64 0] 26) (bx r1 #[.int .i64 x.lv, .slice A1 n1 c1, .int .i64 x.hi, .int .i64 x.ri, .int .i64 x.ow] 26), cnd (D 2) em (ow (.slice A4 y.ps.length c4) y.ps F4)] w ∧ (D 0 = true → V 0 = .agg #[.int .i64 x.lv, .slice A1 n1 c1, .int .i64 x.hi, .int .i64 x.ri, .int .i64 x.ow]) ∧ (D 1 = true → V 1 = .pointer (some ⟨gc, 0, none⟩)) ∧ (D 2 = true → V 2 = .agg #[.int .i64 y.lv, .slice A4 y.ps.length c4, .int .i64 y.hi, .int .i64 y.ri, .int .i64 y.ow]) ∧ (D 4 = true → D 2 = true) ∧ (D 2 = true → y.ps.length ≤ 41)) ?_ ?_ ?_
    · intro D hD
      have d2 := hD 2 (by decide)
      have d3 := hD 3 (by decide)
      have d4 := hD 4 (by decide)
      exact ⟨zeroN, none, 0, fun _ => False, by rw [cnd_f d4, cnd_f d3, cnd_f d2]; exact S.out.drew.ems 1, (fun h => absurd h (by rw [hD 0 (by decide)]; exact Bool.false_ne_true)), (fun h => absurd h (by rw [hD 1 (by decide)]; exact Bool.false_ne_true)), (fun h => absurd h (by rw [hD 2 (by decide)]; exact Bool.false_ne_true)), (fun h => absurd h (by rw [hD 4 (by decide)]; exact Bool.false_ne_true)), (fun h => absurd h (by rw [hD 2 (by decide)]; exact Bool.false_ne_true))⟩
    · intro i o D V w a ho hI hDi haf hev
      obtain ⟨y, A4, c4, F4, S, f0, f1, f2, o4_2, k0⟩ := hI
      rcases i with _ | _ | _ | _ | _ | i
      · obtain rfl := Option.some.inj (show some _ = some o from ho)
        exact op_row 26 _ rfl S 5 rfl ((hev.old 5 (by kernel_rfl)).trans rfl) Try.isAgg26 (by kernel_rfl) ⟨_, rfl, y, A4, c4, F4, S, fun _ => rfl, f1, f2, o4_2, k0⟩
      · obtain rfl := Option.some.inj (show some _ = some o from ho)
        exact op_move (.inl rfl) ((hev.old 4 (by kernel_rfl)).trans rfl) ⟨_, rfl, y, A4, c4, F4, S, f0, fun _ => rfl, f2, o4_2, k0⟩
      · obtain rfl := Option.some.inj (show some _ = some o from ho)
        have h1 : D 1 = true := by first | exact haf ⟨1, .data⟩ (by simp) rfl | exact haf ⟨1, .phase⟩ (by simp) rfl | exact haf ⟨1, .chain⟩ (by simp) rfl
        have ns4 : D 4 = false := by
          cases hq : D 4 with
          | false => rfl
          | true => exact absurd (o4_2 hq) (by rw [hDi]; exact Bool.false_ne_true)
        have hx0 := ((hev.new 1 _ 36 rfl rfl h1).trans (f1 h1))
        refine op_call _ _ _ rfl (enters_of Try.func27 (by kernel_rfl) rfl) #[.pointer (some ⟨gc, 0, none⟩)] (by simp [hx0]) (nDrawAny_any gc A n c w (S.curA 7 rfl HB.out HN.out)) (fun e w2 hh => ?_)
        obtain ⟨y9, A9, c9, rfl, ho, hz, hc, hgr⟩ := hh
        have ho9 : OwnS w2 (.slice A9 y9.ps.length c9) y9.ps (blkF (Value.slice A9 y9.ps.length c9).ownBlock) := OwnS.of_pairs ho (F := blkF _) (fun k hk => hk)
        have hf9 := fresh_blk ho (Nat.le_refl _)
        have S2 := (S.drawnGainA 7 rfl hc hgr (ow (.slice A9 y9.ps.length c9) y9.ps (blkF (Value.slice A9 y9.ps.length c9).ownBlock)) ho9 (fun k hk => hf9 k hk)).placed 10 (by simp)
        exact ⟨_, rfl, ⟨_, rfl, y9, A9, c9, (blkF (Value.slice A9 y9.ps.length c9).ownBlock), (by have SS := S2; rw [cnd_f ns4] at SS; rw [show updB D 2 4 = false from ns4]; exact SS), f0, f1, fun _ => rfl, fun _ => rfl, (fun _ => hz)⟩⟩
      · obtain rfl := Option.some.inj (show some _ = some o from ho)
        have h0 : D 0 = true := by first | exact haf ⟨0, .data⟩ (by simp) rfl | exact haf ⟨0, .phase⟩ (by simp) rfl | exact haf ⟨0, .chain⟩ (by simp) rfl
        exact op_putR 26 _ _ rfl S 9 (g := r1) (C := #[.int .i64 0, .slice none 0 0, .int .i64 0, .int .i64 0, .int .i64 0]) (t := 26) (by simp only [List.getElem?_cons_succ, List.getElem?_cons_zero, cnd_f hDi]) ((hev.old 2 (by kernel_rfl)).trans rfl) _ ((hev.new 0 _ 35 rfl rfl h0).trans (f0 h0)) rfl (by kernel_rfl) rfl (fun w S => ⟨_, rfl, y, A4, c4, F4, S, f0, f1, f2, o4_2, k0⟩)
      · obtain rfl := Option.some.inj (show some _ = some o from ho)
        have h2 : D 2 = true := by first | exact haf ⟨2, .data⟩ (by simp) rfl | exact haf ⟨2, .phase⟩ (by simp) rfl | exact haf ⟨2, .chain⟩ (by simp) rfl
        exact op_putR 26 _ _ rfl S 8 (g := r2) (C := #[.int .i64 0, .slice none 0 0, .int .i64 0, .int .i64 0, .int .i64 0]) (t := 26) (by simp only [List.getElem?_cons_succ, List.getElem?_cons_zero, cnd_f hDi]) ((hev.old 3 (by kernel_rfl)).trans rfl) _ ((hev.new 2 _ 37 rfl rfl h2).trans (f2 h2)) rfl (by kernel_rfl) rfl (fun w S => ⟨_, rfl, y, A4, c4, F4, S, f0, f1, f2, fun _ => h2, k0⟩)
      · exact absurd ho (by simp)
    intro V w hI
    obtain ⟨y, A4, c4, F4, S, f0, f1, f2, o4_2, k0⟩ := hI
    replace f0 := f0 rfl
    replace f1 := f1 rfl
    replace f2 := f2 rfl
    replace S : Hid (Sep noX w0 [bx g9 #[.int .i64 up.lv, .slice A3 nu c3, .int .i64 up.hi, .int .i64 up.ri, .int .i64 up.ow] 26, bx g8 #[.int .i64 lo.lv, .slice A2 nl c2, .int .i64 lo.hi, .int .i64 lo.ri, .int .i64 lo.ow] 26, ow (.slice A2 nl c2) lo.ps F2, ow (.slice A3 nu c3) up.ps F3, bx g6 #[.int .i64 k, .int .i64 v] 28, bx g5 #[.int .i64 x.lv, .slice A1 n1 c1, .int .i64 x.hi, .int .i64 x.ri, .int .i64 x.ow] 26, ow (.slice A1 n1 c1) x.ps F1, cuI gc A n c, bx r2 #[.int .i64 y.lv, .slice A4 y.ps.length c4, .int .i64 y.hi, .int .i64 y.ri, .int .i64 y.ow] 26, bx r1 #[.int .i64 x.lv, .slice A1 n1 c1, .int .i64 x.hi, .int .i64 x.ri, .int .i64 x.ow] 26, ow (.slice A4 y.ps.length c4) y.ps F4] w) := Lib.hid S
    simp only [putF, Act.put, List.setIfInBounds_toArray, List.set_cons_succ, List.set_cons_zero, f0, f1, f2]
    clear f0 f1 f2 o4_2
    replace k0 := k0 rfl
    go_wp2_with fail
    exact bodyPost_ret (results_cc rfl _ S.out 9 8 rfl rfl rfl rfl Try.isAgg26 Try.isAgg26 (by kernel_rfl) (by kernel_rfl)) rfl (by exact S.out.drawnLo 6 10 (by omega) (x := x) (y := y) rfl rfl HX.out rfl HX41.out k0)
  · have t9 : True := trivial
    go_wp2_with (first
        | go_skip
        | (have _t := tokC; clear _t; refine wpList_op rfl (op_nx 26 rfl S.out _ Try.zeroValue26 ?_); clear S tokC; intro g8 w S; replace S := Lib.hid S; simp only [Act.put, List.setIfInBounds_toArray, List.set_cons_succ, List.set_cons_zero])
        | (have _t := tokD; clear _t; refine wpList_op rfl (op_nx 26 rfl S.out _ Try.zeroValue26 ?_); clear S tokD; intro g9 w S; replace S := Lib.hid S; simp only [Act.put, List.setIfInBounds_toArray, List.set_cons_succ, List.set_cons_zero])
        | (refine wpList_op rfl (op_putR_1 26 _ _ rfl S rfl _ rfl rfl (by kernel_rfl) rfl ?_); clear S; intro w S; simp only [Act.put, List.setIfInBounds_toArray, List.set_cons_succ, List.set_cons_zero])
        | (refine wpList_op rfl (op_putR_0 26 _ _ rfl S rfl _ rfl rfl (by kernel_rfl) rfl ?_); clear S; intro w S; simp only [Act.put, List.setIfInBounds_toArray, List.set_cons_succ, List.set_cons_zero]))
    refine (once_any gc A n c _ _ (S.out.curA 7 rfl HB.out HN.out)).mono ?_
    rintro e w9 ⟨b1, rfl, hc9, hg9⟩
    replace S := Lib.hid (S.out.drawnA 7 rfl hc9 hg9)
    clear hc9 hg9
    cases b1
    · go_wp2_with fail
      refine wp_region_ev (by kernel_rfl) _ (by kernel_rfl) (by kernel_rfl) 38 rfl (by kernel_rfl) (fun D V w => Sep noX w0 [bx g9 #[.int .i64 up.lv, .slice A3 nu c3, .int .i64 up.hi, .int .i64 up.ri, .int .i64 up.ow] 26, bx g8 #[.int .i64 lo.lv, .slice A2 nl c2, .int .i64 lo.hi, .int .i64 lo.ri, .int .i64 lo.ow] 26, ow (.slice A2 nl c2) lo.ps F2, ow (.slice A3 nu c3) up.ps F3, bx g6 #[.int .i64 k, .int .i64 v] 28, bx g5 #[.int .i64 x.lv, .slice A1 n1 c1, .int .i64 x.hi, .int .i64 x.ri, .int .i64 x.ow] 26, ow (.slice A1 n1 c1) x.ps F1, cuI gc A n c, cnd (D 3) (bx r2 #[.int .i64 0, .slice none 0 0, .int .i64 0, .int .i64 0, .int .i64 0] 26) (bx r2 #[.int .i64 up.lv, .slice A3 nu c3, .int .i64 up.hi, .int .i64 up.ri, .int .i64 up.ow] 26), cnd (D 2) (bx r1 #[.int .i64 0, .slice none 0 0, .int .i64 0, .int .i64 0, .int .i64 0] 26) (bx r1 #[.int .i64 lo.lv, .slice A2 nl c2, .int .i64 lo.hi, .int .i64 lo.ri, .int .i64 lo.ow] 26)] w ∧ (D 0 = true → V 0 = .agg #[.int .i64 lo.lv, .slice A2 nl c2, .int .i64 lo.hi, .int .i64 lo.ri, .int .i64 lo.ow]) ∧ (D 1 = true → V 1 = .agg #[.int .i64 up.lv, .slice A3 nu c3, .int .i64 up.hi, .int .i64 up.ri, .int .i64 up.ow])) ?_ ?_ ?_
      · intro D hD
        have d2 := hD 2 (by decide)
        have d3 := hD 3 (by decide)
        exact ⟨by rw [cnd_f d3, cnd_f d2]; exact S.out.drew.ems 0, (fun h => absurd h (by rw [hD 0 (by decide)]; exact Bool.false_ne_true)), (fun h => absurd h (by rw [hD 1 (by decide)]; exact Bool.false_ne_true))⟩
      · intro i o D V w a ho hI hDi haf hev
        obtain ⟨S, f0, f1⟩ := hI
        rcases i with _ | _ | _ | _ | i
        · obtain rfl := Option.some.inj (show some _ = some o from ho)
          exact op_row 26 _ rfl S 1 rfl ((hev.old 8 (by kernel_rfl)).trans rfl) Try.isAgg26 (by kernel_rfl) ⟨_, rfl, S, fun _ => rfl, f1⟩
        · obtain rfl := Option.some.inj (show some _ = some o from ho)
          exact op_row 26 _ rfl S 0 rfl ((hev.old 9 (by kernel_rfl)).trans rfl) Try.isAgg26 (by kernel_rfl) ⟨_, rfl, S, f0, fun _ => rfl⟩
        · obtain rfl := Option.some.inj (show some _ = some o from ho)
          have h0 : D 0 = true := by first | exact haf ⟨0, .data⟩ (by simp) rfl | exact haf ⟨0, .phase⟩ (by simp) rfl | exact haf ⟨0, .chain⟩ (by simp) rfl
          exact op_putR 26 _ _ rfl S 9 (g := r1) (C := #[.int .i64 0, .slice none 0 0, .int .i64 0, .int .i64 0, .int .i64 0]) (t := 26) (by simp only [List.getElem?_cons_succ, List.getElem?_cons_zero, cnd_f hDi]) ((hev.old 2 (by kernel_rfl)).trans rfl) _ ((hev.new 0 _ 33 rfl rfl h0).trans (f0 h0)) rfl (by kernel_rfl) rfl (fun w S => ⟨_, rfl, S, f0, f1⟩)
        · obtain rfl := Option.some.inj (show some _ = some o from ho)
          have h1 : D 1 = true := by first | exact haf ⟨1, .data⟩ (by simp) rfl | exact haf ⟨1, .phase⟩ (by simp) rfl | exact haf ⟨1, .chain⟩ (by simp) rfl
          exact op_putR 26 _ _ rfl S 8 (g := r2) (C := #[.int .i64 0, .slice none 0 0, .int .i64 0, .int .i64 0, .int .i64 0]) (t := 26) (by simp only [List.getElem?_cons_succ, List.getElem?_cons_zero, cnd_f hDi]) ((hev.old 3 (by kernel_rfl)).trans rfl) _ ((hev.new 1 _ 34 rfl rfl h1).trans (f1 h1)) rfl (by kernel_rfl) rfl (fun w S => ⟨_, rfl, S, f0, f1⟩)
        · exact absurd ho (by simp)
      intro V w hI
      obtain ⟨S, f0, f1⟩ := hI
      replace f0 := f0 rfl
      replace f1 := f1 rfl
      replace S : Hid (Sep noX w0 [bx g9 #[.int .i64 up.lv, .slice A3 nu c3, .int .i64 up.hi, .int .i64 up.ri, .int .i64 up.ow] 26, bx g8 #[.int .i64 lo.lv, .slice A2 nl c2, .int .i64 lo.hi, .int .i64 lo.ri, .int .i64 lo.ow] 26, ow (.slice A2 nl c2) lo.ps F2, ow (.slice A3 nu c3) up.ps F3, bx g6 #[.int .i64 k, .int .i64 v] 28, bx g5 #[.int .i64 x.lv, .slice A1 n1 c1, .int .i64 x.hi, .int .i64 x.ri, .int .i64 x.ow] 26, ow (.slice A1 n1 c1) x.ps F1, cuI gc A n c, bx r2 #[.int .i64 up.lv, .slice A3 nu c3, .int .i64 up.hi, .int .i64 up.ri, .int .i64 up.ow] 26, bx r1 #[.int .i64 lo.lv, .slice A2 nl c2, .int .i64 lo.hi, .int .i64 lo.ri, .int .i64 lo.ow] 26] w) := Lib.hid S
      simp only [putF, Act.put, List.setIfInBounds_toArray, List.set_cons_succ, List.set_cons_zero, f0, f1]
      clear f0 f1
      go_wp2_with fail
      exact bodyPost_ret (results_cc rfl _ S.out 9 8 rfl rfl rfl rfl Try.isAgg26 Try.isAgg26 (by kernel_rfl) (by kernel_rfl)) rfl (by exact S.out.drawnLo 2 3 (by omega) (x := lo) (y := up) rfl rfl HNL.out HNU.out HL41.out HU41.out)
    · go_wp2_with fail
      refine wp_region_ev (by kernel_rfl) _ (by kernel_rfl) (by kernel_rfl) 38 rfl (by kernel_rfl) (fun D V w => ∃ y : Nd, ∃ A4 : Option Addr, ∃ c4 : Nat, ∃ F4 : FP, Sep noX w0 [bx g9 #[.int .i64 up.lv, .slice A3 nu c3, .int .i64 up.hi, .int .i64 up.ri, .int .i64 up.ow] 26, bx g8 #[.int .i64 lo.lv, .slice A2 nl c2, .int .i64 lo.hi, .int .i64 lo.ri, .int .i64 lo.ow] 26, ow (.slice A2 nl c2) lo.ps F2, ow (.slice A3 nu c3) up.ps F3, bx g6 #[.int .i64 k, .int .i64 v] 28, bx g5 #[.int .i64 x.lv, .slice A1 n1 c1, .int .i64 x.hi, .int .i64 x.ri, .int .i64 x.ow] 26, ow (.slice A1 n1 c1) x.ps F1, cuI gc A n c, cnd (D 4) (bx r2 #[.int .i64 0, .slice none 0 0, .int .i64 0, .int .i64 0, .int .i64 0] 26) (bx r2 #[.int .i64 y.lv, .slice A4 y.ps.length c4, .int .i64 y.hi, .int .i64 y.ri, .int .i64 y.ow] 26), cnd (D 3) (bx r1 #[.int .i64 0, .slice none 0 0, .int .i64 0, .int .i64 0, .int .i64 0] 26) (bx r1 #[.int .i64 x.lv, .slice A1 n1 c1, .int .i64 x.hi, .int .i64 x.ri, .int .i64 x.ow] 26), cnd (D 2) em (ow (.slice A4 y.ps.length c4) y.ps F4)] w ∧ (D 0 = true → V 0 = .agg #[.int .i64 x.lv, .slice A1 n1 c1, .int .i64 x.hi, .int .i64 x.ri, .int .i64 x.ow]) ∧ (D 1 = true → V 1 = .pointer (some ⟨gc, 0, none⟩)) ∧ (D 2 = true → V 2 = .agg #[.int .i64 y.lv, .slice A4 y.ps.length c4, .int .i64 y.hi, .int .i64 y.ri, .int .i64 y.ow]) ∧ (D 4 = true → D 2 = true) ∧ (D 2 = true → y.ps.length ≤ 41)) ?_ ?_ ?_
      · intro D hD
        have d2 := hD 2 (by decide)
        have d3 := hD 3 (by decide)
        have d4 := hD 4 (by decide)
        exact ⟨zeroN, none, 0, fun _ => False, by rw [cnd_f d4, cnd_f d3, cnd_f d2]; exact S.out.drew.ems 1, (fun h => absurd h (by rw [hD 0 (by decide)]; exact Bool.false_ne_true)), (fun h => absurd h (by rw [hD 1 (by decide)]; exact Bool.false_ne_true)), (fun h => absurd h (by rw [hD 2 (by decide)]; exact Bool.false_ne_true)), (fun h => absurd h (by rw [hD 4 (by decide)]; exact Bool.false_ne_true)), (fun h => absurd h (by rw [hD 2 (by decide)]; exact Bool.false_ne_true))⟩
      · intro i o D V w a ho hI hDi haf hev
        obtain ⟨y, A4, c4, F4, S, f0, f1, f2, o4_2, k0⟩ := hI
        rcases i with _ | _ | _ | _ | _ | i
        · obtain rfl := Option.some.inj (show some _ = some o from ho)
          exact op_row 26 _ rfl S 5 rfl ((hev.old 5 (by kernel_rfl)).trans rfl) Try.isAgg26 (by kernel_rfl) ⟨_, rfl, y, A4, c4, F4, S, fun _ => rfl, f1, f2, o4_2, k0⟩
        · obtain rfl := Option.some.inj (show some _ = some o from ho)
          exact op_move (.inl rfl) ((hev.old 4 (by kernel_rfl)).trans rfl) ⟨_, rfl, y, A4, c4, F4, S, f0, fun _ => rfl, f2, o4_2, k0⟩
        · obtain rfl := Option.some.inj (show some _ = some o from ho)
          have h1 : D 1 = true := by first | exact haf ⟨1, .data⟩ (by simp) rfl | exact haf ⟨1, .phase⟩ (by simp) rfl | exact haf ⟨1, .chain⟩ (by simp) rfl
          have ns4 : D 4 = false := by
            cases hq : D 4 with
            | false => rfl
            | true => exact absurd (o4_2 hq) (by rw [hDi]; exact Bool.false_ne_true)
          have hx0 := ((hev.new 1 _ 36 rfl rfl h1).trans (f1 h1))
          refine op_call _ _ _ rfl (enters_of Try.func27 (by kernel_rfl) rfl) #[.pointer (some ⟨gc, 0, none⟩)] (by simp [hx0]) (nDrawAny_any gc A n c w (S.curA 7 rfl HB.out HN.out)) (fun e w2 hh => ?_)
          obtain ⟨y9, A9, c9, rfl, ho, hz, hc, hgr⟩ := hh
          have ho9 : OwnS w2 (.slice A9 y9.ps.length c9) y9.ps (blkF (Value.slice A9 y9.ps.length c9).ownBlock) := OwnS.of_pairs ho (F := blkF _) (fun k hk => hk)
          have hf9 := fresh_blk ho (Nat.le_refl _)
          have S2 := (S.drawnGainA 7 rfl hc hgr (ow (.slice A9 y9.ps.length c9) y9.ps (blkF (Value.slice A9 y9.ps.length c9).ownBlock)) ho9 (fun k hk => hf9 k hk)).placed 10 (by simp)
          exact ⟨_, rfl, ⟨_, rfl, y9, A9, c9, (blkF (Value.slice A9 y9.ps.length c9).ownBlock), (by have SS := S2; rw [cnd_f ns4] at SS; rw [show updB D 2 4 = false from ns4]; exact SS), f0, f1, fun _ => rfl, fun _ => rfl, (fun _ => hz)⟩⟩
        · obtain rfl := Option.some.inj (show some _ = some o from ho)
          have h0 : D 0 = true := by first | exact haf ⟨0, .data⟩ (by simp) rfl | exact haf ⟨0, .phase⟩ (by simp) rfl | exact haf ⟨0, .chain⟩ (by simp) rfl
          exact op_putR 26 _ _ rfl S 9 (g := r1) (C := #[.int .i64 0, .slice none 0 0, .int .i64 0, .int .i64 0, .int .i64 0]) (t := 26) (by simp only [List.getElem?_cons_succ, List.getElem?_cons_zero, cnd_f hDi]) ((hev.old 2 (by kernel_rfl)).trans rfl) _ ((hev.new 0 _ 35 rfl rfl h0).trans (f0 h0)) rfl (by kernel_rfl) rfl (fun w S => ⟨_, rfl, y, A4, c4, F4, S, f0, f1, f2, o4_2, k0⟩)
        · obtain rfl := Option.some.inj (show some _ = some o from ho)
          have h2 : D 2 = true := by first | exact haf ⟨2, .data⟩ (by simp) rfl | exact haf ⟨2, .phase⟩ (by simp) rfl | exact haf ⟨2, .chain⟩ (by simp) rfl
          exact op_putR 26 _ _ rfl S 8 (g := r2) (C := #[.int .i64 0, .slice none 0 0, .int .i64 0, .int .i64 0, .int .i64 0]) (t := 26) (by simp only [List.getElem?_cons_succ, List.getElem?_cons_zero, cnd_f hDi]) ((hev.old 3 (by kernel_rfl)).trans rfl) _ ((hev.new 2 _ 37 rfl rfl h2).trans (f2 h2)) rfl (by kernel_rfl) rfl (fun w S => ⟨_, rfl, y, A4, c4, F4, S, f0, f1, f2, fun _ => h2, k0⟩)
        · exact absurd ho (by simp)
      intro V w hI
      obtain ⟨y, A4, c4, F4, S, f0, f1, f2, o4_2, k0⟩ := hI
      replace f0 := f0 rfl
      replace f1 := f1 rfl
      replace f2 := f2 rfl
      replace S : Hid (Sep noX w0 [bx g9 #[.int .i64 up.lv, .slice A3 nu c3, .int .i64 up.hi, .int .i64 up.ri, .int .i64 up.ow] 26, bx g8 #[.int .i64 lo.lv, .slice A2 nl c2, .int .i64 lo.hi, .int .i64 lo.ri, .int .i64 lo.ow] 26, ow (.slice A2 nl c2) lo.ps F2, ow (.slice A3 nu c3) up.ps F3, bx g6 #[.int .i64 k, .int .i64 v] 28, bx g5 #[.int .i64 x.lv, .slice A1 n1 c1, .int .i64 x.hi, .int .i64 x.ri, .int .i64 x.ow] 26, ow (.slice A1 n1 c1) x.ps F1, cuI gc A n c, bx r2 #[.int .i64 y.lv, .slice A4 y.ps.length c4, .int .i64 y.hi, .int .i64 y.ri, .int .i64 y.ow] 26, bx r1 #[.int .i64 x.lv, .slice A1 n1 c1, .int .i64 x.hi, .int .i64 x.ri, .int .i64 x.ow] 26, ow (.slice A4 y.ps.length c4) y.ps F4] w) := Lib.hid S
      simp only [putF, Act.put, List.setIfInBounds_toArray, List.set_cons_succ, List.set_cons_zero, f0, f1, f2]
      clear f0 f1 f2 o4_2
      replace k0 := k0 rfl
      go_wp2_with fail
      exact bodyPost_ret (results_cc rfl _ S.out 9 8 rfl rfl rfl rfl Try.isAgg26 Try.isAgg26 (by kernel_rfl) (by kernel_rfl)) rfl (by exact S.out.drawnLo 6 10 (by omega) (x := x) (y := y) rfl rfl HX.out rfl HX41.out k0)
end Go.Proofs.Ytokkpbjldchjpaa
