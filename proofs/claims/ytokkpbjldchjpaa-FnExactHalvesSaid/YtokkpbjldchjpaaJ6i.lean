/- The walk of the code's own Halves, whole. (Made by genJ6.py.) -/
import Derived.Test.YtokkpbjldchjpaaJ6h
namespace Go.Proofs.Ytokkpbjldchjpaa
open Go.RowKit

theorem Sep.givesNC {w0 w : World} {L : List Item} (h : Sep noX w0 L w) (i j : Nat) (hij : i < j) {l u : Nd} {A1 A2 : Option Addr} {m1 m2 c1 c2 d1 d2 : Nat} {F G : FP} (e : L[i]? = some (ow (.slice A1 m1 d1) l.ps F)) (e' : L[j]? = some (ow (.slice A2 m2 d2) u.ps G))
    (h1 : l.ps.length = m1) (h2 : u.ps.length = m2) (k1 : m1 ≤ c1 ∧ c1 ≤ 9223372036854775807) (k2 : m2 ≤ c2 ∧ c2 ≤ 9223372036854775807) : GivesNC w0 l u true (.returned (.tuple #[ndV l A1 m1 c1, ndV u A2 m2 c2, .bool true])) w := by
  subst h1 h2
  obtain ⟨h1, h2, h3⟩ := h.ends i e
  obtain ⟨h4, h5, _⟩ := h.ends j e'
  exact ⟨A1, c1, d1, F, A2, c2, d2, G, rfl, h1, h4, h.two i j hij e e', h2, h5, h3, k1, k2⟩
set_option maxRecDepth 100000 in
set_option maxHeartbeats 16000000 in
theorem iHalves_any (x : Nd) (A : Option Addr) (n c : Nat) (k v at_ : Int) (w0 : World) (hP : RP w0 w0.heap.size A n x.ps) (hn : n ≤ 1048576) (hc : n ≤ c) (hc2 : c ≤ 9223372036854775807) :
    Calls Try.prog 8 #[ndV x A n c, .agg #[.int .i64 k, .int .i64 v], .int .i64 at_] w0 (GivesNC w0 (loH x k v at_) (upH x k v at_) (halfB x k v at_)) := by
  have FK := Lib.hid (fun w h => iFull_any x A n c k v w h hn hc hc2)
  have HK : Hid (fullB x k = true → n = 4 ∧ ∀ w, RP w w.heap.size A n x.ps → Calls Try.prog 30 #[ndV x A n c, .agg #[.int .i64 k, .int .i64 v], .int .i64 at_] w (GivesH w (loN x k v at_) (upN x k v))) := Lib.hid (fun h => by
    unfold fullB at h
    simp only [Bool.and_eq_true, decide_eq_true_eq, Bool.not_eq_true'] at h
    obtain ⟨_, h1, h2⟩ := h
    have h3 : n = 4 := by rw [← hP.1]; exact h1
    subst h3
    exact ⟨rfl, fun w hw => iHalve_any x A c k v at_ w hw hc hc2 h2⟩)
  have hl1 : (fullB x k = true → (loN x k v at_).ps.length = 3 ∧ (upN x k v).ps.length = 2) := fun h => by
    unfold fullB at h
    simp only [Bool.and_eq_true, decide_eq_true_eq, Bool.not_eq_true'] at h
    have hz : (insL x.ps k v).length = 5 := by rw [insL_length, h.2.2, h.2.1]; rfl
    show ((insL x.ps k v).take 3).length = 3 ∧ ((insL x.ps k v).drop 3).length = 2
    rw [List.length_take, List.length_drop, hz]
    exact ⟨rfl, rfl⟩
  have LK := Lib.hid (fun A c w h => iok_any (loN x k v at_) A 3 c w h (by omega))
  have UK := Lib.hid (fun A c w h => iok_any (upN x k v) A 2 c w h (by omega))
  have HB := Lib.hid (half_is x k v at_)
  have EL : Hid (halfB x k v at_ = true → loH x k v at_ = loN x k v at_ ∧ upH x k v at_ = upN x k v) := Lib.hid (fun h => by unfold loH upH; rw [h]; exact ⟨rfl, rfl⟩)
  have EF : Hid (halfB x k v at_ = false → loH x k v at_ = zeroN ∧ upH x k v at_ = zeroN ∧ halfB x k v at_ = false) := Lib.hid (fun h => by unfold loH upH; rw [h]; exact ⟨rfl, rfl, rfl⟩)
  have HP := Lib.hid hP
  have HL := Lib.hid hl1
  clear hP hn hc hc2 hl1
  generalize loH x k v at_ = lo0 at *
  generalize upH x k v at_ = up0 at *
  generalize halfB x k v at_ = hb at *
  generalize loN x k v at_ = lo at *
  generalize upN x k v = up at *
  generalize fullB x k = q1 at *
  generalize nodeOk lo = q2 at *
  generalize nodeOk up = q3 at *
  have S := Lib.hid (Sep.start noX w0)
  have tok0 : True := trivial
  have tok1 : True := trivial
  have tok2 : True := trivial
  have tok3 : True := trivial
  unfold ndV at *
  go_enter Try.func8, Try.ntmps8
  go_wp2_with (first
      | go_skip
      | (have _t := tok0; clear _t; refine wpList_op rfl (op_bx 26 _ rfl S.out _ rfl ?_); clear S tok0; intro gn w S; replace S := Lib.hid S)
      | (have _t := tok1; clear _t; refine wpList_op rfl (op_bx 28 _ rfl S.out _ rfl ?_); clear S tok1; intro gp w S; replace S := Lib.hid S)
      | (have _t := tok2; clear _t; refine wpList_op rfl (op_nx 26 rfl S.out _ Try.zeroValue26 ?_); clear S tok2; intro r1 w S; replace S := Lib.hid S)
      | (have _t := tok3; clear _t; refine wpList_op rfl (op_nx 26 rfl S.out _ Try.zeroValue26 ?_); clear S tok3; intro r2 w S; replace S := Lib.hid S)
      | (refine wpList_op rfl (op_row 26 _ rfl S.out 3 rfl rfl Try.isAgg26 (by kernel_rfl) ?_))
      | (refine wpList_op rfl (op_row 28 _ rfl S.out 2 rfl rfl Try.isAgg28 (by kernel_rfl) ?_)))
  refine (FK.out _ (HP.out.on S.out.below)).mono ?_
  rintro e w ⟨rfl, b⟩
  replace S := Lib.hid (S.out.call b)
  clear b
  cases q1
  · have HF := Lib.hid (EF.out (by rw [HB.out]; rfl))
    go_wp2_with (first
        | go_skip
        | (refine wpList_op rfl (op_putR_1 26 _ _ rfl S rfl _ rfl rfl (by kernel_rfl) rfl ?_); clear S; intro w S)
        | (refine wpList_op rfl (op_putR_0 26 _ _ rfl S rfl _ rfl rfl (by kernel_rfl) rfl ?_); clear S; intro w S))
    exact bodyPost_ret (results_ccs rfl _ S.out 1 0 rfl rfl rfl rfl Try.isAgg26 Try.isAgg26 (by kernel_rfl) (by kernel_rfl)) rfl (by obtain ⟨e1, e2, e3⟩ := HF.out; rw [e1, e2, e3]; exact none_NC S.out.below)
  obtain ⟨h4, HH⟩ := HK.out rfl
  obtain ⟨hl1, hl2⟩ := HL.out rfl
  have HL1 := Lib.hid hl1
  have HL2 := Lib.hid hl2
  have HK2 := Lib.hid HH
  clear HH h4 HK HL hl1 hl2
  go_wp2_with (first
      | go_skip
      | (refine wpList_op rfl (op_row 26 _ rfl S.out 3 rfl rfl Try.isAgg26 (by kernel_rfl) ?_))
      | (refine wpList_op rfl (op_row 28 _ rfl S.out 2 rfl rfl Try.isAgg28 (by kernel_rfl) ?_)))
  refine (HK2.out _ (HP.out.on S.out.below)).mono ?_
  rintro e w2 hh
  obtain ⟨ga, ca, F1, gm, F2, rfl, o1, o2, ap, f1, f2, b⟩ := hh
  unfold ndV
  replace S : Hid (Sep noX w0 [ow (.slice (some ⟨ga, 0, none⟩) 3 ca) lo.ps F1, ow (.slice (some ⟨gm, 0, none⟩) 2 2) up.ps F2, bx r2 #[.int .i64 0, .slice none 0 0, .int .i64 0, .int .i64 0, .int .i64 0] 26, bx r1 #[.int .i64 0, .slice none 0 0, .int .i64 0, .int .i64 0, .int .i64 0] 26, bx gp #[.int .i64 k, .int .i64 v] 28, bx gn #[.int .i64 x.lv, .slice A n c, .int .i64 x.hi, .int .i64 x.ri, .int .i64 x.ow] 26] w2) := Lib.hid (S.out.gain2 b (ow (.slice (some ⟨ga, 0, none⟩) 3 ca) lo.ps F1) (ow (.slice (some ⟨gm, 0, none⟩) 2 2) up.ps F2) o1 o2 f1 f2 ap)
  clear o1 o2 ap f1 f2 b
  have tokA : True := trivial
  have tokB : True := trivial
  go_wp2_with (first
      | go_skip
      | (have _t := tokA; clear _t; refine wpList_op rfl (op_nx 26 rfl S.out _ Try.zeroValue26 ?_); clear S tokA; intro gl w S; replace S := Lib.hid S)
      | (have _t := tokB; clear _t; refine wpList_op rfl (op_nx 26 rfl S.out _ Try.zeroValue26 ?_); clear S tokB; intro gu w S; replace S := Lib.hid S)
      | (refine wpList_op rfl (op_row 26 _ rfl S.out 1 rfl rfl Try.isAgg26 (by kernel_rfl) ?_))
      | (refine wpList_op rfl (op_putR_1 26 _ _ rfl S rfl _ rfl rfl (by kernel_rfl) rfl ?_); clear S; intro w S)
      | (refine wpList_op rfl (op_putR_0 26 _ _ rfl S rfl _ rfl rfl (by kernel_rfl) rfl ?_); clear S; intro w S))
  refine (LK.out _ _ _ (OwnS.rp (S.out.get 2 rfl) HL1.out)).mono ?_
  rintro e w ⟨rfl, b⟩
  replace S := Lib.hid (S.out.call b)
  clear b
  cases q2
  · have HF := Lib.hid (EF.out (by rw [HB.out]; rfl))
    go_wp2_with (first
        | go_skip
        | (refine wpList_op rfl (op_putR_5 26 _ _ rfl S rfl _ rfl rfl (by kernel_rfl) rfl ?_); clear S; intro w S)
        | (refine wpList_op rfl (op_putR_4 26 _ _ rfl S rfl _ rfl rfl (by kernel_rfl) rfl ?_); clear S; intro w S))
    exact bodyPost_ret (results_ccs rfl _ S.out 5 4 rfl rfl rfl rfl Try.isAgg26 Try.isAgg26 (by kernel_rfl) (by kernel_rfl)) rfl (by obtain ⟨e1, e2, e3⟩ := HF.out; rw [e1, e2, e3]; exact none_NC S.out.below)
  go_wp2_with (first
      | go_skip
      | (refine wpList_op rfl (op_row 26 _ rfl S.out 0 rfl rfl Try.isAgg26 (by kernel_rfl) ?_)))
  refine (UK.out _ _ _ (OwnS.rp (S.out.get 3 rfl) HL2.out)).mono ?_
  rintro e w ⟨rfl, b⟩
  replace S := Lib.hid (S.out.call b)
  clear b
  cases q3
  · have HF := Lib.hid (EF.out (by rw [HB.out]; rfl))
    go_wp2_with (first
        | go_skip
        | (refine wpList_op rfl (op_putR_5 26 _ _ rfl S rfl _ rfl rfl (by kernel_rfl) rfl ?_); clear S; intro w S)
        | (refine wpList_op rfl (op_putR_4 26 _ _ rfl S rfl _ rfl rfl (by kernel_rfl) rfl ?_); clear S; intro w S))
    exact bodyPost_ret (results_ccs rfl _ S.out 5 4 rfl rfl rfl rfl Try.isAgg26 Try.isAgg26 (by kernel_rfl) (by kernel_rfl)) rfl (by obtain ⟨e1, e2, e3⟩ := HF.out; rw [e1, e2, e3]; exact none_NC S.out.below)
  have HF : Hid (hb = true) := Lib.hid (by rw [HB.out]; rfl)
  go_wp2_with fail
  refine wp_region_ev (by kernel_rfl) _ (by kernel_rfl) (by kernel_rfl) 36 rfl (by kernel_rfl) (fun D V w => Sep noX w0 [bx gu #[.int .i64 up.lv, .slice (some ⟨gm, 0, none⟩) 2 2, .int .i64 up.hi, .int .i64 up.ri, .int .i64 up.ow] 26, bx gl #[.int .i64 lo.lv, .slice (some ⟨ga, 0, none⟩) 3 3, .int .i64 lo.hi, .int .i64 lo.ri, .int .i64 lo.ow] 26, ow (.slice (some ⟨ga, 0, none⟩) 3 ca) lo.ps F1, ow (.slice (some ⟨gm, 0, none⟩) 2 2) up.ps F2, cnd (D 3) (bx r2 #[.int .i64 0, .slice none 0 0, .int .i64 0, .int .i64 0, .int .i64 0] 26) (bx r2 #[.int .i64 up.lv, .slice (some ⟨gm, 0, none⟩) 2 2, .int .i64 up.hi, .int .i64 up.ri, .int .i64 up.ow] 26), cnd (D 2) (bx r1 #[.int .i64 0, .slice none 0 0, .int .i64 0, .int .i64 0, .int .i64 0] 26) (bx r1 #[.int .i64 lo.lv, .slice (some ⟨ga, 0, none⟩) 3 3, .int .i64 lo.hi, .int .i64 lo.ri, .int .i64 lo.ow] 26), bx gp #[.int .i64 k, .int .i64 v] 28, bx gn #[.int .i64 x.lv, .slice A n c, .int .i64 x.hi, .int .i64 x.ri, .int .i64 x.ow] 26] w ∧ (D 0 = true → V 0 = .agg #[.int .i64 lo.lv, .slice (some ⟨ga, 0, none⟩) 3 3, .int .i64 lo.hi, .int .i64 lo.ri, .int .i64 lo.ow]) ∧ (D 1 = true → V 1 = .agg #[.int .i64 up.lv, .slice (some ⟨gm, 0, none⟩) 2 2, .int .i64 up.hi, .int .i64 up.ri, .int .i64 up.ow]) ∧ (D 4 = true → V 4 = .bool true)) ?_ ?_ ?_
  · intro D hD
    have d2 := hD 2 (by decide)
    have d3 := hD 3 (by decide)
    exact ⟨by rw [cnd_f d3, cnd_f d2]; exact S.out.drew.ems 0, (fun h => absurd h (by rw [hD 0 (by decide)]; exact Bool.false_ne_true)), (fun h => absurd h (by rw [hD 1 (by decide)]; exact Bool.false_ne_true)), (fun h => absurd h (by rw [hD 4 (by decide)]; exact Bool.false_ne_true))⟩
  · intro i o D V w a ho hI hDi haf hev
    obtain ⟨S, f0, f1, f4⟩ := hI
    rcases i with _ | _ | _ | _ | _ | i
    · obtain rfl := Option.some.inj (show some _ = some o from ho)
      exact op_row 26 _ rfl S 1 rfl ((hev.old 9 (by kernel_rfl)).trans rfl) Try.isAgg26 (by kernel_rfl) ⟨_, rfl, S, fun _ => rfl, f1, f4⟩
    · obtain rfl := Option.some.inj (show some _ = some o from ho)
      exact op_row 26 _ rfl S 0 rfl ((hev.old 10 (by kernel_rfl)).trans rfl) Try.isAgg26 (by kernel_rfl) ⟨_, rfl, S, f0, fun _ => rfl, f4⟩
    · obtain rfl := Option.some.inj (show some _ = some o from ho)
      have h0 : D 0 = true := by first | exact haf ⟨0, .data⟩ (by simp) rfl | exact haf ⟨0, .phase⟩ (by simp) rfl | exact haf ⟨0, .chain⟩ (by simp) rfl
      exact op_putR 26 _ _ rfl S 5 (g := r1) (C := #[.int .i64 0, .slice none 0 0, .int .i64 0, .int .i64 0, .int .i64 0]) (t := 26) (by simp only [List.getElem?_cons_succ, List.getElem?_cons_zero, cnd_f hDi]) ((hev.old 6 (by kernel_rfl)).trans rfl) _ ((hev.new 0 _ 34 rfl rfl h0).trans (f0 h0)) rfl (by kernel_rfl) rfl (fun w S => ⟨_, rfl, S, f0, f1, f4⟩)
    · obtain rfl := Option.some.inj (show some _ = some o from ho)
      have h1 : D 1 = true := by first | exact haf ⟨1, .data⟩ (by simp) rfl | exact haf ⟨1, .phase⟩ (by simp) rfl | exact haf ⟨1, .chain⟩ (by simp) rfl
      exact op_putR 26 _ _ rfl S 4 (g := r2) (C := #[.int .i64 0, .slice none 0 0, .int .i64 0, .int .i64 0, .int .i64 0]) (t := 26) (by simp only [List.getElem?_cons_succ, List.getElem?_cons_zero, cnd_f hDi]) ((hev.old 7 (by kernel_rfl)).trans rfl) _ ((hev.new 1 _ 35 rfl rfl h1).trans (f1 h1)) rfl (by kernel_rfl) rfl (fun w S => ⟨_, rfl, S, f0, f1, f4⟩)
    · obtain rfl := Option.some.inj (show some _ = some o from ho)
      exact op_move (.inr rfl) rfl ⟨_, rfl, S, f0, f1, fun _ => rfl⟩
    · exact absurd ho (by simp)
  intro V w hI
  obtain ⟨S, f0, f1, f4⟩ := hI
  replace f0 := f0 rfl
  replace f1 := f1 rfl
  replace f4 := f4 rfl
  replace S : Hid (Sep noX w0 [bx gu #[.int .i64 up.lv, .slice (some ⟨gm, 0, none⟩) 2 2, .int .i64 up.hi, .int .i64 up.ri, .int .i64 up.ow] 26, bx gl #[.int .i64 lo.lv, .slice (some ⟨ga, 0, none⟩) 3 3, .int .i64 lo.hi, .int .i64 lo.ri, .int .i64 lo.ow] 26, ow (.slice (some ⟨ga, 0, none⟩) 3 ca) lo.ps F1, ow (.slice (some ⟨gm, 0, none⟩) 2 2) up.ps F2, bx r2 #[.int .i64 up.lv, .slice (some ⟨gm, 0, none⟩) 2 2, .int .i64 up.hi, .int .i64 up.ri, .int .i64 up.ow] 26, bx r1 #[.int .i64 lo.lv, .slice (some ⟨ga, 0, none⟩) 3 3, .int .i64 lo.hi, .int .i64 lo.ri, .int .i64 lo.ow] 26, bx gp #[.int .i64 k, .int .i64 v] 28, bx gn #[.int .i64 x.lv, .slice A n c, .int .i64 x.hi, .int .i64 x.ri, .int .i64 x.ow] 26] w) := Lib.hid S
  simp only [putF, Act.put, List.setIfInBounds_toArray, List.set_cons_succ, List.set_cons_zero, f0, f1, f4]
  clear f0 f1 f4
  go_wp2_with fail
  exact bodyPost_ret (results_ccs rfl _ S.out 5 4 rfl rfl rfl rfl Try.isAgg26 Try.isAgg26 (by kernel_rfl) (by kernel_rfl)) rfl (by obtain ⟨e1, e2⟩ := EL.out HF.out; rw [e1, e2, HF.out]; exact S.out.givesNC 2 3 (by omega) rfl rfl HL1.out HL2.out (by omega) (by omega))
end Go.Proofs.Ytokkpbjldchjpaa
