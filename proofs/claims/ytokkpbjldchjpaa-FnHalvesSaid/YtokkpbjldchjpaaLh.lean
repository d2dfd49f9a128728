/- The law FnHalves, walked: it returns true, and nothing that was there is turned. (Made by genLh.py.) -/
import Derived.Test.YtokkpbjldchjpaaDl
import Derived.Test.YtokkpbjldchjpaaZj
import Derived.Test.YtokkpbjldchjpaaG8
namespace Go.Proofs.Ytokkpbjldchjpaa
open Go.RowKit

theorem op_neqB {o : Oper} {a : Act} {w : World} {K : Act → World → Prop} {Q : Exit → Act → World → Prop} (x y : Operand) (ho : o.op = .binOp .neq 4 x y 4) {q : Bool} (hx : a.eval x = .bool q) (hy : a.eval y = .bool q) (hK : K (a.put o.dst (.bool false)) w) : o.wp Try.prog a w K Q := by
  refine op_val ?_ hK
  generalize a.eval = E at hx hy ⊢
  simp [execOp, ho, hx, hy, go_sem]
theorem op_eqlT {o : Oper} {a : Act} {w : World} {K : Act → World → Prop} {Q : Exit → Act → World → Prop} (x y : Operand) (ho : o.op = .binOp .eql 2 x y 2) {p : Int} (hx : a.eval x = .int .i64 p) (hy : a.eval y = .int .i64 p) (hK : K (a.put o.dst (.bool true)) w) : o.wp Try.prog a w K Q := by
  refine op_val ?_ hK
  generalize a.eval = E at hx hy ⊢
  simp [execOp, ho, hx, hy, go_sem]
theorem op_appPl {X : FP} {w0 w : World} {L : List Item} {o : Oper} {a : Act} {K : Act → World → Prop} {Q : Exit → Act → World → Prop} (s x : Operand) (ho : o.op = .call { callee := .builtin .append, args := #[s, x], argTypes := #[24, 24] }) (h : Sep X w0 L w) (p : Nat) {v : Value} {xs : List Pr} {F : FP} (e : L[p]? = some (ow v xs F)) (hs : a.eval s = v)
    {B : Nat} (ad : Addr) (m c : Nat) (ys : List Pr) (hr : RP w B (some ad) m ys) (hm0 : 0 < m) (hx : a.eval x = .slice (some ad) m c) {l : Nat} {zs : List Pr} (hl : xs.length = l) (hz : xs ++ ys = zs) (hsz : l + m ≤ 4194304)
    (hK : ∀ A c' F' w', Sep X w0 (L.set p (ow (.slice A (l + m) c') zs F')) w' → K (a.put o.dst (.slice A (l + m) c')) w') : o.wp Try.prog a w K Q := by
  subst hl hz
  exact op_appP s x ho h p e hs ad m c ys hr hm0 hx hsz hK
/-- Both halves and what the law asks of them. -/
theorem half_facts {x : Nd} {k v at_ : Int} (h : halfB x k v at_ = true) : (loH x k v at_).ri = at_ ∧ (loH x k v at_).ow = x.ow ∧ (upH x k v at_).hi = x.hi ∧ (loH x k v at_).ps ++ (upH x k v at_).ps = putL x.ps k v ∧ putB x.ps k v = true ∧
    lowerB (loH x k v at_) (upH x k v at_) = true ∧ (loH x k v at_).ps.length = 3 ∧ (upH x k v at_).ps.length = 2 := by
  have e1 : loH x k v at_ = loN x k v at_ := by unfold loH; rw [if_pos h]
  have e2 : upH x k v at_ = upN x k v := by unfold upH; rw [if_pos h]
  rw [e1, e2]
  unfold halfB guardH at h
  simp only [Bool.and_eq_true, decide_eq_true_eq, Bool.not_eq_true'] at h
  obtain ⟨⟨h1, h2, h3, h4, h5, h6⟩, h7, h8⟩ := h
  have hz : (insL x.ps k v).length = 5 := by rw [insL_length, h4, h2]; rfl
  have hp := nodeOk_pOk h1
  have hp2 := nodeOk_pOk h8
  have hE : putL x.ps k v = insL x.ps k v ∧ putB x.ps k v = true := by
    unfold putL putB insL
    rw [hp, h3, h4, h2]
    simp
  refine ⟨rfl, rfl, rfl, ?_, hE.2, ?_, ?_, ?_⟩
  · rw [hE.1]
    exact List.take_append_drop 3 _
  · unfold lowerB
    rw [h7, h8]
    have h9 := pOk_right hp2 0 (by show 0 < ((insL x.ps k v).drop 3).length; rw [List.length_drop]; omega)
    have h10 : kAt (upN x k v).ps 0 = kAt (insL x.ps k v) 3 := by show kAt ((insL x.ps k v).drop 3) 0 = _; unfold kAt; simp
    rw [h10] at h9 ⊢
    unfold rightB at h9
    simp only [decide_eq_true_eq] at h9
    have e3 : (loN x k v at_).hi = kAt (insL x.ps k v) 3 := rfl
    have e4 : (loN x k v at_).lv = (upN x k v).lv := rfl
    rw [e3, e4]
    simp [h9.1]
  · show ((insL x.ps k v).take 3).length = 3
    rw [List.length_take]; omega
  · show ((insL x.ps k v).drop 3).length = 2
    rw [List.length_drop]; omega
theorem half_none {x : Nd} {k v at_ : Int} (h : halfB x k v at_ = false) : (loH x k v at_).ps.length = 0 ∧ (upH x k v at_).ps.length = 0 := by
  unfold loH upH
  rw [h]
  exact ⟨rfl, rfl⟩

set_option maxRecDepth 100000 in
set_option maxHeartbeats 16000000 in
theorem likeN_yes (x : Nd) (A B : Option Addr) (n c d : Nat) (w0 : World) (h : RP w0 w0.heap.size A n x.ps) (h' : RP w0 w0.heap.size B n x.ps) (hn : n ≤ 1048576) :
    Calls Try.prog 11 #[.agg #[.int .i64 x.lv, .slice A n c, .int .i64 x.hi, .int .i64 x.ri, .int .i64 x.ow], .agg #[.int .i64 x.lv, .slice B n d, .int .i64 x.hi, .int .i64 x.ri, .int .i64 x.ow]] w0 fun e w' => e = .returned (.bool true) ∧ Below w0.heap.size w0 w' := by
  have LK := Lib.hid (fun w h h' => like_yes A B n c d x.ps w h h' hn)
  have HA := Lib.hid h
  have HB := Lib.hid h'
  clear h h' hn
  have q1 : (x.lv == x.lv) = true := by simp
  have q2 : (x.hi == x.hi) = true := by simp
  have q3 : (x.ri == x.ri) = true := by simp
  have q4 : (x.ow == x.ow) = true := by simp
  have S := Lib.hid (Sep.start noX w0)
  have tok0 : True := trivial
  have tok1 : True := trivial
  go_enter Try.func11, Try.ntmps11
  go_wp2_with (first
      | go_skip
      | (have _t := tok0; clear _t; refine wpList_op rfl (op_bx 26 _ rfl S.out _ rfl ?_); clear S tok0; intro g1 w S; replace S := Lib.hid S)
      | (have _t := tok1; clear _t; refine wpList_op rfl (op_bx 26 _ rfl S.out _ rfl ?_); clear S tok1; intro g2 w S; replace S := Lib.hid S)
      | (refine wpList_op rfl (op_get 2 _ rfl S.out 1 rfl _ rfl Try.isAgg2 _ rfl ?_))
      | (refine wpList_op rfl (op_get 2 _ rfl S.out 0 rfl _ rfl Try.isAgg2 _ rfl ?_))
      | (refine wpList_op rfl (op_get 24 _ rfl S.out 1 rfl _ rfl Try.isAgg24 _ rfl ?_))
      | (refine wpList_op rfl (op_get 24 _ rfl S.out 0 rfl _ rfl Try.isAgg24 _ rfl ?_)))
  refine (LK.out _ (HA.out.on S.out.below) (HB.out.on S.out.below)).mono ?_
  rintro e w ⟨rfl, b⟩
  replace S := Lib.hid (S.out.call b)
  clear b
  go_wp2_with (first
      | go_skip
      | (refine wpList_op rfl (op_get 2 _ rfl S.out 1 rfl _ rfl Try.isAgg2 _ rfl ?_))
      | (refine wpList_op rfl (op_get 2 _ rfl S.out 0 rfl _ rfl Try.isAgg2 _ rfl ?_)))
  go_ret
  exact ⟨rfl, S.out.below⟩

set_option maxRecDepth 100000 in
set_option maxHeartbeats 16000000 in
theorem lawHalvesGreat_walk (A : Option Addr) (n c : Nat) (w0 : World) (h : Bys w0 w0.heap.size A n) (hm : n ≤ 9223372036854775807) :
    Calls Try.prog 3 #[.slice A n c] w0 fun e w' => e = .returned (.bool true) ∧ Below w0.heap.size w0 w' := by
  have HH := Lib.hid h
  clear h
  by_cases hn : 4096 < n
  · have hd : ∀ w, Calls Try.prog 6 #[.slice A n c] w fun e w' => e = .returned (.bool true) ∧ w = w' := fun w => by
      have := big_any A n c w hm; rwa [decide_eq_true hn] at this
    go_enter Try.func3, Try.ntmps3
    go_wp2_with (go_at_call 6; refine (hd _).mono ?_; rintro e w1 ⟨rfl, rfl⟩)
    go_ret
    exact ⟨rfl, Below.refl _ _⟩
  have hd : ∀ w, Calls Try.prog 6 #[.slice A n c] w fun e w' => e = .returned (.bool false) ∧ w = w' := fun w => by
    have := big_any A n c w hm; rwa [decide_eq_false hn] at this
  have hn : n ≤ 4096 := by omega
  have HD := Lib.hid hd
  have HN := Lib.hid hn
  clear hd hn hm
  have S := Lib.hid (Sep.start noX w0)
  go_enter Try.func3, Try.ntmps3
  go_wp2_with (go_at_call 6; refine (HD.out _).mono ?_; rintro e w1 ⟨rfl, rfl⟩)
  refine (dHalves_any A n c _ (bys_on HH.out S.out.below) HN.out).mono ?_
  rintro e w1 ⟨x, A1, c1, F1, k, v, at_, rfl, ho, hx41, hf, b⟩
  have cap1 := Lib.hid ho.cap
  generalize hx : x.ps.length = n1 at *
  have HX := Lib.hid hx
  have HX41 := Lib.hid hx41
  replace S := Lib.hid (S.out.own b ho hf)
  clear ho hf b hx hx41
  unfold ndV
  have tokA : True := trivial
  have tokB : True := trivial
  go_wp2_with (first
      | go_skip
      | (have _t := tokA; clear _t; refine wpList_op rfl (op_nx 26 rfl S.out _ Try.zeroValue26 ?_); clear S tokA; intro g3 w S; replace S := Lib.hid S; simp only [Act.put, List.setIfInBounds_toArray, List.set_cons_succ, List.set_cons_zero])
      | (have _t := tokB; clear _t; refine wpList_op rfl (op_nx 28 rfl S.out _ Try.zeroValue28 ?_); clear S tokB; intro g4 w S; replace S := Lib.hid S; simp only [Act.put, List.setIfInBounds_toArray, List.set_cons_succ, List.set_cons_zero])
      | (refine wpList_op rfl (op_putR_1 26 _ _ rfl S rfl _ rfl rfl (by kernel_rfl) rfl ?_); clear S; intro w S; simp only [Act.put, List.setIfInBounds_toArray, List.set_cons_succ, List.set_cons_zero])
      | (refine wpList_op rfl (op_putR_0 28 _ _ rfl S rfl _ rfl rfl (by kernel_rfl) rfl ?_); clear S; intro w S; simp only [Act.put, List.setIfInBounds_toArray, List.set_cons_succ, List.set_cons_zero])
      | (refine wpList_op rfl (op_row 26 _ rfl S.out 1 rfl rfl Try.isAgg26 (by kernel_rfl) ?_); simp only [Act.put, List.setIfInBounds_toArray, List.set_cons_succ, List.set_cons_zero])
      | (refine wpList_op rfl (op_row 28 _ rfl S.out 0 rfl rfl Try.isAgg28 (by kernel_rfl) ?_); simp only [Act.put, List.setIfInBounds_toArray, List.set_cons_succ, List.set_cons_zero]))
  refine (iHalves_any x A1 n1 c1 k v at_ _ (OwnS.rp (S.out.get 2 rfl) HX.out) (by have := HX41.out; omega) cap1.out.1 cap1.out.2).mono ?_
  have hl41 := loH_len x k v at_ (by rw [HX.out]; exact HX41.out)
  have hu41 := upH_len x k v at_ (by rw [HX.out]; exact HX41.out)
  have hft := fun h => half_facts (x := x) (k := k) (v := v) (at_ := at_) h
  have hnn := fun h => half_none (x := x) (k := k) (v := v) (at_ := at_) h
  have SH := Lib.hid (fun w h => halves_any x A1 n1 c1 k v at_ w h (by have := HX41.out; omega) cap1.out.1 cap1.out.2)
  generalize loH x k v at_ = lo at *
  generalize upH x k v at_ = up at *
  generalize halfB x k v at_ = hb at *
  unfold GivesNN ndV at SH
  generalize hnl : lo.ps.length = nl at *
  generalize hnu : up.ps.length = nu at *
  have HNL := Lib.hid hnl
  have HNU := Lib.hid hnu
  have HL41 := Lib.hid hl41
  have HU41 := Lib.hid hu41
  have HFT := Lib.hid hft
  have HNN := Lib.hid hnn
  clear hl41 hu41 hft hnn
  rintro e w1 ⟨A2, c2, d2, F2, A3, c3, d3, F3, rfl, o1, o2, ap, f1, f2, b, k2, k3⟩
  rw [HNL.out] at o1 k2
  rw [HNU.out] at o2 k3
  have CAP2 := Lib.hid k2
  have CAP3 := Lib.hid k3
  replace S := Lib.hid (S.out.gain2 b (ow (.slice A2 nl d2) lo.ps F2) (ow (.slice A3 nu d3) up.ps F3) o1 o2 f1 f2 ap)
  clear o1 o2 ap f1 f2 b k2 k3
  unfold ndV
  rw [HNL.out, HNU.out]
  clear hnl hnu
  have tokA : True := trivial
  have tokB : True := trivial
  go_wp2_with (first
      | go_skip
      | (have _t := tokA; clear _t; refine wpList_op rfl (op_nx 26 rfl S.out _ Try.zeroValue26 ?_); clear S tokA; intro g6 w S; replace S := Lib.hid S; simp only [Act.put, List.setIfInBounds_toArray, List.set_cons_succ, List.set_cons_zero])
      | (have _t := tokB; clear _t; refine wpList_op rfl (op_nx 26 rfl S.out _ Try.zeroValue26 ?_); clear S tokB; intro g7 w S; replace S := Lib.hid S; simp only [Act.put, List.setIfInBounds_toArray, List.set_cons_succ, List.set_cons_zero])
      | (refine wpList_op rfl (op_putR_1 26 _ _ rfl S rfl _ rfl rfl (by kernel_rfl) rfl ?_); clear S; intro w S; simp only [Act.put, List.setIfInBounds_toArray, List.set_cons_succ, List.set_cons_zero])
      | (refine wpList_op rfl (op_putR_0 26 _ _ rfl S rfl _ rfl rfl (by kernel_rfl) rfl ?_); clear S; intro w S; simp only [Act.put, List.setIfInBounds_toArray, List.set_cons_succ, List.set_cons_zero])
      | (refine wpList_op rfl (op_row 26 _ rfl S.out 5 rfl rfl Try.isAgg26 (by kernel_rfl) ?_); simp only [Act.put, List.setIfInBounds_toArray, List.set_cons_succ, List.set_cons_zero])
      | (refine wpList_op rfl (op_row 28 _ rfl S.out 4 rfl rfl Try.isAgg28 (by kernel_rfl) ?_); simp only [Act.put, List.setIfInBounds_toArray, List.set_cons_succ, List.set_cons_zero]))
  refine (SH.out _ (OwnS.rp (S.out.get 6 rfl) HX.out)).mono ?_
  rintro e w1 ⟨A4, c4, F4, A5, c5, F5, rfl, o1, o2, ap, f1, f2, b⟩
  replace S := Lib.hid (S.out.gain2 b (ow (.slice A4 nl c4) lo.ps F4) (ow (.slice A5 nu c5) up.ps F5) o1 o2 f1 f2 ap)
  clear o1 o2 ap f1 f2 b
  have tokA : True := trivial
  have tokB : True := trivial
  go_wp2_with (first
      | go_skip
      | (have _t := tokA; clear _t; refine wpList_op rfl (op_nx 26 rfl S.out _ Try.zeroValue26 ?_); clear S tokA; intro g9 w S; replace S := Lib.hid S; simp only [Act.put, List.setIfInBounds_toArray, List.set_cons_succ, List.set_cons_zero])
      | (have _t := tokB; clear _t; refine wpList_op rfl (op_nx 26 rfl S.out _ Try.zeroValue26 ?_); clear S tokB; intro g10 w S; replace S := Lib.hid S; simp only [Act.put, List.setIfInBounds_toArray, List.set_cons_succ, List.set_cons_zero])
      | (refine wpList_op rfl (op_putR_1 26 _ _ rfl S rfl _ rfl rfl (by kernel_rfl) rfl ?_); clear S; intro w S; simp only [Act.put, List.setIfInBounds_toArray, List.set_cons_succ, List.set_cons_zero])
      | (refine wpList_op rfl (op_putR_0 26 _ _ rfl S rfl _ rfl rfl (by kernel_rfl) rfl ?_); clear S; intro w S; simp only [Act.put, List.setIfInBounds_toArray, List.set_cons_succ, List.set_cons_zero]))
  refine (dLower_any A n c _ (bys_on HH.out S.out.below) HN.out).mono ?_
  rintro e w1 ⟨y, z, A6, c6, F6, A7, c7, F7, rfl, o1, o2, hy41, hz41, ap, f1, f2, b⟩
  have CAP6 := Lib.hid o1.cap
  have CAP7 := Lib.hid o2.cap
  generalize hny : y.ps.length = n6 at *
  generalize hnz : z.ps.length = n7 at *
  have HNY := Lib.hid hny
  have HNZ := Lib.hid hnz
  have HY41 := Lib.hid hy41
  have HZ41 := Lib.hid hz41
  replace S := Lib.hid (S.out.gain2 b (ow (.slice A6 n6 c6) y.ps F6) (ow (.slice A7 n7 c7) z.ps F7) o1 o2 f1 f2 ap)
  clear o1 o2 ap f1 f2 b hny hnz hy41 hz41
  unfold ndV
  have tokA : True := trivial
  have tokB : True := trivial
  have SMY : Hid (Small.sm y.ps) := Lib.hid (by show y.ps.length ≤ 1048576; rw [HNY.out]; have := HY41.out; omega)
  have SMZ : Hid (Small.sm z.ps) := Lib.hid (by show z.ps.length ≤ 1048576; rw [HNZ.out]; have := HZ41.out; omega)
  cases hb
  · have t9 : True := trivial
    go_wp2_with (first
        | go_skip
        | (have _t := tokA; clear _t; refine wpList_op rfl (op_nx 26 rfl S.out _ Try.zeroValue26 ?_); clear S tokA; intro g12 w S; replace S := Lib.hid S; simp only [Act.put, List.setIfInBounds_toArray, List.set_cons_succ, List.set_cons_zero])
        | (have _t := tokB; clear _t; refine wpList_op rfl (op_nx 26 rfl S.out _ Try.zeroValue26 ?_); clear S tokB; intro g13 w S; replace S := Lib.hid S; simp only [Act.put, List.setIfInBounds_toArray, List.set_cons_succ, List.set_cons_zero])
        | (refine wpList_op rfl (op_putR_1 26 _ _ rfl S rfl _ rfl rfl (by kernel_rfl) rfl ?_); clear S; intro w S; simp only [Act.put, List.setIfInBounds_toArray, List.set_cons_succ, List.set_cons_zero])
        | (refine wpList_op rfl (op_putR_0 26 _ _ rfl S rfl _ rfl rfl (by kernel_rfl) rfl ?_); clear S; intro w S; simp only [Act.put, List.setIfInBounds_toArray, List.set_cons_succ, List.set_cons_zero]))
    refine wp_region_evg (by kernel_rfl) _ (by kernel_rfl) (by kernel_rfl) 125 rfl (by kernel_rfl) (fun D V w => Sep noX w0 [bx g13 #[.int .i64 z.lv, .slice A7 n7 c7, .int .i64 z.hi, .int .i64 z.ri, .int .i64 z.ow] 26, bx g12 #[.int .i64 y.lv, .slice A6 n6 c6, .int .i64 y.hi, .int .i64 y.ri, .int .i64 y.ow] 26, ow (.slice A6 n6 c6) y.ps F6, ow (.slice A7 n7 c7) z.ps F7, bx g10 #[.int .i64 up.lv, .slice A5 nu c5, .int .i64 up.hi, .int .i64 up.ri, .int .i64 up.ow] 26, bx g9 #[.int .i64 lo.lv, .slice A4 nl c4, .int .i64 lo.hi, .int .i64 lo.ri, .int .i64 lo.ow] 26, ow (.slice A4 nl c4) lo.ps F4, ow (.slice A5 nu c5) up.ps F5, bx g7 #[.int .i64 up.lv, .slice A3 nu c3, .int .i64 up.hi, .int .i64 up.ri, .int .i64 up.ow] 26, bx g6 #[.int .i64 lo.lv, .slice A2 nl c2, .int .i64 lo.hi, .int .i64 lo.ri, .int .i64 lo.ow] 26, ow (.slice A2 nl d2) lo.ps F2, ow (.slice A3 nu d3) up.ps F3, bx g4 #[.int .i64 k, .int .i64 v] 28, bx g3 #[.int .i64 x.lv, .slice A1 n1 c1, .int .i64 x.hi, .int .i64 x.ri, .int .i64 x.ow] 26, ow (.slice A1 n1 c1) x.ps F1] w ∧ (D 0 = true → V 0 = .bool false) ∧ (D 1 = true → V 1 = .bool false) ∧ (D 2 = true → V 2 = .bool false) ∧ (D 3 = true → V 3 = .bool false) ∧ (D 4 = true → V 4 = .agg #[.int .i64 lo.lv, .slice A2 nl c2, .int .i64 lo.hi, .int .i64 lo.ri, .int .i64 lo.ow]) ∧ (D 5 = true → V 5 = .agg #[.int .i64 lo.lv, .slice A4 nl c4, .int .i64 lo.hi, .int .i64 lo.ri, .int .i64 lo.ow]) ∧ (D 6 = true → V 6 = .bool true) ∧ (D 7 = true → V 7 = .bool false) ∧ (D 8 = true → V 8 = .bool false) ∧ (D 9 = true → V 9 = .bool false) ∧ (D 10 = true → V 10 = .agg #[.int .i64 up.lv, .slice A3 nu c3, .int .i64 up.hi, .int .i64 up.ri, .int .i64 up.ow]) ∧ (D 11 = true → V 11 = .agg #[.int .i64 up.lv, .slice A5 nu c5, .int .i64 up.hi, .int .i64 up.ri, .int .i64 up.ow]) ∧ (D 12 = true → V 12 = .bool true) ∧ (D 13 = true → V 13 = .bool false) ∧ (D 14 = true → V 14 = .bool false) ∧ (D 15 = true → V 15 = .bool false) ∧ (D 16 = true → V 16 = .agg #[.int .i64 y.lv, .slice A6 n6 c6, .int .i64 y.hi, .int .i64 y.ri, .int .i64 y.ow]) ∧ (D 17 = true → V 17 = .agg #[.int .i64 z.lv, .slice A7 n7 c7, .int .i64 z.hi, .int .i64 z.ri, .int .i64 z.ow]) ∧ (D 18 = true → V 18 = .bool (lowerB y z)) ∧ (D 19 = true → V 19 = .agg #[.int .i64 y.lv, .slice A6 n6 c6, .int .i64 y.hi, .int .i64 y.ri, .int .i64 y.ow]) ∧ (D 20 = true → V 20 = .agg #[.int .i64 z.lv, .slice A7 n7 c7, .int .i64 z.hi, .int .i64 z.ri, .int .i64 z.ow]) ∧ (D 21 = true → V 21 = .bool (lowerB y z)) ∧ (D 22 = true → V 22 = .bool false) ∧ (D 23 = true → V 23 = .bool false)) ?_ ?_ ?_
    · intro D hD
      exact ⟨by exact S.out.drew.ems 0, (fun h => absurd h (by rw [hD 0 (by decide)]; exact Bool.false_ne_true)), (fun h => absurd h (by rw [hD 1 (by decide)]; exact Bool.false_ne_true)), (fun h => absurd h (by rw [hD 2 (by decide)]; exact Bool.false_ne_true)), (fun h => absurd h (by rw [hD 3 (by decide)]; exact Bool.false_ne_true)), (fun h => absurd h (by rw [hD 4 (by decide)]; exact Bool.false_ne_true)), (fun h => absurd h (by rw [hD 5 (by decide)]; exact Bool.false_ne_true)), (fun h => absurd h (by rw [hD 6 (by decide)]; exact Bool.false_ne_true)), (fun h => absurd h (by rw [hD 7 (by decide)]; exact Bool.false_ne_true)), (fun h => absurd h (by rw [hD 8 (by decide)]; exact Bool.false_ne_true)), (fun h => absurd h (by rw [hD 9 (by decide)]; exact Bool.false_ne_true)), (fun h => absurd h (by rw [hD 10 (by decide)]; exact Bool.false_ne_true)), (fun h => absurd h (by rw [hD 11 (by decide)]; exact Bool.false_ne_true)), (fun h => absurd h (by rw [hD 12 (by decide)]; exact Bool.false_ne_true)), (fun h => absurd h (by rw [hD 13 (by decide)]; exact Bool.false_ne_true)), (fun h => absurd h (by rw [hD 14 (by decide)]; exact Bool.false_ne_true)), (fun h => absurd h (by rw [hD 15 (by decide)]; exact Bool.false_ne_true)), (fun h => absurd h (by rw [hD 16 (by decide)]; exact Bool.false_ne_true)), (fun h => absurd h (by rw [hD 17 (by decide)]; exact Bool.false_ne_true)), (fun h => absurd h (by rw [hD 18 (by decide)]; exact Bool.false_ne_true)), (fun h => absurd h (by rw [hD 19 (by decide)]; exact Bool.false_ne_true)), (fun h => absurd h (by rw [hD 20 (by decide)]; exact Bool.false_ne_true)), (fun h => absurd h (by rw [hD 21 (by decide)]; exact Bool.false_ne_true)), (fun h => absurd h (by rw [hD 22 (by decide)]; exact Bool.false_ne_true)), (fun h => absurd h (by rw [hD 23 (by decide)]; exact Bool.false_ne_true))⟩
    · intro i o D V w a ho hI hDi haf hev
      obtain ⟨S, f0, f1, f2, f3, f4, f5, f6, f7, f8, f9, f10, f11, f12, f13, f14, f15, f16, f17, f18, f19, f20, f21, f22, f23⟩ := hI
      rcases i with _ | _ | _ | _ | _ | _ | _ | _ | _ | _ | _ | _ | _ | _ | _ | _ | _ | _ | _ | _ | _ | _ | _ | _ | i
      · obtain rfl := Option.some.inj (show some _ = some o from ho)
        refine ⟨fun _ _ hq => (nomatch hq), ?_⟩
        exact op_move (.inl rfl) ((hev.old 8 (by kernel_rfl)).trans rfl) ⟨_, rfl, S, fun _ => rfl, f1, f2, f3, f4, f5, f6, f7, f8, f9, f10, f11, f12, f13, f14, f15, f16, f17, f18, f19, f20, f21, f22, f23⟩
      · obtain rfl := Option.some.inj (show some _ = some o from ho)
        refine ⟨fun _ _ hq => (nomatch hq), ?_⟩
        exact op_move (.inl rfl) ((hev.old 11 (by kernel_rfl)).trans rfl) ⟨_, rfl, S, f0, fun _ => rfl, f2, f3, f4, f5, f6, f7, f8, f9, f10, f11, f12, f13, f14, f15, f16, f17, f18, f19, f20, f21, f22, f23⟩
      · obtain rfl := Option.some.inj (show some _ = some o from ho)
        have h0 : D 0 = true := after_on haf 0 rfl
        have h1 : D 1 = true := after_on haf 1 rfl
        refine ⟨fun _ _ hq => (nomatch hq), ?_⟩
        exact op_neqB _ _ rfl ((hev.new 0 _ 45 rfl rfl h0).trans (f0 h0)) ((hev.new 1 _ 46 rfl rfl h1).trans (f1 h1)) ⟨_, rfl, S, f0, f1, fun _ => rfl, f3, f4, f5, f6, f7, f8, f9, f10, f11, f12, f13, f14, f15, f16, f17, f18, f19, f20, f21, f22, f23⟩
      · obtain rfl := Option.some.inj (show some _ = some o from ho)
        have h2 : D 2 = true := after_on haf 2 rfl
        refine ⟨fun _ _ hq => (nomatch hq), ?_⟩
        exact op_move (.inl rfl) ((hev.new 2 _ 47 rfl rfl h2).trans (f2 h2)) ⟨_, rfl, S, f0, f1, f2, fun _ => rfl, f4, f5, f6, f7, f8, f9, f10, f11, f12, f13, f14, f15, f16, f17, f18, f19, f20, f21, f22, f23⟩
      · obtain rfl := Option.some.inj (show some _ = some o from ho)
        have h3 : D 3 = true := after_on haf 3 rfl
        refine ⟨fun _ _ hq => by cases Option.some.inj hq; exact ⟨h3, f3 h3⟩, ?_⟩
        exact op_row 26 _ rfl S 9 rfl ((hev.old 6 (by kernel_rfl)).trans rfl) Try.isAgg26 (by kernel_rfl) ⟨_, rfl, S, f0, f1, f2, f3, fun _ => rfl, f5, f6, f7, f8, f9, f10, f11, f12, f13, f14, f15, f16, f17, f18, f19, f20, f21, f22, f23⟩
      · obtain rfl := Option.some.inj (show some _ = some o from ho)
        have h3 : D 3 = true := after_on haf 3 rfl
        refine ⟨fun _ _ hq => by cases Option.some.inj hq; exact ⟨h3, f3 h3⟩, ?_⟩
        exact op_row 26 _ rfl S 5 rfl ((hev.old 9 (by kernel_rfl)).trans rfl) Try.isAgg26 (by kernel_rfl) ⟨_, rfl, S, f0, f1, f2, f3, f4, fun _ => rfl, f6, f7, f8, f9, f10, f11, f12, f13, f14, f15, f16, f17, f18, f19, f20, f21, f22, f23⟩
      · obtain rfl := Option.some.inj (show some _ = some o from ho)
        have h4 : D 4 = true := after_on haf 4 rfl
        have h5 : D 5 = true := after_on haf 5 rfl
        have h3 : D 3 = true := after_on haf 3 rfl
        refine ⟨fun _ _ hq => by cases Option.some.inj hq; exact ⟨h3, f3 h3⟩, ?_⟩
        have hx0 := ((hev.new 4 _ 49 rfl rfl h4).trans (f4 h4))
        have hx1 := ((hev.new 5 _ 50 rfl rfl h5).trans (f5 h5))
        refine op_call _ _ _ rfl (enters_of Try.func11 (by kernel_rfl) rfl) #[.agg #[.int .i64 lo.lv, .slice A2 nl c2, .int .i64 lo.hi, .int .i64 lo.ri, .int .i64 lo.ow], .agg #[.int .i64 lo.lv, .slice A4 nl c4, .int .i64 lo.hi, .int .i64 lo.ri, .int .i64 lo.ow]] (by simp [hx0, hx1]) (likeN_yes lo A2 A4 nl c2 c4 w (OwnS.rp (S.get 10 rfl) HNL.out) (OwnS.rp (S.get 6 rfl) HNL.out) (by have := HL41.out; omega)) (fun e w2 hh => ?_)
        obtain ⟨rfl, b⟩ := hh
        exact ⟨_, rfl, ⟨_, rfl, S.call b, f0, f1, f2, f3, f4, f5, fun _ => rfl, f7, f8, f9, f10, f11, f12, f13, f14, f15, f16, f17, f18, f19, f20, f21, f22, f23⟩⟩
      · obtain rfl := Option.some.inj (show some _ = some o from ho)
        have h6 : D 6 = true := after_on haf 6 rfl
        have h3 : D 3 = true := after_on haf 3 rfl
        refine ⟨fun _ _ hq => by cases Option.some.inj hq; exact ⟨h3, f3 h3⟩, ?_⟩
        exact op_not _ _ rfl ((hev.new 6 _ 51 rfl rfl h6).trans (f6 h6)) ⟨_, rfl, S, f0, f1, f2, f3, f4, f5, f6, fun _ => rfl, f8, f9, f10, f11, f12, f13, f14, f15, f16, f17, f18, f19, f20, f21, f22, f23⟩
      · obtain rfl := Option.some.inj (show some _ = some o from ho)
        have h3 : D 3 = true := after_on haf 3 rfl
        have h7 : D 7 = true := after_on haf 7 rfl
        refine ⟨fun _ _ hq => (nomatch hq), ?_⟩
        exact op_pick _ _ _ rfl ((hev.new 3 _ 48 rfl rfl h3).trans (f3 h3)) (((hev.new 7 _ 52 rfl rfl h7).trans (f7 h7))) ⟨_, rfl, S, f0, f1, f2, f3, f4, f5, f6, f7, fun _ => rfl, f9, f10, f11, f12, f13, f14, f15, f16, f17, f18, f19, f20, f21, f22, f23⟩
      · obtain rfl := Option.some.inj (show some _ = some o from ho)
        have h8 : D 8 = true := after_on haf 8 rfl
        refine ⟨fun _ _ hq => (nomatch hq), ?_⟩
        exact op_move (.inl rfl) ((hev.new 8 _ 53 rfl rfl h8).trans (f8 h8)) ⟨_, rfl, S, f0, f1, f2, f3, f4, f5, f6, f7, f8, fun _ => rfl, f10, f11, f12, f13, f14, f15, f16, f17, f18, f19, f20, f21, f22, f23⟩
      · obtain rfl := Option.some.inj (show some _ = some o from ho)
        have h9 : D 9 = true := after_on haf 9 rfl
        refine ⟨fun _ _ hq => by cases Option.some.inj hq; exact ⟨h9, f9 h9⟩, ?_⟩
        exact op_row 26 _ rfl S 8 rfl ((hev.old 7 (by kernel_rfl)).trans rfl) Try.isAgg26 (by kernel_rfl) ⟨_, rfl, S, f0, f1, f2, f3, f4, f5, f6, f7, f8, f9, fun _ => rfl, f11, f12, f13, f14, f15, f16, f17, f18, f19, f20, f21, f22, f23⟩
      · obtain rfl := Option.some.inj (show some _ = some o from ho)
        have h9 : D 9 = true := after_on haf 9 rfl
        refine ⟨fun _ _ hq => by cases Option.some.inj hq; exact ⟨h9, f9 h9⟩, ?_⟩
        exact op_row 26 _ rfl S 4 rfl ((hev.old 10 (by kernel_rfl)).trans rfl) Try.isAgg26 (by kernel_rfl) ⟨_, rfl, S, f0, f1, f2, f3, f4, f5, f6, f7, f8, f9, f10, fun _ => rfl, f12, f13, f14, f15, f16, f17, f18, f19, f20, f21, f22, f23⟩
      · obtain rfl := Option.some.inj (show some _ = some o from ho)
        have h10 : D 10 = true := after_on haf 10 rfl
        have h11 : D 11 = true := after_on haf 11 rfl
        have h9 : D 9 = true := after_on haf 9 rfl
        refine ⟨fun _ _ hq => by cases Option.some.inj hq; exact ⟨h9, f9 h9⟩, ?_⟩
        have hx0 := ((hev.new 10 _ 55 rfl rfl h10).trans (f10 h10))
        have hx1 := ((hev.new 11 _ 56 rfl rfl h11).trans (f11 h11))
        refine op_call _ _ _ rfl (enters_of Try.func11 (by kernel_rfl) rfl) #[.agg #[.int .i64 up.lv, .slice A3 nu c3, .int .i64 up.hi, .int .i64 up.ri, .int .i64 up.ow], .agg #[.int .i64 up.lv, .slice A5 nu c5, .int .i64 up.hi, .int .i64 up.ri, .int .i64 up.ow]] (by simp [hx0, hx1]) (likeN_yes up A3 A5 nu c3 c5 w (OwnS.rp (S.get 11 rfl) HNU.out) (OwnS.rp (S.get 7 rfl) HNU.out) (by have := HU41.out; omega)) (fun e w2 hh => ?_)
        obtain ⟨rfl, b⟩ := hh
        exact ⟨_, rfl, ⟨_, rfl, S.call b, f0, f1, f2, f3, f4, f5, f6, f7, f8, f9, f10, f11, fun _ => rfl, f13, f14, f15, f16, f17, f18, f19, f20, f21, f22, f23⟩⟩
      · obtain rfl := Option.some.inj (show some _ = some o from ho)
        have h12 : D 12 = true := after_on haf 12 rfl
        have h9 : D 9 = true := after_on haf 9 rfl
        refine ⟨fun _ _ hq => by cases Option.some.inj hq; exact ⟨h9, f9 h9⟩, ?_⟩
        exact op_not _ _ rfl ((hev.new 12 _ 57 rfl rfl h12).trans (f12 h12)) ⟨_, rfl, S, f0, f1, f2, f3, f4, f5, f6, f7, f8, f9, f10, f11, f12, fun _ => rfl, f14, f15, f16, f17, f18, f19, f20, f21, f22, f23⟩
      · obtain rfl := Option.some.inj (show some _ = some o from ho)
        have h9 : D 9 = true := after_on haf 9 rfl
        have h13 : D 13 = true := after_on haf 13 rfl
        refine ⟨fun _ _ hq => (nomatch hq), ?_⟩
        exact op_pick _ _ _ rfl ((hev.new 9 _ 54 rfl rfl h9).trans (f9 h9)) (((hev.new 13 _ 58 rfl rfl h13).trans (f13 h13))) ⟨_, rfl, S, f0, f1, f2, f3, f4, f5, f6, f7, f8, f9, f10, f11, f12, f13, fun _ => rfl, f15, f16, f17, f18, f19, f20, f21, f22, f23⟩
      · obtain rfl := Option.some.inj (show some _ = some o from ho)
        have h14 : D 14 = true := after_on haf 14 rfl
        refine ⟨fun _ _ hq => (nomatch hq), ?_⟩
        exact op_move (.inl rfl) ((hev.new 14 _ 59 rfl rfl h14).trans (f14 h14)) ⟨_, rfl, S, f0, f1, f2, f3, f4, f5, f6, f7, f8, f9, f10, f11, f12, f13, f14, fun _ => rfl, f16, f17, f18, f19, f20, f21, f22, f23⟩
      · obtain rfl := Option.some.inj (show some _ = some o from ho)
        have h15 : D 15 = true := after_on haf 15 rfl
        refine ⟨fun _ _ hq => by cases Option.some.inj hq; exact ⟨h15, f15 h15⟩, ?_⟩
        exact op_row 26 _ rfl S 1 rfl ((hev.old 12 (by kernel_rfl)).trans rfl) Try.isAgg26 (by kernel_rfl) ⟨_, rfl, S, f0, f1, f2, f3, f4, f5, f6, f7, f8, f9, f10, f11, f12, f13, f14, f15, fun _ => rfl, f17, f18, f19, f20, f21, f22, f23⟩
      · obtain rfl := Option.some.inj (show some _ = some o from ho)
        have h15 : D 15 = true := after_on haf 15 rfl
        refine ⟨fun _ _ hq => by cases Option.some.inj hq; exact ⟨h15, f15 h15⟩, ?_⟩
        exact op_row 26 _ rfl S 0 rfl ((hev.old 13 (by kernel_rfl)).trans rfl) Try.isAgg26 (by kernel_rfl) ⟨_, rfl, S, f0, f1, f2, f3, f4, f5, f6, f7, f8, f9, f10, f11, f12, f13, f14, f15, f16, fun _ => rfl, f18, f19, f20, f21, f22, f23⟩
      · obtain rfl := Option.some.inj (show some _ = some o from ho)
        have h16 : D 16 = true := after_on haf 16 rfl
        have h17 : D 17 = true := after_on haf 17 rfl
        have h15 : D 15 = true := after_on haf 15 rfl
        refine ⟨fun _ _ hq => by cases Option.some.inj hq; exact ⟨h15, f15 h15⟩, ?_⟩
        have hx0 := ((hev.new 16 _ 61 rfl rfl h16).trans (f16 h16))
        have hx1 := ((hev.new 17 _ 62 rfl rfl h17).trans (f17 h17))
        refine op_call _ _ _ rfl (enters_of Try.func12 (by kernel_rfl) rfl) #[.agg #[.int .i64 y.lv, .slice A6 n6 c6, .int .i64 y.hi, .int .i64 y.ri, .int .i64 y.ow], .agg #[.int .i64 z.lv, .slice A7 n7 c7, .int .i64 z.hi, .int .i64 z.ri, .int .i64 z.ow]] (by simp [hx0, hx1]) (iLowerOf_any y z A6 A7 n6 c6 n7 c7 w (OwnS.rs (S.get 2 rfl) HNY.out) (OwnS.rs (S.get 3 rfl) HNZ.out) SMY.out SMZ.out CAP6.out.1 CAP6.out.2 CAP7.out.1 CAP7.out.2) (fun e w2 hh => ?_)
        obtain ⟨rfl, b⟩ := hh
        exact ⟨_, rfl, ⟨_, rfl, S.call b, f0, f1, f2, f3, f4, f5, f6, f7, f8, f9, f10, f11, f12, f13, f14, f15, f16, f17, fun _ => rfl, f19, f20, f21, f22, f23⟩⟩
      · obtain rfl := Option.some.inj (show some _ = some o from ho)
        have h15 : D 15 = true := after_on haf 15 rfl
        refine ⟨fun _ _ hq => by cases Option.some.inj hq; exact ⟨h15, f15 h15⟩, ?_⟩
        exact op_row 26 _ rfl S 1 rfl ((hev.old 12 (by kernel_rfl)).trans rfl) Try.isAgg26 (by kernel_rfl) ⟨_, rfl, S, f0, f1, f2, f3, f4, f5, f6, f7, f8, f9, f10, f11, f12, f13, f14, f15, f16, f17, f18, fun _ => rfl, f20, f21, f22, f23⟩
      · obtain rfl := Option.some.inj (show some _ = some o from ho)
        have h15 : D 15 = true := after_on haf 15 rfl
        refine ⟨fun _ _ hq => by cases Option.some.inj hq; exact ⟨h15, f15 h15⟩, ?_⟩
        exact op_row 26 _ rfl S 0 rfl ((hev.old 13 (by kernel_rfl)).trans rfl) Try.isAgg26 (by kernel_rfl) ⟨_, rfl, S, f0, f1, f2, f3, f4, f5, f6, f7, f8, f9, f10, f11, f12, f13, f14, f15, f16, f17, f18, f19, fun _ => rfl, f21, f22, f23⟩
      · obtain rfl := Option.some.inj (show some _ = some o from ho)
        have h19 : D 19 = true := after_on haf 19 rfl
        have h20 : D 20 = true := after_on haf 20 rfl
        have h15 : D 15 = true := after_on haf 15 rfl
        refine ⟨fun _ _ hq => by cases Option.some.inj hq; exact ⟨h15, f15 h15⟩, ?_⟩
        have hx0 := ((hev.new 19 _ 64 rfl rfl h19).trans (f19 h19))
        have hx1 := ((hev.new 20 _ 65 rfl rfl h20).trans (f20 h20))
        refine op_call _ _ _ rfl (enters_of Try.func13 (by kernel_rfl) rfl) #[.agg #[.int .i64 y.lv, .slice A6 n6 c6, .int .i64 y.hi, .int .i64 y.ri, .int .i64 y.ow], .agg #[.int .i64 z.lv, .slice A7 n7 c7, .int .i64 z.hi, .int .i64 z.ri, .int .i64 z.ow]] (by simp [hx0, hx1]) (sLowerOf_any y z A6 A7 n6 c6 n7 c7 w (OwnS.rs (S.get 2 rfl) HNY.out) (OwnS.rs (S.get 3 rfl) HNZ.out) SMY.out SMZ.out) (fun e w2 hh => ?_)
        obtain ⟨rfl, b⟩ := hh
        exact ⟨_, rfl, ⟨_, rfl, S.call b, f0, f1, f2, f3, f4, f5, f6, f7, f8, f9, f10, f11, f12, f13, f14, f15, f16, f17, f18, f19, f20, fun _ => rfl, f22, f23⟩⟩
      · obtain rfl := Option.some.inj (show some _ = some o from ho)
        have h18 : D 18 = true := after_on haf 18 rfl
        have h21 : D 21 = true := after_on haf 21 rfl
        have h15 : D 15 = true := after_on haf 15 rfl
        refine ⟨fun _ _ hq => by cases Option.some.inj hq; exact ⟨h15, f15 h15⟩, ?_⟩
        exact op_neqB _ _ rfl ((hev.new 18 _ 63 rfl rfl h18).trans (f18 h18)) ((hev.new 21 _ 66 rfl rfl h21).trans (f21 h21)) ⟨_, rfl, S, f0, f1, f2, f3, f4, f5, f6, f7, f8, f9, f10, f11, f12, f13, f14, f15, f16, f17, f18, f19, f20, f21, fun _ => rfl, f23⟩
      · obtain rfl := Option.some.inj (show some _ = some o from ho)
        have h15 : D 15 = true := after_on haf 15 rfl
        have h22 : D 22 = true := after_on haf 22 rfl
        refine ⟨fun _ _ hq => (nomatch hq), ?_⟩
        exact op_pick _ _ _ rfl ((hev.new 15 _ 60 rfl rfl h15).trans (f15 h15)) (((hev.new 22 _ 67 rfl rfl h22).trans (f22 h22))) ⟨_, rfl, S, f0, f1, f2, f3, f4, f5, f6, f7, f8, f9, f10, f11, f12, f13, f14, f15, f16, f17, f18, f19, f20, f21, f22, fun _ => rfl⟩
      · exact absurd ho (by simp)
    intro V w hI
    obtain ⟨S, f0, f1, f2, f3, f4, f5, f6, f7, f8, f9, f10, f11, f12, f13, f14, f15, f16, f17, f18, f19, f20, f21, f22, f23⟩ := hI
    replace f0 := f0 rfl
    replace f1 := f1 rfl
    replace f2 := f2 rfl
    replace f3 := f3 rfl
    replace f4 := f4 rfl
    replace f5 := f5 rfl
    replace f6 := f6 rfl
    replace f7 := f7 rfl
    replace f8 := f8 rfl
    replace f9 := f9 rfl
    replace f10 := f10 rfl
    replace f11 := f11 rfl
    replace f12 := f12 rfl
    replace f13 := f13 rfl
    replace f14 := f14 rfl
    replace f15 := f15 rfl
    replace f16 := f16 rfl
    replace f17 := f17 rfl
    replace f18 := f18 rfl
    replace f19 := f19 rfl
    replace f20 := f20 rfl
    replace f21 := f21 rfl
    replace f22 := f22 rfl
    replace f23 := f23 rfl
    replace S : Hid (Sep noX w0 [bx g13 #[.int .i64 z.lv, .slice A7 n7 c7, .int .i64 z.hi, .int .i64 z.ri, .int .i64 z.ow] 26, bx g12 #[.int .i64 y.lv, .slice A6 n6 c6, .int .i64 y.hi, .int .i64 y.ri, .int .i64 y.ow] 26, ow (.slice A6 n6 c6) y.ps F6, ow (.slice A7 n7 c7) z.ps F7, bx g10 #[.int .i64 up.lv, .slice A5 nu c5, .int .i64 up.hi, .int .i64 up.ri, .int .i64 up.ow] 26, bx g9 #[.int .i64 lo.lv, .slice A4 nl c4, .int .i64 lo.hi, .int .i64 lo.ri, .int .i64 lo.ow] 26, ow (.slice A4 nl c4) lo.ps F4, ow (.slice A5 nu c5) up.ps F5, bx g7 #[.int .i64 up.lv, .slice A3 nu c3, .int .i64 up.hi, .int .i64 up.ri, .int .i64 up.ow] 26, bx g6 #[.int .i64 lo.lv, .slice A2 nl c2, .int .i64 lo.hi, .int .i64 lo.ri, .int .i64 lo.ow] 26, ow (.slice A2 nl d2) lo.ps F2, ow (.slice A3 nu d3) up.ps F3, bx g4 #[.int .i64 k, .int .i64 v] 28, bx g3 #[.int .i64 x.lv, .slice A1 n1 c1, .int .i64 x.hi, .int .i64 x.ri, .int .i64 x.ow] 26, ow (.slice A1 n1 c1) x.ps F1] w) := Lib.hid S
    simp only [putF, Act.put, List.setIfInBounds_toArray, List.set_cons_succ, List.set_cons_zero, f0, f1, f2, f3, f4, f5, f6, f7, f8, f9, f10, f11, f12, f13, f14, f15, f16, f17, f18, f19, f20, f21, f22, f23]
    clear f0 f1 f2 f3 f4 f5 f6 f7 f8 f9 f10 f11 f12 f13 f14 f15 f16 f17 f18 f19 f20 f21 f22 f23
    obtain ⟨z1, z2⟩ := HNN.out trivial
    subst z1 z2
    go_wp2_with (first
        | go_skip
        | (refine wpList_op rfl (op_get 24 _ rfl S.out 9 rfl _ rfl Try.isAgg24 _ rfl ?_); simp only [Act.put, List.setIfInBounds_toArray, List.set_cons_succ, List.set_cons_zero])
        | (refine wpList_op rfl (op_get 24 _ rfl S.out 8 rfl _ rfl Try.isAgg24 _ rfl ?_); simp only [Act.put, List.setIfInBounds_toArray, List.set_cons_succ, List.set_cons_zero]))
    go_ret
    exact ⟨rfl, S.out.below⟩
  · have t9 : True := trivial
    go_wp2_with (first
        | go_skip
        | (have _t := tokA; clear _t; refine wpList_op rfl (op_nx 26 rfl S.out _ Try.zeroValue26 ?_); clear S tokA; intro g12 w S; replace S := Lib.hid S; simp only [Act.put, List.setIfInBounds_toArray, List.set_cons_succ, List.set_cons_zero])
        | (have _t := tokB; clear _t; refine wpList_op rfl (op_nx 26 rfl S.out _ Try.zeroValue26 ?_); clear S tokB; intro g13 w S; replace S := Lib.hid S; simp only [Act.put, List.setIfInBounds_toArray, List.set_cons_succ, List.set_cons_zero])
        | (refine wpList_op rfl (op_putR_1 26 _ _ rfl S rfl _ rfl rfl (by kernel_rfl) rfl ?_); clear S; intro w S; simp only [Act.put, List.setIfInBounds_toArray, List.set_cons_succ, List.set_cons_zero])
        | (refine wpList_op rfl (op_putR_0 26 _ _ rfl S rfl _ rfl rfl (by kernel_rfl) rfl ?_); clear S; intro w S; simp only [Act.put, List.setIfInBounds_toArray, List.set_cons_succ, List.set_cons_zero]))
    refine wp_region_evg (by kernel_rfl) _ (by kernel_rfl) (by kernel_rfl) 125 rfl (by kernel_rfl) (fun D V w => Sep noX w0 [bx g13 #[.int .i64 z.lv, .slice A7 n7 c7, .int .i64 z.hi, .int .i64 z.ri, .int .i64 z.ow] 26, bx g12 #[.int .i64 y.lv, .slice A6 n6 c6, .int .i64 y.hi, .int .i64 y.ri, .int .i64 y.ow] 26, ow (.slice A6 n6 c6) y.ps F6, ow (.slice A7 n7 c7) z.ps F7, bx g10 #[.int .i64 up.lv, .slice A5 nu c5, .int .i64 up.hi, .int .i64 up.ri, .int .i64 up.ow] 26, bx g9 #[.int .i64 lo.lv, .slice A4 nl c4, .int .i64 lo.hi, .int .i64 lo.ri, .int .i64 lo.ow] 26, ow (.slice A4 nl c4) lo.ps F4, ow (.slice A5 nu c5) up.ps F5, bx g7 #[.int .i64 up.lv, .slice A3 nu c3, .int .i64 up.hi, .int .i64 up.ri, .int .i64 up.ow] 26, bx g6 #[.int .i64 lo.lv, .slice A2 nl c2, .int .i64 lo.hi, .int .i64 lo.ri, .int .i64 lo.ow] 26, ow (.slice A2 nl d2) lo.ps F2, ow (.slice A3 nu d3) up.ps F3, bx g4 #[.int .i64 k, .int .i64 v] 28, bx g3 #[.int .i64 x.lv, .slice A1 n1 c1, .int .i64 x.hi, .int .i64 x.ri, .int .i64 x.ow] 26, ow (.slice A1 n1 c1) x.ps F1] w ∧ (D 0 = true → V 0 = .bool true) ∧ (D 1 = true → V 1 = .bool true) ∧ (D 2 = true → V 2 = .bool false) ∧ (D 3 = true → V 3 = .bool false) ∧ (D 4 = true → V 4 = .agg #[.int .i64 lo.lv, .slice A2 nl c2, .int .i64 lo.hi, .int .i64 lo.ri, .int .i64 lo.ow]) ∧ (D 5 = true → V 5 = .agg #[.int .i64 lo.lv, .slice A4 nl c4, .int .i64 lo.hi, .int .i64 lo.ri, .int .i64 lo.ow]) ∧ (D 6 = true → V 6 = .bool true) ∧ (D 7 = true → V 7 = .bool false) ∧ (D 8 = true → V 8 = .bool false) ∧ (D 9 = true → V 9 = .bool false) ∧ (D 10 = true → V 10 = .agg #[.int .i64 up.lv, .slice A3 nu c3, .int .i64 up.hi, .int .i64 up.ri, .int .i64 up.ow]) ∧ (D 11 = true → V 11 = .agg #[.int .i64 up.lv, .slice A5 nu c5, .int .i64 up.hi, .int .i64 up.ri, .int .i64 up.ow]) ∧ (D 12 = true → V 12 = .bool true) ∧ (D 13 = true → V 13 = .bool false) ∧ (D 14 = true → V 14 = .bool false) ∧ (D 15 = true → V 15 = .bool false) ∧ (D 16 = true → V 16 = .agg #[.int .i64 y.lv, .slice A6 n6 c6, .int .i64 y.hi, .int .i64 y.ri, .int .i64 y.ow]) ∧ (D 17 = true → V 17 = .agg #[.int .i64 z.lv, .slice A7 n7 c7, .int .i64 z.hi, .int .i64 z.ri, .int .i64 z.ow]) ∧ (D 18 = true → V 18 = .bool (lowerB y z)) ∧ (D 19 = true → V 19 = .agg #[.int .i64 y.lv, .slice A6 n6 c6, .int .i64 y.hi, .int .i64 y.ri, .int .i64 y.ow]) ∧ (D 20 = true → V 20 = .agg #[.int .i64 z.lv, .slice A7 n7 c7, .int .i64 z.hi, .int .i64 z.ri, .int .i64 z.ow]) ∧ (D 21 = true → V 21 = .bool (lowerB y z)) ∧ (D 22 = true → V 22 = .bool false) ∧ (D 23 = true → V 23 = .bool false)) ?_ ?_ ?_
    · intro D hD
      exact ⟨by exact S.out.drew.ems 0, (fun h => absurd h (by rw [hD 0 (by decide)]; exact Bool.false_ne_true)), (fun h => absurd h (by rw [hD 1 (by decide)]; exact Bool.false_ne_true)), (fun h => absurd h (by rw [hD 2 (by decide)]; exact Bool.false_ne_true)), (fun h => absurd h (by rw [hD 3 (by decide)]; exact Bool.false_ne_true)), (fun h => absurd h (by rw [hD 4 (by decide)]; exact Bool.false_ne_true)), (fun h => absurd h (by rw [hD 5 (by decide)]; exact Bool.false_ne_true)), (fun h => absurd h (by rw [hD 6 (by decide)]; exact Bool.false_ne_true)), (fun h => absurd h (by rw [hD 7 (by decide)]; exact Bool.false_ne_true)), (fun h => absurd h (by rw [hD 8 (by decide)]; exact Bool.false_ne_true)), (fun h => absurd h (by rw [hD 9 (by decide)]; exact Bool.false_ne_true)), (fun h => absurd h (by rw [hD 10 (by decide)]; exact Bool.false_ne_true)), (fun h => absurd h (by rw [hD 11 (by decide)]; exact Bool.false_ne_true)), (fun h => absurd h (by rw [hD 12 (by decide)]; exact Bool.false_ne_true)), (fun h => absurd h (by rw [hD 13 (by decide)]; exact Bool.false_ne_true)), (fun h => absurd h (by rw [hD 14 (by decide)]; exact Bool.false_ne_true)), (fun h => absurd h (by rw [hD 15 (by decide)]; exact Bool.false_ne_true)), (fun h => absurd h (by rw [hD 16 (by decide)]; exact Bool.false_ne_true)), (fun h => absurd h (by rw [hD 17 (by decide)]; exact Bool.false_ne_true)), (fun h => absurd h (by rw [hD 18 (by decide)]; exact Bool.false_ne_true)), (fun h => absurd h (by rw [hD 19 (by decide)]; exact Bool.false_ne_true)), (fun h => absurd h (by rw [hD 20 (by decide)]; exact Bool.false_ne_true)), (fun h => absurd h (by rw [hD 21 (by decide)]; exact Bool.false_ne_true)), (fun h => absurd h (by rw [hD 22 (by decide)]; exact Bool.false_ne_true)), (fun h => absurd h (by rw [hD 23 (by decide)]; exact Bool.false_ne_true))⟩
    · intro i o D V w a ho hI hDi haf hev
      obtain ⟨S, f0, f1, f2, f3, f4, f5, f6, f7, f8, f9, f10, f11, f12, f13, f14, f15, f16, f17, f18, f19, f20, f21, f22, f23⟩ := hI
      rcases i with _ | _ | _ | _ | _ | _ | _ | _ | _ | _ | _ | _ | _ | _ | _ | _ | _ | _ | _ | _ | _ | _ | _ | _ | i
      · obtain rfl := Option.some.inj (show some _ = some o from ho)
        refine ⟨fun _ _ hq => (nomatch hq), ?_⟩
        exact op_move (.inl rfl) ((hev.old 8 (by kernel_rfl)).trans rfl) ⟨_, rfl, S, fun _ => rfl, f1, f2, f3, f4, f5, f6, f7, f8, f9, f10, f11, f12, f13, f14, f15, f16, f17, f18, f19, f20, f21, f22, f23⟩
      · obtain rfl := Option.some.inj (show some _ = some o from ho)
        refine ⟨fun _ _ hq => (nomatch hq), ?_⟩
        exact op_move (.inl rfl) ((hev.old 11 (by kernel_rfl)).trans rfl) ⟨_, rfl, S, f0, fun _ => rfl, f2, f3, f4, f5, f6, f7, f8, f9, f10, f11, f12, f13, f14, f15, f16, f17, f18, f19, f20, f21, f22, f23⟩
      · obtain rfl := Option.some.inj (show some _ = some o from ho)
        have h0 : D 0 = true := after_on haf 0 rfl
        have h1 : D 1 = true := after_on haf 1 rfl
        refine ⟨fun _ _ hq => (nomatch hq), ?_⟩
        exact op_neqB _ _ rfl ((hev.new 0 _ 45 rfl rfl h0).trans (f0 h0)) ((hev.new 1 _ 46 rfl rfl h1).trans (f1 h1)) ⟨_, rfl, S, f0, f1, fun _ => rfl, f3, f4, f5, f6, f7, f8, f9, f10, f11, f12, f13, f14, f15, f16, f17, f18, f19, f20, f21, f22, f23⟩
      · obtain rfl := Option.some.inj (show some _ = some o from ho)
        have h2 : D 2 = true := after_on haf 2 rfl
        refine ⟨fun _ _ hq => (nomatch hq), ?_⟩
        exact op_move (.inl rfl) ((hev.new 2 _ 47 rfl rfl h2).trans (f2 h2)) ⟨_, rfl, S, f0, f1, f2, fun _ => rfl, f4, f5, f6, f7, f8, f9, f10, f11, f12, f13, f14, f15, f16, f17, f18, f19, f20, f21, f22, f23⟩
      · obtain rfl := Option.some.inj (show some _ = some o from ho)
        have h3 : D 3 = true := after_on haf 3 rfl
        refine ⟨fun _ _ hq => by cases Option.some.inj hq; exact ⟨h3, f3 h3⟩, ?_⟩
        exact op_row 26 _ rfl S 9 rfl ((hev.old 6 (by kernel_rfl)).trans rfl) Try.isAgg26 (by kernel_rfl) ⟨_, rfl, S, f0, f1, f2, f3, fun _ => rfl, f5, f6, f7, f8, f9, f10, f11, f12, f13, f14, f15, f16, f17, f18, f19, f20, f21, f22, f23⟩
      · obtain rfl := Option.some.inj (show some _ = some o from ho)
        have h3 : D 3 = true := after_on haf 3 rfl
        refine ⟨fun _ _ hq => by cases Option.some.inj hq; exact ⟨h3, f3 h3⟩, ?_⟩
        exact op_row 26 _ rfl S 5 rfl ((hev.old 9 (by kernel_rfl)).trans rfl) Try.isAgg26 (by kernel_rfl) ⟨_, rfl, S, f0, f1, f2, f3, f4, fun _ => rfl, f6, f7, f8, f9, f10, f11, f12, f13, f14, f15, f16, f17, f18, f19, f20, f21, f22, f23⟩
      · obtain rfl := Option.some.inj (show some _ = some o from ho)
        have h4 : D 4 = true := after_on haf 4 rfl
        have h5 : D 5 = true := after_on haf 5 rfl
        have h3 : D 3 = true := after_on haf 3 rfl
        refine ⟨fun _ _ hq => by cases Option.some.inj hq; exact ⟨h3, f3 h3⟩, ?_⟩
        have hx0 := ((hev.new 4 _ 49 rfl rfl h4).trans (f4 h4))
        have hx1 := ((hev.new 5 _ 50 rfl rfl h5).trans (f5 h5))
        refine op_call _ _ _ rfl (enters_of Try.func11 (by kernel_rfl) rfl) #[.agg #[.int .i64 lo.lv, .slice A2 nl c2, .int .i64 lo.hi, .int .i64 lo.ri, .int .i64 lo.ow], .agg #[.int .i64 lo.lv, .slice A4 nl c4, .int .i64 lo.hi, .int .i64 lo.ri, .int .i64 lo.ow]] (by simp [hx0, hx1]) (likeN_yes lo A2 A4 nl c2 c4 w (OwnS.rp (S.get 10 rfl) HNL.out) (OwnS.rp (S.get 6 rfl) HNL.out) (by have := HL41.out; omega)) (fun e w2 hh => ?_)
        obtain ⟨rfl, b⟩ := hh
        exact ⟨_, rfl, ⟨_, rfl, S.call b, f0, f1, f2, f3, f4, f5, fun _ => rfl, f7, f8, f9, f10, f11, f12, f13, f14, f15, f16, f17, f18, f19, f20, f21, f22, f23⟩⟩
      · obtain rfl := Option.some.inj (show some _ = some o from ho)
        have h6 : D 6 = true := after_on haf 6 rfl
        have h3 : D 3 = true := after_on haf 3 rfl
        refine ⟨fun _ _ hq => by cases Option.some.inj hq; exact ⟨h3, f3 h3⟩, ?_⟩
        exact op_not _ _ rfl ((hev.new 6 _ 51 rfl rfl h6).trans (f6 h6)) ⟨_, rfl, S, f0, f1, f2, f3, f4, f5, f6, fun _ => rfl, f8, f9, f10, f11, f12, f13, f14, f15, f16, f17, f18, f19, f20, f21, f22, f23⟩
      · obtain rfl := Option.some.inj (show some _ = some o from ho)
        have h3 : D 3 = true := after_on haf 3 rfl
        have h7 : D 7 = true := after_on haf 7 rfl
        refine ⟨fun _ _ hq => (nomatch hq), ?_⟩
        exact op_pick _ _ _ rfl ((hev.new 3 _ 48 rfl rfl h3).trans (f3 h3)) (((hev.new 7 _ 52 rfl rfl h7).trans (f7 h7))) ⟨_, rfl, S, f0, f1, f2, f3, f4, f5, f6, f7, fun _ => rfl, f9, f10, f11, f12, f13, f14, f15, f16, f17, f18, f19, f20, f21, f22, f23⟩
      · obtain rfl := Option.some.inj (show some _ = some o from ho)
        have h8 : D 8 = true := after_on haf 8 rfl
        refine ⟨fun _ _ hq => (nomatch hq), ?_⟩
        exact op_move (.inl rfl) ((hev.new 8 _ 53 rfl rfl h8).trans (f8 h8)) ⟨_, rfl, S, f0, f1, f2, f3, f4, f5, f6, f7, f8, fun _ => rfl, f10, f11, f12, f13, f14, f15, f16, f17, f18, f19, f20, f21, f22, f23⟩
      · obtain rfl := Option.some.inj (show some _ = some o from ho)
        have h9 : D 9 = true := after_on haf 9 rfl
        refine ⟨fun _ _ hq => by cases Option.some.inj hq; exact ⟨h9, f9 h9⟩, ?_⟩
        exact op_row 26 _ rfl S 8 rfl ((hev.old 7 (by kernel_rfl)).trans rfl) Try.isAgg26 (by kernel_rfl) ⟨_, rfl, S, f0, f1, f2, f3, f4, f5, f6, f7, f8, f9, fun _ => rfl, f11, f12, f13, f14, f15, f16, f17, f18, f19, f20, f21, f22, f23⟩
      · obtain rfl := Option.some.inj (show some _ = some o from ho)
        have h9 : D 9 = true := after_on haf 9 rfl
        refine ⟨fun _ _ hq => by cases Option.some.inj hq; exact ⟨h9, f9 h9⟩, ?_⟩
        exact op_row 26 _ rfl S 4 rfl ((hev.old 10 (by kernel_rfl)).trans rfl) Try.isAgg26 (by kernel_rfl) ⟨_, rfl, S, f0, f1, f2, f3, f4, f5, f6, f7, f8, f9, f10, fun _ => rfl, f12, f13, f14, f15, f16, f17, f18, f19, f20, f21, f22, f23⟩
      · obtain rfl := Option.some.inj (show some _ = some o from ho)
        have h10 : D 10 = true := after_on haf 10 rfl
        have h11 : D 11 = true := after_on haf 11 rfl
        have h9 : D 9 = true := after_on haf 9 rfl
        refine ⟨fun _ _ hq => by cases Option.some.inj hq; exact ⟨h9, f9 h9⟩, ?_⟩
        have hx0 := ((hev.new 10 _ 55 rfl rfl h10).trans (f10 h10))
        have hx1 := ((hev.new 11 _ 56 rfl rfl h11).trans (f11 h11))
        refine op_call _ _ _ rfl (enters_of Try.func11 (by kernel_rfl) rfl) #[.agg #[.int .i64 up.lv, .slice A3 nu c3, .int .i64 up.hi, .int .i64 up.ri, .int .i64 up.ow], .agg #[.int .i64 up.lv, .slice A5 nu c5, .int .i64 up.hi, .int .i64 up.ri, .int .i64 up.ow]] (by simp [hx0, hx1]) (likeN_yes up A3 A5 nu c3 c5 w (OwnS.rp (S.get 11 rfl) HNU.out) (OwnS.rp (S.get 7 rfl) HNU.out) (by have := HU41.out; omega)) (fun e w2 hh => ?_)
        obtain ⟨rfl, b⟩ := hh
        exact ⟨_, rfl, ⟨_, rfl, S.call b, f0, f1, f2, f3, f4, f5, f6, f7, f8, f9, f10, f11, fun _ => rfl, f13, f14, f15, f16, f17, f18, f19, f20, f21, f22, f23⟩⟩
      · obtain rfl := Option.some.inj (show some _ = some o from ho)
        have h12 : D 12 = true := after_on haf 12 rfl
        have h9 : D 9 = true := after_on haf 9 rfl
        refine ⟨fun _ _ hq => by cases Option.some.inj hq; exact ⟨h9, f9 h9⟩, ?_⟩
        exact op_not _ _ rfl ((hev.new 12 _ 57 rfl rfl h12).trans (f12 h12)) ⟨_, rfl, S, f0, f1, f2, f3, f4, f5, f6, f7, f8, f9, f10, f11, f12, fun _ => rfl, f14, f15, f16, f17, f18, f19, f20, f21, f22, f23⟩
      · obtain rfl := Option.some.inj (show some _ = some o from ho)
        have h9 : D 9 = true := after_on haf 9 rfl
        have h13 : D 13 = true := after_on haf 13 rfl
        refine ⟨fun _ _ hq => (nomatch hq), ?_⟩
        exact op_pick _ _ _ rfl ((hev.new 9 _ 54 rfl rfl h9).trans (f9 h9)) (((hev.new 13 _ 58 rfl rfl h13).trans (f13 h13))) ⟨_, rfl, S, f0, f1, f2, f3, f4, f5, f6, f7, f8, f9, f10, f11, f12, f13, fun _ => rfl, f15, f16, f17, f18, f19, f20, f21, f22, f23⟩
      · obtain rfl := Option.some.inj (show some _ = some o from ho)
        have h14 : D 14 = true := after_on haf 14 rfl
        refine ⟨fun _ _ hq => (nomatch hq), ?_⟩
        exact op_move (.inl rfl) ((hev.new 14 _ 59 rfl rfl h14).trans (f14 h14)) ⟨_, rfl, S, f0, f1, f2, f3, f4, f5, f6, f7, f8, f9, f10, f11, f12, f13, f14, fun _ => rfl, f16, f17, f18, f19, f20, f21, f22, f23⟩
      · obtain rfl := Option.some.inj (show some _ = some o from ho)
        have h15 : D 15 = true := after_on haf 15 rfl
        refine ⟨fun _ _ hq => by cases Option.some.inj hq; exact ⟨h15, f15 h15⟩, ?_⟩
        exact op_row 26 _ rfl S 1 rfl ((hev.old 12 (by kernel_rfl)).trans rfl) Try.isAgg26 (by kernel_rfl) ⟨_, rfl, S, f0, f1, f2, f3, f4, f5, f6, f7, f8, f9, f10, f11, f12, f13, f14, f15, fun _ => rfl, f17, f18, f19, f20, f21, f22, f23⟩
      · obtain rfl := Option.some.inj (show some _ = some o from ho)
        have h15 : D 15 = true := after_on haf 15 rfl
        refine ⟨fun _ _ hq => by cases Option.some.inj hq; exact ⟨h15, f15 h15⟩, ?_⟩
        exact op_row 26 _ rfl S 0 rfl ((hev.old 13 (by kernel_rfl)).trans rfl) Try.isAgg26 (by kernel_rfl) ⟨_, rfl, S, f0, f1, f2, f3, f4, f5, f6, f7, f8, f9, f10, f11, f12, f13, f14, f15, f16, fun _ => rfl, f18, f19, f20, f21, f22, f23⟩
      · obtain rfl := Option.some.inj (show some _ = some o from ho)
        have h16 : D 16 = true := after_on haf 16 rfl
        have h17 : D 17 = true := after_on haf 17 rfl
        have h15 : D 15 = true := after_on haf 15 rfl
        refine ⟨fun _ _ hq => by cases Option.some.inj hq; exact ⟨h15, f15 h15⟩, ?_⟩
        have hx0 := ((hev.new 16 _ 61 rfl rfl h16).trans (f16 h16))
        have hx1 := ((hev.new 17 _ 62 rfl rfl h17).trans (f17 h17))
        refine op_call _ _ _ rfl (enters_of Try.func12 (by kernel_rfl) rfl) #[.agg #[.int .i64 y.lv, .slice A6 n6 c6, .int .i64 y.hi, .int .i64 y.ri, .int .i64 y.ow], .agg #[.int .i64 z.lv, .slice A7 n7 c7, .int .i64 z.hi, .int .i64 z.ri, .int .i64 z.ow]] (by simp [hx0, hx1]) (iLowerOf_any y z A6 A7 n6 c6 n7 c7 w (OwnS.rs (S.get 2 rfl) HNY.out) (OwnS.rs (S.get 3 rfl) HNZ.out) SMY.out SMZ.out CAP6.out.1 CAP6.out.2 CAP7.out.1 CAP7.out.2) (fun e w2 hh => ?_)
        obtain ⟨rfl, b⟩ := hh
        exact ⟨_, rfl, ⟨_, rfl, S.call b, f0, f1, f2, f3, f4, f5, f6, f7, f8, f9, f10, f11, f12, f13, f14, f15, f16, f17, fun _ => rfl, f19, f20, f21, f22, f23⟩⟩
      · obtain rfl := Option.some.inj (show some _ = some o from ho)
        have h15 : D 15 = true := after_on haf 15 rfl
        refine ⟨fun _ _ hq => by cases Option.some.inj hq; exact ⟨h15, f15 h15⟩, ?_⟩
        exact op_row 26 _ rfl S 1 rfl ((hev.old 12 (by kernel_rfl)).trans rfl) Try.isAgg26 (by kernel_rfl) ⟨_, rfl, S, f0, f1, f2, f3, f4, f5, f6, f7, f8, f9, f10, f11, f12, f13, f14, f15, f16, f17, f18, fun _ => rfl, f20, f21, f22, f23⟩
      · obtain rfl := Option.some.inj (show some _ = some o from ho)
        have h15 : D 15 = true := after_on haf 15 rfl
        refine ⟨fun _ _ hq => by cases Option.some.inj hq; exact ⟨h15, f15 h15⟩, ?_⟩
        exact op_row 26 _ rfl S 0 rfl ((hev.old 13 (by kernel_rfl)).trans rfl) Try.isAgg26 (by kernel_rfl) ⟨_, rfl, S, f0, f1, f2, f3, f4, f5, f6, f7, f8, f9, f10, f11, f12, f13, f14, f15, f16, f17, f18, f19, fun _ => rfl, f21, f22, f23⟩
      · obtain rfl := Option.some.inj (show some _ = some o from ho)
        have h19 : D 19 = true := after_on haf 19 rfl
        have h20 : D 20 = true := after_on haf 20 rfl
        have h15 : D 15 = true := after_on haf 15 rfl
        refine ⟨fun _ _ hq => by cases Option.some.inj hq; exact ⟨h15, f15 h15⟩, ?_⟩
        have hx0 := ((hev.new 19 _ 64 rfl rfl h19).trans (f19 h19))
        have hx1 := ((hev.new 20 _ 65 rfl rfl h20).trans (f20 h20))
        refine op_call _ _ _ rfl (enters_of Try.func13 (by kernel_rfl) rfl) #[.agg #[.int .i64 y.lv, .slice A6 n6 c6, .int .i64 y.hi, .int .i64 y.ri, .int .i64 y.ow], .agg #[.int .i64 z.lv, .slice A7 n7 c7, .int .i64 z.hi, .int .i64 z.ri, .int .i64 z.ow]] (by simp [hx0, hx1]) (sLowerOf_any y z A6 A7 n6 c6 n7 c7 w (OwnS.rs (S.get 2 rfl) HNY.out) (OwnS.rs (S.get 3 rfl) HNZ.out) SMY.out SMZ.out) (fun e w2 hh => ?_)
        obtain ⟨rfl, b⟩ := hh
        exact ⟨_, rfl, ⟨_, rfl, S.call b, f0, f1, f2, f3, f4, f5, f6, f7, f8, f9, f10, f11, f12, f13, f14, f15, f16, f17, f18, f19, f20, fun _ => rfl, f22, f23⟩⟩
      · obtain rfl := Option.some.inj (show some _ = some o from ho)
        have h18 : D 18 = true := after_on haf 18 rfl
        have h21 : D 21 = true := after_on haf 21 rfl
        have h15 : D 15 = true := after_on haf 15 rfl
        refine ⟨fun _ _ hq => by cases Option.some.inj hq; exact ⟨h15, f15 h15⟩, ?_⟩
        exact op_neqB _ _ rfl ((hev.new 18 _ 63 rfl rfl h18).trans (f18 h18)) ((hev.new 21 _ 66 rfl rfl h21).trans (f21 h21)) ⟨_, rfl, S, f0, f1, f2, f3, f4, f5, f6, f7, f8, f9, f10, f11, f12, f13, f14, f15, f16, f17, f18, f19, f20, f21, fun _ => rfl, f23⟩
      · obtain rfl := Option.some.inj (show some _ = some o from ho)
        have h15 : D 15 = true := after_on haf 15 rfl
        have h22 : D 22 = true := after_on haf 22 rfl
        refine ⟨fun _ _ hq => (nomatch hq), ?_⟩
        exact op_pick _ _ _ rfl ((hev.new 15 _ 60 rfl rfl h15).trans (f15 h15)) (((hev.new 22 _ 67 rfl rfl h22).trans (f22 h22))) ⟨_, rfl, S, f0, f1, f2, f3, f4, f5, f6, f7, f8, f9, f10, f11, f12, f13, f14, f15, f16, f17, f18, f19, f20, f21, f22, fun _ => rfl⟩
      · exact absurd ho (by simp)
    intro V w hI
    obtain ⟨S, f0, f1, f2, f3, f4, f5, f6, f7, f8, f9, f10, f11, f12, f13, f14, f15, f16, f17, f18, f19, f20, f21, f22, f23⟩ := hI
    replace f0 := f0 rfl
    replace f1 := f1 rfl
    replace f2 := f2 rfl
    replace f3 := f3 rfl
    replace f4 := f4 rfl
    replace f5 := f5 rfl
    replace f6 := f6 rfl
    replace f7 := f7 rfl
    replace f8 := f8 rfl
    replace f9 := f9 rfl
    replace f10 := f10 rfl
    replace f11 := f11 rfl
    replace f12 := f12 rfl
    replace f13 := f13 rfl
    replace f14 := f14 rfl
    replace f15 := f15 rfl
    replace f16 := f16 rfl
    replace f17 := f17 rfl
    replace f18 := f18 rfl
    replace f19 := f19 rfl
    replace f20 := f20 rfl
    replace f21 := f21 rfl
    replace f22 := f22 rfl
    replace f23 := f23 rfl
    replace S : Hid (Sep noX w0 [bx g13 #[.int .i64 z.lv, .slice A7 n7 c7, .int .i64 z.hi, .int .i64 z.ri, .int .i64 z.ow] 26, bx g12 #[.int .i64 y.lv, .slice A6 n6 c6, .int .i64 y.hi, .int .i64 y.ri, .int .i64 y.ow] 26, ow (.slice A6 n6 c6) y.ps F6, ow (.slice A7 n7 c7) z.ps F7, bx g10 #[.int .i64 up.lv, .slice A5 nu c5, .int .i64 up.hi, .int .i64 up.ri, .int .i64 up.ow] 26, bx g9 #[.int .i64 lo.lv, .slice A4 nl c4, .int .i64 lo.hi, .int .i64 lo.ri, .int .i64 lo.ow] 26, ow (.slice A4 nl c4) lo.ps F4, ow (.slice A5 nu c5) up.ps F5, bx g7 #[.int .i64 up.lv, .slice A3 nu c3, .int .i64 up.hi, .int .i64 up.ri, .int .i64 up.ow] 26, bx g6 #[.int .i64 lo.lv, .slice A2 nl c2, .int .i64 lo.hi, .int .i64 lo.ri, .int .i64 lo.ow] 26, ow (.slice A2 nl d2) lo.ps F2, ow (.slice A3 nu d3) up.ps F3, bx g4 #[.int .i64 k, .int .i64 v] 28, bx g3 #[.int .i64 x.lv, .slice A1 n1 c1, .int .i64 x.hi, .int .i64 x.ri, .int .i64 x.ow] 26, ow (.slice A1 n1 c1) x.ps F1] w) := Lib.hid S
    simp only [putF, Act.put, List.setIfInBounds_toArray, List.set_cons_succ, List.set_cons_zero, f0, f1, f2, f3, f4, f5, f6, f7, f8, f9, f10, f11, f12, f13, f14, f15, f16, f17, f18, f19, f20, f21, f22, f23]
    clear f0 f1 f2 f3 f4 f5 f6 f7 f8 f9 f10 f11 f12 f13 f14 f15 f16 f17 f18 f19 f20 f21 f22 f23
    obtain ⟨e1, e2, e3, e4, e5, e6, z1, z2⟩ := HFT.out trivial
    subst z1 z2
    have HE1 := Lib.hid e1
    have HE2 := Lib.hid e2
    have HE3 := Lib.hid e3
    have HAP := Lib.hid e4
    have HE6 := Lib.hid e6
    have PK := Lib.hid (fun w h => iPut_any A1 n1 c1 x.ps k v w h (by have := HX41.out; omega) cap1.out.1 cap1.out.2)
    rw [e5] at PK
    have hpl : (putL x.ps k v).length = 5 := by rw [← e4, List.length_append, HNL.out, HNU.out]
    have HPL0 := Lib.hid hpl
    have smL : Small.sm lo.ps := by show lo.ps.length ≤ 1048576; rw [HNL.out]; omega
    have smU : Small.sm up.ps := by show up.ps.length ≤ 1048576; rw [HNU.out]; omega
    have LW := Lib.hid (fun w h h' => iLowerOf_any lo up A2 A3 3 c2 2 c3 w h h' smL smU CAP2.out.1 CAP2.out.2 CAP3.out.1 CAP3.out.2)
    rw [e6] at LW
    obtain ⟨b2, o2, hA2, _, _⟩ := (OwnS.rp (S.out.get 10 rfl) HNL.out).2 (by omega)
    obtain ⟨b3, o3, hA3, _, _⟩ := (OwnS.rp (S.out.get 11 rfl) HNU.out).2 (by omega)
    have HA2 := Lib.hid hA2
    have HA3 := Lib.hid hA3
    clear hA2 hA3 smL smU e1 e2 e3 e4 e5 e6 hpl
    generalize putL x.ps k v = pl at *
    go_wp2_with (first
        | go_skip
        | (refine wpList_op rfl (op_get 24 _ rfl S.out 13 rfl _ rfl Try.isAgg24 _ rfl ?_); simp only [Act.put, List.setIfInBounds_toArray, List.set_cons_succ, List.set_cons_zero])
        | (refine wpList_op rfl (op_row 28 _ rfl S.out 12 rfl rfl Try.isAgg28 (by kernel_rfl) ?_); simp only [Act.put, List.setIfInBounds_toArray, List.set_cons_succ, List.set_cons_zero]))
    refine (PK.out _ (OwnS.rp (S.out.get 14 rfl) HX.out)).mono ?_
    rintro e w1 ⟨v9, rfl, own, b⟩
    rw [HPL0.out] at own
    obtain ⟨A8, c8, rfl, _, _⟩ := own_shape own
    have HPL := HPL0
    obtain ⟨F8, hF8⟩ : ∃ F8 : FP, F8 = blkF (Value.slice A8 5 c8).ownBlock := ⟨_, rfl⟩
    have S2 : Sep noX w0 [ow (.slice A8 5 c8) pl F8, bx g13 #[.int .i64 z.lv, .slice A7 n7 c7, .int .i64 z.hi, .int .i64 z.ri, .int .i64 z.ow] 26, bx g12 #[.int .i64 y.lv, .slice A6 n6 c6, .int .i64 y.hi, .int .i64 y.ri, .int .i64 y.ow] 26, ow (.slice A6 n6 c6) y.ps F6, ow (.slice A7 n7 c7) z.ps F7, bx g10 #[.int .i64 up.lv, .slice A5 2 c5, .int .i64 up.hi, .int .i64 up.ri, .int .i64 up.ow] 26, bx g9 #[.int .i64 lo.lv, .slice A4 3 c4, .int .i64 lo.hi, .int .i64 lo.ri, .int .i64 lo.ow] 26, ow (.slice A4 3 c4) lo.ps F4, ow (.slice A5 2 c5) up.ps F5, bx g7 #[.int .i64 up.lv, .slice A3 2 c3, .int .i64 up.hi, .int .i64 up.ri, .int .i64 up.ow] 26, bx g6 #[.int .i64 lo.lv, .slice A2 3 c2, .int .i64 lo.hi, .int .i64 lo.ri, .int .i64 lo.ow] 26, ow (.slice A2 3 d2) lo.ps F2, ow (.slice A3 2 d3) up.ps F3, bx g4 #[.int .i64 k, .int .i64 v] 28, bx g3 #[.int .i64 x.lv, .slice A1 n1 c1, .int .i64 x.hi, .int .i64 x.ri, .int .i64 x.ow] 26, ow (.slice A1 n1 c1) x.ps F1] w1 := S.out.own b (F := F8) (OwnS.of_pairs own (F := F8) (fun k hk => by rw [hF8]; exact hk)) (by rw [hF8]; exact fresh_blk own (Nat.le_refl _))
    replace S := Lib.hid S2
    clear S2 own b hF8
    go_wp2_with fail
    refine wp_region_evg (by kernel_rfl) _ (by kernel_rfl) (by kernel_rfl) 125 rfl (by kernel_rfl) (fun D V w => ∃ gb : Nat, ∃ AP : Option Addr, ∃ cP : Nat, ∃ FPP : FP, ∃ AQ : Option Addr, ∃ cQ : Nat, ∃ FQQ : FP, Sep noX w0 [ow (.slice A8 5 c8) pl F8, bx g13 #[.int .i64 z.lv, .slice A7 n7 c7, .int .i64 z.hi, .int .i64 z.ri, .int .i64 z.ow] 26, bx g12 #[.int .i64 y.lv, .slice A6 n6 c6, .int .i64 y.hi, .int .i64 y.ri, .int .i64 y.ow] 26, ow (.slice A6 n6 c6) y.ps F6, ow (.slice A7 n7 c7) z.ps F7, bx g10 #[.int .i64 up.lv, .slice A5 2 c5, .int .i64 up.hi, .int .i64 up.ri, .int .i64 up.ow] 26, bx g9 #[.int .i64 lo.lv, .slice A4 3 c4, .int .i64 lo.hi, .int .i64 lo.ri, .int .i64 lo.ow] 26, ow (.slice A4 3 c4) lo.ps F4, ow (.slice A5 2 c5) up.ps F5, bx g7 #[.int .i64 up.lv, .slice A3 2 c3, .int .i64 up.hi, .int .i64 up.ri, .int .i64 up.ow] 26, bx g6 #[.int .i64 lo.lv, .slice A2 3 c2, .int .i64 lo.hi, .int .i64 lo.ri, .int .i64 lo.ow] 26, ow (.slice A2 3 d2) lo.ps F2, ow (.slice A3 2 d3) up.ps F3, bx g4 #[.int .i64 k, .int .i64 v] 28, bx g3 #[.int .i64 x.lv, .slice A1 n1 c1, .int .i64 x.hi, .int .i64 x.ri, .int .i64 x.ow] 26, ow (.slice A1 n1 c1) x.ps F1, cnd (D 2) em (cnd (D 5) (ow (.slice (some ⟨gb, 0, none⟩) 0 0) ([] : List Pr) (fun k => k = gb)) (cnd (D 8) (ow (.slice AP 3 cP) lo.ps FPP) (ow (.slice AQ 5 cQ) pl FQQ)))] w ∧ (D 0 = true → V 0 = .bool true) ∧ (D 1 = true → V 1 = .bool true) ∧ (D 2 = true → V 2 = .slice (some ⟨gb, 0, none⟩) 0 0) ∧ (D 3 = true → V 3 = .pointer (some ⟨g6, 1, none⟩)) ∧ (D 4 = true → V 4 = .slice A2 3 c2) ∧ (D 5 = true → V 5 = .slice AP 3 cP) ∧ (D 6 = true → V 6 = .pointer (some ⟨g7, 1, none⟩)) ∧ (D 7 = true → V 7 = .slice A3 2 c3) ∧ (D 8 = true → V 8 = .slice AQ 5 cQ) ∧ (D 9 = true → V 9 = .slice A8 5 c8) ∧ (D 10 = true → V 10 = .bool true) ∧ (D 11 = true → V 11 = .bool true) ∧ (D 12 = true → V 12 = .bool true) ∧ (D 13 = true → V 13 = .agg #[.int .i64 lo.lv, .slice A2 3 c2, .int .i64 lo.hi, .int .i64 lo.ri, .int .i64 lo.ow]) ∧ (D 14 = true → V 14 = .agg #[.int .i64 up.lv, .slice A3 2 c3, .int .i64 up.hi, .int .i64 up.ri, .int .i64 up.ow]) ∧ (D 15 = true → V 15 = .bool true) ∧ (D 16 = true → V 16 = .bool true) ∧ (D 17 = true → V 17 = .bool true) ∧ (D 18 = true → V 18 = .pointer (some ⟨g6, 3, none⟩)) ∧ (D 19 = true → V 19 = .int .i64 lo.ri) ∧ (D 20 = true → V 20 = .int .i64 at_) ∧ (D 21 = true → V 21 = .bool true) ∧ (D 22 = true → V 22 = .bool true) ∧ (D 23 = true → V 23 = .bool true) ∧ (D 24 = true → V 24 = .pointer (some ⟨g6, 4, none⟩)) ∧ (D 25 = true → V 25 = .int .i64 lo.ow) ∧ (D 26 = true → V 26 = .pointer (some ⟨g3, 4, none⟩)) ∧ (D 27 = true → V 27 = .int .i64 x.ow) ∧ (D 28 = true → V 28 = .bool true) ∧ (D 29 = true → V 29 = .bool true) ∧ (D 30 = true → V 30 = .bool true) ∧ (D 31 = true → V 31 = .pointer (some ⟨g7, 2, none⟩)) ∧ (D 32 = true → V 32 = .int .i64 up.hi) ∧ (D 33 = true → V 33 = .pointer (some ⟨g3, 2, none⟩)) ∧ (D 34 = true → V 34 = .int .i64 x.hi) ∧ (D 35 = true → V 35 = .bool true) ∧ (D 36 = true → V 36 = .bool true) ∧ (D 37 = true → V 37 = .bool true) ∧ (D 5 = true → D 2 = true) ∧ (D 8 = true → D 5 = true)) ?_ ?_ ?_
    · intro D hD
      have d2 := hD 2 (by decide)
      exact ⟨0, none, 0, fun _ => False, none, 0, fun _ => False, by rw [cnd_f d2]; exact S.out.drew.ems 1, (fun h => absurd h (by rw [hD 0 (by decide)]; exact Bool.false_ne_true)), (fun h => absurd h (by rw [hD 1 (by decide)]; exact Bool.false_ne_true)), (fun h => absurd h (by rw [hD 2 (by decide)]; exact Bool.false_ne_true)), (fun h => absurd h (by rw [hD 3 (by decide)]; exact Bool.false_ne_true)), (fun h => absurd h (by rw [hD 4 (by decide)]; exact Bool.false_ne_true)), (fun h => absurd h (by rw [hD 5 (by decide)]; exact Bool.false_ne_true)), (fun h => absurd h (by rw [hD 6 (by decide)]; exact Bool.false_ne_true)), (fun h => absurd h (by rw [hD 7 (by decide)]; exact Bool.false_ne_true)), (fun h => absurd h (by rw [hD 8 (by decide)]; exact Bool.false_ne_true)), (fun h => absurd h (by rw [hD 9 (by decide)]; exact Bool.false_ne_true)), (fun h => absurd h (by rw [hD 10 (by decide)]; exact Bool.false_ne_true)), (fun h => absurd h (by rw [hD 11 (by decide)]; exact Bool.false_ne_true)), (fun h => absurd h (by rw [hD 12 (by decide)]; exact Bool.false_ne_true)), (fun h => absurd h (by rw [hD 13 (by decide)]; exact Bool.false_ne_true)), (fun h => absurd h (by rw [hD 14 (by decide)]; exact Bool.false_ne_true)), (fun h => absurd h (by rw [hD 15 (by decide)]; exact Bool.false_ne_true)), (fun h => absurd h (by rw [hD 16 (by decide)]; exact Bool.false_ne_true)), (fun h => absurd h (by rw [hD 17 (by decide)]; exact Bool.false_ne_true)), (fun h => absurd h (by rw [hD 18 (by decide)]; exact Bool.false_ne_true)), (fun h => absurd h (by rw [hD 19 (by decide)]; exact Bool.false_ne_true)), (fun h => absurd h (by rw [hD 20 (by decide)]; exact Bool.false_ne_true)), (fun h => absurd h (by rw [hD 21 (by decide)]; exact Bool.false_ne_true)), (fun h => absurd h (by rw [hD 22 (by decide)]; exact Bool.false_ne_true)), (fun h => absurd h (by rw [hD 23 (by decide)]; exact Bool.false_ne_true)), (fun h => absurd h (by rw [hD 24 (by decide)]; exact Bool.false_ne_true)), (fun h => absurd h (by rw [hD 25 (by decide)]; exact Bool.false_ne_true)), (fun h => absurd h (by rw [hD 26 (by decide)]; exact Bool.false_ne_true)), (fun h => absurd h (by rw [hD 27 (by decide)]; exact Bool.false_ne_true)), (fun h => absurd h (by rw [hD 28 (by decide)]; exact Bool.false_ne_true)), (fun h => absurd h (by rw [hD 29 (by decide)]; exact Bool.false_ne_true)), (fun h => absurd h (by rw [hD 30 (by decide)]; exact Bool.false_ne_true)), (fun h => absurd h (by rw [hD 31 (by decide)]; exact Bool.false_ne_true)), (fun h => absurd h (by rw [hD 32 (by decide)]; exact Bool.false_ne_true)), (fun h => absurd h (by rw [hD 33 (by decide)]; exact Bool.false_ne_true)), (fun h => absurd h (by rw [hD 34 (by decide)]; exact Bool.false_ne_true)), (fun h => absurd h (by rw [hD 35 (by decide)]; exact Bool.false_ne_true)), (fun h => absurd h (by rw [hD 36 (by decide)]; exact Bool.false_ne_true)), (fun h => absurd h (by rw [hD 37 (by decide)]; exact Bool.false_ne_true)), (fun h => absurd h (by rw [hD 5 (by decide)]; exact Bool.false_ne_true)), (fun h => absurd h (by rw [hD 8 (by decide)]; exact Bool.false_ne_true))⟩
    · intro i o D V w a ho hI hDi haf hev
      obtain ⟨gb, AP, cP, FPP, AQ, cQ, FQQ, S, f0, f1, f2, f3, f4, f5, f6, f7, f8, f9, f10, f11, f12, f13, f14, f15, f16, f17, f18, f19, f20, f21, f22, f23, f24, f25, f26, f27, f28, f29, f30, f31, f32, f33, f34, f35, f36, f37, o5_2, o8_5⟩ := hI
      rcases i with _ | _ | _ | _ | _ | _ | _ | _ | _ | _ | _ | _ | _ | _ | _ | _ | _ | _ | _ | _ | _ | _ | _ | _ | _ | _ | _ | _ | _ | _ | _ | _ | _ | _ | _ | _ | _ | _ | i
      · obtain rfl := Option.some.inj (show some _ = some o from ho)
        refine ⟨fun _ _ hq => (nomatch hq), ?_⟩
        exact op_move (.inl rfl) ((hev.old 15 (by kernel_rfl)).trans rfl) ⟨_, rfl, gb, AP, cP, FPP, AQ, cQ, FQQ, S, fun _ => rfl, f1, f2, f3, f4, f5, f6, f7, f8, f9, f10, f11, f12, f13, f14, f15, f16, f17, f18, f19, f20, f21, f22, f23, f24, f25, f26, f27, f28, f29, f30, f31, f32, f33, f34, f35, f36, f37, o5_2, o8_5⟩
      · obtain rfl := Option.some.inj (show some _ = some o from ho)
        have h0 : D 0 = true := after_on haf 0 rfl
        refine ⟨fun _ _ hq => (nomatch hq), ?_⟩
        exact op_move (.inl rfl) ((hev.new 0 _ 88 rfl rfl h0).trans (f0 h0)) ⟨_, rfl, gb, AP, cP, FPP, AQ, cQ, FQQ, S, f0, fun _ => rfl, f2, f3, f4, f5, f6, f7, f8, f9, f10, f11, f12, f13, f14, f15, f16, f17, f18, f19, f20, f21, f22, f23, f24, f25, f26, f27, f28, f29, f30, f31, f32, f33, f34, f35, f36, f37, o5_2, o8_5⟩
      · obtain rfl := Option.some.inj (show some _ = some o from ho)
        have h1 : D 1 = true := after_on haf 1 rfl
        refine ⟨fun _ _ hq => by cases Option.some.inj hq; exact ⟨h1, f1 h1⟩, ?_⟩
        have nn5 : D 5 = false := by
          cases hq : D 5 with
          | false => rfl
          | true => exact absurd (o5_2 hq) (by rw [hDi]; exact Bool.false_ne_true)
        exact op_bsP0 rfl S 16 (by simp only [List.getElem?_cons_succ, List.getElem?_cons_zero, cnd_f hDi]) (fun g w S => ⟨_, rfl, g, AP, cP, FPP, AQ, cQ, FQQ, (by rw [show updB D 2 5 = false from nn5]; exact S), f0, f1, fun _ => rfl, f3, f4, f5, f6, f7, f8, f9, f10, f11, f12, f13, f14, f15, f16, f17, f18, f19, f20, f21, f22, f23, f24, f25, f26, f27, f28, f29, f30, f31, f32, f33, f34, f35, f36, f37, fun _ => rfl, o8_5⟩)
      · obtain rfl := Option.some.inj (show some _ = some o from ho)
        have h1 : D 1 = true := after_on haf 1 rfl
        refine ⟨fun _ _ hq => by cases Option.some.inj hq; exact ⟨h1, f1 h1⟩, ?_⟩
        exact op_field _ _ _ rfl ((hev.old 6 (by kernel_rfl)).trans rfl) (by kernel_rfl) ⟨_, rfl, gb, AP, cP, FPP, AQ, cQ, FQQ, S, f0, f1, f2, fun _ => rfl, f4, f5, f6, f7, f8, f9, f10, f11, f12, f13, f14, f15, f16, f17, f18, f19, f20, f21, f22, f23, f24, f25, f26, f27, f28, f29, f30, f31, f32, f33, f34, f35, f36, f37, o5_2, o8_5⟩
      · obtain rfl := Option.some.inj (show some _ = some o from ho)
        have h3 : D 3 = true := after_on haf 3 rfl
        have h1 : D 1 = true := after_on haf 1 rfl
        refine ⟨fun _ _ hq => by cases Option.some.inj hq; exact ⟨h1, f1 h1⟩, ?_⟩
        exact op_get 24 _ rfl S 10 rfl 1 ((hev.new 3 _ 91 rfl rfl h3).trans (f3 h3)) Try.isAgg24 _ rfl ⟨_, rfl, gb, AP, cP, FPP, AQ, cQ, FQQ, S, f0, f1, f2, f3, fun _ => rfl, f5, f6, f7, f8, f9, f10, f11, f12, f13, f14, f15, f16, f17, f18, f19, f20, f21, f22, f23, f24, f25, f26, f27, f28, f29, f30, f31, f32, f33, f34, f35, f36, f37, o5_2, o8_5⟩
      · obtain rfl := Option.some.inj (show some _ = some o from ho)
        have h2 : D 2 = true := after_on haf 2 rfl
        have h4 : D 4 = true := after_on haf 4 rfl
        have h1 : D 1 = true := after_on haf 1 rfl
        refine ⟨fun _ _ hq => by cases Option.some.inj hq; exact ⟨h1, f1 h1⟩, ?_⟩
        have nn8 : D 8 = false := by
          cases hq : D 8 with
          | false => rfl
          | true => exact absurd (o8_5 hq) (by rw [hDi]; exact Bool.false_ne_true)
        have hx0 := ((hev.new 2 _ 90 rfl rfl h2).trans (f2 h2))
        have hx1 := ((hev.new 4 _ 92 rfl rfl h4).trans (f4 h4))
        have rp := OwnS.rp (S.get 11 rfl) HNL.out
        rw [HA2.out] at rp
        rw [HA2.out] at hx1
        exact op_appP _ _ rfl S 16 (v := .slice (some ⟨gb, 0, none⟩) 0 0) (xs := ([] : List Pr)) (F := fun k => k = gb) (by simp only [List.getElem?_cons_succ, List.getElem?_cons_zero, cnd_t h2, cnd_f hDi]) hx0 _ _ _ _ rp (by omega) hx1 (by simp) (fun A c F w S => ⟨_, rfl, gb, A, c, F, AQ, cQ, FQQ, (by rw [show updB D 5 2 = true from h2, show updB D 5 8 = false from nn8]; exact S), f0, f1, f2, f3, f4, fun _ => rfl, f6, f7, f8, f9, f10, f11, f12, f13, f14, f15, f16, f17, f18, f19, f20, f21, f22, f23, f24, f25, f26, f27, f28, f29, f30, f31, f32, f33, f34, f35, f36, f37, fun _ => h2, fun _ => rfl⟩)
      · obtain rfl := Option.some.inj (show some _ = some o from ho)
        have h1 : D 1 = true := after_on haf 1 rfl
        refine ⟨fun _ _ hq => by cases Option.some.inj hq; exact ⟨h1, f1 h1⟩, ?_⟩
        exact op_field _ _ _ rfl ((hev.old 7 (by kernel_rfl)).trans rfl) (by kernel_rfl) ⟨_, rfl, gb, AP, cP, FPP, AQ, cQ, FQQ, S, f0, f1, f2, f3, f4, f5, fun _ => rfl, f7, f8, f9, f10, f11, f12, f13, f14, f15, f16, f17, f18, f19, f20, f21, f22, f23, f24, f25, f26, f27, f28, f29, f30, f31, f32, f33, f34, f35, f36, f37, o5_2, o8_5⟩
      · obtain rfl := Option.some.inj (show some _ = some o from ho)
        have h6 : D 6 = true := after_on haf 6 rfl
        have h1 : D 1 = true := after_on haf 1 rfl
        refine ⟨fun _ _ hq => by cases Option.some.inj hq; exact ⟨h1, f1 h1⟩, ?_⟩
        exact op_get 24 _ rfl S 9 rfl 1 ((hev.new 6 _ 94 rfl rfl h6).trans (f6 h6)) Try.isAgg24 _ rfl ⟨_, rfl, gb, AP, cP, FPP, AQ, cQ, FQQ, S, f0, f1, f2, f3, f4, f5, f6, fun _ => rfl, f8, f9, f10, f11, f12, f13, f14, f15, f16, f17, f18, f19, f20, f21, f22, f23, f24, f25, f26, f27, f28, f29, f30, f31, f32, f33, f34, f35, f36, f37, o5_2, o8_5⟩
      · obtain rfl := Option.some.inj (show some _ = some o from ho)
        have h5 : D 5 = true := after_on haf 5 rfl
        have h7 : D 7 = true := after_on haf 7 rfl
        have h1 : D 1 = true := after_on haf 1 rfl
        refine ⟨fun _ _ hq => by cases Option.some.inj hq; exact ⟨h1, f1 h1⟩, ?_⟩
        have hx0 := ((hev.new 5 _ 93 rfl rfl h5).trans (f5 h5))
        have hx1 := ((hev.new 7 _ 95 rfl rfl h7).trans (f7 h7))
        have rp := OwnS.rp (S.get 12 rfl) HNU.out
        rw [HA3.out] at rp
        rw [HA3.out] at hx1
        exact op_appPl _ _ rfl S 16 (v := .slice AP 3 cP) (xs := lo.ps) (F := FPP) (by simp only [List.getElem?_cons_succ, List.getElem?_cons_zero, cnd_t (o5_2 h5), cnd_t h5, cnd_f hDi]) hx0 _ _ _ _ rp (by omega) hx1 HNL.out HAP.out (by omega) (fun A c F w S => ⟨_, rfl, gb, AP, cP, FPP, A, c, F, (by rw [show updB D 8 2 = true from o5_2 h5, show updB D 8 5 = true from h5]; exact S), f0, f1, f2, f3, f4, f5, f6, f7, fun _ => rfl, f9, f10, f11, f12, f13, f14, f15, f16, f17, f18, f19, f20, f21, f22, f23, f24, f25, f26, f27, f28, f29, f30, f31, f32, f33, f34, f35, f36, f37, o5_2, fun _ => h5⟩)
      · obtain rfl := Option.some.inj (show some _ = some o from ho)
        have h1 : D 1 = true := after_on haf 1 rfl
        refine ⟨fun _ _ hq => by cases Option.some.inj hq; exact ⟨h1, f1 h1⟩, ?_⟩
        exact op_move (.inl rfl) ((hev.old 14 (by kernel_rfl)).trans rfl) ⟨_, rfl, gb, AP, cP, FPP, AQ, cQ, FQQ, S, f0, f1, f2, f3, f4, f5, f6, f7, f8, fun _ => rfl, f10, f11, f12, f13, f14, f15, f16, f17, f18, f19, f20, f21, f22, f23, f24, f25, f26, f27, f28, f29, f30, f31, f32, f33, f34, f35, f36, f37, o5_2, o8_5⟩
      · obtain rfl := Option.some.inj (show some _ = some o from ho)
        have h8 : D 8 = true := after_on haf 8 rfl
        have h9 : D 9 = true := after_on haf 9 rfl
        have h1 : D 1 = true := after_on haf 1 rfl
        refine ⟨fun _ _ hq => by cases Option.some.inj hq; exact ⟨h1, f1 h1⟩, ?_⟩
        have s16 := S.get 16 (I := ow (.slice AQ 5 cQ) pl FQQ) (by simp only [List.getElem?_cons_succ, List.getElem?_cons_zero, cnd_t (o5_2 (o8_5 h8)), cnd_t (o8_5 h8), cnd_t h8])
        have hx0 := ((hev.new 8 _ 96 rfl rfl h8).trans (f8 h8))
        have hx1 := ((hev.new 9 _ 97 rfl rfl h9).trans (f9 h9))
        refine op_call _ _ _ rfl (enters_of Try.func15 (by kernel_rfl) rfl) #[.slice AQ 5 cQ, .slice A8 5 c8] (by simp [hx0, hx1]) (like_yes AQ A8 5 cQ c8 pl w (OwnS.rp s16 HPL.out) (OwnS.rp (S.get 0 rfl) HPL.out) (by omega)) (fun e w2 hh => ?_)
        obtain ⟨rfl, b⟩ := hh
        exact ⟨_, rfl, ⟨_, rfl, gb, AP, cP, FPP, AQ, cQ, FQQ, S.call b, f0, f1, f2, f3, f4, f5, f6, f7, f8, f9, fun _ => rfl, f11, f12, f13, f14, f15, f16, f17, f18, f19, f20, f21, f22, f23, f24, f25, f26, f27, f28, f29, f30, f31, f32, f33, f34, f35, f36, f37, o5_2, o8_5⟩⟩
      · obtain rfl := Option.some.inj (show some _ = some o from ho)
        have h1 : D 1 = true := after_on haf 1 rfl
        have h10 : D 10 = true := after_on haf 10 rfl
        refine ⟨fun _ _ hq => (nomatch hq), ?_⟩
        exact op_pick _ _ _ rfl ((hev.new 1 _ 89 rfl rfl h1).trans (f1 h1)) (((hev.new 10 _ 98 rfl rfl h10).trans (f10 h10))) ⟨_, rfl, gb, AP, cP, FPP, AQ, cQ, FQQ, S, f0, f1, f2, f3, f4, f5, f6, f7, f8, f9, f10, fun _ => rfl, f12, f13, f14, f15, f16, f17, f18, f19, f20, f21, f22, f23, f24, f25, f26, f27, f28, f29, f30, f31, f32, f33, f34, f35, f36, f37, o5_2, o8_5⟩
      · obtain rfl := Option.some.inj (show some _ = some o from ho)
        have h11 : D 11 = true := after_on haf 11 rfl
        refine ⟨fun _ _ hq => (nomatch hq), ?_⟩
        exact op_move (.inl rfl) ((hev.new 11 _ 99 rfl rfl h11).trans (f11 h11)) ⟨_, rfl, gb, AP, cP, FPP, AQ, cQ, FQQ, S, f0, f1, f2, f3, f4, f5, f6, f7, f8, f9, f10, f11, fun _ => rfl, f13, f14, f15, f16, f17, f18, f19, f20, f21, f22, f23, f24, f25, f26, f27, f28, f29, f30, f31, f32, f33, f34, f35, f36, f37, o5_2, o8_5⟩
      · obtain rfl := Option.some.inj (show some _ = some o from ho)
        have h12 : D 12 = true := after_on haf 12 rfl
        refine ⟨fun _ _ hq => by cases Option.some.inj hq; exact ⟨h12, f12 h12⟩, ?_⟩
        exact op_row 26 _ rfl S 10 rfl ((hev.old 6 (by kernel_rfl)).trans rfl) Try.isAgg26 (by kernel_rfl) ⟨_, rfl, gb, AP, cP, FPP, AQ, cQ, FQQ, S, f0, f1, f2, f3, f4, f5, f6, f7, f8, f9, f10, f11, f12, fun _ => rfl, f14, f15, f16, f17, f18, f19, f20, f21, f22, f23, f24, f25, f26, f27, f28, f29, f30, f31, f32, f33, f34, f35, f36, f37, o5_2, o8_5⟩
      · obtain rfl := Option.some.inj (show some _ = some o from ho)
        have h12 : D 12 = true := after_on haf 12 rfl
        refine ⟨fun _ _ hq => by cases Option.some.inj hq; exact ⟨h12, f12 h12⟩, ?_⟩
        exact op_row 26 _ rfl S 9 rfl ((hev.old 7 (by kernel_rfl)).trans rfl) Try.isAgg26 (by kernel_rfl) ⟨_, rfl, gb, AP, cP, FPP, AQ, cQ, FQQ, S, f0, f1, f2, f3, f4, f5, f6, f7, f8, f9, f10, f11, f12, f13, fun _ => rfl, f15, f16, f17, f18, f19, f20, f21, f22, f23, f24, f25, f26, f27, f28, f29, f30, f31, f32, f33, f34, f35, f36, f37, o5_2, o8_5⟩
      · obtain rfl := Option.some.inj (show some _ = some o from ho)
        have h13 : D 13 = true := after_on haf 13 rfl
        have h14 : D 14 = true := after_on haf 14 rfl
        have h12 : D 12 = true := after_on haf 12 rfl
        refine ⟨fun _ _ hq => by cases Option.some.inj hq; exact ⟨h12, f12 h12⟩, ?_⟩
        have hx0 := ((hev.new 13 _ 101 rfl rfl h13).trans (f13 h13))
        have hx1 := ((hev.new 14 _ 102 rfl rfl h14).trans (f14 h14))
        refine op_call _ _ _ rfl (enters_of Try.func12 (by kernel_rfl) rfl) #[.agg #[.int .i64 lo.lv, .slice A2 3 c2, .int .i64 lo.hi, .int .i64 lo.ri, .int .i64 lo.ow], .agg #[.int .i64 up.lv, .slice A3 2 c3, .int .i64 up.hi, .int .i64 up.ri, .int .i64 up.ow]] (by simp [hx0, hx1]) ((LW.out w (OwnS.rs (S.get 11 rfl) HNL.out) (OwnS.rs (S.get 12 rfl) HNU.out))) (fun e w2 hh => ?_)
        obtain ⟨rfl, b⟩ := hh
        exact ⟨_, rfl, ⟨_, rfl, gb, AP, cP, FPP, AQ, cQ, FQQ, S.call b, f0, f1, f2, f3, f4, f5, f6, f7, f8, f9, f10, f11, f12, f13, f14, fun _ => rfl, f16, f17, f18, f19, f20, f21, f22, f23, f24, f25, f26, f27, f28, f29, f30, f31, f32, f33, f34, f35, f36, f37, o5_2, o8_5⟩⟩
      · obtain rfl := Option.some.inj (show some _ = some o from ho)
        have h12 : D 12 = true := after_on haf 12 rfl
        have h15 : D 15 = true := after_on haf 15 rfl
        refine ⟨fun _ _ hq => (nomatch hq), ?_⟩
        exact op_pick _ _ _ rfl ((hev.new 12 _ 100 rfl rfl h12).trans (f12 h12)) (((hev.new 15 _ 103 rfl rfl h15).trans (f15 h15))) ⟨_, rfl, gb, AP, cP, FPP, AQ, cQ, FQQ, S, f0, f1, f2, f3, f4, f5, f6, f7, f8, f9, f10, f11, f12, f13, f14, f15, fun _ => rfl, f17, f18, f19, f20, f21, f22, f23, f24, f25, f26, f27, f28, f29, f30, f31, f32, f33, f34, f35, f36, f37, o5_2, o8_5⟩
      · obtain rfl := Option.some.inj (show some _ = some o from ho)
        have h16 : D 16 = true := after_on haf 16 rfl
        refine ⟨fun _ _ hq => (nomatch hq), ?_⟩
        exact op_move (.inl rfl) ((hev.new 16 _ 104 rfl rfl h16).trans (f16 h16)) ⟨_, rfl, gb, AP, cP, FPP, AQ, cQ, FQQ, S, f0, f1, f2, f3, f4, f5, f6, f7, f8, f9, f10, f11, f12, f13, f14, f15, f16, fun _ => rfl, f18, f19, f20, f21, f22, f23, f24, f25, f26, f27, f28, f29, f30, f31, f32, f33, f34, f35, f36, f37, o5_2, o8_5⟩
      · obtain rfl := Option.some.inj (show some _ = some o from ho)
        have h17 : D 17 = true := after_on haf 17 rfl
        refine ⟨fun _ _ hq => by cases Option.some.inj hq; exact ⟨h17, f17 h17⟩, ?_⟩
        exact op_field _ _ _ rfl ((hev.old 6 (by kernel_rfl)).trans rfl) (by kernel_rfl) ⟨_, rfl, gb, AP, cP, FPP, AQ, cQ, FQQ, S, f0, f1, f2, f3, f4, f5, f6, f7, f8, f9, f10, f11, f12, f13, f14, f15, f16, f17, fun _ => rfl, f19, f20, f21, f22, f23, f24, f25, f26, f27, f28, f29, f30, f31, f32, f33, f34, f35, f36, f37, o5_2, o8_5⟩
      · obtain rfl := Option.some.inj (show some _ = some o from ho)
        have h18 : D 18 = true := after_on haf 18 rfl
        have h17 : D 17 = true := after_on haf 17 rfl
        refine ⟨fun _ _ hq => by cases Option.some.inj hq; exact ⟨h17, f17 h17⟩, ?_⟩
        exact op_get 2 _ rfl S 10 rfl 3 ((hev.new 18 _ 106 rfl rfl h18).trans (f18 h18)) Try.isAgg2 _ rfl ⟨_, rfl, gb, AP, cP, FPP, AQ, cQ, FQQ, S, f0, f1, f2, f3, f4, f5, f6, f7, f8, f9, f10, f11, f12, f13, f14, f15, f16, f17, f18, fun _ => rfl, f20, f21, f22, f23, f24, f25, f26, f27, f28, f29, f30, f31, f32, f33, f34, f35, f36, f37, o5_2, o8_5⟩
      · obtain rfl := Option.some.inj (show some _ = some o from ho)
        have h17 : D 17 = true := after_on haf 17 rfl
        refine ⟨fun _ _ hq => by cases Option.some.inj hq; exact ⟨h17, f17 h17⟩, ?_⟩
        exact op_move (.inl rfl) ((hev.old 5 (by kernel_rfl)).trans rfl) ⟨_, rfl, gb, AP, cP, FPP, AQ, cQ, FQQ, S, f0, f1, f2, f3, f4, f5, f6, f7, f8, f9, f10, f11, f12, f13, f14, f15, f16, f17, f18, f19, fun _ => rfl, f21, f22, f23, f24, f25, f26, f27, f28, f29, f30, f31, f32, f33, f34, f35, f36, f37, o5_2, o8_5⟩
      · obtain rfl := Option.some.inj (show some _ = some o from ho)
        have h19 : D 19 = true := after_on haf 19 rfl
        have h20 : D 20 = true := after_on haf 20 rfl
        have h17 : D 17 = true := after_on haf 17 rfl
        refine ⟨fun _ _ hq => by cases Option.some.inj hq; exact ⟨h17, f17 h17⟩, ?_⟩
        exact op_eqlT _ _ rfl (((hev.new 19 _ 107 rfl rfl h19).trans (f19 h19)).trans (by rw [HE1.out])) ((hev.new 20 _ 108 rfl rfl h20).trans (f20 h20)) ⟨_, rfl, gb, AP, cP, FPP, AQ, cQ, FQQ, S, f0, f1, f2, f3, f4, f5, f6, f7, f8, f9, f10, f11, f12, f13, f14, f15, f16, f17, f18, f19, f20, fun _ => rfl, f22, f23, f24, f25, f26, f27, f28, f29, f30, f31, f32, f33, f34, f35, f36, f37, o5_2, o8_5⟩
      · obtain rfl := Option.some.inj (show some _ = some o from ho)
        have h17 : D 17 = true := after_on haf 17 rfl
        have h21 : D 21 = true := after_on haf 21 rfl
        refine ⟨fun _ _ hq => (nomatch hq), ?_⟩
        exact op_pick _ _ _ rfl ((hev.new 17 _ 105 rfl rfl h17).trans (f17 h17)) (((hev.new 21 _ 109 rfl rfl h21).trans (f21 h21))) ⟨_, rfl, gb, AP, cP, FPP, AQ, cQ, FQQ, S, f0, f1, f2, f3, f4, f5, f6, f7, f8, f9, f10, f11, f12, f13, f14, f15, f16, f17, f18, f19, f20, f21, fun _ => rfl, f23, f24, f25, f26, f27, f28, f29, f30, f31, f32, f33, f34, f35, f36, f37, o5_2, o8_5⟩
      · obtain rfl := Option.some.inj (show some _ = some o from ho)
        have h22 : D 22 = true := after_on haf 22 rfl
        refine ⟨fun _ _ hq => (nomatch hq), ?_⟩
        exact op_move (.inl rfl) ((hev.new 22 _ 110 rfl rfl h22).trans (f22 h22)) ⟨_, rfl, gb, AP, cP, FPP, AQ, cQ, FQQ, S, f0, f1, f2, f3, f4, f5, f6, f7, f8, f9, f10, f11, f12, f13, f14, f15, f16, f17, f18, f19, f20, f21, f22, fun _ => rfl, f24, f25, f26, f27, f28, f29, f30, f31, f32, f33, f34, f35, f36, f37, o5_2, o8_5⟩
      · obtain rfl := Option.some.inj (show some _ = some o from ho)
        have h23 : D 23 = true := after_on haf 23 rfl
        refine ⟨fun _ _ hq => by cases Option.some.inj hq; exact ⟨h23, f23 h23⟩, ?_⟩
        exact op_field _ _ _ rfl ((hev.old 6 (by kernel_rfl)).trans rfl) (by kernel_rfl) ⟨_, rfl, gb, AP, cP, FPP, AQ, cQ, FQQ, S, f0, f1, f2, f3, f4, f5, f6, f7, f8, f9, f10, f11, f12, f13, f14, f15, f16, f17, f18, f19, f20, f21, f22, f23, fun _ => rfl, f25, f26, f27, f28, f29, f30, f31, f32, f33, f34, f35, f36, f37, o5_2, o8_5⟩
      · obtain rfl := Option.some.inj (show some _ = some o from ho)
        have h24 : D 24 = true := after_on haf 24 rfl
        have h23 : D 23 = true := after_on haf 23 rfl
        refine ⟨fun _ _ hq => by cases Option.some.inj hq; exact ⟨h23, f23 h23⟩, ?_⟩
        exact op_get 2 _ rfl S 10 rfl 4 ((hev.new 24 _ 112 rfl rfl h24).trans (f24 h24)) Try.isAgg2 _ rfl ⟨_, rfl, gb, AP, cP, FPP, AQ, cQ, FQQ, S, f0, f1, f2, f3, f4, f5, f6, f7, f8, f9, f10, f11, f12, f13, f14, f15, f16, f17, f18, f19, f20, f21, f22, f23, f24, fun _ => rfl, f26, f27, f28, f29, f30, f31, f32, f33, f34, f35, f36, f37, o5_2, o8_5⟩
      · obtain rfl := Option.some.inj (show some _ = some o from ho)
        have h23 : D 23 = true := after_on haf 23 rfl
        refine ⟨fun _ _ hq => by cases Option.some.inj hq; exact ⟨h23, f23 h23⟩, ?_⟩
        exact op_field _ _ _ rfl ((hev.old 3 (by kernel_rfl)).trans rfl) (by kernel_rfl) ⟨_, rfl, gb, AP, cP, FPP, AQ, cQ, FQQ, S, f0, f1, f2, f3, f4, f5, f6, f7, f8, f9, f10, f11, f12, f13, f14, f15, f16, f17, f18, f19, f20, f21, f22, f23, f24, f25, fun _ => rfl, f27, f28, f29, f30, f31, f32, f33, f34, f35, f36, f37, o5_2, o8_5⟩
      · obtain rfl := Option.some.inj (show some _ = some o from ho)
        have h26 : D 26 = true := after_on haf 26 rfl
        have h23 : D 23 = true := after_on haf 23 rfl
        refine ⟨fun _ _ hq => by cases Option.some.inj hq; exact ⟨h23, f23 h23⟩, ?_⟩
        exact op_get 2 _ rfl S 14 rfl 4 ((hev.new 26 _ 114 rfl rfl h26).trans (f26 h26)) Try.isAgg2 _ rfl ⟨_, rfl, gb, AP, cP, FPP, AQ, cQ, FQQ, S, f0, f1, f2, f3, f4, f5, f6, f7, f8, f9, f10, f11, f12, f13, f14, f15, f16, f17, f18, f19, f20, f21, f22, f23, f24, f25, f26, fun _ => rfl, f28, f29, f30, f31, f32, f33, f34, f35, f36, f37, o5_2, o8_5⟩
      · obtain rfl := Option.some.inj (show some _ = some o from ho)
        have h25 : D 25 = true := after_on haf 25 rfl
        have h27 : D 27 = true := after_on haf 27 rfl
        have h23 : D 23 = true := after_on haf 23 rfl
        refine ⟨fun _ _ hq => by cases Option.some.inj hq; exact ⟨h23, f23 h23⟩, ?_⟩
        exact op_eqlT _ _ rfl (((hev.new 25 _ 113 rfl rfl h25).trans (f25 h25)).trans (by rw [HE2.out])) ((hev.new 27 _ 115 rfl rfl h27).trans (f27 h27)) ⟨_, rfl, gb, AP, cP, FPP, AQ, cQ, FQQ, S, f0, f1, f2, f3, f4, f5, f6, f7, f8, f9, f10, f11, f12, f13, f14, f15, f16, f17, f18, f19, f20, f21, f22, f23, f24, f25, f26, f27, fun _ => rfl, f29, f30, f31, f32, f33, f34, f35, f36, f37, o5_2, o8_5⟩
      · obtain rfl := Option.some.inj (show some _ = some o from ho)
        have h23 : D 23 = true := after_on haf 23 rfl
        have h28 : D 28 = true := after_on haf 28 rfl
        refine ⟨fun _ _ hq => (nomatch hq), ?_⟩
        exact op_pick _ _ _ rfl ((hev.new 23 _ 111 rfl rfl h23).trans (f23 h23)) (((hev.new 28 _ 116 rfl rfl h28).trans (f28 h28))) ⟨_, rfl, gb, AP, cP, FPP, AQ, cQ, FQQ, S, f0, f1, f2, f3, f4, f5, f6, f7, f8, f9, f10, f11, f12, f13, f14, f15, f16, f17, f18, f19, f20, f21, f22, f23, f24, f25, f26, f27, f28, fun _ => rfl, f30, f31, f32, f33, f34, f35, f36, f37, o5_2, o8_5⟩
      · obtain rfl := Option.some.inj (show some _ = some o from ho)
        have h29 : D 29 = true := after_on haf 29 rfl
        refine ⟨fun _ _ hq => (nomatch hq), ?_⟩
        exact op_move (.inl rfl) ((hev.new 29 _ 117 rfl rfl h29).trans (f29 h29)) ⟨_, rfl, gb, AP, cP, FPP, AQ, cQ, FQQ, S, f0, f1, f2, f3, f4, f5, f6, f7, f8, f9, f10, f11, f12, f13, f14, f15, f16, f17, f18, f19, f20, f21, f22, f23, f24, f25, f26, f27, f28, f29, fun _ => rfl, f31, f32, f33, f34, f35, f36, f37, o5_2, o8_5⟩
      · obtain rfl := Option.some.inj (show some _ = some o from ho)
        have h30 : D 30 = true := after_on haf 30 rfl
        refine ⟨fun _ _ hq => by cases Option.some.inj hq; exact ⟨h30, f30 h30⟩, ?_⟩
        exact op_field _ _ _ rfl ((hev.old 7 (by kernel_rfl)).trans rfl) (by kernel_rfl) ⟨_, rfl, gb, AP, cP, FPP, AQ, cQ, FQQ, S, f0, f1, f2, f3, f4, f5, f6, f7, f8, f9, f10, f11, f12, f13, f14, f15, f16, f17, f18, f19, f20, f21, f22, f23, f24, f25, f26, f27, f28, f29, f30, fun _ => rfl, f32, f33, f34, f35, f36, f37, o5_2, o8_5⟩
      · obtain rfl := Option.some.inj (show some _ = some o from ho)
        have h31 : D 31 = true := after_on haf 31 rfl
        have h30 : D 30 = true := after_on haf 30 rfl
        refine ⟨fun _ _ hq => by cases Option.some.inj hq; exact ⟨h30, f30 h30⟩, ?_⟩
        exact op_get 2 _ rfl S 9 rfl 2 ((hev.new 31 _ 119 rfl rfl h31).trans (f31 h31)) Try.isAgg2 _ rfl ⟨_, rfl, gb, AP, cP, FPP, AQ, cQ, FQQ, S, f0, f1, f2, f3, f4, f5, f6, f7, f8, f9, f10, f11, f12, f13, f14, f15, f16, f17, f18, f19, f20, f21, f22, f23, f24, f25, f26, f27, f28, f29, f30, f31, fun _ => rfl, f33, f34, f35, f36, f37, o5_2, o8_5⟩
      · obtain rfl := Option.some.inj (show some _ = some o from ho)
        have h30 : D 30 = true := after_on haf 30 rfl
        refine ⟨fun _ _ hq => by cases Option.some.inj hq; exact ⟨h30, f30 h30⟩, ?_⟩
        exact op_field _ _ _ rfl ((hev.old 3 (by kernel_rfl)).trans rfl) (by kernel_rfl) ⟨_, rfl, gb, AP, cP, FPP, AQ, cQ, FQQ, S, f0, f1, f2, f3, f4, f5, f6, f7, f8, f9, f10, f11, f12, f13, f14, f15, f16, f17, f18, f19, f20, f21, f22, f23, f24, f25, f26, f27, f28, f29, f30, f31, f32, fun _ => rfl, f34, f35, f36, f37, o5_2, o8_5⟩
      · obtain rfl := Option.some.inj (show some _ = some o from ho)
        have h33 : D 33 = true := after_on haf 33 rfl
        have h30 : D 30 = true := after_on haf 30 rfl
        refine ⟨fun _ _ hq => by cases Option.some.inj hq; exact ⟨h30, f30 h30⟩, ?_⟩
        exact op_get 2 _ rfl S 14 rfl 2 ((hev.new 33 _ 121 rfl rfl h33).trans (f33 h33)) Try.isAgg2 _ rfl ⟨_, rfl, gb, AP, cP, FPP, AQ, cQ, FQQ, S, f0, f1, f2, f3, f4, f5, f6, f7, f8, f9, f10, f11, f12, f13, f14, f15, f16, f17, f18, f19, f20, f21, f22, f23, f24, f25, f26, f27, f28, f29, f30, f31, f32, f33, fun _ => rfl, f35, f36, f37, o5_2, o8_5⟩
      · obtain rfl := Option.some.inj (show some _ = some o from ho)
        have h32 : D 32 = true := after_on haf 32 rfl
        have h34 : D 34 = true := after_on haf 34 rfl
        have h30 : D 30 = true := after_on haf 30 rfl
        refine ⟨fun _ _ hq => by cases Option.some.inj hq; exact ⟨h30, f30 h30⟩, ?_⟩
        exact op_eqlT _ _ rfl (((hev.new 32 _ 120 rfl rfl h32).trans (f32 h32)).trans (by rw [HE3.out])) ((hev.new 34 _ 122 rfl rfl h34).trans (f34 h34)) ⟨_, rfl, gb, AP, cP, FPP, AQ, cQ, FQQ, S, f0, f1, f2, f3, f4, f5, f6, f7, f8, f9, f10, f11, f12, f13, f14, f15, f16, f17, f18, f19, f20, f21, f22, f23, f24, f25, f26, f27, f28, f29, f30, f31, f32, f33, f34, fun _ => rfl, f36, f37, o5_2, o8_5⟩
      · obtain rfl := Option.some.inj (show some _ = some o from ho)
        have h30 : D 30 = true := after_on haf 30 rfl
        have h35 : D 35 = true := after_on haf 35 rfl
        refine ⟨fun _ _ hq => (nomatch hq), ?_⟩
        exact op_pick _ _ _ rfl ((hev.new 30 _ 118 rfl rfl h30).trans (f30 h30)) (((hev.new 35 _ 123 rfl rfl h35).trans (f35 h35))) ⟨_, rfl, gb, AP, cP, FPP, AQ, cQ, FQQ, S, f0, f1, f2, f3, f4, f5, f6, f7, f8, f9, f10, f11, f12, f13, f14, f15, f16, f17, f18, f19, f20, f21, f22, f23, f24, f25, f26, f27, f28, f29, f30, f31, f32, f33, f34, f35, fun _ => rfl, f37, o5_2, o8_5⟩
      · obtain rfl := Option.some.inj (show some _ = some o from ho)
        have h36 : D 36 = true := after_on haf 36 rfl
        refine ⟨fun _ _ hq => (nomatch hq), ?_⟩
        exact op_move (.inr rfl) ((hev.new 36 _ 124 rfl rfl h36).trans (f36 h36)) ⟨_, rfl, gb, AP, cP, FPP, AQ, cQ, FQQ, S, f0, f1, f2, f3, f4, f5, f6, f7, f8, f9, f10, f11, f12, f13, f14, f15, f16, f17, f18, f19, f20, f21, f22, f23, f24, f25, f26, f27, f28, f29, f30, f31, f32, f33, f34, f35, f36, fun _ => rfl, o5_2, o8_5⟩
      · exact absurd ho (by simp)
    intro V w hI
    obtain ⟨gb, AP, cP, FPP, AQ, cQ, FQQ, S, f0, f1, f2, f3, f4, f5, f6, f7, f8, f9, f10, f11, f12, f13, f14, f15, f16, f17, f18, f19, f20, f21, f22, f23, f24, f25, f26, f27, f28, f29, f30, f31, f32, f33, f34, f35, f36, f37, o5_2, o8_5⟩ := hI
    replace f0 := f0 rfl
    replace f1 := f1 rfl
    replace f2 := f2 rfl
    replace f3 := f3 rfl
    replace f4 := f4 rfl
    replace f5 := f5 rfl
    replace f6 := f6 rfl
    replace f7 := f7 rfl
    replace f8 := f8 rfl
    replace f9 := f9 rfl
    replace f10 := f10 rfl
    replace f11 := f11 rfl
    replace f12 := f12 rfl
    replace f13 := f13 rfl
    replace f14 := f14 rfl
    replace f15 := f15 rfl
    replace f16 := f16 rfl
    replace f17 := f17 rfl
    replace f18 := f18 rfl
    replace f19 := f19 rfl
    replace f20 := f20 rfl
    replace f21 := f21 rfl
    replace f22 := f22 rfl
    replace f23 := f23 rfl
    replace f24 := f24 rfl
    replace f25 := f25 rfl
    replace f26 := f26 rfl
    replace f27 := f27 rfl
    replace f28 := f28 rfl
    replace f29 := f29 rfl
    replace f30 := f30 rfl
    replace f31 := f31 rfl
    replace f32 := f32 rfl
    replace f33 := f33 rfl
    replace f34 := f34 rfl
    replace f35 := f35 rfl
    replace f36 := f36 rfl
    replace f37 := f37 rfl
    replace S : Hid (Sep noX w0 [ow (.slice A8 5 c8) pl F8, bx g13 #[.int .i64 z.lv, .slice A7 n7 c7, .int .i64 z.hi, .int .i64 z.ri, .int .i64 z.ow] 26, bx g12 #[.int .i64 y.lv, .slice A6 n6 c6, .int .i64 y.hi, .int .i64 y.ri, .int .i64 y.ow] 26, ow (.slice A6 n6 c6) y.ps F6, ow (.slice A7 n7 c7) z.ps F7, bx g10 #[.int .i64 up.lv, .slice A5 2 c5, .int .i64 up.hi, .int .i64 up.ri, .int .i64 up.ow] 26, bx g9 #[.int .i64 lo.lv, .slice A4 3 c4, .int .i64 lo.hi, .int .i64 lo.ri, .int .i64 lo.ow] 26, ow (.slice A4 3 c4) lo.ps F4, ow (.slice A5 2 c5) up.ps F5, bx g7 #[.int .i64 up.lv, .slice A3 2 c3, .int .i64 up.hi, .int .i64 up.ri, .int .i64 up.ow] 26, bx g6 #[.int .i64 lo.lv, .slice A2 3 c2, .int .i64 lo.hi, .int .i64 lo.ri, .int .i64 lo.ow] 26, ow (.slice A2 3 d2) lo.ps F2, ow (.slice A3 2 d3) up.ps F3, bx g4 #[.int .i64 k, .int .i64 v] 28, bx g3 #[.int .i64 x.lv, .slice A1 n1 c1, .int .i64 x.hi, .int .i64 x.ri, .int .i64 x.ow] 26, ow (.slice A1 n1 c1) x.ps F1, ow (.slice AQ 5 cQ) pl FQQ] w) := Lib.hid S
    simp only [putF, Act.put, List.setIfInBounds_toArray, List.set_cons_succ, List.set_cons_zero, f0, f1, f2, f3, f4, f5, f6, f7, f8, f9, f10, f11, f12, f13, f14, f15, f16, f17, f18, f19, f20, f21, f22, f23, f24, f25, f26, f27, f28, f29, f30, f31, f32, f33, f34, f35, f36, f37]
    clear f0 f1 f2 f3 f4 f5 f6 f7 f8 f9 f10 f11 f12 f13 f14 f15 f16 f17 f18 f19 f20 f21 f22 f23 f24 f25 f26 f27 f28 f29 f30 f31 f32 f33 f34 f35 f36 f37 o5_2 o8_5
    go_wp2_with fail
    go_ret
    exact ⟨rfl, S.out.below⟩
end Go.Proofs.Ytokkpbjldchjpaa
