/- The walk of the model's UpStep where it raises. (Made by genY16.py.) -/
import Derived.Test.YtjdbehijghjfbaaGreatQ37
namespace Go.Proofs.YtjdbehijghjfbaaGreat
open Go.RowKit

theorem sm_snoc {xs : List Nd} (h : Small.sm xs) (hl : xs.length < 1048576) {x : Nd} (hx : x.ps.length ≤ 1048576) : Small.sm (xs ++ [x]) := by
  refine ⟨by simp; omega, fun i hi => ?_⟩
  simp only [List.length_append, List.length_cons, List.length_nil] at hi
  by_cases hik : i = xs.length
  · subst hik
    have e : ndAt (xs ++ [x]) xs.length = x := by unfold ndAt; simp
    rw [e]; exact hx
  · have e : ndAt (xs ++ [x]) i = ndAt xs i := by unfold ndAt; simp only [List.getD_eq_getElem?_getD]; rw [List.getElem?_append_left (by omega)]
    rw [e]; exact h.2 i (by omega)
theorem raiseX_sm {xs : List Nd} (h : Small.sm xs) (hd : Hd) : Small.sm (raiseX xs hd) := by
  unfold raiseX
  by_cases h4 : 40 ≤ xs.length
  · rw [if_pos h4]; exact h
  · rw [if_neg h4]; exact sm_snoc h (by omega) (by unfold rootN; simp)

set_option maxRecDepth 100000 in
set_option maxHeartbeats 16000000 in
theorem up_raise (r : Int) (xs : List Nd) (A : Option Addr) (n c : Nat) (task : Int) (hd : Hd) (A' : Option Addr) (n' c' : Nat) (w0 : World) (hR : RS w0 w0.heap.size A n xs) (hs : Small.sm xs) (hH : RS w0 w0.heap.size A' n' hd.st) (hn' : n' ≤ 1048576) (hk : (ok9 ⟨r, xs⟩ task hd 9 11 && (decide (hd.cc = 2) && !decide (hd.want = 0))) = true) (hp : hd.pos = 10) :
    Calls Tryz.prog 125 #[.agg #[.int .i64 r, .slice A n c], .int .i64 task, hdV hd A' n' c'] w0 (GivesS w0 (upS ⟨r, xs⟩ task hd)) := by
  have hE : upS ⟨r, xs⟩ task hd = doneS ⟨r, raiseX xs hd⟩ (raiseH xs hd) := by rw [← raiseS_eq]; unfold upS; rw [hk]; simp [hp]
  obtain ⟨hk9, hk2, hk3⟩ : ok9 ⟨r, xs⟩ task hd 9 11 = true ∧ hd.cc = 2 ∧ hd.want ≠ 0 := by simpa [and_assoc] using hk
  have hT := (ok9_of hk9).1
  have hlx : xs.length = n := hR.1
  have g1 : (hd.cc != 2) = false := by simp [hk2]
  have g2 : (hd.want == 0) = false := by simp [hk3]
  have hsm := raiseX_sm hs hd
  have RA := Lib.hid (fun (A3 : Option Addr) c3 F (A4 : Option Addr) n4 c4 w hO hF => raise_any r xs A3 xs.length c3 F hd A4 n4 c4 w hO hF)
  unfold GivesRaise at RA
  generalize raiseX xs hd = ys at *
  generalize raiseH xs hd = h2 at *
  have DY := Lib.hid (fun (hq : (treeOk r ys && handOk h2) = true) (A5 : Option Addr) (c5 : Nat) (A6 : Option Addr) (n6 c6 : Nat) w hR (hS : RS w w.heap.size A6 n6 h2.st) => done9_yes r ys A5 ys.length c5 h2 A6 n6 c6 w hR hsm hS (by simp only [Bool.and_eq_true] at hq; exact hq.1) (by simp only [Bool.and_eq_true] at hq; exact hq.2))
  have DNO := Lib.hid (fun (hq : ¬ (treeOk r ys && handOk h2) = true) (A5 : Option Addr) (c5 : Nat) (A6 : Option Addr) (n6 c6 : Nat) w hR (hS : RS w w.heap.size A6 n6 h2.st) => done9_no r ys A5 ys.length c5 h2 A6 n6 c6 w hR hsm hS (by simpa using hq))
  have OK := Lib.hid (fun w hR hH => ok9_any r xs A n c task hd A' n' c' 9 11 w hR hs hH hn')
  have CT := Lib.hid (fun w hR => copyT_any r xs A n c w hR hs)
  have CH := Lib.hid (fun w hR => copyH_any hd A' n' c' w hR hn')
  have NN := Lib.hid none9_any
  have RK := Lib.hid rest_any
  have HR := Lib.hid hR
  have HH := Lib.hid hH
  have HE := Lib.hid hE
  rw [hk9] at OK
  have g3 : (hd.pos == 9) = false := by simp [hp]
  have g4 : (hd.pos == 10) = true := by simp [hp]
  clear hE hk hp hR hH hs hn' hk9 hk2 hk3 hT hlx hsm
  have S := Lib.hid (Sep.start noX w0)
  have tokg : True := trivial
  have tokx : True := trivial
  have tok0 : True := trivial
  have tok1 : True := trivial
  have tok2 : True := trivial
  have tok3 : True := trivial
  unfold hdV at *
  go_enter Tryz.func125, Tryz.ntmps125
  go_wp2_with (first
      | go_skip
      | (have _t := tok0; clear _t; refine wpList_op rfl (op_bx 26 _ rfl S.out _ rfl ?_); clear S tok0; intro gt w S; replace S := Lib.hid S)
      | (have _t := tok1; clear _t; refine wpList_op rfl (op_bx 96 _ rfl S.out _ rfl ?_); clear S tok1; intro gh w S; replace S := Lib.hid S)
      | (have _t := tok2; clear _t; refine wpList_op rfl (op_nx 26 rfl S.out _ Tryz.zeroValue26 ?_); clear S tok2; intro rt w S; replace S := Lib.hid S)
      | (have _t := tok3; clear _t; refine wpList_op rfl (op_nx 96 rfl S.out _ Tryz.zeroValue96 ?_); clear S tok3; intro rh w S; replace S := Lib.hid S)
      | (refine wpList_op rfl (op_row 26 _ rfl S.out 3 rfl rfl Tryz.isAgg26 (by kernel_rfl) ?_))
      | (refine wpList_op rfl (op_row 96 _ rfl S.out 2 rfl rfl Tryz.isAgg96 (by kernel_rfl) ?_)))
  refine (OK.out _ (S.out.rs HR.out) (S.out.rs HH.out)).mono ?_
  rintro e w ⟨rfl, b⟩
  replace S := Lib.hid (S.out.call b)
  clear b
  go_wp2_with (first
      | go_skip
      | (refine wpList_op rfl (op_get 2 _ rfl S.out 2 rfl _ rfl Tryz.isAgg2 _ rfl ?_))
      | (refine wpList_op rfl (op_row 26 _ rfl S.out 3 rfl rfl Tryz.isAgg26 (by kernel_rfl) ?_)))
  refine (CT.out _ (S.out.rs HR.out)).mono ?_
  rintro e w ⟨v, F, rfl, o, f, b⟩
  obtain ⟨A3, c3, rfl, _, _⟩ := o.form
  replace S := Lib.hid (S.out.own b o f)
  clear o f b
  go_wp2_with (first
      | go_skip
      | (have _t := tokg; clear _t; refine wpList_op rfl (op_nx 26 rfl S.out _ Tryz.zeroValue26 ?_); clear S tokg; intro go w S; replace S := Lib.hid S)
      | (refine wpList_op rfl (op_putR_0 26 _ _ rfl S rfl _ rfl rfl (by kernel_rfl) rfl ?_); clear S; intro w S)
      | (refine wpList_op rfl (op_row 96 _ rfl S.out 4 rfl rfl Tryz.isAgg96 (by kernel_rfl) ?_)))
  refine (CH.out _ (S.out.rs HH.out)).mono ?_
  rintro e w ⟨A4, c4, G, rfl, o, f, b⟩
  replace S := Lib.hid (S.out.own b o f)
  clear o f b
  unfold hdV
  go_wp2_with (first
      | go_skip
      | (refine wpList_op rfl (op_putR_5 96 _ _ rfl S rfl _ rfl rfl (by kernel_rfl) rfl ?_); clear S; intro w S)
      | (refine wpList_op rfl (op_get 2 _ rfl S.out 5 rfl _ rfl Tryz.isAgg2 _ rfl ?_))
      | (refine wpList_op rfl (op_row 26 _ rfl S.out 1 rfl rfl Tryz.isAgg26 (by kernel_rfl) ?_))
      | (refine wpList_op rfl (op_row 96 _ rfl S.out 5 rfl rfl Tryz.isAgg96 (by kernel_rfl) ?_)))
  refine (RA.out A3 c3 F A4 hd.st.length c4 _ (S.out.get 2 rfl) (S.out.lt 2 rfl)).mono ?_
  rintro e w ⟨A5, c5, A6, n6, c6, rfl, tu, hst⟩
  obtain ⟨G2, S2⟩ := S.out.turnedInV 2 rfl tu
  replace S : Hid (Sep noX w0 [ow (.slice A4 hd.st.length c4) hd.st G, bx go #[.int .i64 r, .slice A3 xs.length c3] 26, ow (.slice A5 ys.length c5) ys G2, bx rh #[.int .i64 0, .int .i64 0, .int .i64 0, .int .i64 0, .int .i64 0, .int .i64 0, .int .i64 0, .int .i64 0, .int .i64 0, .int .i64 0, .int .i64 0, .slice none 0 0, .int .i64 0, .int .i64 0, .int .i64 0, .int .i64 0] 96, bx rt #[.int .i64 0, .slice none 0 0] 26, bx gh #[.int .i64 hd.pos, .int .i64 hd.cc, .int .i64 hd.ck, .int .i64 hd.cv, .int .i64 hd.cur, .int .i64 hd.want, .int .i64 hd.key, .int .i64 hd.kid, .int .i64 hd.old, .int .i64 hd.next, .int .i64 hd.new, .slice A4 hd.st.length c4, .int .i64 hd.thn, .int .i64 hd.beg, .int .i64 hd.rep, .int .i64 hd.out] 96, bx gt #[.int .i64 r, .slice A n c] 26] w) := Lib.hid S2
  clear S2 tu
  rcases hst with ⟨h6, h7, h8, hst⟩ | ⟨h6, h7, h8, hst⟩
  · have h6 := h6.symm
    have h8 := h8.symm
    subst h6 h7 h8
    have HST := Lib.hid hst
    clear hst
    go_wp2_with (first
        | go_skip
        | (refine wpList_op rfl (op_putR_1 26 _ _ rfl S rfl _ rfl rfl (by kernel_rfl) rfl ?_); clear S; intro w S)
        | (refine wpList_op rfl (op_putR_5 96 _ _ rfl S rfl _ rfl rfl (by kernel_rfl) rfl ?_); clear S; intro w S)
        | (refine wpList_op rfl (op_row 26 _ rfl S.out 1 rfl rfl Tryz.isAgg26 (by kernel_rfl) ?_))
        | (refine wpList_op rfl (op_row 96 _ rfl S.out 5 rfl rfl Tryz.isAgg96 (by kernel_rfl) ?_)))
    by_cases hq : (treeOk r ys && handOk h2) = true
    · have hd2 := (DY.out hq A5 c5 A4 hd.st.length c4 w (OwnS.rs (S.out.get 2 rfl) rfl) (by rw [HST.out]; exact OwnS.rs (S.out.get 0 rfl) rfl))
      unfold hdV at hd2
      refine hd2.mono ?_
      rintro e w ⟨rfl, b⟩
      replace S := Lib.hid (S.out.call b)
      have HQ := Lib.hid hq
      clear b hd2 hq
      go_wp2_with (first
          | go_skip
          | (refine wpList_op rfl (op_putR_4 26 _ _ rfl S rfl _ rfl rfl (by kernel_rfl) rfl ?_); clear S; intro w S)
          | (refine wpList_op rfl (op_putR_3 96 _ _ rfl S rfl _ rfl rfl (by kernel_rfl) rfl ?_); clear S; intro w S))
      exact bodyPost_ret (results_ccs rfl _ S.out 4 3 rfl rfl rfl rfl Tryz.isAgg26 Tryz.isAgg96 (by kernel_rfl) (by kernel_rfl)) rfl (by rw [HE.out, done_yes (t := ⟨r, ys⟩) (by have := HQ.out; simp only [Bool.and_eq_true] at this; exact this.1) (by have := HQ.out; simp only [Bool.and_eq_true] at this; exact this.2)]; exact S.out.gives 2 0 (by omega) (s := ⟨⟨r, ys⟩, h2, true⟩) rfl (by rw [HST.out]; rfl) rfl (by rw [HST.out]))
    · have hd2 := (DNO.out hq A5 c5 A4 hd.st.length c4 w (OwnS.rs (S.out.get 2 rfl) rfl) (by rw [HST.out]; exact OwnS.rs (S.out.get 0 rfl) rfl))
      unfold hdV at hd2
      refine hd2.mono ?_
      rintro e w ⟨rfl, b⟩
      replace S := Lib.hid (S.out.call b)
      have HQ := Lib.hid hq
      clear b hd2 hq
      go_wp2_with (first
          | go_skip
          | (refine wpList_op rfl (op_putR_4 26 _ _ rfl S rfl _ rfl rfl (by kernel_rfl) rfl ?_); clear S; intro w S)
          | (refine wpList_op rfl (op_putR_3 96 _ _ rfl S rfl _ rfl rfl (by kernel_rfl) rfl ?_); clear S; intro w S))
      exact bodyPost_ret (results_ccs rfl _ S.out 4 3 rfl rfl rfl rfl Tryz.isAgg26 Tryz.isAgg96 (by kernel_rfl) (by kernel_rfl)) rfl (by rw [HE.out, doneS_no (t := ⟨r, ys⟩) HQ.out]; exact none_S S.out.below)
  · subst h6 h7 h8
    have HST := Lib.hid hst
    clear hst
    go_wp2_with (first
        | go_skip
        | (refine wpList_op rfl (op_putR_1 26 _ _ rfl S rfl _ rfl rfl (by kernel_rfl) rfl ?_); clear S; intro w S)
        | (refine wpList_op rfl (op_putR_5 96 _ _ rfl S rfl _ rfl rfl (by kernel_rfl) rfl ?_); clear S; intro w S)
        | (refine wpList_op rfl (op_row 26 _ rfl S.out 1 rfl rfl Tryz.isAgg26 (by kernel_rfl) ?_))
        | (refine wpList_op rfl (op_row 96 _ rfl S.out 5 rfl rfl Tryz.isAgg96 (by kernel_rfl) ?_)))
    by_cases hq : (treeOk r ys && handOk h2) = true
    · have hd2 := (DY.out hq A5 c5 none 0 0 w (OwnS.rs (S.out.get 2 rfl) rfl) (by rw [HST.out]; exact RS.nil _ _ _))
      unfold hdV at hd2
      refine hd2.mono ?_
      rintro e w ⟨rfl, b⟩
      replace S := Lib.hid (S.out.call b)
      have HQ := Lib.hid hq
      clear b hd2 hq
      go_wp2_with (first
          | go_skip
          | (refine wpList_op rfl (op_putR_4 26 _ _ rfl S rfl _ rfl rfl (by kernel_rfl) rfl ?_); clear S; intro w S)
          | (refine wpList_op rfl (op_putR_3 96 _ _ rfl S rfl _ rfl rfl (by kernel_rfl) rfl ?_); clear S; intro w S))
      exact bodyPost_ret (results_ccs rfl _ S.out 4 3 rfl rfl rfl rfl Tryz.isAgg26 Tryz.isAgg96 (by kernel_rfl) (by kernel_rfl)) rfl (by rw [HE.out, done_yes (t := ⟨r, ys⟩) (by have := HQ.out; simp only [Bool.and_eq_true] at this; exact this.1) (by have := HQ.out; simp only [Bool.and_eq_true] at this; exact this.2)]; exact S.out.nilI.gives 3 0 (by omega) (s := ⟨⟨r, ys⟩, h2, true⟩) rfl (by rw [HST.out]; rfl) rfl (by rw [HST.out]; rfl))
    · have hd2 := (DNO.out hq A5 c5 none 0 0 w (OwnS.rs (S.out.get 2 rfl) rfl) (by rw [HST.out]; exact RS.nil _ _ _))
      unfold hdV at hd2
      refine hd2.mono ?_
      rintro e w ⟨rfl, b⟩
      replace S := Lib.hid (S.out.call b)
      have HQ := Lib.hid hq
      clear b hd2 hq
      go_wp2_with (first
          | go_skip
          | (refine wpList_op rfl (op_putR_4 26 _ _ rfl S rfl _ rfl rfl (by kernel_rfl) rfl ?_); clear S; intro w S)
          | (refine wpList_op rfl (op_putR_3 96 _ _ rfl S rfl _ rfl rfl (by kernel_rfl) rfl ?_); clear S; intro w S))
      exact bodyPost_ret (results_ccs rfl _ S.out 4 3 rfl rfl rfl rfl Tryz.isAgg26 Tryz.isAgg96 (by kernel_rfl) (by kernel_rfl)) rfl (by rw [HE.out, doneS_no (t := ⟨r, ys⟩) HQ.out]; exact none_S S.out.below)
end Go.Proofs.YtjdbehijghjfbaaGreat
