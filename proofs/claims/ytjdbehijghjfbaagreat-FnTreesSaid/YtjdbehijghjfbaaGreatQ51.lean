/- The draws DrawTreeOk, DrawRowOf, walked; a row's links. (Made by genDt.py.) -/
import Derived.Test.YtjdbehijghjfbaaGreatQ50
import Derived.Test.YtjdbehijghjfbaaGreatQ27
import Derived.Test.YtjdbehijghjfbaaGreatQ20
import Derived.Test.YtjdbehijghjfbaaGreatQ26
import Derived.Test.YtjdbehijghjfbaaGreatQ08
namespace Go.Proofs.YtjdbehijghjfbaaGreat
open Go.RowKit

def DrawnTr (w : World) (e : Ending) (w' : World) : Prop :=
  ∃ (r : Int) (xs : List Nd) (A0 : Option Addr) (c0 : Nat) (F : FP), e = .returned (.agg #[.int .i64 r, .slice A0 xs.length c0]) ∧ Small.sm xs ∧ OwnS w' (.slice A0 xs.length c0) xs F ∧ Fresh F w w' ∧ Below w.heap.size w w'
def DrawnTI (w : World) (e : Ending) (w' : World) : Prop :=
  ∃ (r : Int) (xs : List Nd) (A0 : Option Addr) (c0 : Nat) (F : FP) (z : Int), e = .returned (.tuple #[.agg #[.int .i64 r, .slice A0 xs.length c0], .int .i64 z]) ∧ Small.sm xs ∧ OwnS w' (.slice A0 xs.length c0) xs F ∧ Fresh F w w' ∧ Below w.heap.size w w'
theorem rowF_head (xs : List Nd) (f : Nat) (b : Int) (h : 0 < (rowF xs f b).length) : iAt (rowF xs f b) 0 = b := by
  cases f with
  | zero => simp [rowF] at h
  | succ f =>
    simp only [rowF] at h ⊢
    split
    · rfl
    · rename_i h2; rw [if_neg h2] at h; simp at h
theorem rowF_links (xs : List Nd) (n : Nat) (hri : ∀ i, i < n → riAt xs i < n) : ∀ (f : Nat) (a : Int), a < n → ∀ i, i < (rowF xs f a).length → 0 ≤ iAt (rowF xs f a) i ∧ iAt (rowF xs f a) i < n ∧ (i + 1 < (rowF xs f a).length → riAt xs (iAt (rowF xs f a) i).toNat = iAt (rowF xs f a) (i + 1)) := by
  intro f
  induction f with
  | zero => intro a ha i hi; simp [rowF] at hi
  | succ f ih =>
    intro a ha i hi
    by_cases h0 : 0 ≤ a
    · have e : rowF xs (f + 1) a = a :: rowF xs f (riAt xs a.toNat) := by simp only [rowF]; rw [if_pos h0]
      rw [e] at hi ⊢
      have hr := hri a.toNat (by omega)
      cases i with
      | zero =>
        refine ⟨h0, ha, fun h1 => ?_⟩
        show riAt xs a.toNat = iAt (rowF xs f (riAt xs a.toNat)) 0
        rw [rowF_head]
        simpa using h1
      | succ i =>
        have := ih (riAt xs a.toNat) hr i (by simpa using hi)
        refine ⟨this.1, this.2.1, fun h1 => this.2.2 (by simpa using h1)⟩
    · rw [rowF_end xs (f + 1) a h0] at hi
      simp at hi
theorem rowOf_links (r : Int) (xs : List Nd) (lev : Int) (i : Nat) (hi : i < (rowOfT r xs lev).length) : 0 ≤ iAt (rowOfT r xs lev) i ∧ iAt (rowOfT r xs lev) i < xs.length ∧ (i + 1 < (rowOfT r xs lev).length → (ndAt xs (iAt (rowOfT r xs lev) i).toNat).ri = iAt (rowOfT r xs lev) (i + 1)) := by
  unfold rowOfT at hi ⊢
  by_cases ht : treeOk r xs = true
  · rw [if_pos ht] at hi ⊢
    have hR := right_of ht
    exact rowF_links xs xs.length (fun i hi => hR.ri i hi) 40 _ (firstT_lt hR lev) i hi
  · rw [if_neg ht] at hi
    simp at hi
theorem rowOf_len (r : Int) (xs : List Nd) (lev : Int) : (rowOfT r xs lev).length ≤ 40 := by
  unfold rowOfT
  split
  · exact rowF_len xs 40 _
  · simp

set_option maxRecDepth 100000 in
set_option maxHeartbeats 16000000 in
theorem dTree_any (A : Option Addr) (n c : Nat) (w0 : World) (hb : Bys w0 w0.heap.size A n) (hn : n ≤ 4096) :
    Calls Tryz.prog 8 #[.slice A n c] w0 (DrawnTr w0) := by
  have HB := Lib.hid hb
  have HN := Lib.hid hn
  clear hb hn
  have S := Lib.hid (Sep.start noX w0)
  have tok0 : True := trivial
  go_enter Tryz.func8, Tryz.ntmps8
  go_wp2_with (first
      | go_skip
      | (have _t := tok0; clear _t; refine wpList_op rfl (op_nx 26 rfl S.out _ Tryz.zeroValue26 ?_); clear S tok0; intro r1 w S; replace S := Lib.hid S))
  refine (new_any A n c _ (bys_on HB.out S.out.below) HN.out).mono ?_
  rintro e w1 ⟨gc, rfl, hg, hc, b⟩
  replace S := Lib.hid (S.out.newCur hc hg b)
  clear hc hg b
  go_wp2_with fail
  refine (drawT_any gc A n c _ (S.out.curA 0 rfl HB.out HN.out)).mono ?_
  rintro e w2 ⟨r, xs, A0, c0, F, rfl, hsm, ho, hf, hc, hgr⟩
  have HSM := Lib.hid hsm
  replace S : Hid (Sep noX w0 [ow (.slice A0 xs.length c0) xs F, cuI gc A n c, bx r1 #[.int .i64 0, .slice none 0 0] 26] w2) := Lib.hid (S.out.drawnGainA 0 rfl hc hgr (ow (.slice A0 xs.length c0) xs F) ho hf)
  clear hsm ho hf hc hgr
  go_wp2_with (first
      | go_skip
      | (refine wpList_op rfl (op_putR_2 26 _ _ rfl S rfl _ rfl rfl (by kernel_rfl) rfl ?_); clear S; intro w S))
  exact bodyPost_ret (results_c rfl _ S.out 2 rfl rfl Tryz.isAgg26 (by kernel_rfl)) rfl (by obtain ⟨u1, u2, u3⟩ := S.out.ends 0 rfl; exact ⟨r, xs, A0, c0, F, rfl, HSM.out, u1, u2, u3⟩)
set_option maxRecDepth 100000 in
set_option maxHeartbeats 16000000 in
theorem dRow_any (A : Option Addr) (n c : Nat) (w0 : World) (hb : Bys w0 w0.heap.size A n) (hn : n ≤ 4096) :
    Calls Tryz.prog 6 #[.slice A n c] w0 (DrawnTI w0) := by
  have HB := Lib.hid hb
  have HN := Lib.hid hn
  clear hb hn
  have S := Lib.hid (Sep.start noX w0)
  have tok0 : True := trivial
  go_enter Tryz.func6, Tryz.ntmps6
  go_wp2_with (first
      | go_skip
      | (have _t := tok0; clear _t; refine wpList_op rfl (op_nx 26 rfl S.out _ Tryz.zeroValue26 ?_); clear S tok0; intro r1 w S; replace S := Lib.hid S))
  refine (new_any A n c _ (bys_on HB.out S.out.below) HN.out).mono ?_
  rintro e w1 ⟨gc, rfl, hg, hc, b⟩
  replace S := Lib.hid (S.out.newCur hc hg b)
  clear hc hg b
  go_wp2_with fail
  refine (drawT_any gc A n c _ (S.out.curA 0 rfl HB.out HN.out)).mono ?_
  rintro e w2 ⟨r, xs, A0, c0, F, rfl, hsm, ho, hf, hc, hgr⟩
  have HSM := Lib.hid hsm
  replace S : Hid (Sep noX w0 [ow (.slice A0 xs.length c0) xs F, cuI gc A n c, bx r1 #[.int .i64 0, .slice none 0 0] 26] w2) := Lib.hid (S.out.drawnGainA 0 rfl hc hgr (ow (.slice A0 xs.length c0) xs F) ho hf)
  clear hsm ho hf hc hgr
  have tokA : True := trivial
  go_wp2_with (first
      | go_skip
      | (have _t := tokA; clear _t; refine wpList_op rfl (op_nx 26 rfl S.out _ Tryz.zeroValue26 ?_); clear S tokA; intro g5 w S; replace S := Lib.hid S)
      | (refine wpList_op rfl (op_putR_0 26 _ _ rfl S rfl _ rfl rfl (by kernel_rfl) rfl ?_); clear S; intro w S))
  refine wp_region_ev (by kernel_rfl) _ (by kernel_rfl) (by kernel_rfl) 13 rfl (by kernel_rfl) (fun D V w => ∃ z9 : Int, Sep noX w0 [bx g5 #[.int .i64 r, .slice A0 xs.length c0] 26, ow (.slice A0 xs.length c0) xs F, cuI gc A n c, cnd (D 3) (bx r1 #[.int .i64 0, .slice none 0 0] 26) (bx r1 #[.int .i64 r, .slice A0 xs.length c0] 26)] w ∧ (D 0 = true → V 0 = .agg #[.int .i64 r, .slice A0 xs.length c0]) ∧ (D 1 = true → V 1 = .pointer (some ⟨gc, 0, none⟩)) ∧ (D 2 = true → V 2 = .int .i64 z9) ∧ (D 4 = true → V 4 = .int .i64 z9) ∧ (D 4 = true → D 2 = true)) ?_ ?_ ?_
  · intro D hD
    have d3 := hD 3 (by decide)
    exact ⟨0, by rw [cnd_f d3]; exact S.out.drew.ems 0, (nof (hD 0 (by decide))), (nof (hD 1 (by decide))), (nof (hD 2 (by decide))), (nof (hD 4 (by decide))), (nof (hD 4 (by decide)))⟩
  · intro i o D V w a ho hI hDi haf hev
    obtain ⟨z9, S, f0, f1, f2, f4, o4_2⟩ := hI
    rcases i with _ | _ | _ | _ | _ | i
    · obtain rfl := inj_ ho
      exact op_row 26 _ rfl S 0 rfl ((hev.old 5 (by kernel_rfl)).trans rfl) Tryz.isAgg26 (by kernel_rfl) ⟨_, rfl, z9, S, fun _ => rfl, f1, f2, f4, o4_2⟩
    · obtain rfl := inj_ ho
      exact op_move (.inl rfl) ((hev.old 4 (by kernel_rfl)).trans rfl) ⟨_, rfl, z9, S, f0, fun _ => rfl, f2, f4, o4_2⟩
    · obtain rfl := inj_ ho
      have h1 : D 1 = true := aft_ haf 1 rfl
      have hx0 := (hev.at_ 1 11 rfl rfl h1 f1)
      refine op_call _ _ _ rfl (enters_of Tryz.func27 (by kernel_rfl) rfl) #[.pointer (some ⟨gc, 0, none⟩), .int .i64 (-1), .int .i64 3] (by simp [hx0, eval_const]) (from_any gc A n c (-1) 3 w (S.curA 2 rfl HB.out HN.out)) (fun e w2 hh => ?_)
      obtain ⟨z, rfl, _, hc9, hg9⟩ := hh
      have S2 := S.drawnA 2 rfl hc9 hg9
      exact ⟨_, rfl, ⟨_, rfl, z, S2, f0, f1, fun _ => rfl, (fun h => nof hDi (o4_2 h)), fun _ => rfl⟩⟩
    · obtain rfl := inj_ ho
      have h0 : D 0 = true := aft_ haf 0 rfl
      exact op_putR 26 _ _ rfl S 3 (g := r1) (C := #[.int .i64 0, .slice none 0 0]) (t := 26) (by simp only [gs_, gz_, cnd_f hDi]) ((hev.old 2 (by kernel_rfl)).trans rfl) _ (hev.at_ 0 10 rfl rfl h0 f0) rfl (by kernel_rfl) rfl (fun w S => ⟨_, rfl, z9, S, f0, f1, f2, f4, o4_2⟩)
    · obtain rfl := inj_ ho
      have h2 : D 2 = true := aft_ haf 2 rfl
      exact op_move (.inr rfl) (hev.at_ 2 12 rfl rfl h2 f2) ⟨_, rfl, z9, S, f0, f1, f2, fun _ => rfl, fun _ => h2⟩
    · exact absurd ho (by simp)
  intro V w hI
  obtain ⟨z9, S, f0, f1, f2, f4, o4_2⟩ := hI
  replace f0 := f0 rfl
  replace f1 := f1 rfl
  replace f2 := f2 rfl
  replace f4 := f4 rfl
  replace S : Hid (Sep noX w0 [bx g5 #[.int .i64 r, .slice A0 xs.length c0] 26, ow (.slice A0 xs.length c0) xs F, cuI gc A n c, bx r1 #[.int .i64 r, .slice A0 xs.length c0] 26] w) := Lib.hid S
  simp only [putF, Act.put, List.setIfInBounds_toArray, List.set_cons_succ, List.set_cons_zero, f0, f1, f2, f4]
  clear f0 f1 f2 f4 o4_2
  go_wp2_with fail
  exact bodyPost_ret (results_cs rfl _ S.out 3 rfl rfl Tryz.isAgg26 (by kernel_rfl)) rfl (by obtain ⟨u1, u2, u3⟩ := S.out.ends 1 rfl; exact ⟨r, xs, A0, c0, F, _, rfl, HSM.out, u1, u2, u3⟩)
end Go.Proofs.YtjdbehijghjfbaaGreat
namespace Go.Proofs.YtjdbehijghjfbaaGreat
open Go.RowKit

set_option maxRecDepth 100000 in
set_option maxHeartbeats 16000000 in
theorem likeN_yes (x : Nd) (A B : Option Addr) (n c d : Nat) (w0 : World) (h : RP w0 w0.heap.size A n x.ps) (h' : RP w0 w0.heap.size B n x.ps) (hn : n ≤ 1048576) :
    Calls Tryz.prog 34 #[.agg #[.int .i64 x.lv, .slice A n c, .int .i64 x.hi, .int .i64 x.ri, .int .i64 x.ow], .agg #[.int .i64 x.lv, .slice B n d, .int .i64 x.hi, .int .i64 x.ri, .int .i64 x.ow]] w0 fun e w' => e = .returned (.bool true) ∧ Below w0.heap.size w0 w' := by
  have LK := Lib.hid (fun w h h' => like_yes A B n c d x.ps w h h' hn)
  have HA := Lib.hid h
  have HB := Lib.hid h'
  clear h h' hn
  have q1 : (x.lv == x.lv) = true := by simp
  have q2 : (x.hi == x.hi) = true := by simp
  have q3 : (x.ri == x.ri) = true := by simp
  have q4 : (x.ow == x.ow) = true := by simp
  have S := Lib.hid (Sep.start noX w0)
  have tok0 : True := trivial
  have tok1 : True := trivial
  go_enter Tryz.func34, Tryz.ntmps34
  go_wp2_with (first
      | go_skip
      | (have _t := tok0; clear _t; refine wpList_op rfl (op_bx 38 _ rfl S.out _ rfl ?_); clear S tok0; intro g1 w S; replace S := Lib.hid S)
      | (have _t := tok1; clear _t; refine wpList_op rfl (op_bx 38 _ rfl S.out _ rfl ?_); clear S tok1; intro g2 w S; replace S := Lib.hid S)
      | (refine wpList_op rfl (op_get 2 _ rfl S.out 1 rfl _ rfl Tryz.isAgg2 _ rfl ?_))
      | (refine wpList_op rfl (op_get 2 _ rfl S.out 0 rfl _ rfl Tryz.isAgg2 _ rfl ?_))
      | (refine wpList_op rfl (op_get 36 _ rfl S.out 1 rfl _ rfl Tryz.isAgg36 _ rfl ?_))
      | (refine wpList_op rfl (op_get 36 _ rfl S.out 0 rfl _ rfl Tryz.isAgg36 _ rfl ?_)))
  refine (LK.out _ (HA.out.on S.out.below) (HB.out.on S.out.below)).mono ?_
  rintro e w ⟨rfl, b⟩
  replace S := Lib.hid (S.out.call b)
  clear b
  go_wp2_with (first
      | go_skip
      | (refine wpList_op rfl (op_get 2 _ rfl S.out 1 rfl _ rfl Tryz.isAgg2 _ rfl ?_))
      | (refine wpList_op rfl (op_get 2 _ rfl S.out 0 rfl _ rfl Tryz.isAgg2 _ rfl ?_)))
  go_ret
  exact ⟨rfl, S.out.below⟩

theorem likeI_yes (A B : Option Addr) (n c d : Nat) (zs : List Int) (w : World) (h : RS w w.heap.size A n zs) (h' : RS w w.heap.size B n zs) (hn : n ≤ 1048576) :
    Calls Tryz.prog 9 #[.slice A n c, .slice B n d] w fun e w' => e = .returned (.bool true) ∧ Below w.heap.size w w' := by
  have HH := Lib.hid h
  have HH' := Lib.hid h'
  clear h h'
  go_enter Tryz.func9, Tryz.ntmps9
  go_wp2
  go_loopw [5] (fun i wr => ∃ k : Nat, i = .int .i64 k ∧ k ≤ n ∧ Hid (Below w.heap.size w wr)) (fun i _ => n - (intOf i).toNat)
  case atStart => exact ⟨0, rfl, by omega, Lib.hid (Below.refl _ _)⟩
  case round =>
    obtain ⟨k, rfl, hk, hbw⟩ := hrel
    by_cases hlt : k < n
    · obtain ⟨b, off, rfl, hb, hc⟩ := HH.out.ints (by omega)
      obtain ⟨b', off', rfl, hb', hc'⟩ := HH'.out.ints (by omega)
      have c1 := Later.of_cell (hc k hlt) hbw.out hb
      have c3 := Later.of_cell (hc' k hlt) hbw.out hb'
      clear hc hc'
      go_wp2
      refine wp_region_later (by kernel_rfl) (by kernel_rfl) ?_
      repeat (go_big_quiet_step (fail))
      refine wpQuiet_nil ?_
      intro _ hw'
      obtain ⟨s, rfl⟩ := hw'
      go_wp2
      go_roundw
      case rel => exact ⟨k + 1, by go_num, by omega, Lib.hid (s.below_of hbw.out)⟩
      case measure => simp [intOf]; omega
    · go_wp2
      go_ret
      exact ⟨rfl, hbw.out⟩

set_option maxRecDepth 100000 in
set_option maxHeartbeats 16000000 in
theorem likeT_yes (r : Int) (xs : List Nd) (A B : Option Addr) (n c d : Nat) (w0 : World) (h : RS w0 w0.heap.size A n xs) (h' : RS w0 w0.heap.size B n xs) (hs : Small.sm xs) :
    Calls Tryz.prog 13 #[.agg #[.int .i64 r, .slice A n c], .agg #[.int .i64 r, .slice B n d]] w0 fun e w' => e = .returned (.bool true) ∧ Below w0.heap.size w0 w' := by
  have hn : n ≤ 1048576 := by rw [← h.1]; exact hs.1
  have HPS := Lib.hid hs.2
  have HL := Lib.hid h.1
  have HA := Lib.hid h
  have HB := Lib.hid h'
  clear h h' hs
  have q1 : (r == r) = true := by simp
  have q1' : (r != r) = false := by simp
  have q2 : ((n : Int) != (n : Int)) = false := by simp
  have S := Lib.hid (Sep.start noX w0)
  have tok0 : True := trivial
  have tok1 : True := trivial
  go_enter Tryz.func13, Tryz.ntmps13
  go_wp2_with (first
      | go_skip
      | (have _t := tok0; clear _t; refine wpList_op rfl (op_bx 26 _ rfl S.out _ rfl ?_); clear S tok0; intro g1 w S; replace S := Lib.hid S; simp only [Act.put, List.setIfInBounds_toArray, List.set_cons_succ, List.set_cons_zero])
      | (have _t := tok1; clear _t; refine wpList_op rfl (op_bx 26 _ rfl S.out _ rfl ?_); clear S tok1; intro g2 w S; replace S := Lib.hid S; simp only [Act.put, List.setIfInBounds_toArray, List.set_cons_succ, List.set_cons_zero])
      | (refine wpList_op rfl (op_get 2 _ rfl S.out 1 rfl _ rfl Tryz.isAgg2 _ rfl ?_); simp only [Act.put, List.setIfInBounds_toArray, List.set_cons_succ, List.set_cons_zero])
      | (refine wpList_op rfl (op_get 2 _ rfl S.out 0 rfl _ rfl Tryz.isAgg2 _ rfl ?_); simp only [Act.put, List.setIfInBounds_toArray, List.set_cons_succ, List.set_cons_zero])
      | (refine wpList_op rfl (op_get 24 _ rfl S.out 1 rfl _ rfl Tryz.isAgg24 _ rfl ?_); simp only [Act.put, List.setIfInBounds_toArray, List.set_cons_succ, List.set_cons_zero])
      | (refine wpList_op rfl (op_get 24 _ rfl S.out 0 rfl _ rfl Tryz.isAgg24 _ rfl ?_); simp only [Act.put, List.setIfInBounds_toArray, List.set_cons_succ, List.set_cons_zero]))
  go_loopw [5] (fun i wr => ∃ k : Nat, i = .int .i64 k ∧ k ≤ n ∧ Hid (Sep noX w0 [bx g2 #[.int .i64 r, .slice B n d] 26, bx g1 #[.int .i64 r, .slice A n c] 26] wr)) (fun i _ => n - (intOf i).toNat)
  case atStart => exact ⟨0, rfl, by omega, S⟩
  case round =>
    obtain ⟨k, rfl, hk, S1⟩ := hrel
    clear S
    have S := S1
    clear S1
    have r1 : wr.heap[g1]? = some (.cells #[.int .i64 r, .slice A n c] 26 (0, 0)) := S.out.get 1 rfl
    have r2 : wr.heap[g2]? = some (.cells #[.int .i64 r, .slice B n d] 26 (0, 0)) := S.out.get 0 rfl
    have l1 : g1 < wr.heap.size := (Array.getElem?_eq_some_iff.1 r1).1
    have l2 : g2 < wr.heap.size := (Array.getElem?_eq_some_iff.1 r2).1
    have d1 : wr.cell? ⟨g1, 1, none⟩ = some (.slice A n c) := by rw [cell_of_row _ _ 1 _ _ _ r1]; rfl
    have d2 : wr.cell? ⟨g2, 1, none⟩ = some (.slice B n d) := by rw [cell_of_row _ _ 1 _ _ _ r2]; rfl
    have e1 := Later.of_cell d1 (Below.refl _ _) l1
    have e2 := Later.of_cell d2 (Below.refl _ _) l2
    clear r1 r2 l1 l2
    by_cases hlt : k < n
    · obtain ⟨b, off, rfl, hb, A2, n2, c2, ⟨x0, x1, x2, x3, x4⟩, hP, hcc⟩ := HA.out.ndAt k hlt
      obtain ⟨b', off', rfl, hb', B2, m2, c3, ⟨y0, y1, y2, y3, y4⟩, hP', hcc'⟩ := HB.out.ndAt k hlt
      have hm : m2 = n2 := by rw [← hP.1, ← hP'.1]
      subst hm
      have f0 := Later.of_cell x0 S.out.below hb
      have f1 := Later.of_cell x1 S.out.below hb
      have f2 := Later.of_cell x2 S.out.below hb
      have f3 := Later.of_cell x3 S.out.below hb
      have f4 := Later.of_cell x4 S.out.below hb
      have h0 := Later.of_cell y0 S.out.below hb'
      have h1 := Later.of_cell y1 S.out.below hb'
      have h2 := Later.of_cell y2 S.out.below hb'
      have h3 := Later.of_cell y3 S.out.below hb'
      have h4 := Later.of_cell y4 S.out.below hb'
      have hps := HPS.out k (by rw [HL.out]; exact hlt)
      have hn2 : m2 ≤ 1048576 := by rw [← hP.1]; exact hps
      have LN := Lib.hid (fun w h h' => likeN_yes (ndAt xs k) A2 B2 m2 c2 c3 w h h' hn2)
      have RA : Hid (∀ s : Later wr, RP s.wd s.wd.heap.size A2 m2 (ndAt xs k).ps) := Lib.hid (fun s => hP.on (s.below_of S.out.below))
      have RB : Hid (∀ s : Later wr, RP s.wd s.wd.heap.size B2 m2 (ndAt xs k).ps) := Lib.hid (fun s => hP'.on (s.below_of S.out.below))
      clear x0 x1 x2 x3 x4 y0 y1 y2 y3 y4 hP hP' hcc hcc' hps hn2
      generalize ndAt xs k = x at *
      go_wp2
      refine wp_region_later (by kernel_rfl) (by kernel_rfl) ?_
      repeat (go_big_quiet_step ((go_at_call 34; exact Calls.later (LN.out _ (RA.out _) (RB.out _)))))
      refine wpQuiet_nil ?_
      intro _ hw'
      obtain ⟨s, rfl⟩ := hw'
      have S3 := Lib.hid (S.out.call s.2)
      clear e1 e2 f0 f1 f2 f3 f4 h0 h1 h2 h3 h4 d1 d2
      go_wp2
      go_roundw
      case rel => exact ⟨k + 1, by go_num, by omega, S3⟩
      case measure => simp [intOf]; omega
    · obtain rfl : k = n := by omega
      go_wp2
      go_ret
      exact ⟨rfl, S.out.below⟩
end Go.Proofs.YtjdbehijghjfbaaGreat
namespace Go.Proofs.YtjdbehijghjfbaaGreat
open Go.RowKit

section
variable {α : Type}
def ixOf (q : α → Bool) (zs : List α) : Int := if zs.findIdx q < zs.length then (zs.findIdx q : Int) else -1
theorem ixOf_at (q : α → Bool) (d : α) (zs : List α) (k : Nat) (hk : k < zs.length) (h : q (zs.getD k d) = true) (hn : ∀ j, j < k → q (zs.getD j d) = false) : ixOf q zs = k := by
  have e : zs.findIdx q = k := by
    rw [List.findIdx_eq hk]
    refine ⟨by simpa [hk] using h, fun j hj => ?_⟩
    have := hn j hj
    have hj' : j < zs.length := by omega
    simpa [hj'] using this
  unfold ixOf
  rw [e, if_pos hk]
theorem ixOf_none (q : α → Bool) (d : α) (zs : List α) (hn : ∀ j, j < zs.length → q (zs.getD j d) = false) : ixOf q zs = -1 := by
  have e : zs.findIdx q = zs.length := by
    rw [List.findIdx_eq_length]
    intro p hp
    obtain ⟨j, hj, rfl⟩ := List.getElem_of_mem hp
    have := hn j hj
    simpa [hj] using this
  unfold ixOf
  rw [e, if_neg (by omega)]
theorem ixOf_any (q : α → Bool) (zs : List α) : decide (0 ≤ ixOf q zs) = zs.any q := by
  unfold ixOf
  by_cases h : zs.findIdx q < zs.length
  · rw [if_pos h]
    have := List.findIdx_lt_length.1 h
    rw [List.any_eq_true.2 this]
    simp
  · rw [if_neg h]
    have h2 : zs.any q = false := by
      rw [List.any_eq_false]
      intro p hp hq
      exact h (List.findIdx_lt_length.2 ⟨p, hp, hq⟩)
    rw [h2]
    simp
end

theorem ixNd_at (q : Nd → Bool) (xs : List Nd) (k : Nat) (hk : k < xs.length) (h : q (ndAt xs k) = true) (hn : ∀ j, j < k → q (ndAt xs j) = false) : ixOf q xs = k := ixOf_at q _ xs k hk h hn
theorem ixNd_none (q : Nd → Bool) (xs : List Nd) (hn : ∀ j, j < xs.length → q (ndAt xs j) = false) : ixOf q xs = -1 := ixOf_none q _ xs hn

def lackB (n : Nat) (p : Pr) : Bool := !hasB n p.2
def refT (n : Nat) (x : Nd) : Bool := !nodeOk x || ((x.ri != -1) && !hasB n x.ri) || (decide (0 < x.lv) && x.ps.any (lackB n))

theorem refT_good (n : Nat) (x : Nd) : (!refT n x) = ndGood n x := by
  unfold refT ndGood
  by_cases h : nodeOk x = true
  · rw [h]
    have hr : -1 ≤ x.ri := by
      have := h
      unfold nodeOk at this
      simp only [Bool.and_eq_true, Bool.or_eq_true, decide_eq_true_eq] at this
      unfold numB inB at this
      simp only [decide_eq_true_eq] at this
      grind
    have e1 : ((x.ri != -1) && !hasB n x.ri) = !decide (x.ri < (n : Int)) := by
      unfold hasB inB
      rw [Bool.eq_iff_iff]
      simp
      omega
    have e2 : (decide (0 < x.lv) && x.ps.any (lackB n)) = !(decide (x.lv ≤ 0) || (List.range x.ps.length).all (fun j => hasB n (vAt x.ps j))) := by
      have e3 : x.ps.any (lackB n) = !(List.range x.ps.length).all (fun j => hasB n (vAt x.ps j)) := by
        rw [Bool.eq_iff_iff]
        unfold lackB
        simp only [List.any_eq_true, Bool.not_eq_true', List.all_eq_false, List.mem_range, Bool.not_eq_true]
        refine ⟨fun ⟨p, hp, hq⟩ => ?_, fun ⟨j, hj, hq⟩ => ?_⟩
        · obtain ⟨j, hj, rfl⟩ := List.getElem_of_mem hp
          exact ⟨j, hj, by rw [vAt_eq _ _ hj]; exact hq⟩
        · exact ⟨x.ps[j], List.getElem_mem hj, by rw [vAt_eq _ _ hj] at hq; exact hq⟩
      rw [e3]
      by_cases hl : 0 < x.lv
      · rw [decide_eq_true hl, decide_eq_false (by omega : ¬ x.lv ≤ 0)]; simp
      · rw [decide_eq_false hl, decide_eq_true (by omega : x.lv ≤ 0)]; simp
    rw [e1, e2]
    simp
  · simp only [Bool.not_eq_true] at h
    rw [h]; simp

def okT (r : Int) (xs : List Nd) : Bool := decide (xs.length ≤ 40) && (hasB xs.length r && !xs.any (refT xs.length))
theorem okT_eq (r : Int) (xs : List Nd) : okT r xs = treeOk r xs := by
  have e : (!xs.any (refT xs.length)) = (List.range xs.length).all (fun i => ndGood xs.length (ndAt xs i)) := by
    rw [Bool.eq_iff_iff]
    simp only [Bool.not_eq_true', List.any_eq_false, List.all_eq_true, List.mem_range, Bool.not_eq_true]
    refine ⟨fun h i hi => ?_, fun h x hx => ?_⟩
    · rw [ndAt_eq _ _ hi, ← refT_good, h _ (List.getElem_mem hi)]; rfl
    · obtain ⟨i, hi, rfl⟩ := List.getElem_of_mem hx
      have := h i hi
      rw [ndAt_eq _ _ hi, ← refT_good] at this
      simpa using this
  unfold okT treeOk
  rw [e]
  by_cases h1 : hasB xs.length r = true
  · have h2 : 1 ≤ xs.length := by
      unfold hasB inB at h1
      simp at h1
      omega
    rw [h1, decide_eq_true h2]
    simp
  · simp only [Bool.not_eq_true] at h1
    rw [h1]; simp
end Go.Proofs.YtjdbehijghjfbaaGreat
