/- The walk of the model's l9Ok. (Made by genY2.py.) -/
import Derived.Test.YtjookicpmjmdhaaQ15
open Go.Value renaming int → jI, slice → jS
open Go.IntKind renaming i64 → jZ
namespace Go.Proofs.Ytjookicpmjmdhaa
open Go.RowKit

set_option maxRecDepth 100000 in
set_option maxHeartbeats 4000000 in
theorem ok9_any (r : Int) (xs : List Nd) (A : Option Addr) (n c : Nat) (task : Int) (hd : Hd) (A' : Option Addr) (n' c' : Nat) (lo hi : Int) (w0 : World) (hR : RS w0 w0.heap.size A n xs) (hs : Small.sm xs) (hH : RS w0 w0.heap.size A' n' hd.st) (hn' : n' ≤ 1048576) :
   Calls Try.prog 91 #[.agg #[jI jZ r, jS A n c], jI jZ task, hdV hd A' n' c', jI jZ lo, jI jZ hi] w0 fun e w' => e = .returned (.bool (ok9 ⟨r, xs⟩ task hd lo hi)) ∧ Below w0.heap.size w0 w' := by
 have hl : xs.length = n := hR.1
 have hn : n ≤ 1048576 := by rw [← hl]; exact hs.1
 have TK := Lib.hid (fun w h => sTreeOk_any r xs A n c w h hs)
 have LK := Lib.hid (fun w => task_is task w)
 have HK := Lib.hid (fun w hR => sHandOk_any hd A' n' c' w hR)
 have IK := Lib.hid (fun w => in_any hd.pos lo hi w)
 have CK := Lib.hid (fun w hR => copyI_any hd.st A' n' c' w hR hn')
 have HR := Lib.hid hR
 have HH := Lib.hid hH
 have HL := Lib.hid hH.1
 have DEF : Hid (ok9 ⟨r, xs⟩ task hd lo hi = (treeOk r xs && (inB task 0 5 && (handOk hd && (inB hd.pos lo hi && (hd.st ++ [hd.cur, hd.kid, hd.old, hd.next, hd.new]).all (hasB n)))))) := Lib.hid (by unfold ok9; simp only [hl])
 clear hR hH hl
 rw [DEF.out]
 clear DEF
 have ALL : Hid (∀ b, (hd.st ++ [hd.cur, hd.kid, hd.old, hd.next, hd.new]).all (hasB n) = b → (hd.st ++ [hd.cur, hd.kid, hd.old, hd.next, hd.new]).all (hasB n) = b) := Lib.hid (fun _ h => h)
 obtain ⟨q5, hq5⟩ : ∃ q5, q5 = (hd.st ++ [hd.cur, hd.kid, hd.old, hd.next, hd.new]).all (hasB n) := ⟨_, rfl⟩
 rw [← hq5]
 have HQ5 := Lib.hid hq5
 clear hq5 ALL
 generalize treeOk r xs = q1 at *
 generalize inB task 0 5 = q2 at *
 generalize handOk hd = q3 at *
 generalize inB hd.pos lo hi = q4 at *
 have S := Lib.hid (Sep.start noX w0)
 have tok0 : True := trivial
 have tok1 : True := trivial
 unfold hdV at *
 go_enter Try.func91, Try.ntmps91
 go_wp2_with (first
     | (clear tok0; refine bx_ 77 S rfl rfl rfl ?_; clear S; intro gt w S)
     | (clear tok1; refine bx_ 31 S rfl rfl rfl ?_; clear S; intro gh w S)
     | (refine wpList_op rfl (op_row 77 _ rfl S.out 1 rfl rfl Try.isAgg77 (by kernel_rfl) ?_)))
 refine (TK.out _ (S.out.rs HR.out)).mono ?_
 rintro e w ⟨rfl, b⟩
 replace S := Lib.hid (S.out.call b)
 clear b
 cases q1
 · go_wp2_with fail
   go_ret
   exact ⟨rfl, S.out.below⟩
 go_wp2_with fail
 refine (LK.out _).mono ?_
 rintro e w9 ⟨rfl, rfl⟩
 cases q2
 · go_wp2_with fail
   go_ret
   exact ⟨rfl, S.out.below⟩
 go_wp2_with (first
     | (refine wpList_op rfl (op_row 31 _ rfl S.out 0 rfl rfl Try.isAgg31 (by kernel_rfl) ?_)))
 refine (HK.out _ (S.out.rs HH.out)).mono ?_
 rintro e w ⟨rfl, b⟩
 replace S := Lib.hid (S.out.call b)
 clear b
 cases q3
 · go_wp2_with fail
   go_ret
   exact ⟨rfl, S.out.below⟩
 go_wp2_with (first
     | (refine wpList_op rfl (op_get 2 _ rfl S.out 0 rfl _ rfl Try.isAgg2 _ rfl ?_)))
 refine (IK.out _).mono ?_
 rintro e w9 ⟨rfl, rfl⟩
 cases q4
 · go_wp2_with fail
   go_ret
   exact ⟨rfl, S.out.below⟩
 go_wp2_with fail
 refine wp_region_ev (by kernel_rfl) _ (by kernel_rfl) (by kernel_rfl) 62 rfl (by kernel_rfl) (fun D V w => ∃ v2 : Value, ∃ F2 : FP, ∃ gb : Nat, ∃ A6 : Option Addr, ∃ c6 : Nat, ∃ F6 : FP, Sep noX w0 [bx gh #[jI jZ hd.pos, jI jZ hd.cc, jI jZ hd.ck, jI jZ hd.cv, jI jZ hd.cur, jI jZ hd.want, jI jZ hd.key, jI jZ hd.kid, jI jZ hd.old, jI jZ hd.next, jI jZ hd.new, jS A' n' c', jI jZ hd.thn, jI jZ hd.beg, jI jZ hd.rep, jI jZ hd.out] 31, bx gt #[jI jZ r, jS A n c] 77, cnd (D 2) em (cnd (D 14) (ow v2 hd.st F2) (ow (jS A6 (hd.st.length + 5) c6) (hd.st ++ [hd.cur, hd.kid, hd.old, hd.next, hd.new]) F6)), cnd (D 13) em (bx gb (IL [hd.cur, hd.kid, hd.old, hd.next, hd.new]).toArray 2)] w ∧ (D 0 = true → V 0 = .pointer (some ⟨gh, 11, none⟩)) ∧ (D 1 = true → V 1 = jS A' n' c') ∧ (D 2 = true → V 2 = v2) ∧ (D 3 = true → V 3 = .pointer (some ⟨gh, 4, none⟩)) ∧ (D 4 = true → V 4 = jI jZ hd.cur) ∧ (D 5 = true → V 5 = .pointer (some ⟨gh, 7, none⟩)) ∧ (D 6 = true → V 6 = jI jZ hd.kid) ∧ (D 7 = true → V 7 = .pointer (some ⟨gh, 8, none⟩)) ∧ (D 8 = true → V 8 = jI jZ hd.old) ∧ (D 9 = true → V 9 = .pointer (some ⟨gh, 9, none⟩)) ∧ (D 10 = true → V 10 = jI jZ hd.next) ∧ (D 11 = true → V 11 = .pointer (some ⟨gh, 10, none⟩)) ∧ (D 12 = true → V 12 = jI jZ hd.new) ∧ (D 13 = true → V 13 = jS (some ⟨gb, 0, none⟩) 5 5) ∧ (D 14 = true → V 14 = jS A6 (hd.st.length + 5) c6) ∧ (D 15 = true → V 15 = jS A6 (hd.st.length + 5) c6) ∧ (D 14 = true → D 2 = true) ∧ (D 15 = true → D 14 = true)) ?_ ?_ ?_
 · intro D hD
   have d2 := hD 2 (by decide)
   have d13 := hD 13 (by decide)
   exact ⟨undef, fun _ => False, 0, none, 0, fun _ => False, by rw [cnd_f d2, cnd_f d13]; exact S.out.drew.ems 2, (nof (hD 0 (by decide))), (nof (hD 1 (by decide))), (nof (hD 2 (by decide))), (nof (hD 3 (by decide))), (nof (hD 4 (by decide))), (nof (hD 5 (by decide))), (nof (hD 6 (by decide))), (nof (hD 7 (by decide))), (nof (hD 8 (by decide))), (nof (hD 9 (by decide))), (nof (hD 10 (by decide))), (nof (hD 11 (by decide))), (nof (hD 12 (by decide))), (nof (hD 13 (by decide))), (nof (hD 14 (by decide))), (nof (hD 15 (by decide))), (nof (hD 14 (by decide))), (nof (hD 15 (by decide)))⟩
 · intro i o D V w a ho hI hDi haf hev
   obtain ⟨v2, F2, gb, A6, c6, F6, S, f0, f1, f2, f3, f4, f5, f6, f7, f8, f9, f10, f11, f12, f13, f14, f15, o14_2, o15_14⟩ := hI
   rcases i with _ | _ | _ | _ | _ | _ | _ | _ | _ | _ | _ | _ | _ | _ | _ | _ | i
   · obtain rfl := inj_ ho
     exact op_field _ _ _ rfl ((hev.old 7 (by kernel_rfl)).trans rfl) (by kernel_rfl) ⟨_, rfl, v2, F2, gb, A6, c6, F6, S, fun _ => rfl, f1, f2, f3, f4, f5, f6, f7, f8, f9, f10, f11, f12, f13, f14, f15, o14_2, o15_14⟩
   · obtain rfl := inj_ ho
     have h0 := aft_ haf 0 rfl
     exact op_get 29 _ rfl S 0 rfl 11 (hev.at_ 0 34 rfl rfl h0 f0) Try.isAgg29 _ rfl ⟨_, rfl, v2, F2, gb, A6, c6, F6, S, f0, fun _ => rfl, f2, f3, f4, f5, f6, f7, f8, f9, f10, f11, f12, f13, f14, f15, o14_2, o15_14⟩
   · obtain rfl := inj_ ho
     have h1 := aft_ haf 1 rfl
     have nn := nofb hDi o14_2
     have hx := (hev.at_ 1 35 rfl rfl h1 f1)
     refine op_call _ _ _ rfl (enters_of Try.func59 (by kernel_rfl) rfl) #[jS A' n' c'] (by simp [hx]) (CK.out _ (S.rs HH.out)) (fun e w2 hh => ?_)
     obtain ⟨v, rfl, own, b⟩ := hh
     rw [← HL.out] at own
     have S2 := S.turn 2 (I := em) (by simp only [gs_, gz_, cnd_f hDi]) (Only.of_below b) (ow v hd.st (blkF v.ownBlock)) (OwnS.of_ints own (fun k hk => hk)) (fun k hk => by have := own.lt k hk; exact ⟨.inr this.1, this.2⟩)
     exact ⟨_, rfl, ⟨_, rfl, v, blkF v.ownBlock, gb, A6, c6, F6, (by rw [show updB D 2 14 = false from nn]; exact S2), f0, f1, fun _ => rfl, f3, f4, f5, f6, f7, f8, f9, f10, f11, f12, f13, f14, f15, fun _ => rfl, o15_14⟩⟩
   · obtain rfl := inj_ ho
     exact op_field _ _ _ rfl ((hev.old 7 (by kernel_rfl)).trans rfl) (by kernel_rfl) ⟨_, rfl, v2, F2, gb, A6, c6, F6, S, f0, f1, f2, fun _ => rfl, f4, f5, f6, f7, f8, f9, f10, f11, f12, f13, f14, f15, o14_2, o15_14⟩
   · obtain rfl := inj_ ho
     have h3 := aft_ haf 3 rfl
     exact op_get 2 _ rfl S 0 rfl 4 (hev.at_ 3 37 rfl rfl h3 f3) Try.isAgg2 _ rfl ⟨_, rfl, v2, F2, gb, A6, c6, F6, S, f0, f1, f2, f3, fun _ => rfl, f5, f6, f7, f8, f9, f10, f11, f12, f13, f14, f15, o14_2, o15_14⟩
   · obtain rfl := inj_ ho
     exact op_field _ _ _ rfl ((hev.old 7 (by kernel_rfl)).trans rfl) (by kernel_rfl) ⟨_, rfl, v2, F2, gb, A6, c6, F6, S, f0, f1, f2, f3, f4, fun _ => rfl, f6, f7, f8, f9, f10, f11, f12, f13, f14, f15, o14_2, o15_14⟩
   · obtain rfl := inj_ ho
     have h5 := aft_ haf 5 rfl
     exact op_get 2 _ rfl S 0 rfl 7 (hev.at_ 5 39 rfl rfl h5 f5) Try.isAgg2 _ rfl ⟨_, rfl, v2, F2, gb, A6, c6, F6, S, f0, f1, f2, f3, f4, f5, fun _ => rfl, f7, f8, f9, f10, f11, f12, f13, f14, f15, o14_2, o15_14⟩
   · obtain rfl := inj_ ho
     exact op_field _ _ _ rfl ((hev.old 7 (by kernel_rfl)).trans rfl) (by kernel_rfl) ⟨_, rfl, v2, F2, gb, A6, c6, F6, S, f0, f1, f2, f3, f4, f5, f6, fun _ => rfl, f8, f9, f10, f11, f12, f13, f14, f15, o14_2, o15_14⟩
   · obtain rfl := inj_ ho
     have h7 := aft_ haf 7 rfl
     exact op_get 2 _ rfl S 0 rfl 8 (hev.at_ 7 41 rfl rfl h7 f7) Try.isAgg2 _ rfl ⟨_, rfl, v2, F2, gb, A6, c6, F6, S, f0, f1, f2, f3, f4, f5, f6, f7, fun _ => rfl, f9, f10, f11, f12, f13, f14, f15, o14_2, o15_14⟩
   · obtain rfl := inj_ ho
     exact op_field _ _ _ rfl ((hev.old 7 (by kernel_rfl)).trans rfl) (by kernel_rfl) ⟨_, rfl, v2, F2, gb, A6, c6, F6, S, f0, f1, f2, f3, f4, f5, f6, f7, f8, fun _ => rfl, f10, f11, f12, f13, f14, f15, o14_2, o15_14⟩
   · obtain rfl := inj_ ho
     have h9 := aft_ haf 9 rfl
     exact op_get 2 _ rfl S 0 rfl 9 (hev.at_ 9 43 rfl rfl h9 f9) Try.isAgg2 _ rfl ⟨_, rfl, v2, F2, gb, A6, c6, F6, S, f0, f1, f2, f3, f4, f5, f6, f7, f8, f9, fun _ => rfl, f11, f12, f13, f14, f15, o14_2, o15_14⟩
   · obtain rfl := inj_ ho
     exact op_field _ _ _ rfl ((hev.old 7 (by kernel_rfl)).trans rfl) (by kernel_rfl) ⟨_, rfl, v2, F2, gb, A6, c6, F6, S, f0, f1, f2, f3, f4, f5, f6, f7, f8, f9, f10, fun _ => rfl, f12, f13, f14, f15, o14_2, o15_14⟩
   · obtain rfl := inj_ ho
     have h11 := aft_ haf 11 rfl
     exact op_get 2 _ rfl S 0 rfl 10 (hev.at_ 11 45 rfl rfl h11 f11) Try.isAgg2 _ rfl ⟨_, rfl, v2, F2, gb, A6, c6, F6, S, f0, f1, f2, f3, f4, f5, f6, f7, f8, f9, f10, f11, fun _ => rfl, f13, f14, f15, o14_2, o15_14⟩
   · obtain rfl := inj_ ho
     have h4 := aft_ haf 4 rfl
     have h6 := aft_ haf 6 rfl
     have h8 := aft_ haf 8 rfl
     have h10 := aft_ haf 10 rfl
     have h12 := aft_ haf 12 rfl
     have hx0 := (hev.at_ 4 38 rfl rfl h4 f4)
     have hx1 := (hev.at_ 6 40 rfl rfl h6 f6)
     have hx2 := (hev.at_ 8 42 rfl rfl h8 f8)
     have hx3 := (hev.at_ 10 44 rfl rfl h10 f10)
     have hx4 := (hev.at_ 12 46 rfl rfl h12 f12)
     exact op_bsI 5 _ rfl S 3 (by simp only [gs_, gz_, cnd_f hDi]) [(0, jI jZ hd.cur), (1, jI jZ hd.kid), (2, jI jZ hd.old), (3, jI jZ hd.next), (4, jI jZ hd.new)] (by simp [hx0, hx1, hx2, hx3, hx4]) [hd.cur, hd.kid, hd.old, hd.next, hd.new] (by kernel_rfl) (by omega) (by omega) (fun g w S => ⟨_, rfl, v2, F2, g, A6, c6, F6, S, f0, f1, f2, f3, f4, f5, f6, f7, f8, f9, f10, f11, f12, fun _ => rfl, f14, f15, o14_2, o15_14⟩)
   · obtain rfl := inj_ ho
     have h2 := aft_ haf 2 rfl
     have h13 := aft_ haf 13 rfl
     have hx0 := (hev.at_ 2 36 rfl rfl h2 f2)
     have hx1 := (hev.at_ 13 47 rfl rfl h13 f13)
     exact op_appI _ _ rfl S 2 (v := v2) (xs := hd.st) (F := F2) (by simp only [gs_, gz_, cnd_t h2, cnd_f hDi]) hx0 3 [hd.cur, hd.kid, hd.old, hd.next, hd.new] (g := gb) (t := 2) (by simp only [gs_, gz_, cnd_t h13]) 5 5 rfl (by omega) hx1 (by have := HL.out; omega) (fun A c F w S => ⟨_, rfl, v2, F2, gb, A, c, F, (by rw [show updB D 14 2 = true from h2]; exact S), f0, f1, f2, f3, f4, f5, f6, f7, f8, f9, f10, f11, f12, f13, fun _ => rfl, (fun h => nof hDi (o15_14 h)), fun _ => h2, fun _ => rfl⟩)
   · obtain rfl := inj_ ho
     have h14 := aft_ haf 14 rfl
     exact op_move (.inr rfl) (hev.at_ 14 48 rfl rfl h14 f14) ⟨_, rfl, v2, F2, gb, A6, c6, F6, S, f0, f1, f2, f3, f4, f5, f6, f7, f8, f9, f10, f11, f12, f13, f14, fun _ => rfl, o14_2, fun _ => h14⟩
   · exact absurd ho (by simp)
 intro V w hI
 obtain ⟨v2, F2, gb, A6, c6, F6, S, f0, f1, f2, f3, f4, f5, f6, f7, f8, f9, f10, f11, f12, f13, f14, f15, o14_2, o15_14⟩ := hI
 replace S : Hid (Sep noX w0 [bx gh #[jI jZ hd.pos, jI jZ hd.cc, jI jZ hd.ck, jI jZ hd.cv, jI jZ hd.cur, jI jZ hd.want, jI jZ hd.key, jI jZ hd.kid, jI jZ hd.old, jI jZ hd.next, jI jZ hd.new, jS A' n' c', jI jZ hd.thn, jI jZ hd.beg, jI jZ hd.rep, jI jZ hd.out] 31, bx gt #[jI jZ r, jS A n c] 77, ow (jS A6 (hd.st.length + 5) c6) (hd.st ++ [hd.cur, hd.kid, hd.old, hd.next, hd.new]) F6, bx gb (IL [hd.cur, hd.kid, hd.old, hd.next, hd.new]).toArray 2] w) := Lib.hid S
 simp only [putF, Act.put, sa_, sb_, sc_, f0 rfl, f1 rfl, f2 rfl, f3 rfl, f4 rfl, f5 rfl, f6 rfl, f7 rfl, f8 rfl, f9 rfl, f10 rfl, f11 rfl, f12 rfl, f13 rfl, f14 rfl, f15 rfl]
 clear f0 f1 f2 f3 f4 f5 f6 f7 f8 f9 f10 f11 f12 f13 f14 f15 o14_2 o15_14
 obtain ⟨al, hal⟩ : ∃ al, al = hd.st ++ [hd.cur, hd.kid, hd.old, hd.next, hd.new] := ⟨_, rfl⟩
 obtain ⟨m, hm⟩ : ∃ m, m = hd.st.length + 5 := ⟨_, rfl⟩
 have AL : Hid (al.length = m) := Lib.hid (by rw [hal, hm]; simp)
 have M0 : Hid (0 < m ∧ m ≤ 1048581) := Lib.hid (by have := HL.out; omega)
 rw [← hal, ← hm] at S
 rw [← hm]
 have HAL := Lib.hid hal
 clear hal hm
 have hrow := (OwnS.ints (S.out.get 2 rfl)).1
 obtain ⟨g6, cap, hv, _, _⟩ := hrow.form (by have := AL.out; have := M0.out; omega)
 obtain ⟨rfl, _, rfl⟩ : A6 = some ⟨g6, 0, none⟩ ∧ m = al.length ∧ c6 = cap := by simpa using hv
 clear hrow hv
 have hmm := M0.out.2
 go_wp2_with fail
 go_loopw [12] (fun i wr => ∃ k : Nat, i = jI jZ k ∧ k ≤ m ∧ Hid (∀ j, j < k → hasB n (iAt al j) = true) ∧ Hid (Sep noX w0 [bx gh #[jI jZ hd.pos, jI jZ hd.cc, jI jZ hd.ck, jI jZ hd.cv, jI jZ hd.cur, jI jZ hd.want, jI jZ hd.key, jI jZ hd.kid, jI jZ hd.old, jI jZ hd.next, jI jZ hd.new, jS A' n' c', jI jZ hd.thn, jI jZ hd.beg, jI jZ hd.rep, jI jZ hd.out] 31, bx gt #[jI jZ r, jS A n c] 77, ow (jS (some ⟨g6, 0, none⟩) m c6) al F6, bx gb (IL [hd.cur, hd.kid, hd.old, hd.next, hd.new]).toArray 2] wr)) (fun i _ => m - (intOf i).toNat)
 case atStart => exact ⟨0, rfl, by omega, Lib.hid (by intro j hj; omega), S⟩
 case round =>
   obtain ⟨k, rfl, hk, ho, S⟩ := hrel
   by_cases hlt : k < m
   · have CELL : Hid ((IL al)[k]? = some (jI jZ (iAt al k))) := Lib.hid (by unfold IL iAt; rw [List.getElem?_map]; have := AL.out; simp [show k < al.length from by omega])
     have HAS := Lib.hid (fun w => has_any r A n c (iAt al k) w hn)
     have NO : Hid (hasB n (iAt al k) = false → al.all (hasB n) = false) := Lib.hid (fun h => by
       rw [List.all_eq_false]
       have hka : k < al.length := by rw [AL.out]; exact hlt
       refine ⟨al[k], List.getElem_mem hka, ?_⟩
       unfold iAt at h
       simp only [List.getD_eq_getElem?_getD, List.getElem?_eq_getElem hka, Option.getD_some] at h
       rw [h]; exact Bool.false_ne_true)
     have YES : Hid (hasB n (iAt al k) = true → ∀ j, j < k + 1 → hasB n (iAt al j) = true) := Lib.hid (fun h j hj => by
       rcases Nat.lt_or_ge j k with h' | h'
       · exact ho.out j h'
       · obtain rfl : j = k := by omega
         exact h)
     generalize hasB n (iAt al k) = q at *
     generalize iAt al k = x at *
     go_wp2_with fail
     refine wp_region_ev (by kernel_rfl) _ (by kernel_rfl) (by kernel_rfl) 62 rfl (by kernel_rfl) (fun D V w => Sep noX w0 [bx gh #[jI jZ hd.pos, jI jZ hd.cc, jI jZ hd.ck, jI jZ hd.cv, jI jZ hd.cur, jI jZ hd.want, jI jZ hd.key, jI jZ hd.kid, jI jZ hd.old, jI jZ hd.next, jI jZ hd.new, jS A' n' c', jI jZ hd.thn, jI jZ hd.beg, jI jZ hd.rep, jI jZ hd.out] 31, bx gt #[jI jZ r, jS A n c] 77, ow (jS (some ⟨g6, 0, none⟩) m c6) al F6, bx gb (IL [hd.cur, hd.kid, hd.old, hd.next, hd.new]).toArray 2] w ∧ (D 0 = true → V 0 = .agg #[jI jZ r, jS A n c]) ∧ (D 1 = true → V 1 = jS (some ⟨g6, 0, none⟩) m c6) ∧ (D 2 = true → V 2 = jI jZ k) ∧ (D 3 = true → V 3 = .pointer (some ⟨g6, 0 + k * 1, none⟩)) ∧ (D 4 = true → V 4 = jI jZ x) ∧ (D 5 = true → V 5 = .bool q) ∧ (D 6 = true → V 6 = .bool (!q))) ?_ ?_ ?_
     · intro D hD
       exact ⟨by exact S.out.drew.ems 0, (nof (hD 0 (by decide))), (nof (hD 1 (by decide))), (nof (hD 2 (by decide))), (nof (hD 3 (by decide))), (nof (hD 4 (by decide))), (nof (hD 5 (by decide))), (nof (hD 6 (by decide)))⟩
     · intro i o D V w a ho hI hDi haf hev
       obtain ⟨S, f0, f1, f2, f3, f4, f5, f6⟩ := hI
       rcases i with _ | _ | _ | _ | _ | _ | _ | i
       · obtain rfl := inj_ ho
         exact op_row 77 _ rfl S 1 rfl ((hev.old 5 (by kernel_rfl)).trans rfl) Try.isAgg77 (by kernel_rfl) ⟨_, rfl, S, fun _ => rfl, f1, f2, f3, f4, f5, f6⟩
       · obtain rfl := inj_ ho
         exact op_move (.inl rfl) ((hev.old 11 (by kernel_rfl)).trans rfl) ⟨_, rfl, S, f0, fun _ => rfl, f2, f3, f4, f5, f6⟩
       · obtain rfl := inj_ ho
         exact op_move (.inl rfl) ((hev.old 12 (by kernel_rfl)).trans rfl) ⟨_, rfl, S, f0, f1, fun _ => rfl, f3, f4, f5, f6⟩
       · obtain rfl := inj_ ho
         have h1 := aft_ haf 1 rfl
         have h2 := aft_ haf 2 rfl
         exact op_idx _ _ _ rfl 2 1 Try.underlying29 Try.sizeOf2 (hev.at_ 1 56 rfl rfl h1 f1) (hev.at_ 2 57 rfl rfl h2 f2) hlt ⟨_, rfl, S, f0, f1, f2, fun _ => rfl, f4, f5, f6⟩
       · obtain rfl := inj_ ho
         have h3 := aft_ haf 3 rfl
         exact op_cell 2 _ rfl (hev.at_ 3 58 rfl rfl h3 f3) Try.isAgg2 (by have hr := (OwnS.ints (S.get 2 rfl)).1; rw [AL.out] at hr; rw [hr.cellAt _ (by omega)]; simpa using CELL.out) ⟨_, rfl, S, f0, f1, f2, f3, fun _ => rfl, f5, f6⟩
       · obtain rfl := inj_ ho
         have h0 := aft_ haf 0 rfl
         have h4 := aft_ haf 4 rfl
         have hx0 := (hev.at_ 0 55 rfl rfl h0 f0)
         have hx1 := (hev.at_ 4 59 rfl rfl h4 f4)
         refine op_call _ _ _ rfl (enters_of Try.func82 (by kernel_rfl) rfl) #[.agg #[jI jZ r, jS A n c], jI jZ x] (by simp [hx0, hx1]) (HAS.out _) (fun e w2 hh => ?_)
         obtain ⟨rfl, b⟩ := hh
         exact ⟨_, rfl, ⟨_, rfl, S.call b, f0, f1, f2, f3, f4, fun _ => rfl, f6⟩⟩
       · obtain rfl := inj_ ho
         have h5 := aft_ haf 5 rfl
         exact op_not _ _ rfl (hev.at_ 5 60 rfl rfl h5 f5) ⟨_, rfl, S, f0, f1, f2, f3, f4, f5, fun _ => rfl⟩
       · exact absurd ho (by simp)
     intro V w hI
     obtain ⟨S, f0, f1, f2, f3, f4, f5, f6⟩ := hI
     replace S : Hid (Sep noX w0 [bx gh #[jI jZ hd.pos, jI jZ hd.cc, jI jZ hd.ck, jI jZ hd.cv, jI jZ hd.cur, jI jZ hd.want, jI jZ hd.key, jI jZ hd.kid, jI jZ hd.old, jI jZ hd.next, jI jZ hd.new, jS A' n' c', jI jZ hd.thn, jI jZ hd.beg, jI jZ hd.rep, jI jZ hd.out] 31, bx gt #[jI jZ r, jS A n c] 77, ow (jS (some ⟨g6, 0, none⟩) m c6) al F6, bx gb (IL [hd.cur, hd.kid, hd.old, hd.next, hd.new]).toArray 2] w) := Lib.hid S
     simp only [putF, Act.put, sa_, sb_, sc_, f0 rfl, f1 rfl, f2 rfl, f3 rfl, f4 rfl, f5 rfl, f6 rfl]
     clear f0 f1 f2 f3 f4 f5 f6
     cases q
     · go_wp2_with fail
       go_ret
       exact ⟨ret_bool (by simp [show q5 = false from by rw [HQ5.out, ← HAL.out]; exact NO.out (by trivial)]), S.out.below⟩
     · go_wp2_with fail
       go_roundw
       case rel => exact ⟨k + 1, by go_num, by omega, Lib.hid (YES.out (by trivial)), S⟩
       case measure => simp [intOf]; omega
   · obtain rfl : k = m := by omega
     go_wp2_with fail
     go_ret
     have hall : al.all (hasB n) = true := by
       rw [List.all_eq_true]
       intro y hy
       obtain ⟨j, hj, rfl⟩ := List.getElem_of_mem hy
       have := ho.out j (by rw [← AL.out]; exact hj)
       unfold iAt at this
       simpa [hj] using this
     exact ⟨ret_bool (by simp [show q5 = true from by rw [HQ5.out, ← HAL.out]; exact hall]), S.out.below⟩
end Go.Proofs.Ytjookicpmjmdhaa
