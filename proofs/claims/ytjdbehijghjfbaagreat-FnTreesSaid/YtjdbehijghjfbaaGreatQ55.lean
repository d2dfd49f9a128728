/- The law FnTrees, walked: it returns true, and nothing that was there is turned. (Made by genLt.py.) -/
import Derived.Test.YtjdbehijghjfbaaGreatQ51
import Derived.Test.YtjdbehijghjfbaaGreatQ54
import Derived.Test.YtjdbehijghjfbaaGreatQ02
import Derived.ProofKit
import Derived.OpenShut
import Derived.ChangeOld
import Derived.Deep.SlicePairs
import Derived.Test.YtjdbehijghjfbaaGreatQ25
namespace Go.Proofs.YtjdbehijghjfbaaGreat
open Go.RowKit

theorem op_neqBB {o : Oper} {a : Act} {w : World} {K : Act → World → Prop} {Q : Exit → Act → World → Prop} (x y : Operand) (ho : o.op = .binOp .neq 4 x y 4) {q : Bool} (hx : a.eval x = .bool q) (hy : a.eval y = .bool q) (hK : K (a.put o.dst (.bool false)) w) : o.wp Tryz.prog a w K Q := by
  refine op_val ?_ hK
  generalize a.eval = E at hx hy ⊢
  simp [execOp, ho, hx, hy, go_sem]

set_option maxRecDepth 100000 in
set_option maxHeartbeats 16000000 in
theorem lawTrees_walk (A : Option Addr) (n c : Nat) (w0 : World) (h : Bys w0 w0.heap.size A n) (hm : n ≤ 9223372036854775807) :
    Calls Tryz.prog 3 #[.slice A n c] w0 fun e w' => e = .returned (.bool true) ∧ Below w0.heap.size w0 w' := by
  have HH := Lib.hid h
  clear h
  by_cases hn : 4096 < n
  · have hd : ∀ w, Calls Tryz.prog 5 #[.slice A n c] w fun e w' => e = .returned (.bool true) ∧ w = w' := fun w => by
      have := big_any A n c w hm; rwa [decide_eq_true hn] at this
    go_enter Tryz.func3, Tryz.ntmps3
    go_wp2_with (go_at_call 5; refine (hd _).mono ?_; rintro e w1 ⟨rfl, rfl⟩)
    go_ret
    exact ⟨rfl, Below.refl _ _⟩
  have hd : ∀ w, Calls Tryz.prog 5 #[.slice A n c] w fun e w' => e = .returned (.bool false) ∧ w = w' := fun w => by
    have := big_any A n c w hm; rwa [decide_eq_false hn] at this
  have hn : n ≤ 4096 := by omega
  have HD := Lib.hid hd
  have HN := Lib.hid hn
  clear hd hn hm
  have S := Lib.hid (Sep.start noX w0)
  go_enter Tryz.func3, Tryz.ntmps3
  go_wp2_with (go_at_call 5; refine (HD.out _).mono ?_; rintro e w1 ⟨rfl, rfl⟩)
  refine (dRow_any A n c _ (bys_on HH.out S.out.below) HN.out).mono ?_
  rintro e w1 ⟨r, xs, A0, c0, F0, lev, rfl, hsm, ho, hf, b⟩
  have cap0 := Lib.hid ho.cap
  have hlk := fun i hi => rowOf_links r xs lev i hi
  have hl40 := rowOf_len r xs lev
  have IRO := Lib.hid (fun w h => iRowOf_any r xs A0 xs.length c0 lev w h hsm cap0.out.1 cap0.out.2)
  have SRO := Lib.hid (fun w h => sRowOf_any r xs A0 xs.length c0 lev w h hsm)
  generalize rowOfT r xs lev = l at *
  generalize hx : xs.length = n0 at *
  generalize hnl : l.length = nl at *
  have HX := Lib.hid hx
  have HSM := Lib.hid hsm
  have HNL := Lib.hid hnl
  have HLK := Lib.hid hlk
  have HL40 := Lib.hid hl40
  replace S := Lib.hid (S.out.own b ho hf)
  clear ho hf b hx hsm hnl hlk hl40
  have tokA : True := trivial
  go_wp2_with (first
      | go_skip
      | (have _t := tokA; clear _t; refine wpList_op rfl (op_nx 26 rfl S.out _ Tryz.zeroValue26 ?_); clear S tokA; intro g3 w S; replace S := Lib.hid S; simp only [Act.put, List.setIfInBounds_toArray, List.set_cons_succ, List.set_cons_zero])
      | (refine wpList_op rfl (op_putR_0 26 _ _ rfl S rfl _ rfl rfl (by kernel_rfl) rfl ?_); clear S; intro w S; simp only [Act.put])
      | (refine wpList_op rfl (op_row 26 _ rfl S.out 0 rfl rfl Tryz.isAgg26 (by kernel_rfl) ?_); simp only [Act.put, List.setIfInBounds_toArray, List.set_cons_succ, List.set_cons_zero]))
  refine (IRO.out _ (OwnS.rs (S.out.get 1 rfl) HX.out)).mono ?_
  rintro e w1 ⟨Al, cl, Fl, rfl, ho, hf, b⟩
  replace S : Hid (Sep noX w0 [ow (.slice Al nl cl) l Fl, bx g3 #[.int .i64 r, .slice A0 n0 c0] 26, ow (.slice A0 n0 c0) xs F0] w1) := Lib.hid (S.out.own b ho hf)
  clear ho hf b
  go_wp2_with fail
  refine (dTree_any A n c _ (bys_on HH.out S.out.below) HN.out).mono ?_
  rintro e w1 ⟨r2, xs2, A2, c2, F2, rfl, hsm, ho, hf, b⟩
  have CAP2 := Lib.hid ho.cap
  generalize hx : xs2.length = n2 at *
  have HX2 := Lib.hid hx
  have HSM2 := Lib.hid hsm
  replace S := Lib.hid (S.out.own b ho hf)
  clear ho hf b hx hsm
  have tokB : True := trivial
  go_wp2_with (first
      | go_skip
      | (have _t := tokB; clear _t; refine wpList_op rfl (op_nx 26 rfl S.out _ Tryz.zeroValue26 ?_); clear S tokB; intro g6 w S; replace S := Lib.hid S; simp only [Act.put, List.setIfInBounds_toArray, List.set_cons_succ, List.set_cons_zero])
      | (refine wpList_op rfl (op_putR_0 26 _ _ rfl S rfl _ rfl rfl (by kernel_rfl) rfl ?_); clear S; intro w S; simp only [Act.put]))
  refine wp_region_evg (by kernel_rfl) _ (by kernel_rfl) (by kernel_rfl) 68 rfl (by kernel_rfl) (fun D V w => ∃ A5 : Option Addr, ∃ c5 : Nat, ∃ F5 : FP, ∃ A7 : Option Addr, ∃ c7 : Nat, ∃ F7 : FP, ∃ A8 : Option Addr, ∃ c8 : Nat, ∃ F8 : FP, Sep noX w0 [bx g6 #[.int .i64 r2, .slice A2 n2 c2] 26, ow (.slice A2 n2 c2) xs2 F2, ow (.slice Al nl cl) l Fl, bx g3 #[.int .i64 r, .slice A0 n0 c0] 26, ow (.slice A0 n0 c0) xs F0, cnd (D 3) em (ow (.slice A5 nl c5) l F5), cnd (D 14) em (ow (.slice A7 1 c7) [newNd] F7), cnd (D 15) em (ow (.slice A8 1 c8) [newNd] F8)] w ∧ (D 0 = true → V 0 = .slice Al nl cl) ∧ (D 1 = true → V 1 = .agg #[.int .i64 r, .slice A0 n0 c0]) ∧ (D 2 = true → V 2 = .int .i64 lev) ∧ (D 3 = true → V 3 = .slice A5 nl c5) ∧ (D 4 = true → V 4 = .bool true) ∧ (D 5 = true → V 5 = .bool false) ∧ (D 6 = true → V 6 = .bool false) ∧ (D 7 = true → V 7 = .agg #[.int .i64 r2, .slice A2 n2 c2]) ∧ (D 8 = true → V 8 = .bool (treeOk r2 xs2)) ∧ (D 9 = true → V 9 = .agg #[.int .i64 r2, .slice A2 n2 c2]) ∧ (D 10 = true → V 10 = .bool (treeOk r2 xs2)) ∧ (D 11 = true → V 11 = .bool false) ∧ (D 12 = true → V 12 = .bool false) ∧ (D 13 = true → V 13 = .bool false) ∧ (D 14 = true → V 14 = .agg #[.int .i64 0, .slice A7 1 c7]) ∧ (D 15 = true → V 15 = .agg #[.int .i64 0, .slice A8 1 c8]) ∧ (D 16 = true → V 16 = .bool true) ∧ (D 17 = true → V 17 = .bool false) ∧ (D 18 = true → V 18 = .bool false)) ?_ ?_ ?_
  · intro D hD
    have d3 := hD 3 (by decide)
    have d14 := hD 14 (by decide)
    have d15 := hD 15 (by decide)
    exact ⟨none, 0, fun _ => False, none, 0, fun _ => False, none, 0, fun _ => False, by rw [cnd_f d3, cnd_f d14, cnd_f d15]; exact S.out.drew.ems 3, (nof (hD 0 (by decide))), (nof (hD 1 (by decide))), (nof (hD 2 (by decide))), (nof (hD 3 (by decide))), (nof (hD 4 (by decide))), (nof (hD 5 (by decide))), (nof (hD 6 (by decide))), (nof (hD 7 (by decide))), (nof (hD 8 (by decide))), (nof (hD 9 (by decide))), (nof (hD 10 (by decide))), (nof (hD 11 (by decide))), (nof (hD 12 (by decide))), (nof (hD 13 (by decide))), (nof (hD 14 (by decide))), (nof (hD 15 (by decide))), (nof (hD 16 (by decide))), (nof (hD 17 (by decide))), (nof (hD 18 (by decide)))⟩
  · intro i o D V w a ho hI hDi haf hev
    obtain ⟨A5, c5, F5, A7, c7, F7, A8, c8, F8, S, f0, f1, f2, f3, f4, f5, f6, f7, f8, f9, f10, f11, f12, f13, f14, f15, f16, f17, f18⟩ := hI
    rcases i with _ | _ | _ | _ | _ | _ | _ | _ | _ | _ | _ | _ | _ | _ | _ | _ | _ | _ | _ | i
    · obtain rfl := inj_ ho
      refine ⟨fun _ _ hq => (nomatch hq), ?_⟩
      exact op_move (.inl rfl) ((hev.old 5 (by kernel_rfl)).trans rfl) ⟨_, rfl, A5, c5, F5, A7, c7, F7, A8, c8, F8, S, fun _ => rfl, f1, f2, f3, f4, f5, f6, f7, f8, f9, f10, f11, f12, f13, f14, f15, f16, f17, f18⟩
    · obtain rfl := inj_ ho
      refine ⟨fun _ _ hq => (nomatch hq), ?_⟩
      exact op_row 26 _ rfl S 3 rfl ((hev.old 3 (by kernel_rfl)).trans rfl) Tryz.isAgg26 (by kernel_rfl) ⟨_, rfl, A5, c5, F5, A7, c7, F7, A8, c8, F8, S, f0, fun _ => rfl, f2, f3, f4, f5, f6, f7, f8, f9, f10, f11, f12, f13, f14, f15, f16, f17, f18⟩
    · obtain rfl := inj_ ho
      refine ⟨fun _ _ hq => (nomatch hq), ?_⟩
      exact op_move (.inl rfl) ((hev.old 4 (by kernel_rfl)).trans rfl) ⟨_, rfl, A5, c5, F5, A7, c7, F7, A8, c8, F8, S, f0, f1, fun _ => rfl, f3, f4, f5, f6, f7, f8, f9, f10, f11, f12, f13, f14, f15, f16, f17, f18⟩
    · obtain rfl := inj_ ho
      have h1 : D 1 = true := after_on haf 1 rfl
      have h2 : D 2 = true := after_on haf 2 rfl
      refine ⟨fun _ _ hq => (nomatch hq), ?_⟩
      have hx0 := (hev.at_ 1 21 rfl rfl h1 f1)
      have hx1 := (hev.at_ 2 22 rfl rfl h2 f2)
      refine op_call _ _ _ rfl (enters_of Tryz.func10 (by kernel_rfl) rfl) #[.agg #[.int .i64 r, .slice A0 n0 c0], .int .i64 lev] (by simp [hx0, hx1]) (SRO.out w (OwnS.rs (S.get 4 rfl) HX.out)) (fun e w2 hh => ?_)
      obtain ⟨A9, c9, F9, rfl, oo, ff, bb⟩ := hh
      have S2 := S.turn 5 (I := em) (by simp only [gs_, gz_, cnd_f hDi]) (Only.of_below bb) (ow (.slice A9 nl c9) l F9) oo (fun k hk => ⟨.inr (ff k hk).1, (ff k hk).2⟩)
      exact ⟨_, rfl, ⟨_, rfl, A9, c9, F9, A7, c7, F7, A8, c8, F8, S2, f0, f1, f2, fun _ => rfl, f4, f5, f6, f7, f8, f9, f10, f11, f12, f13, f14, f15, f16, f17, f18⟩⟩
    · obtain rfl := inj_ ho
      have h0 : D 0 = true := after_on haf 0 rfl
      have h3 : D 3 = true := after_on haf 3 rfl
      refine ⟨fun _ _ hq => (nomatch hq), ?_⟩
      have hx0 := (hev.at_ 0 20 rfl rfl h0 f0)
      have hx1 := (hev.at_ 3 23 rfl rfl h3 f3)
      refine op_call _ _ _ rfl (enters_of Tryz.func9 (by kernel_rfl) rfl) #[.slice Al nl cl, .slice A5 nl c5] (by simp [hx0, hx1]) (likeI_yes Al A5 nl cl c5 l w (OwnS.rs (S.get 2 rfl) HNL.out) (OwnS.rs (S.get 5 (I := ow (.slice A5 nl c5) l F5) (by simp only [gs_, gz_, cnd_t h3])) HNL.out) (by have := HL40.out; omega)) (fun e w2 hh => ?_)
      obtain ⟨rfl, b⟩ := hh
      exact ⟨_, rfl, ⟨_, rfl, A5, c5, F5, A7, c7, F7, A8, c8, F8, S.call b, f0, f1, f2, f3, fun _ => rfl, f5, f6, f7, f8, f9, f10, f11, f12, f13, f14, f15, f16, f17, f18⟩⟩
    · obtain rfl := inj_ ho
      have h4 : D 4 = true := after_on haf 4 rfl
      refine ⟨fun _ _ hq => (nomatch hq), ?_⟩
      exact op_not _ _ rfl (hev.at_ 4 24 rfl rfl h4 f4) ⟨_, rfl, A5, c5, F5, A7, c7, F7, A8, c8, F8, S, f0, f1, f2, f3, f4, fun _ => rfl, f6, f7, f8, f9, f10, f11, f12, f13, f14, f15, f16, f17, f18⟩
    · obtain rfl := inj_ ho
      have h5 : D 5 = true := after_on haf 5 rfl
      refine ⟨fun _ _ hq => (nomatch hq), ?_⟩
      exact op_move (.inl rfl) (hev.at_ 5 25 rfl rfl h5 f5) ⟨_, rfl, A5, c5, F5, A7, c7, F7, A8, c8, F8, S, f0, f1, f2, f3, f4, f5, fun _ => rfl, f7, f8, f9, f10, f11, f12, f13, f14, f15, f16, f17, f18⟩
    · obtain rfl := inj_ ho
      have h6 : D 6 = true := after_on haf 6 rfl
      refine ⟨fun _ _ hq => by cases Option.some.inj hq; exact ⟨h6, f6 h6⟩, ?_⟩
      exact op_row 26 _ rfl S 0 rfl ((hev.old 6 (by kernel_rfl)).trans rfl) Tryz.isAgg26 (by kernel_rfl) ⟨_, rfl, A5, c5, F5, A7, c7, F7, A8, c8, F8, S, f0, f1, f2, f3, f4, f5, f6, fun _ => rfl, f8, f9, f10, f11, f12, f13, f14, f15, f16, f17, f18⟩
    · obtain rfl := inj_ ho
      have h7 : D 7 = true := after_on haf 7 rfl
      have h6 : D 6 = true := after_on haf 6 rfl
      refine ⟨fun _ _ hq => by cases Option.some.inj hq; exact ⟨h6, f6 h6⟩, ?_⟩
      have hx0 := (hev.at_ 7 27 rfl rfl h7 f7)
      refine op_call _ _ _ rfl (enters_of Tryz.func11 (by kernel_rfl) rfl) #[.agg #[.int .i64 r2, .slice A2 n2 c2]] (by simp [hx0]) (iTreeOk_any r2 xs2 A2 n2 c2 w (OwnS.rs (S.get 1 rfl) HX2.out) HSM2.out CAP2.out.1 CAP2.out.2) (fun e w2 hh => ?_)
      obtain ⟨rfl, b⟩ := hh
      exact ⟨_, rfl, ⟨_, rfl, A5, c5, F5, A7, c7, F7, A8, c8, F8, S.call b, f0, f1, f2, f3, f4, f5, f6, f7, fun _ => rfl, f9, f10, f11, f12, f13, f14, f15, f16, f17, f18⟩⟩
    · obtain rfl := inj_ ho
      have h6 : D 6 = true := after_on haf 6 rfl
      refine ⟨fun _ _ hq => by cases Option.some.inj hq; exact ⟨h6, f6 h6⟩, ?_⟩
      exact op_row 26 _ rfl S 0 rfl ((hev.old 6 (by kernel_rfl)).trans rfl) Tryz.isAgg26 (by kernel_rfl) ⟨_, rfl, A5, c5, F5, A7, c7, F7, A8, c8, F8, S, f0, f1, f2, f3, f4, f5, f6, f7, f8, fun _ => rfl, f10, f11, f12, f13, f14, f15, f16, f17, f18⟩
    · obtain rfl := inj_ ho
      have h9 : D 9 = true := after_on haf 9 rfl
      have h6 : D 6 = true := after_on haf 6 rfl
      refine ⟨fun _ _ hq => by cases Option.some.inj hq; exact ⟨h6, f6 h6⟩, ?_⟩
      have hx0 := (hev.at_ 9 29 rfl rfl h9 f9)
      refine op_call _ _ _ rfl (enters_of Tryz.func12 (by kernel_rfl) rfl) #[.agg #[.int .i64 r2, .slice A2 n2 c2]] (by simp [hx0]) (sTreeOk_any r2 xs2 A2 n2 c2 w (OwnS.rs (S.get 1 rfl) HX2.out) HSM2.out) (fun e w2 hh => ?_)
      obtain ⟨rfl, b⟩ := hh
      exact ⟨_, rfl, ⟨_, rfl, A5, c5, F5, A7, c7, F7, A8, c8, F8, S.call b, f0, f1, f2, f3, f4, f5, f6, f7, f8, f9, fun _ => rfl, f11, f12, f13, f14, f15, f16, f17, f18⟩⟩
    · obtain rfl := inj_ ho
      have h8 : D 8 = true := after_on haf 8 rfl
      have h10 : D 10 = true := after_on haf 10 rfl
      have h6 : D 6 = true := after_on haf 6 rfl
      refine ⟨fun _ _ hq => by cases Option.some.inj hq; exact ⟨h6, f6 h6⟩, ?_⟩
      exact op_neqBB _ _ rfl (hev.at_ 8 28 rfl rfl h8 f8) (hev.at_ 10 30 rfl rfl h10 f10) ⟨_, rfl, A5, c5, F5, A7, c7, F7, A8, c8, F8, S, f0, f1, f2, f3, f4, f5, f6, f7, f8, f9, f10, fun _ => rfl, f12, f13, f14, f15, f16, f17, f18⟩
    · obtain rfl := inj_ ho
      have h6 : D 6 = true := after_on haf 6 rfl
      have h11 : D 11 = true := after_on haf 11 rfl
      refine ⟨fun _ _ hq => (nomatch hq), ?_⟩
      exact op_pick _ _ _ rfl (hev.at_ 6 26 rfl rfl h6 f6) ((hev.at_ 11 31 rfl rfl h11 f11)) ⟨_, rfl, A5, c5, F5, A7, c7, F7, A8, c8, F8, S, f0, f1, f2, f3, f4, f5, f6, f7, f8, f9, f10, f11, fun _ => rfl, f13, f14, f15, f16, f17, f18⟩
    · obtain rfl := inj_ ho
      have h12 : D 12 = true := after_on haf 12 rfl
      refine ⟨fun _ _ hq => (nomatch hq), ?_⟩
      exact op_move (.inl rfl) (hev.at_ 12 32 rfl rfl h12 f12) ⟨_, rfl, A5, c5, F5, A7, c7, F7, A8, c8, F8, S, f0, f1, f2, f3, f4, f5, f6, f7, f8, f9, f10, f11, f12, fun _ => rfl, f14, f15, f16, f17, f18⟩
    · obtain rfl := inj_ ho
      have h13 : D 13 = true := after_on haf 13 rfl
      refine ⟨fun _ _ hq => by cases Option.some.inj hq; exact ⟨h13, f13 h13⟩, ?_⟩
      refine op_call _ _ _ rfl (enters_of Tryz.func14 (by kernel_rfl) rfl) #[] (by simp) (iNewTree_any w) (fun e w2 hh => ?_)
      obtain ⟨A9, c9, F9, rfl, oo, ff, bb⟩ := hh
      have S2 := S.turn 6 (I := em) (by simp only [gs_, gz_, cnd_f hDi]) (Only.of_below bb) (ow (.slice A9 1 c9) [newNd] F9) oo (fun k hk => ⟨.inr (ff k hk).1, (ff k hk).2⟩)
      exact ⟨_, rfl, ⟨_, rfl, A5, c5, F5, A9, c9, F9, A8, c8, F8, S2, f0, f1, f2, f3, f4, f5, f6, f7, f8, f9, f10, f11, f12, f13, fun _ => rfl, f15, f16, f17, f18⟩⟩
    · obtain rfl := inj_ ho
      have h13 : D 13 = true := after_on haf 13 rfl
      refine ⟨fun _ _ hq => by cases Option.some.inj hq; exact ⟨h13, f13 h13⟩, ?_⟩
      refine op_call _ _ _ rfl (enters_of Tryz.func15 (by kernel_rfl) rfl) #[] (by simp) (sNewTree_any w) (fun e w2 hh => ?_)
      obtain ⟨A9, c9, F9, rfl, oo, ff, bb⟩ := hh
      have S2 := S.turn 7 (I := em) (by simp only [gs_, gz_, cnd_f hDi]) (Only.of_below bb) (ow (.slice A9 1 c9) [newNd] F9) oo (fun k hk => ⟨.inr (ff k hk).1, (ff k hk).2⟩)
      exact ⟨_, rfl, ⟨_, rfl, A5, c5, F5, A7, c7, F7, A9, c9, F9, S2, f0, f1, f2, f3, f4, f5, f6, f7, f8, f9, f10, f11, f12, f13, f14, fun _ => rfl, f16, f17, f18⟩⟩
    · obtain rfl := inj_ ho
      have h14 : D 14 = true := after_on haf 14 rfl
      have h15 : D 15 = true := after_on haf 15 rfl
      have h13 : D 13 = true := after_on haf 13 rfl
      refine ⟨fun _ _ hq => by cases Option.some.inj hq; exact ⟨h13, f13 h13⟩, ?_⟩
      have hx0 := (hev.at_ 14 34 rfl rfl h14 f14)
      have hx1 := (hev.at_ 15 35 rfl rfl h15 f15)
      refine op_call _ _ _ rfl (enters_of Tryz.func13 (by kernel_rfl) rfl) #[.agg #[.int .i64 0, .slice A7 1 c7], .agg #[.int .i64 0, .slice A8 1 c8]] (by simp [hx0, hx1]) (likeT_yes 0 [newNd] A7 A8 1 c7 c8 w (OwnS.rs (S.get 6 (I := ow (.slice A7 1 c7) [newNd] F7) (by simp only [gs_, gz_, cnd_t h14])) rfl) (OwnS.rs (S.get 7 (I := ow (.slice A8 1 c8) [newNd] F8) (by simp only [gs_, gz_, cnd_t h15])) rfl) newNd_sm) (fun e w2 hh => ?_)
      obtain ⟨rfl, b⟩ := hh
      exact ⟨_, rfl, ⟨_, rfl, A5, c5, F5, A7, c7, F7, A8, c8, F8, S.call b, f0, f1, f2, f3, f4, f5, f6, f7, f8, f9, f10, f11, f12, f13, f14, f15, fun _ => rfl, f17, f18⟩⟩
    · obtain rfl := inj_ ho
      have h16 : D 16 = true := after_on haf 16 rfl
      have h13 : D 13 = true := after_on haf 13 rfl
      refine ⟨fun _ _ hq => by cases Option.some.inj hq; exact ⟨h13, f13 h13⟩, ?_⟩
      exact op_not _ _ rfl (hev.at_ 16 36 rfl rfl h16 f16) ⟨_, rfl, A5, c5, F5, A7, c7, F7, A8, c8, F8, S, f0, f1, f2, f3, f4, f5, f6, f7, f8, f9, f10, f11, f12, f13, f14, f15, f16, fun _ => rfl, f18⟩
    · obtain rfl := inj_ ho
      have h13 : D 13 = true := after_on haf 13 rfl
      have h17 : D 17 = true := after_on haf 17 rfl
      refine ⟨fun _ _ hq => (nomatch hq), ?_⟩
      exact op_pick _ _ _ rfl (hev.at_ 13 33 rfl rfl h13 f13) ((hev.at_ 17 37 rfl rfl h17 f17)) ⟨_, rfl, A5, c5, F5, A7, c7, F7, A8, c8, F8, S, f0, f1, f2, f3, f4, f5, f6, f7, f8, f9, f10, f11, f12, f13, f14, f15, f16, f17, fun _ => rfl⟩
    · exact absurd ho (by simp)
  intro V w hI
  obtain ⟨A5, c5, F5, A7, c7, F7, A8, c8, F8, S, f0, f1, f2, f3, f4, f5, f6, f7, f8, f9, f10, f11, f12, f13, f14, f15, f16, f17, f18⟩ := hI
  replace f0 := f0 rfl
  replace f1 := f1 rfl
  replace f2 := f2 rfl
  replace f3 := f3 rfl
  replace f4 := f4 rfl
  replace f5 := f5 rfl
  replace f6 := f6 rfl
  replace f7 := f7 rfl
  replace f8 := f8 rfl
  replace f9 := f9 rfl
  replace f10 := f10 rfl
  replace f11 := f11 rfl
  replace f12 := f12 rfl
  replace f13 := f13 rfl
  replace f14 := f14 rfl
  replace f15 := f15 rfl
  replace f16 := f16 rfl
  replace f17 := f17 rfl
  replace f18 := f18 rfl
  replace S : Hid (Sep noX w0 [bx g6 #[.int .i64 r2, .slice A2 n2 c2] 26, ow (.slice A2 n2 c2) xs2 F2, ow (.slice Al nl cl) l Fl, bx g3 #[.int .i64 r, .slice A0 n0 c0] 26, ow (.slice A0 n0 c0) xs F0, ow (.slice A5 nl c5) l F5, ow (.slice A7 1 c7) [newNd] F7, ow (.slice A8 1 c8) [newNd] F8] w) := Lib.hid S
  simp only [putF, Act.put, List.setIfInBounds_toArray, List.set_cons_succ, List.set_cons_zero, f0, f1, f2, f3, f4, f5, f6, f7, f8, f9, f10, f11, f12, f13, f14, f15, f16, f17, f18]
  clear f0 f1 f2 f3 f4 f5 f6 f7 f8 f9 f10 f11 f12 f13 f14 f15 f16 f17 f18
  replace S : Hid (Sep noX w0 [bx g6 #[.int .i64 r2, .slice A2 n2 c2] 26, ow (.slice A2 n2 c2) xs2 F2, ow (.slice Al nl cl) l Fl, bx g3 #[.int .i64 r, .slice A0 n0 c0] 26, ow (.slice A0 n0 c0) xs F0] w) := Lib.hid (S.out.drop (List.sublist_append_left [bx g6 #[.int .i64 r2, .slice A2 n2 c2] 26, ow (.slice A2 n2 c2) xs2 F2, ow (.slice Al nl cl) l Fl, bx g3 #[.int .i64 r, .slice A0 n0 c0] 26, ow (.slice A0 n0 c0) xs F0] _))
  go_wp2_with fail
  go_loopw [7] (fun i wr => ∃ k : Nat, i = .int .i64 k ∧ k ≤ 40 ∧ Hid (Sep noX w0 [bx g6 #[.int .i64 r2, .slice A2 n2 c2] 26, ow (.slice A2 n2 c2) xs2 F2, ow (.slice Al nl cl) l Fl, bx g3 #[.int .i64 r, .slice A0 n0 c0] 26, ow (.slice A0 n0 c0) xs F0] wr)) (fun i _ => 41 - (intOf i).toNat)
  case atStart => exact ⟨0, rfl, by omega, S⟩
  case round =>
    obtain ⟨k, rfl, hk, S1⟩ := hrel
    clear S
    have S := S1
    clear S1
    have hl40 := HL40.out
    by_cases hlt : k + 1 < nl
    · have gt : decide ((k : Int) + 1 < (nl : Int)) = true := by simp; omega
      obtain ⟨q0, q1, q2⟩ := HLK.out k (by omega)
      replace q2 := q2 hlt
      obtain ⟨bl, ol, hAl, hbl, hcl⟩ := (OwnS.rs (S.out.get 2 rfl) HNL.out).ints (by omega)
      subst hAl
      obtain ⟨q, hq⟩ : ∃ q : Nat, iAt l k = (q : Int) := ⟨(iAt l k).toNat, (Int.toNat_of_nonneg q0).symm⟩
      have hqn : q < n0 := by omega
      obtain ⟨bt, ot, hA0, hbt, A9, n9, c9, ⟨x0, x1, x2, x3, x4⟩, _⟩ := (OwnS.rs (S.out.get 4 rfl) HX.out).ndAt q hqn
      have ck := hcl k (by omega)
      have cl1 := hcl (k + 1) (by omega)
      rw [hq] at ck
      rw [hq, Int.toNat_natCast] at q2
      rw [q2] at x3
      have r3 : wr.heap[g3]? = some (.cells #[.int .i64 r, .slice A0 n0 c0] 26 (0, 0)) := S.out.get 3 rfl
      have lt3 : g3 < wr.heap.size := (Array.getElem?_eq_some_iff.1 r3).1
      have d1 : wr.cell? ⟨g3, 1, none⟩ = some (.slice A0 n0 c0) := by rw [cell_of_row _ _ 1 _ _ _ r3]; rfl
      rw [hA0] at d1
      have e1 := Later.of_cell d1 (Below.refl _ _) lt3
      have e2 := Later.of_cell ck (Below.refl _ _) hbl
      have e3 := Later.of_cell cl1 (Below.refl _ _) hbl
      have e4 := Later.of_cell x3 (Below.refl _ _) hbt
      generalize iAt l (k + 1) = z at *
      have HA0 := Lib.hid hA0
      clear ck cl1 x0 x1 x2 x3 x4 r3 lt3 d1 hcl q0 q1 q2 hA0
      go_wp2
      refine wp_region_later (by kernel_rfl) (by kernel_rfl) ?_
      repeat (go_big_quiet_step (fail))
      refine wpQuiet_nil ?_
      intro _ hw'
      obtain ⟨s, rfl⟩ := hw'
      have S3 := Lib.hid (S.out.call s.2)
      clear e1 e2 e3 e4
      go_wp2
      go_roundw
      case rel => exact ⟨k + 1, by go_num, by omega, S3⟩
      case measure => simp [intOf]; omega
    · have gt : decide ((k : Int) + 1 < (nl : Int)) = false := by simp; omega
      have g4 : decide ((nl : Int) ≤ 40) = true := by simp; omega
      go_wp2_with fail
      refine (iNewTree_any _).mono ?_
      rintro e w1 ⟨A7, c7, F7, rfl, ho, hf, b⟩
      have TK := Lib.hid (iTreeOk_any 0 [newNd] A7 1 c7 _ (OwnS.rs ho rfl) newNd_sm ho.cap.1 ho.cap.2)
      rw [show treeOk 0 [newNd] = true from by decide] at TK
      replace S := Lib.hid (S.out.own b ho hf)
      clear ho hf b
      go_wp2_with fail
      refine TK.out.mono ?_
      rintro e w9 ⟨rfl, b⟩
      replace S := Lib.hid (S.out.call b)
      clear b
      go_wp2_with fail
      go_ret
      exact ⟨rfl, S.out.below⟩
end Go.Proofs.YtjdbehijghjfbaaGreat
namespace Go.Proofs.YtjdbehijghjfbaaGreat
open Go.ChangeShapes Go.WideShapes Go.ChangeAt Go.RowKit Go.Deep

set_option maxRecDepth 100000 in
theorem own : ownKnob Tryz.prog.godebug = none := by kernel_rfl
set_option maxRecDepth 100000 in
theorem laidOut : laidOutB Tryz.prog = true := by kernel_rfl
end Go.Proofs.YtjdbehijghjfbaaGreat
namespace Go.Proofs.YtjdbehijghjfbaaGreat
open Go.ChangeShapes Go.WideShapes Go.ChangeAt Go.RowKit

set_option maxRecDepth 100000 in
theorem Bys_of_trod {H : Type} {enc : TypeId × Value → H} {W : World} {r : Reach} {base : Nat} {v : Value} {d : DataW H} {p : List MemPlace}
    (hv : Value.okWide Tryz.prog W r base 22 v) (h : DataW.Trod enc Tryz.prog W 0 (fun _ => true) true 22 v d p) :
    ∃ A n c, v = .slice A n c ∧ Bys W W.heap.size A n ∧ n ≤ 9223372036854775807 := by
  obtain ⟨a0, len0, cap0, rfl⟩ := okWide_slice Tryz.underlying22 hv
  obtain ⟨fuel, hf⟩ := h
  rcases open_ints Tryz.underlying22 Tryz.underlying5 (by kernel_rfl) hf with ⟨hcs, _⟩ | ⟨x, l, c, zs, hcs, _, hl, hm, hz, _, hcell, hwz⟩
  · simp [Value.cells] at hcs
    obtain ⟨rfl, rfl, rfl⟩ := hcs
    exact ⟨_, _, _, rfl, fun h0 => absurd h0 (by omega), by omega⟩
  · simp [Value.cells] at hcs
    obtain ⟨rfl, rfl, rfl⟩ := hcs
    refine ⟨_, _, _, rfl, fun h0 => ?_, by unfold maxLen at hm; omega⟩
    have hz2 : zs.length = cap0 := by simpa using hz
    obtain ⟨b, off, spot⟩ := x
    have hc0 := hcell 0 (by omega)
    have hspot : spot = none := by simpa [Addr.add] using World.cell?_spot hc0
    subst hspot
    have hadd : ∀ i, (⟨b, off, none⟩ : Addr).add i = ⟨b, off + i, none⟩ := by intro i; unfold Addr.add; split <;> simp_all
    refine ⟨b, off, rfl, ?_, fun i hi => ?_⟩
    · have := World.block_lt_of_cell? _ _ hc0
      simpa [Addr.add] using this
    · have hc := hcell i (by omega)
      rw [hadd] at hc
      refine ⟨_, hc, ?_⟩
      have hw := hwz (zs.getD i 0) (by rw [List.getD_eq_getElem?_getD, List.getElem?_eq_getElem (by omega)]; simp)
      simp [Lit.wf, IntKind.min, IntKind.max, IntKind.signed, IntKind.bits] at hw
      rw [List.getD_eq_getElem?_getD]
      omega
end Go.Proofs.YtjdbehijghjfbaaGreat
