/- The exact law of Called, walked: it returns true, and nothing that was there is turned, if the model and the code answer alike. (Made by genL16.py.) -/
import Derived.Test.YtjookicpmjmdhaaE23
import Derived.Test.YtjookicpmjmdhaaE25
namespace Go.Proofs.Ytjookicpmjmdhaa
open Go.RowKit

theorem mkH_len (k : Nat) (zs : List Int) {n : Nat} (h : zs.length = n) : (mkS k zs).length = n := by rw [mkS_length]; exact h

set_option maxRecDepth 100000 in
set_option maxHeartbeats 16000000 in
theorem lawCalled_walk (hd rd : Hd) (kq : Int) (A : Option Addr) (n c : Nat) (cc ck cv : Int) (w0 : World) (h : RS w0 w0.heap.size A n hd.st) (hm : n ≤ 9223372036854775807)
    (hS : ∀ (A : Option Addr) (c : Nat) (w : World), Small.sm hd.st → n ≤ c → c ≤ 9223372036854775807 → RS w w.heap.size A n hd.st → Calls Try.prog 16 #[hdV hd A n c, .agg #[.int .i64 cc, .int .i64 ck, .int .i64 cv]] w (GivesHI w rd kq))
    (hI : ∀ (A : Option Addr) (c : Nat) (w : World), Small.sm hd.st → n ≤ c → c ≤ 9223372036854775807 → RS w w.heap.size A n hd.st → Calls Try.prog 15 #[hdV hd A n c, .agg #[.int .i64 cc, .int .i64 ck, .int .i64 cv]] w (GivesHI w rd kq)) (hr0 : Small.sm rd.st) :
    Calls Try.prog 8 #[hdV hd A n c, .agg #[.int .i64 cc, .int .i64 ck, .int .i64 cv]] w0 fun e w' => e = .returned (.bool true) ∧ Below w0.heap.size w0 w' := by
  have hn0 := h.1
  have HH := Lib.hid h
  have SZ := Lib.hid (fun w (_ : RS w w.heap.size A n hd.st) => szH_any hd A n c 1048576 w (by omega) hm)
  have S := Lib.hid (Sep.start noX w0)
  have tok0 : True := trivial
  have tok1 : True := trivial
  rcases left_cases 1048576 n with ⟨hq, hlt⟩ | ⟨hq, hle⟩
  · rw [hq] at SZ
    clear hq hlt hn0 hS hI hr0 h hm
    unfold hdV at *
    go_enter Try.func8, Try.ntmps8
    go_wp2_with (first
        | go_skip
        | (have _t := tok0; clear _t; refine wpList_op rfl (op_bx 49 _ rfl S.out _ rfl ?_); clear S tok0; intro gx w S; replace S := Lib.hid S; simp only [Act.put, List.setIfInBounds_toArray, List.set_cons_succ, List.set_cons_zero])
        | (have _t := tok1; clear _t; refine wpList_op rfl (op_bx 44 _ rfl S.out _ rfl ?_); clear S tok1; intro gp w S; replace S := Lib.hid S; simp only [Act.put, List.setIfInBounds_toArray, List.set_cons_succ, List.set_cons_zero])
        | (refine wpList_op rfl (op_row 49 _ rfl S.out 1 rfl rfl Try.isAgg49 (by kernel_rfl) ?_); simp only [Act.put, List.setIfInBounds_toArray, List.set_cons_succ, List.set_cons_zero]))
    refine (SZ.out _ (S.out.rs HH.out)).mono ?_
    rintro e w ⟨rfl, b⟩
    replace S := Lib.hid (S.out.call b)
    clear b
    go_wp2_with fail
    go_ret
    exact ⟨rfl, S.out.below⟩
  rw [hq] at SZ
  have hsm : Small.sm hd.st := by show hd.st.length ≤ 1048576; omega
  have hn1 : n ≤ 1048576 := hle
  have HN := Lib.hid hn0
  obtain ⟨L0, hL0⟩ : ∃ L0 : Nat, L0 = 1048576 - n := ⟨_, rfl⟩
  rw [← hL0] at SZ
  have gL : decide ((L0 : Int) < 0) = false := by simp
  obtain ⟨nl, hnl⟩ : ∃ nl, rd.st.length = nl := ⟨_, rfl⟩
  have HNL := Lib.hid hnl
  have hnl1 : nl ≤ 1048576 := by rw [← hnl]; exact hr0
  have TN : Hid (∀ w, RS w w.heap.size A n hd.st → Calls Try.prog 28 #[hdV hd A n c] w fun e w' => ∃ A' c' F, e = .returned (hdV hd A' n c') ∧ OwnS w' (.slice A' n c') hd.st F ∧ Fresh F w w' ∧ Below w.heap.size w w') := Lib.hid (fun w h => (toH_any hd A n c w h hn1).mono fun e w' ⟨A', c', F, he, ho, hf, hb⟩ => by
    rw [hn0] at he ho
    exact ⟨A', c', F, he, ho, hf, hb⟩)
  have TP := Lib.hid (toC_any cc ck cv)
  have HS := Lib.hid (fun A c w a b => hS A c w hsm a b)
  have HI := Lib.hid (fun A c w a b => hI A c w hsm a b)
  have EL := Lib.hid (fun (A B : Option Addr) {c d : Nat} w (h : RS w w.heap.size A nl rd.st) (h' : RS w w.heap.size B nl rd.st) => eqH_yes rd A B nl c d w h h' hnl1)
  have EX := Lib.hid (fun (A B : Option Addr) {c d : Nat} w (h : RS w w.heap.size A n hd.st) (h' : RS w w.heap.size B n hd.st) => eqH_yes hd A B n c d w h h' hn1)
  obtain ⟨K1, hK1⟩ : ∃ K1 : Nat, 1 + cntS hd.st = K1 := ⟨_, rfl⟩
  obtain ⟨K2, hK2⟩ : ∃ K2 : Nat, 1 + cntS rd.st = K2 := ⟨_, rfl⟩
  have g1 : decide ((K1 : Int) < 0) = false := by simp
  have g2 : decide ((K2 : Int) < 0) = false := by simp
  have MX := Lib.hid (fun A {c : Nat} {F : FP} w (h : OwnS w (.slice A n c) hd.st F) => mkH_any hd A n c 1 F w h hn1 (by omega))
  have MG := Lib.hid (fun A {c : Nat} {F : FP} w (h : OwnS w (.slice A nl c) rd.st F) => mkH_any rd A nl c 1 F w h hnl1 (by omega))
  have DG := Lib.hid (fun A {c : Nat} w (h : RS w w.heap.size A nl (mkS 1 rd.st)) => hdH_any rd A nl c 1 w rd.st h hnl1 (by omega))
  rw [hK1] at MX
  rw [hK2] at MG DG
  have ML := Lib.hid (mkH_len 1 rd.st hnl)
  have gb : (kq != kq) = false := by simp
  clear hq hle hL0 hnl hS hI hr0 h hm hsm hn0 hK1 hK2 hn1 hnl1
  unfold hdV at *
  go_enter Try.func8, Try.ntmps8
  go_wp2_with (first
      | go_skip
      | (have _t := tok0; clear _t; refine wpList_op rfl (op_bx 49 _ rfl S.out _ rfl ?_); clear S tok0; intro gx w S; replace S := Lib.hid S; simp only [Act.put, List.setIfInBounds_toArray, List.set_cons_succ, List.set_cons_zero])
      | (have _t := tok1; clear _t; refine wpList_op rfl (op_bx 44 _ rfl S.out _ rfl ?_); clear S tok1; intro gp w S; replace S := Lib.hid S; simp only [Act.put, List.setIfInBounds_toArray, List.set_cons_succ, List.set_cons_zero])
      | (refine wpList_op rfl (op_row 49 _ rfl S.out 1 rfl rfl Try.isAgg49 (by kernel_rfl) ?_); simp only [Act.put, List.setIfInBounds_toArray, List.set_cons_succ, List.set_cons_zero]))
  refine (SZ.out _ (S.out.rs HH.out)).mono ?_
  rintro e w ⟨rfl, b⟩
  replace S := Lib.hid (S.out.call b)
  clear b
  go_wp2_with fail
  refine wp_region_ev (by kernel_rfl) _ (by kernel_rfl) (by kernel_rfl) 104 rfl (by kernel_rfl) (fun D V w => ∃ A1 : Option Addr, ∃ c1 : Nat, ∃ F1 : FP, ∃ AA : Option Addr, ∃ cA : Nat, ∃ FA : FP, ∃ ga8 : Nat, Sep noX w0 [bx gp #[.int .i64 cc, .int .i64 ck, .int .i64 cv] 44, bx gx #[.int .i64 hd.pos, .int .i64 hd.cc, .int .i64 hd.ck, .int .i64 hd.cv, .int .i64 hd.cur, .int .i64 hd.want, .int .i64 hd.key, .int .i64 hd.kid, .int .i64 hd.old, .int .i64 hd.next, .int .i64 hd.new, .slice A n c, .int .i64 hd.thn, .int .i64 hd.beg, .int .i64 hd.rep, .int .i64 hd.out] 49, cnd (D 1) em (ow (.slice A1 n c1) hd.st F1), cnd (D 4) em (ow (.slice AA nl cA) rd.st FA), cnd (D 8) em (cnd (D 9) (bx ga8 #[.int .i64 0, .int .i64 0, .int .i64 0, .int .i64 0, .int .i64 0, .int .i64 0, .int .i64 0, .int .i64 0, .int .i64 0, .int .i64 0, .int .i64 0, .slice none 0 0, .int .i64 0, .int .i64 0, .int .i64 0, .int .i64 0] 31) (bx ga8 #[.int .i64 rd.pos, .int .i64 rd.cc, .int .i64 rd.ck, .int .i64 rd.cv, .int .i64 rd.cur, .int .i64 rd.want, .int .i64 rd.key, .int .i64 rd.kid, .int .i64 rd.old, .int .i64 rd.next, .int .i64 rd.new, .slice AA nl cA, .int .i64 rd.thn, .int .i64 rd.beg, .int .i64 rd.rep, .int .i64 rd.out] 31))] w ∧ (D 0 = true → V 0 = .agg #[.int .i64 hd.pos, .int .i64 hd.cc, .int .i64 hd.ck, .int .i64 hd.cv, .int .i64 hd.cur, .int .i64 hd.want, .int .i64 hd.key, .int .i64 hd.kid, .int .i64 hd.old, .int .i64 hd.next, .int .i64 hd.new, .slice A n c, .int .i64 hd.thn, .int .i64 hd.beg, .int .i64 hd.rep, .int .i64 hd.out]) ∧ (D 1 = true → V 1 = .agg #[.int .i64 hd.pos, .int .i64 hd.cc, .int .i64 hd.ck, .int .i64 hd.cv, .int .i64 hd.cur, .int .i64 hd.want, .int .i64 hd.key, .int .i64 hd.kid, .int .i64 hd.old, .int .i64 hd.next, .int .i64 hd.new, .slice A1 n c1, .int .i64 hd.thn, .int .i64 hd.beg, .int .i64 hd.rep, .int .i64 hd.out]) ∧ (D 2 = true → V 2 = .agg #[.int .i64 cc, .int .i64 ck, .int .i64 cv]) ∧ (D 3 = true → V 3 = .agg #[.int .i64 cc, .int .i64 ck, .int .i64 cv]) ∧ (D 4 = true → V 4 = .tuple #[.agg #[.int .i64 rd.pos, .int .i64 rd.cc, .int .i64 rd.ck, .int .i64 rd.cv, .int .i64 rd.cur, .int .i64 rd.want, .int .i64 rd.key, .int .i64 rd.kid, .int .i64 rd.old, .int .i64 rd.next, .int .i64 rd.new, .slice AA nl cA, .int .i64 rd.thn, .int .i64 rd.beg, .int .i64 rd.rep, .int .i64 rd.out], .int .i64 kq]) ∧ (D 5 = true → V 5 = .tuple #[.agg #[.int .i64 rd.pos, .int .i64 rd.cc, .int .i64 rd.ck, .int .i64 rd.cv, .int .i64 rd.cur, .int .i64 rd.want, .int .i64 rd.key, .int .i64 rd.kid, .int .i64 rd.old, .int .i64 rd.next, .int .i64 rd.new, .slice AA nl cA, .int .i64 rd.thn, .int .i64 rd.beg, .int .i64 rd.rep, .int .i64 rd.out], .int .i64 kq]) ∧ (D 6 = true → V 6 = .agg #[.int .i64 rd.pos, .int .i64 rd.cc, .int .i64 rd.ck, .int .i64 rd.cv, .int .i64 rd.cur, .int .i64 rd.want, .int .i64 rd.key, .int .i64 rd.kid, .int .i64 rd.old, .int .i64 rd.next, .int .i64 rd.new, .slice AA nl cA, .int .i64 rd.thn, .int .i64 rd.beg, .int .i64 rd.rep, .int .i64 rd.out]) ∧ (D 7 = true → V 7 = .int .i64 kq) ∧ (D 8 = true → V 8 = .pointer (some ⟨ga8, 0, none⟩)) ∧ (D 10 = true → V 10 = .int .i64 kq) ∧ (D 5 = true → D 4 = true) ∧ (D 6 = true → D 4 = true) ∧ (D 9 = true → D 4 = true) ∧ (D 9 = true → D 8 = true)) ?_ ?_ ?_
  · intro D hD
    have d1 := hD 1 (by decide)
    have d4 := hD 4 (by decide)
    have d8 := hD 8 (by decide)
    have d9 := hD 9 (by decide)
    exact ⟨none, 0, fun _ => False, none, 0, fun _ => False, 0, by rw [cnd_f d1, cnd_f d4, cnd_f d8]; exact S.out.drew.ems 3, (nof (hD 0 (by decide))), (nof (hD 1 (by decide))), (nof (hD 2 (by decide))), (nof (hD 3 (by decide))), (nof (hD 4 (by decide))), (nof (hD 5 (by decide))), (nof (hD 6 (by decide))), (nof (hD 7 (by decide))), (nof (hD 8 (by decide))), (nof (hD 10 (by decide))), (nof (hD 5 (by decide))), (nof (hD 6 (by decide))), (nof (hD 9 (by decide))), (nof (hD 9 (by decide)))⟩
  · intro i o D V w a ho hI hDi haf hev
    obtain ⟨A1, c1, F1, AA, cA, FA, ga8, S, f0, f1, f2, f3, f4, f5, f6, f7, f8, f10, o5_4, o6_4, o9_4, o9_8⟩ := hI
    rcases i with _ | _ | _ | _ | _ | _ | _ | _ | _ | _ | _ | i
    · obtain rfl := inj_ ho
      exact op_row 49 _ rfl S 1 rfl ((hev.old 2 (by kernel_rfl)).trans rfl) Try.isAgg49 (by kernel_rfl) ⟨_, rfl, A1, c1, F1, AA, cA, FA, ga8, S, fun _ => rfl, f1, f2, f3, f4, f5, f6, f7, f8, f10, o5_4, o6_4, o9_4, o9_8⟩
    · obtain rfl := inj_ ho
      have h0 := aft_ haf 0 rfl
      have hx0 := (hev.at_ 0 22 rfl rfl h0 f0)
      refine op_call _ _ _ rfl (enters_of Try.func28 (by kernel_rfl) rfl) #[.agg #[.int .i64 hd.pos, .int .i64 hd.cc, .int .i64 hd.ck, .int .i64 hd.cv, .int .i64 hd.cur, .int .i64 hd.want, .int .i64 hd.key, .int .i64 hd.kid, .int .i64 hd.old, .int .i64 hd.next, .int .i64 hd.new, .slice A n c, .int .i64 hd.thn, .int .i64 hd.beg, .int .i64 hd.rep, .int .i64 hd.out]] (by simp [hx0]) (TN.out w (S.rs HH.out)) (fun e w2 hh => ?_)
      obtain ⟨A9, c9, F9, rfl, oo, ff, bb⟩ := hh
      have S2 := S.turn 2 (I := em) (by simp only [gs_, gz_, cnd_f hDi]) (Only.of_below bb) (ow (.slice A9 n c9) hd.st F9) oo (fun k hk => ⟨.inr (ff k hk).1, (ff k hk).2⟩)
      exact ⟨_, rfl, ⟨_, rfl, A9, c9, F9, AA, cA, FA, ga8, S2, f0, fun _ => rfl, f2, f3, f4, f5, f6, f7, f8, f10, o5_4, o6_4, o9_4, o9_8⟩⟩
    · obtain rfl := inj_ ho
      exact op_row 44 _ rfl S 0 rfl ((hev.old 3 (by kernel_rfl)).trans rfl) Try.isAgg44 (by kernel_rfl) ⟨_, rfl, A1, c1, F1, AA, cA, FA, ga8, S, f0, f1, fun _ => rfl, f3, f4, f5, f6, f7, f8, f10, o5_4, o6_4, o9_4, o9_8⟩
    · obtain rfl := inj_ ho
      have h2 := aft_ haf 2 rfl
      have hx0 := (hev.at_ 2 24 rfl rfl h2 f2)
      refine op_call _ _ _ rfl (enters_of Try.func26 (by kernel_rfl) rfl) #[.agg #[.int .i64 cc, .int .i64 ck, .int .i64 cv]] (by simp [hx0]) (TP.out w) (fun e w2 hh => ?_)
      obtain ⟨rfl, b⟩ := hh
      exact ⟨_, rfl, ⟨_, rfl, A1, c1, F1, AA, cA, FA, ga8, S.call b, f0, f1, f2, fun _ => rfl, f4, f5, f6, f7, f8, f10, o5_4, o6_4, o9_4, o9_8⟩⟩
    · obtain rfl := inj_ ho
      have h1 := aft_ haf 1 rfl
      have h3 := aft_ haf 3 rfl
      have ns9 := nofb hDi o9_4
      have hx0 := (hev.at_ 1 23 rfl rfl h1 f1)
      have hx1 := (hev.at_ 3 25 rfl rfl h3 f3)
      have so := S.get 2 (I := ow (.slice A1 n c1) hd.st F1) (by simp only [gs_, gz_, cnd_t h1])
      refine op_call _ _ _ rfl (enters_of Try.func16 (by kernel_rfl) rfl) #[.agg #[.int .i64 hd.pos, .int .i64 hd.cc, .int .i64 hd.ck, .int .i64 hd.cv, .int .i64 hd.cur, .int .i64 hd.want, .int .i64 hd.key, .int .i64 hd.kid, .int .i64 hd.old, .int .i64 hd.next, .int .i64 hd.new, .slice A1 n c1, .int .i64 hd.thn, .int .i64 hd.beg, .int .i64 hd.rep, .int .i64 hd.out], .agg #[.int .i64 cc, .int .i64 ck, .int .i64 cv]] (by simp [hx0, hx1]) (HS.out A1 c1 w (OwnS.cap so).1 (OwnS.cap so).2 (OwnS.rs so HN.out)) (fun e w2 hh => ?_)
      obtain ⟨A8, c8, F8, rfl, u8, v8, bb⟩ := hh
      rw [HNL.out] at u8
      unfold hdV
      rw [HNL.out]
      have S2 := S.turn 3 (I := em) (by simp only [gs_, gz_, cnd_f hDi]) (Only.of_below bb) (ow (.slice A8 nl c8) rd.st F8) u8 (fun k hk => ⟨.inr (v8 k hk).1, (v8 k hk).2⟩)
      exact ⟨_, rfl, ⟨_, rfl, A1, c1, F1, A8, c8, F8, ga8, (by have SS := S2; rw [cnd_f ns9] at SS; rw [show updB D 4 9 = false from ns9]; exact SS), f0, f1, f2, f3, fun _ => rfl, (fun h => nof hDi (o5_4 h)), (fun h => nof hDi (o6_4 h)), f7, f8, f10, fun _ => rfl, fun _ => rfl, fun _ => rfl, o9_8⟩⟩
    · obtain rfl := inj_ ho
      have h4 := aft_ haf 4 rfl
      exact op_move (.inl rfl) (hev.at_ 4 26 rfl rfl h4 f4) ⟨_, rfl, A1, c1, F1, AA, cA, FA, ga8, S, f0, f1, f2, f3, f4, fun _ => rfl, f6, f7, f8, f10, fun _ => h4, o6_4, o9_4, o9_8⟩
    · obtain rfl := inj_ ho
      have h5 := aft_ haf 5 rfl
      have h4 : D 4 = true := o5_4 h5
      exact op_extract _ _ rfl (hev.at_ 5 21 rfl rfl h5 f5) rfl ⟨_, rfl, A1, c1, F1, AA, cA, FA, ga8, S, f0, f1, f2, f3, f4, f5, fun _ => rfl, f7, f8, f10, o5_4, fun _ => h4, o9_4, o9_8⟩
    · obtain rfl := inj_ ho
      have h5 := aft_ haf 5 rfl
      exact op_extract _ _ rfl (hev.at_ 5 21 rfl rfl h5 f5) rfl ⟨_, rfl, A1, c1, F1, AA, cA, FA, ga8, S, f0, f1, f2, f3, f4, f5, f6, fun _ => rfl, f8, f10, o5_4, o6_4, o9_4, o9_8⟩
    · obtain rfl := inj_ ho
      have nst := nofb hDi o9_8
      refine op_nxAt 31 rfl S 4 (by simp only [gs_, gz_, cnd_f hDi]) _ Try.zeroValue31 (fun g w S => ⟨_, rfl, A1, c1, F1, AA, cA, FA, g, (by have e : updB D 8 9 = false := nst; rw [e]; exact S), f0, f1, f2, f3, f4, f5, f6, f7, fun _ => rfl, f10, o5_4, o6_4, o9_4, fun _ => rfl⟩)
    · obtain rfl := inj_ ho
      have h8 := aft_ haf 8 rfl
      have h6 := aft_ haf 6 rfl
      have h4 : D 4 = true := o6_4 h6
      have ha : D 8 = true := aft_ haf 8 rfl
      exact op_putR 31 _ _ rfl S 4 (g := ga8) (C := #[.int .i64 0, .int .i64 0, .int .i64 0, .int .i64 0, .int .i64 0, .int .i64 0, .int .i64 0, .int .i64 0, .int .i64 0, .int .i64 0, .int .i64 0, .slice none 0 0, .int .i64 0, .int .i64 0, .int .i64 0, .int .i64 0]) (t := 31) (by simp only [gs_, gz_, cnd_t ha, cnd_f hDi]) (hev.at_ 8 6 rfl rfl h8 f8) _ (hev.at_ 6 27 rfl rfl h6 f6) rfl (by kernel_rfl) rfl (fun w S => ⟨_, rfl, A1, c1, F1, AA, cA, FA, ga8, (by have e : updB D 9 8 = true := ha; rw [e]; exact S), f0, f1, f2, f3, f4, f5, f6, f7, f8, f10, o5_4, o6_4, fun _ => h4, fun _ => h8⟩)
    · obtain rfl := inj_ ho
      have h7 := aft_ haf 7 rfl
      exact op_move (.inr rfl) (hev.at_ 7 28 rfl rfl h7 f7) ⟨_, rfl, A1, c1, F1, AA, cA, FA, ga8, S, f0, f1, f2, f3, f4, f5, f6, f7, f8, fun _ => rfl, o5_4, o6_4, o9_4, o9_8⟩
    · exact absurd ho (by simp)
  intro V w hI
  obtain ⟨A1, c1, F1, AA, cA, FA, ga8, S, f0, f1, f2, f3, f4, f5, f6, f7, f8, f10, o5_4, o6_4, o9_4, o9_8⟩ := hI
  replace f0 := f0 rfl
  replace f1 := f1 rfl
  replace f2 := f2 rfl
  replace f3 := f3 rfl
  replace f4 := f4 rfl
  replace f5 := f5 rfl
  replace f6 := f6 rfl
  replace f7 := f7 rfl
  replace f8 := f8 rfl
  replace f10 := f10 rfl
  replace S : Hid (Sep noX w0 [bx gp #[.int .i64 cc, .int .i64 ck, .int .i64 cv] 44, bx gx #[.int .i64 hd.pos, .int .i64 hd.cc, .int .i64 hd.ck, .int .i64 hd.cv, .int .i64 hd.cur, .int .i64 hd.want, .int .i64 hd.key, .int .i64 hd.kid, .int .i64 hd.old, .int .i64 hd.next, .int .i64 hd.new, .slice A n c, .int .i64 hd.thn, .int .i64 hd.beg, .int .i64 hd.rep, .int .i64 hd.out] 49, ow (.slice A1 n c1) hd.st F1, ow (.slice AA nl cA) rd.st FA, bx ga8 #[.int .i64 rd.pos, .int .i64 rd.cc, .int .i64 rd.ck, .int .i64 rd.cv, .int .i64 rd.cur, .int .i64 rd.want, .int .i64 rd.key, .int .i64 rd.kid, .int .i64 rd.old, .int .i64 rd.next, .int .i64 rd.new, .slice AA nl cA, .int .i64 rd.thn, .int .i64 rd.beg, .int .i64 rd.rep, .int .i64 rd.out] 31] w) := Lib.hid S
  simp only [putF, Act.put, List.setIfInBounds_toArray, List.set_cons_succ, List.set_cons_zero, f0, f1, f2, f3, f4, f5, f6, f7, f8, f10]
  clear f0 f1 f2 f3 f4 f5 f6 f7 f8 f10 o5_4 o6_4 o9_4 o9_8
  go_wp2_with (first
      | go_skip
      | (refine wpList_op rfl (op_row 49 _ rfl S.out 1 rfl rfl Try.isAgg49 (by kernel_rfl) ?_); simp only [Act.put, List.setIfInBounds_toArray, List.set_cons_succ, List.set_cons_zero]))
  refine (TN.out _ (S.out.rs HH.out)).mono ?_
  rintro e w9 ⟨AX, cX, FX, rfl, o9, f9, b9⟩
  replace S : Hid (Sep noX w0 [ow (.slice AX n cX) hd.st FX, bx gp #[.int .i64 cc, .int .i64 ck, .int .i64 cv] 44, bx gx #[.int .i64 hd.pos, .int .i64 hd.cc, .int .i64 hd.ck, .int .i64 hd.cv, .int .i64 hd.cur, .int .i64 hd.want, .int .i64 hd.key, .int .i64 hd.kid, .int .i64 hd.old, .int .i64 hd.next, .int .i64 hd.new, .slice A n c, .int .i64 hd.thn, .int .i64 hd.beg, .int .i64 hd.rep, .int .i64 hd.out] 49, ow (.slice A1 n c1) hd.st F1, ow (.slice AA nl cA) rd.st FA, bx ga8 #[.int .i64 rd.pos, .int .i64 rd.cc, .int .i64 rd.ck, .int .i64 rd.cv, .int .i64 rd.cur, .int .i64 rd.want, .int .i64 rd.key, .int .i64 rd.kid, .int .i64 rd.old, .int .i64 rd.next, .int .i64 rd.new, .slice AA nl cA, .int .i64 rd.thn, .int .i64 rd.beg, .int .i64 rd.rep, .int .i64 rd.out] 31] w9) := Lib.hid (S.out.own b9 o9 f9)
  clear o9 f9 b9
  have tokA : True := trivial
  go_wp2_with (first
      | go_skip
      | (have _t := tokA; clear _t; refine wpList_op rfl (op_nx 31 rfl S.out _ Try.zeroValue31 ?_); clear S tokA; intro gX w S; replace S := Lib.hid S; simp only [Act.put, List.setIfInBounds_toArray, List.set_cons_succ, List.set_cons_zero])
      | (refine wpList_op rfl (op_putR_0 31 _ _ rfl S rfl _ rfl rfl (by kernel_rfl) rfl ?_); clear S; intro w S; simp only [Act.put]))
  refine wp_region_ev (by kernel_rfl) _ (by kernel_rfl) (by kernel_rfl) 104 rfl (by kernel_rfl) (fun D V w => ∃ AG : Option Addr, ∃ cG : Nat, ∃ FG : FP, ∃ gb7 : Nat, Sep noX w0 [bx gX #[.int .i64 hd.pos, .int .i64 hd.cc, .int .i64 hd.ck, .int .i64 hd.cv, .int .i64 hd.cur, .int .i64 hd.want, .int .i64 hd.key, .int .i64 hd.kid, .int .i64 hd.old, .int .i64 hd.next, .int .i64 hd.new, .slice AX n cX, .int .i64 hd.thn, .int .i64 hd.beg, .int .i64 hd.rep, .int .i64 hd.out] 31, ow (.slice AX n cX) hd.st FX, bx gp #[.int .i64 cc, .int .i64 ck, .int .i64 cv] 44, bx gx #[.int .i64 hd.pos, .int .i64 hd.cc, .int .i64 hd.ck, .int .i64 hd.cv, .int .i64 hd.cur, .int .i64 hd.want, .int .i64 hd.key, .int .i64 hd.kid, .int .i64 hd.old, .int .i64 hd.next, .int .i64 hd.new, .slice A n c, .int .i64 hd.thn, .int .i64 hd.beg, .int .i64 hd.rep, .int .i64 hd.out] 49, ow (.slice A1 n c1) hd.st F1, ow (.slice AA nl cA) rd.st FA, bx ga8 #[.int .i64 rd.pos, .int .i64 rd.cc, .int .i64 rd.ck, .int .i64 rd.cv, .int .i64 rd.cur, .int .i64 rd.want, .int .i64 rd.key, .int .i64 rd.kid, .int .i64 rd.old, .int .i64 rd.next, .int .i64 rd.new, .slice AA nl cA, .int .i64 rd.thn, .int .i64 rd.beg, .int .i64 rd.rep, .int .i64 rd.out] 31, cnd (D 3) em (ow (.slice AG nl cG) rd.st FG), cnd (D 7) em (cnd (D 8) (bx gb7 #[.int .i64 0, .int .i64 0, .int .i64 0, .int .i64 0, .int .i64 0, .int .i64 0, .int .i64 0, .int .i64 0, .int .i64 0, .int .i64 0, .int .i64 0, .slice none 0 0, .int .i64 0, .int .i64 0, .int .i64 0, .int .i64 0] 31) (bx gb7 #[.int .i64 rd.pos, .int .i64 rd.cc, .int .i64 rd.ck, .int .i64 rd.cv, .int .i64 rd.cur, .int .i64 rd.want, .int .i64 rd.key, .int .i64 rd.kid, .int .i64 rd.old, .int .i64 rd.next, .int .i64 rd.new, .slice AG nl cG, .int .i64 rd.thn, .int .i64 rd.beg, .int .i64 rd.rep, .int .i64 rd.out] 31))] w ∧ (D 0 = true → V 0 = .agg #[.int .i64 hd.pos, .int .i64 hd.cc, .int .i64 hd.ck, .int .i64 hd.cv, .int .i64 hd.cur, .int .i64 hd.want, .int .i64 hd.key, .int .i64 hd.kid, .int .i64 hd.old, .int .i64 hd.next, .int .i64 hd.new, .slice AX n cX, .int .i64 hd.thn, .int .i64 hd.beg, .int .i64 hd.rep, .int .i64 hd.out]) ∧ (D 1 = true → V 1 = .agg #[.int .i64 cc, .int .i64 ck, .int .i64 cv]) ∧ (D 2 = true → V 2 = .agg #[.int .i64 cc, .int .i64 ck, .int .i64 cv]) ∧ (D 3 = true → V 3 = .tuple #[.agg #[.int .i64 rd.pos, .int .i64 rd.cc, .int .i64 rd.ck, .int .i64 rd.cv, .int .i64 rd.cur, .int .i64 rd.want, .int .i64 rd.key, .int .i64 rd.kid, .int .i64 rd.old, .int .i64 rd.next, .int .i64 rd.new, .slice AG nl cG, .int .i64 rd.thn, .int .i64 rd.beg, .int .i64 rd.rep, .int .i64 rd.out], .int .i64 kq]) ∧ (D 4 = true → V 4 = .tuple #[.agg #[.int .i64 rd.pos, .int .i64 rd.cc, .int .i64 rd.ck, .int .i64 rd.cv, .int .i64 rd.cur, .int .i64 rd.want, .int .i64 rd.key, .int .i64 rd.kid, .int .i64 rd.old, .int .i64 rd.next, .int .i64 rd.new, .slice AG nl cG, .int .i64 rd.thn, .int .i64 rd.beg, .int .i64 rd.rep, .int .i64 rd.out], .int .i64 kq]) ∧ (D 5 = true → V 5 = .agg #[.int .i64 rd.pos, .int .i64 rd.cc, .int .i64 rd.ck, .int .i64 rd.cv, .int .i64 rd.cur, .int .i64 rd.want, .int .i64 rd.key, .int .i64 rd.kid, .int .i64 rd.old, .int .i64 rd.next, .int .i64 rd.new, .slice AG nl cG, .int .i64 rd.thn, .int .i64 rd.beg, .int .i64 rd.rep, .int .i64 rd.out]) ∧ (D 6 = true → V 6 = .int .i64 kq) ∧ (D 7 = true → V 7 = .pointer (some ⟨gb7, 0, none⟩)) ∧ (D 9 = true → V 9 = .int .i64 kq) ∧ (D 4 = true → D 3 = true) ∧ (D 5 = true → D 3 = true) ∧ (D 8 = true → D 3 = true) ∧ (D 8 = true → D 7 = true)) ?_ ?_ ?_
  · intro D hD
    have d3 := hD 3 (by decide)
    have d7 := hD 7 (by decide)
    have d8 := hD 8 (by decide)
    exact ⟨none, 0, fun _ => False, 0, by rw [cnd_f d3, cnd_f d7]; exact S.out.drew.ems 2, (nof (hD 0 (by decide))), (nof (hD 1 (by decide))), (nof (hD 2 (by decide))), (nof (hD 3 (by decide))), (nof (hD 4 (by decide))), (nof (hD 5 (by decide))), (nof (hD 6 (by decide))), (nof (hD 7 (by decide))), (nof (hD 9 (by decide))), (nof (hD 4 (by decide))), (nof (hD 5 (by decide))), (nof (hD 8 (by decide))), (nof (hD 8 (by decide)))⟩
  · intro i o D V w a ho hI hDi haf hev
    obtain ⟨AG, cG, FG, gb7, S, f0, f1, f2, f3, f4, f5, f6, f7, f9, o4_3, o5_3, o8_3, o8_7⟩ := hI
    rcases i with _ | _ | _ | _ | _ | _ | _ | _ | _ | _ | i
    · obtain rfl := inj_ ho
      exact op_row 31 _ rfl S 0 rfl ((hev.old 8 (by kernel_rfl)).trans rfl) Try.isAgg31 (by kernel_rfl) ⟨_, rfl, AG, cG, FG, gb7, S, fun _ => rfl, f1, f2, f3, f4, f5, f6, f7, f9, o4_3, o5_3, o8_3, o8_7⟩
    · obtain rfl := inj_ ho
      exact op_row 44 _ rfl S 2 rfl ((hev.old 3 (by kernel_rfl)).trans rfl) Try.isAgg44 (by kernel_rfl) ⟨_, rfl, AG, cG, FG, gb7, S, f0, fun _ => rfl, f2, f3, f4, f5, f6, f7, f9, o4_3, o5_3, o8_3, o8_7⟩
    · obtain rfl := inj_ ho
      have h1 := aft_ haf 1 rfl
      have hx0 := (hev.at_ 1 33 rfl rfl h1 f1)
      refine op_call _ _ _ rfl (enters_of Try.func26 (by kernel_rfl) rfl) #[.agg #[.int .i64 cc, .int .i64 ck, .int .i64 cv]] (by simp [hx0]) (TP.out w) (fun e w2 hh => ?_)
      obtain ⟨rfl, b⟩ := hh
      exact ⟨_, rfl, ⟨_, rfl, AG, cG, FG, gb7, S.call b, f0, f1, fun _ => rfl, f3, f4, f5, f6, f7, f9, o4_3, o5_3, o8_3, o8_7⟩⟩
    · obtain rfl := inj_ ho
      have h0 := aft_ haf 0 rfl
      have h2 := aft_ haf 2 rfl
      have ns8 := nofb hDi o8_3
      have hx0 := (hev.at_ 0 32 rfl rfl h0 f0)
      have hx1 := (hev.at_ 2 34 rfl rfl h2 f2)
      have so := S.get 1 (I := ow (.slice AX n cX) hd.st FX) rfl
      refine op_call _ _ _ rfl (enters_of Try.func15 (by kernel_rfl) rfl) #[.agg #[.int .i64 hd.pos, .int .i64 hd.cc, .int .i64 hd.ck, .int .i64 hd.cv, .int .i64 hd.cur, .int .i64 hd.want, .int .i64 hd.key, .int .i64 hd.kid, .int .i64 hd.old, .int .i64 hd.next, .int .i64 hd.new, .slice AX n cX, .int .i64 hd.thn, .int .i64 hd.beg, .int .i64 hd.rep, .int .i64 hd.out], .agg #[.int .i64 cc, .int .i64 ck, .int .i64 cv]] (by simp [hx0, hx1]) (HI.out AX cX w (OwnS.cap so).1 (OwnS.cap so).2 (OwnS.rs so HN.out)) (fun e w2 hh => ?_)
      obtain ⟨A8, c8, F8, rfl, u8, v8, bb⟩ := hh
      rw [HNL.out] at u8
      unfold hdV
      rw [HNL.out]
      have S2 := S.turn 7 (I := em) (by simp only [gs_, gz_, cnd_f hDi]) (Only.of_below bb) (ow (.slice A8 nl c8) rd.st F8) u8 (fun k hk => ⟨.inr (v8 k hk).1, (v8 k hk).2⟩)
      exact ⟨_, rfl, ⟨_, rfl, A8, c8, F8, gb7, (by have SS := S2; rw [cnd_f ns8] at SS; rw [show updB D 3 8 = false from ns8]; exact SS), f0, f1, f2, fun _ => rfl, (fun h => nof hDi (o4_3 h)), (fun h => nof hDi (o5_3 h)), f6, f7, f9, fun _ => rfl, fun _ => rfl, fun _ => rfl, o8_7⟩⟩
    · obtain rfl := inj_ ho
      have h3 := aft_ haf 3 rfl
      exact op_move (.inl rfl) (hev.at_ 3 35 rfl rfl h3 f3) ⟨_, rfl, AG, cG, FG, gb7, S, f0, f1, f2, f3, fun _ => rfl, f5, f6, f7, f9, fun _ => h3, o5_3, o8_3, o8_7⟩
    · obtain rfl := inj_ ho
      have h4 := aft_ haf 4 rfl
      have h3 : D 3 = true := o4_3 h4
      exact op_extract _ _ rfl (hev.at_ 4 31 rfl rfl h4 f4) rfl ⟨_, rfl, AG, cG, FG, gb7, S, f0, f1, f2, f3, f4, fun _ => rfl, f6, f7, f9, o4_3, fun _ => h3, o8_3, o8_7⟩
    · obtain rfl := inj_ ho
      have h4 := aft_ haf 4 rfl
      exact op_extract _ _ rfl (hev.at_ 4 31 rfl rfl h4 f4) rfl ⟨_, rfl, AG, cG, FG, gb7, S, f0, f1, f2, f3, f4, f5, fun _ => rfl, f7, f9, o4_3, o5_3, o8_3, o8_7⟩
    · obtain rfl := inj_ ho
      have nst := nofb hDi o8_7
      refine op_nxAt 31 rfl S 8 (by simp only [gs_, gz_, cnd_f hDi]) _ Try.zeroValue31 (fun g w S => ⟨_, rfl, AG, cG, FG, g, (by have e : updB D 7 8 = false := nst; rw [e]; exact S), f0, f1, f2, f3, f4, f5, f6, fun _ => rfl, f9, o4_3, o5_3, o8_3, fun _ => rfl⟩)
    · obtain rfl := inj_ ho
      have h7 := aft_ haf 7 rfl
      have h5 := aft_ haf 5 rfl
      have h3 : D 3 = true := o5_3 h5
      have ha : D 7 = true := aft_ haf 7 rfl
      exact op_putR 31 _ _ rfl S 8 (g := gb7) (C := #[.int .i64 0, .int .i64 0, .int .i64 0, .int .i64 0, .int .i64 0, .int .i64 0, .int .i64 0, .int .i64 0, .int .i64 0, .int .i64 0, .int .i64 0, .slice none 0 0, .int .i64 0, .int .i64 0, .int .i64 0, .int .i64 0]) (t := 31) (by simp only [gs_, gz_, cnd_t ha, cnd_f hDi]) (hev.at_ 7 9 rfl rfl h7 f7) _ (hev.at_ 5 36 rfl rfl h5 f5) rfl (by kernel_rfl) rfl (fun w S => ⟨_, rfl, AG, cG, FG, gb7, (by have e : updB D 8 7 = true := ha; rw [e]; exact S), f0, f1, f2, f3, f4, f5, f6, f7, f9, o4_3, o5_3, fun _ => h3, fun _ => h7⟩)
    · obtain rfl := inj_ ho
      have h6 := aft_ haf 6 rfl
      exact op_move (.inr rfl) (hev.at_ 6 37 rfl rfl h6 f6) ⟨_, rfl, AG, cG, FG, gb7, S, f0, f1, f2, f3, f4, f5, f6, f7, fun _ => rfl, o4_3, o5_3, o8_3, o8_7⟩
    · exact absurd ho (by simp)
  intro V w hI
  obtain ⟨AG, cG, FG, gb7, S, f0, f1, f2, f3, f4, f5, f6, f7, f9, o4_3, o5_3, o8_3, o8_7⟩ := hI
  replace f0 := f0 rfl
  replace f1 := f1 rfl
  replace f2 := f2 rfl
  replace f3 := f3 rfl
  replace f4 := f4 rfl
  replace f5 := f5 rfl
  replace f6 := f6 rfl
  replace f7 := f7 rfl
  replace f9 := f9 rfl
  replace S : Hid (Sep noX w0 [bx gX #[.int .i64 hd.pos, .int .i64 hd.cc, .int .i64 hd.ck, .int .i64 hd.cv, .int .i64 hd.cur, .int .i64 hd.want, .int .i64 hd.key, .int .i64 hd.kid, .int .i64 hd.old, .int .i64 hd.next, .int .i64 hd.new, .slice AX n cX, .int .i64 hd.thn, .int .i64 hd.beg, .int .i64 hd.rep, .int .i64 hd.out] 31, ow (.slice AX n cX) hd.st FX, bx gp #[.int .i64 cc, .int .i64 ck, .int .i64 cv] 44, bx gx #[.int .i64 hd.pos, .int .i64 hd.cc, .int .i64 hd.ck, .int .i64 hd.cv, .int .i64 hd.cur, .int .i64 hd.want, .int .i64 hd.key, .int .i64 hd.kid, .int .i64 hd.old, .int .i64 hd.next, .int .i64 hd.new, .slice A n c, .int .i64 hd.thn, .int .i64 hd.beg, .int .i64 hd.rep, .int .i64 hd.out] 49, ow (.slice A1 n c1) hd.st F1, ow (.slice AA nl cA) rd.st FA, bx ga8 #[.int .i64 rd.pos, .int .i64 rd.cc, .int .i64 rd.ck, .int .i64 rd.cv, .int .i64 rd.cur, .int .i64 rd.want, .int .i64 rd.key, .int .i64 rd.kid, .int .i64 rd.old, .int .i64 rd.next, .int .i64 rd.new, .slice AA nl cA, .int .i64 rd.thn, .int .i64 rd.beg, .int .i64 rd.rep, .int .i64 rd.out] 31, ow (.slice AG nl cG) rd.st FG, bx gb7 #[.int .i64 rd.pos, .int .i64 rd.cc, .int .i64 rd.ck, .int .i64 rd.cv, .int .i64 rd.cur, .int .i64 rd.want, .int .i64 rd.key, .int .i64 rd.kid, .int .i64 rd.old, .int .i64 rd.next, .int .i64 rd.new, .slice AG nl cG, .int .i64 rd.thn, .int .i64 rd.beg, .int .i64 rd.rep, .int .i64 rd.out] 31] w) := Lib.hid S
  simp only [putF, Act.put, List.setIfInBounds_toArray, List.set_cons_succ, List.set_cons_zero, f0, f1, f2, f3, f4, f5, f6, f7, f9]
  clear f0 f1 f2 f3 f4 f5 f6 f7 f9 o4_3 o5_3 o8_3 o8_7
  go_wp2_with (first
      | go_skip
      | (refine wpList_op rfl (op_row 31 _ rfl S.out 8 rfl rfl Try.isAgg31 (by kernel_rfl) ?_); simp only [Act.put, List.setIfInBounds_toArray, List.set_cons_succ, List.set_cons_zero])
      | (refine wpList_op rfl (op_row 31 _ rfl S.out 6 rfl rfl Try.isAgg31 (by kernel_rfl) ?_); simp only [Act.put, List.setIfInBounds_toArray, List.set_cons_succ, List.set_cons_zero]))
  refine (EL.out AG AA _ (OwnS.rs (S.out.get 7 rfl) HNL.out) (OwnS.rs (S.out.get 5 rfl) HNL.out)).mono ?_
  rintro e w ⟨rfl, b⟩
  replace S := Lib.hid (S.out.call b)
  clear b
  go_wp2_with fail
  refine wp_region_ev (by kernel_rfl) _ (by kernel_rfl) (by kernel_rfl) 104 rfl (by kernel_rfl) (fun D V w => ∃ AY : Option Addr, ∃ cY : Nat, ∃ FY : FP, Sep noX w0 [bx gX #[.int .i64 hd.pos, .int .i64 hd.cc, .int .i64 hd.ck, .int .i64 hd.cv, .int .i64 hd.cur, .int .i64 hd.want, .int .i64 hd.key, .int .i64 hd.kid, .int .i64 hd.old, .int .i64 hd.next, .int .i64 hd.new, .slice AX n cX, .int .i64 hd.thn, .int .i64 hd.beg, .int .i64 hd.rep, .int .i64 hd.out] 31, ow (.slice AX n cX) hd.st FX, bx gp #[.int .i64 cc, .int .i64 ck, .int .i64 cv] 44, bx gx #[.int .i64 hd.pos, .int .i64 hd.cc, .int .i64 hd.ck, .int .i64 hd.cv, .int .i64 hd.cur, .int .i64 hd.want, .int .i64 hd.key, .int .i64 hd.kid, .int .i64 hd.old, .int .i64 hd.next, .int .i64 hd.new, .slice A n c, .int .i64 hd.thn, .int .i64 hd.beg, .int .i64 hd.rep, .int .i64 hd.out] 49, ow (.slice A1 n c1) hd.st F1, ow (.slice AA nl cA) rd.st FA, bx ga8 #[.int .i64 rd.pos, .int .i64 rd.cc, .int .i64 rd.ck, .int .i64 rd.cv, .int .i64 rd.cur, .int .i64 rd.want, .int .i64 rd.key, .int .i64 rd.kid, .int .i64 rd.old, .int .i64 rd.next, .int .i64 rd.new, .slice AA nl cA, .int .i64 rd.thn, .int .i64 rd.beg, .int .i64 rd.rep, .int .i64 rd.out] 31, ow (.slice AG nl cG) rd.st FG, bx gb7 #[.int .i64 rd.pos, .int .i64 rd.cc, .int .i64 rd.ck, .int .i64 rd.cv, .int .i64 rd.cur, .int .i64 rd.want, .int .i64 rd.key, .int .i64 rd.kid, .int .i64 rd.old, .int .i64 rd.next, .int .i64 rd.new, .slice AG nl cG, .int .i64 rd.thn, .int .i64 rd.beg, .int .i64 rd.rep, .int .i64 rd.out] 31, cnd (D 2) em (ow (.slice AY n cY) hd.st FY)] w ∧ (D 0 = true → V 0 = .agg #[.int .i64 hd.pos, .int .i64 hd.cc, .int .i64 hd.ck, .int .i64 hd.cv, .int .i64 hd.cur, .int .i64 hd.want, .int .i64 hd.key, .int .i64 hd.kid, .int .i64 hd.old, .int .i64 hd.next, .int .i64 hd.new, .slice AX n cX, .int .i64 hd.thn, .int .i64 hd.beg, .int .i64 hd.rep, .int .i64 hd.out]) ∧ (D 1 = true → V 1 = .agg #[.int .i64 hd.pos, .int .i64 hd.cc, .int .i64 hd.ck, .int .i64 hd.cv, .int .i64 hd.cur, .int .i64 hd.want, .int .i64 hd.key, .int .i64 hd.kid, .int .i64 hd.old, .int .i64 hd.next, .int .i64 hd.new, .slice A n c, .int .i64 hd.thn, .int .i64 hd.beg, .int .i64 hd.rep, .int .i64 hd.out]) ∧ (D 2 = true → V 2 = .agg #[.int .i64 hd.pos, .int .i64 hd.cc, .int .i64 hd.ck, .int .i64 hd.cv, .int .i64 hd.cur, .int .i64 hd.want, .int .i64 hd.key, .int .i64 hd.kid, .int .i64 hd.old, .int .i64 hd.next, .int .i64 hd.new, .slice AY n cY, .int .i64 hd.thn, .int .i64 hd.beg, .int .i64 hd.rep, .int .i64 hd.out]) ∧ (D 3 = true → V 3 = .bool true) ∧ (D 4 = true → V 4 = .bool false)) ?_ ?_ ?_
  · intro D hD
    have d2 := hD 2 (by decide)
    exact ⟨none, 0, fun _ => False, by rw [cnd_f d2]; exact S.out.drew.ems 1, (nof (hD 0 (by decide))), (nof (hD 1 (by decide))), (nof (hD 2 (by decide))), (nof (hD 3 (by decide))), (nof (hD 4 (by decide)))⟩
  · intro i o D V w a ho hI hDi haf hev
    obtain ⟨AY, cY, FY, S, f0, f1, f2, f3, f4⟩ := hI
    rcases i with _ | _ | _ | _ | _ | i
    · obtain rfl := inj_ ho
      exact op_row 31 _ rfl S 0 rfl ((hev.old 8 (by kernel_rfl)).trans rfl) Try.isAgg31 (by kernel_rfl) ⟨_, rfl, AY, cY, FY, S, fun _ => rfl, f1, f2, f3, f4⟩
    · obtain rfl := inj_ ho
      exact op_row 49 _ rfl S 3 rfl ((hev.old 2 (by kernel_rfl)).trans rfl) Try.isAgg49 (by kernel_rfl) ⟨_, rfl, AY, cY, FY, S, f0, fun _ => rfl, f2, f3, f4⟩
    · obtain rfl := inj_ ho
      have h1 := aft_ haf 1 rfl
      have hx0 := (hev.at_ 1 48 rfl rfl h1 f1)
      refine op_call _ _ _ rfl (enters_of Try.func28 (by kernel_rfl) rfl) #[.agg #[.int .i64 hd.pos, .int .i64 hd.cc, .int .i64 hd.ck, .int .i64 hd.cv, .int .i64 hd.cur, .int .i64 hd.want, .int .i64 hd.key, .int .i64 hd.kid, .int .i64 hd.old, .int .i64 hd.next, .int .i64 hd.new, .slice A n c, .int .i64 hd.thn, .int .i64 hd.beg, .int .i64 hd.rep, .int .i64 hd.out]] (by simp [hx0]) (TN.out w (S.rs HH.out)) (fun e w2 hh => ?_)
      obtain ⟨A9, c9, F9, rfl, oo, ff, bb⟩ := hh
      have S2 := S.turn 9 (I := em) (by simp only [gs_, gz_, cnd_f hDi]) (Only.of_below bb) (ow (.slice A9 n c9) hd.st F9) oo (fun k hk => ⟨.inr (ff k hk).1, (ff k hk).2⟩)
      exact ⟨_, rfl, ⟨_, rfl, A9, c9, F9, S2, f0, f1, fun _ => rfl, f3, f4⟩⟩
    · obtain rfl := inj_ ho
      have h0 := aft_ haf 0 rfl
      have h2 := aft_ haf 2 rfl
      have hx0 := (hev.at_ 0 47 rfl rfl h0 f0)
      have hx1 := (hev.at_ 2 49 rfl rfl h2 f2)
      refine op_call _ _ _ rfl (enters_of Try.func29 (by kernel_rfl) rfl) #[.agg #[.int .i64 hd.pos, .int .i64 hd.cc, .int .i64 hd.ck, .int .i64 hd.cv, .int .i64 hd.cur, .int .i64 hd.want, .int .i64 hd.key, .int .i64 hd.kid, .int .i64 hd.old, .int .i64 hd.next, .int .i64 hd.new, .slice AX n cX, .int .i64 hd.thn, .int .i64 hd.beg, .int .i64 hd.rep, .int .i64 hd.out], .agg #[.int .i64 hd.pos, .int .i64 hd.cc, .int .i64 hd.ck, .int .i64 hd.cv, .int .i64 hd.cur, .int .i64 hd.want, .int .i64 hd.key, .int .i64 hd.kid, .int .i64 hd.old, .int .i64 hd.next, .int .i64 hd.new, .slice AY n cY, .int .i64 hd.thn, .int .i64 hd.beg, .int .i64 hd.rep, .int .i64 hd.out]] (by simp [hx0, hx1]) (EX.out AX AY w (OwnS.rs (S.get 1 rfl) HN.out) (OwnS.rs (S.get 9 (I := ow (.slice AY n cY) hd.st FY) (by simp only [gs_, gz_, cnd_t h2])) HN.out)) (fun e w2 hh => ?_)
      obtain ⟨rfl, b⟩ := hh
      exact ⟨_, rfl, ⟨_, rfl, AY, cY, FY, S.call b, f0, f1, f2, fun _ => rfl, f4⟩⟩
    · obtain rfl := inj_ ho
      have h3 := aft_ haf 3 rfl
      exact op_not _ _ rfl (hev.at_ 3 50 rfl rfl h3 f3) ⟨_, rfl, AY, cY, FY, S, f0, f1, f2, f3, fun _ => rfl⟩
    · exact absurd ho (by simp)
  intro V w hI
  obtain ⟨AY, cY, FY, S, f0, f1, f2, f3, f4⟩ := hI
  replace f0 := f0 rfl
  replace f1 := f1 rfl
  replace f2 := f2 rfl
  replace f3 := f3 rfl
  replace f4 := f4 rfl
  replace S : Hid (Sep noX w0 [bx gX #[.int .i64 hd.pos, .int .i64 hd.cc, .int .i64 hd.ck, .int .i64 hd.cv, .int .i64 hd.cur, .int .i64 hd.want, .int .i64 hd.key, .int .i64 hd.kid, .int .i64 hd.old, .int .i64 hd.next, .int .i64 hd.new, .slice AX n cX, .int .i64 hd.thn, .int .i64 hd.beg, .int .i64 hd.rep, .int .i64 hd.out] 31, ow (.slice AX n cX) hd.st FX, bx gp #[.int .i64 cc, .int .i64 ck, .int .i64 cv] 44, bx gx #[.int .i64 hd.pos, .int .i64 hd.cc, .int .i64 hd.ck, .int .i64 hd.cv, .int .i64 hd.cur, .int .i64 hd.want, .int .i64 hd.key, .int .i64 hd.kid, .int .i64 hd.old, .int .i64 hd.next, .int .i64 hd.new, .slice A n c, .int .i64 hd.thn, .int .i64 hd.beg, .int .i64 hd.rep, .int .i64 hd.out] 49, ow (.slice A1 n c1) hd.st F1, ow (.slice AA nl cA) rd.st FA, bx ga8 #[.int .i64 rd.pos, .int .i64 rd.cc, .int .i64 rd.ck, .int .i64 rd.cv, .int .i64 rd.cur, .int .i64 rd.want, .int .i64 rd.key, .int .i64 rd.kid, .int .i64 rd.old, .int .i64 rd.next, .int .i64 rd.new, .slice AA nl cA, .int .i64 rd.thn, .int .i64 rd.beg, .int .i64 rd.rep, .int .i64 rd.out] 31, ow (.slice AG nl cG) rd.st FG, bx gb7 #[.int .i64 rd.pos, .int .i64 rd.cc, .int .i64 rd.ck, .int .i64 rd.cv, .int .i64 rd.cur, .int .i64 rd.want, .int .i64 rd.key, .int .i64 rd.kid, .int .i64 rd.old, .int .i64 rd.next, .int .i64 rd.new, .slice AG nl cG, .int .i64 rd.thn, .int .i64 rd.beg, .int .i64 rd.rep, .int .i64 rd.out] 31, ow (.slice AY n cY) hd.st FY] w) := Lib.hid S
  simp only [putF, Act.put, List.setIfInBounds_toArray, List.set_cons_succ, List.set_cons_zero, f0, f1, f2, f3, f4]
  clear f0 f1 f2 f3 f4
  go_wp2_with (first
      | go_skip
      | (refine wpList_op rfl (op_row 31 _ rfl S.out 0 rfl rfl Try.isAgg31 (by kernel_rfl) ?_); simp only [Act.put, List.setIfInBounds_toArray, List.set_cons_succ, List.set_cons_zero]))
  refine (MX.out _ _ (S.out.get 1 rfl)).mono ?_
  rintro e w9 ⟨rfl, o9, y9⟩
  replace S : Hid (Sep noX w0 [bx gX #[.int .i64 hd.pos, .int .i64 hd.cc, .int .i64 hd.ck, .int .i64 hd.cv, .int .i64 hd.cur, .int .i64 hd.want, .int .i64 hd.key, .int .i64 hd.kid, .int .i64 hd.old, .int .i64 hd.next, .int .i64 hd.new, .slice AX n cX, .int .i64 hd.thn, .int .i64 hd.beg, .int .i64 hd.rep, .int .i64 hd.out] 31, ow (.slice AX n cX) (mkS 1 hd.st) FX, bx gp #[.int .i64 cc, .int .i64 ck, .int .i64 cv] 44, bx gx #[.int .i64 hd.pos, .int .i64 hd.cc, .int .i64 hd.ck, .int .i64 hd.cv, .int .i64 hd.cur, .int .i64 hd.want, .int .i64 hd.key, .int .i64 hd.kid, .int .i64 hd.old, .int .i64 hd.next, .int .i64 hd.new, .slice A n c, .int .i64 hd.thn, .int .i64 hd.beg, .int .i64 hd.rep, .int .i64 hd.out] 49, ow (.slice A1 n c1) hd.st F1, ow (.slice AA nl cA) rd.st FA, bx ga8 #[.int .i64 rd.pos, .int .i64 rd.cc, .int .i64 rd.ck, .int .i64 rd.cv, .int .i64 rd.cur, .int .i64 rd.want, .int .i64 rd.key, .int .i64 rd.kid, .int .i64 rd.old, .int .i64 rd.next, .int .i64 rd.new, .slice AA nl cA, .int .i64 rd.thn, .int .i64 rd.beg, .int .i64 rd.rep, .int .i64 rd.out] 31, ow (.slice AG nl cG) rd.st FG, bx gb7 #[.int .i64 rd.pos, .int .i64 rd.cc, .int .i64 rd.ck, .int .i64 rd.cv, .int .i64 rd.cur, .int .i64 rd.want, .int .i64 rd.key, .int .i64 rd.kid, .int .i64 rd.old, .int .i64 rd.next, .int .i64 rd.new, .slice AG nl cG, .int .i64 rd.thn, .int .i64 rd.beg, .int .i64 rd.rep, .int .i64 rd.out] 31, ow (.slice AY n cY) hd.st FY] w9) := Lib.hid (S.out.marked 1 rfl y9 o9)
  clear o9 y9
  go_wp2_with (first
      | go_skip
      | (refine wpList_op rfl (op_row 31 _ rfl S.out 8 rfl rfl Try.isAgg31 (by kernel_rfl) ?_); simp only [Act.put, List.setIfInBounds_toArray, List.set_cons_succ, List.set_cons_zero])
      | (refine wpList_op rfl (op_row 31 _ rfl S.out 6 rfl rfl Try.isAgg31 (by kernel_rfl) ?_); simp only [Act.put, List.setIfInBounds_toArray, List.set_cons_succ, List.set_cons_zero]))
  refine (EL.out AG AA _ (OwnS.rs (S.out.get 7 rfl) HNL.out) (OwnS.rs (S.out.get 5 rfl) HNL.out)).mono ?_
  rintro e w ⟨rfl, b⟩
  replace S := Lib.hid (S.out.call b)
  clear b
  go_wp2_with (first
      | go_skip
      | (refine wpList_op rfl (op_row 31 _ rfl S.out 8 rfl rfl Try.isAgg31 (by kernel_rfl) ?_); simp only [Act.put, List.setIfInBounds_toArray, List.set_cons_succ, List.set_cons_zero]))
  refine (MG.out _ _ (S.out.get 7 rfl)).mono ?_
  rintro e w9 ⟨rfl, o9, y9⟩
  replace S : Hid (Sep noX w0 [bx gX #[.int .i64 hd.pos, .int .i64 hd.cc, .int .i64 hd.ck, .int .i64 hd.cv, .int .i64 hd.cur, .int .i64 hd.want, .int .i64 hd.key, .int .i64 hd.kid, .int .i64 hd.old, .int .i64 hd.next, .int .i64 hd.new, .slice AX n cX, .int .i64 hd.thn, .int .i64 hd.beg, .int .i64 hd.rep, .int .i64 hd.out] 31, ow (.slice AX n cX) (mkS 1 hd.st) FX, bx gp #[.int .i64 cc, .int .i64 ck, .int .i64 cv] 44, bx gx #[.int .i64 hd.pos, .int .i64 hd.cc, .int .i64 hd.ck, .int .i64 hd.cv, .int .i64 hd.cur, .int .i64 hd.want, .int .i64 hd.key, .int .i64 hd.kid, .int .i64 hd.old, .int .i64 hd.next, .int .i64 hd.new, .slice A n c, .int .i64 hd.thn, .int .i64 hd.beg, .int .i64 hd.rep, .int .i64 hd.out] 49, ow (.slice A1 n c1) hd.st F1, ow (.slice AA nl cA) rd.st FA, bx ga8 #[.int .i64 rd.pos, .int .i64 rd.cc, .int .i64 rd.ck, .int .i64 rd.cv, .int .i64 rd.cur, .int .i64 rd.want, .int .i64 rd.key, .int .i64 rd.kid, .int .i64 rd.old, .int .i64 rd.next, .int .i64 rd.new, .slice AA nl cA, .int .i64 rd.thn, .int .i64 rd.beg, .int .i64 rd.rep, .int .i64 rd.out] 31, ow (.slice AG nl cG) (mkS 1 rd.st) FG, bx gb7 #[.int .i64 rd.pos, .int .i64 rd.cc, .int .i64 rd.ck, .int .i64 rd.cv, .int .i64 rd.cur, .int .i64 rd.want, .int .i64 rd.key, .int .i64 rd.kid, .int .i64 rd.old, .int .i64 rd.next, .int .i64 rd.new, .slice AG nl cG, .int .i64 rd.thn, .int .i64 rd.beg, .int .i64 rd.rep, .int .i64 rd.out] 31, ow (.slice AY n cY) hd.st FY] w9) := Lib.hid (S.out.marked 7 rfl y9 o9)
  clear o9 y9
  go_wp2_with (first
      | go_skip
      | (refine wpList_op rfl (op_row 31 _ rfl S.out 8 rfl rfl Try.isAgg31 (by kernel_rfl) ?_); simp only [Act.put, List.setIfInBounds_toArray, List.set_cons_succ, List.set_cons_zero]))
  refine (DG.out _ _ (OwnS.rs (S.out.get 7 rfl) ML.out)).mono ?_
  rintro e w ⟨rfl, b⟩
  replace S := Lib.hid (S.out.call b)
  clear b
  go_wp2_with fail
  refine wp_region_ev (by kernel_rfl) _ (by kernel_rfl) (by kernel_rfl) 104 rfl (by kernel_rfl) (fun D V w => ∃ AZ : Option Addr, ∃ cZ : Nat, ∃ FZ : FP, ∃ AP : Option Addr, ∃ cP : Nat, ∃ FPP : FP, ∃ gd8 : Nat, Sep noX w0 [bx gX #[.int .i64 hd.pos, .int .i64 hd.cc, .int .i64 hd.ck, .int .i64 hd.cv, .int .i64 hd.cur, .int .i64 hd.want, .int .i64 hd.key, .int .i64 hd.kid, .int .i64 hd.old, .int .i64 hd.next, .int .i64 hd.new, .slice AX n cX, .int .i64 hd.thn, .int .i64 hd.beg, .int .i64 hd.rep, .int .i64 hd.out] 31, ow (.slice AX n cX) (mkS 1 hd.st) FX, bx gp #[.int .i64 cc, .int .i64 ck, .int .i64 cv] 44, bx gx #[.int .i64 hd.pos, .int .i64 hd.cc, .int .i64 hd.ck, .int .i64 hd.cv, .int .i64 hd.cur, .int .i64 hd.want, .int .i64 hd.key, .int .i64 hd.kid, .int .i64 hd.old, .int .i64 hd.next, .int .i64 hd.new, .slice A n c, .int .i64 hd.thn, .int .i64 hd.beg, .int .i64 hd.rep, .int .i64 hd.out] 49, ow (.slice A1 n c1) hd.st F1, ow (.slice AA nl cA) rd.st FA, bx ga8 #[.int .i64 rd.pos, .int .i64 rd.cc, .int .i64 rd.ck, .int .i64 rd.cv, .int .i64 rd.cur, .int .i64 rd.want, .int .i64 rd.key, .int .i64 rd.kid, .int .i64 rd.old, .int .i64 rd.next, .int .i64 rd.new, .slice AA nl cA, .int .i64 rd.thn, .int .i64 rd.beg, .int .i64 rd.rep, .int .i64 rd.out] 31, ow (.slice AG nl cG) (mkS 1 rd.st) FG, bx gb7 #[.int .i64 rd.pos, .int .i64 rd.cc, .int .i64 rd.ck, .int .i64 rd.cv, .int .i64 rd.cur, .int .i64 rd.want, .int .i64 rd.key, .int .i64 rd.kid, .int .i64 rd.old, .int .i64 rd.next, .int .i64 rd.new, .slice AG nl cG, .int .i64 rd.thn, .int .i64 rd.beg, .int .i64 rd.rep, .int .i64 rd.out] 31, ow (.slice AY n cY) hd.st FY, cnd (D 1) em (ow (.slice AZ n cZ) hd.st FZ), cnd (D 4) em (ow (.slice AP nl cP) rd.st FPP), cnd (D 8) em (cnd (D 9) (bx gd8 #[.int .i64 0, .int .i64 0, .int .i64 0, .int .i64 0, .int .i64 0, .int .i64 0, .int .i64 0, .int .i64 0, .int .i64 0, .int .i64 0, .int .i64 0, .slice none 0 0, .int .i64 0, .int .i64 0, .int .i64 0, .int .i64 0] 31) (bx gd8 #[.int .i64 rd.pos, .int .i64 rd.cc, .int .i64 rd.ck, .int .i64 rd.cv, .int .i64 rd.cur, .int .i64 rd.want, .int .i64 rd.key, .int .i64 rd.kid, .int .i64 rd.old, .int .i64 rd.next, .int .i64 rd.new, .slice AP nl cP, .int .i64 rd.thn, .int .i64 rd.beg, .int .i64 rd.rep, .int .i64 rd.out] 31))] w ∧ (D 0 = true → V 0 = .agg #[.int .i64 hd.pos, .int .i64 hd.cc, .int .i64 hd.ck, .int .i64 hd.cv, .int .i64 hd.cur, .int .i64 hd.want, .int .i64 hd.key, .int .i64 hd.kid, .int .i64 hd.old, .int .i64 hd.next, .int .i64 hd.new, .slice A n c, .int .i64 hd.thn, .int .i64 hd.beg, .int .i64 hd.rep, .int .i64 hd.out]) ∧ (D 1 = true → V 1 = .agg #[.int .i64 hd.pos, .int .i64 hd.cc, .int .i64 hd.ck, .int .i64 hd.cv, .int .i64 hd.cur, .int .i64 hd.want, .int .i64 hd.key, .int .i64 hd.kid, .int .i64 hd.old, .int .i64 hd.next, .int .i64 hd.new, .slice AZ n cZ, .int .i64 hd.thn, .int .i64 hd.beg, .int .i64 hd.rep, .int .i64 hd.out]) ∧ (D 2 = true → V 2 = .agg #[.int .i64 cc, .int .i64 ck, .int .i64 cv]) ∧ (D 3 = true → V 3 = .agg #[.int .i64 cc, .int .i64 ck, .int .i64 cv]) ∧ (D 4 = true → V 4 = .tuple #[.agg #[.int .i64 rd.pos, .int .i64 rd.cc, .int .i64 rd.ck, .int .i64 rd.cv, .int .i64 rd.cur, .int .i64 rd.want, .int .i64 rd.key, .int .i64 rd.kid, .int .i64 rd.old, .int .i64 rd.next, .int .i64 rd.new, .slice AP nl cP, .int .i64 rd.thn, .int .i64 rd.beg, .int .i64 rd.rep, .int .i64 rd.out], .int .i64 kq]) ∧ (D 5 = true → V 5 = .tuple #[.agg #[.int .i64 rd.pos, .int .i64 rd.cc, .int .i64 rd.ck, .int .i64 rd.cv, .int .i64 rd.cur, .int .i64 rd.want, .int .i64 rd.key, .int .i64 rd.kid, .int .i64 rd.old, .int .i64 rd.next, .int .i64 rd.new, .slice AP nl cP, .int .i64 rd.thn, .int .i64 rd.beg, .int .i64 rd.rep, .int .i64 rd.out], .int .i64 kq]) ∧ (D 6 = true → V 6 = .agg #[.int .i64 rd.pos, .int .i64 rd.cc, .int .i64 rd.ck, .int .i64 rd.cv, .int .i64 rd.cur, .int .i64 rd.want, .int .i64 rd.key, .int .i64 rd.kid, .int .i64 rd.old, .int .i64 rd.next, .int .i64 rd.new, .slice AP nl cP, .int .i64 rd.thn, .int .i64 rd.beg, .int .i64 rd.rep, .int .i64 rd.out]) ∧ (D 7 = true → V 7 = .int .i64 kq) ∧ (D 8 = true → V 8 = .pointer (some ⟨gd8, 0, none⟩)) ∧ (D 10 = true → V 10 = .int .i64 kq) ∧ (D 5 = true → D 4 = true) ∧ (D 6 = true → D 4 = true) ∧ (D 9 = true → D 4 = true) ∧ (D 9 = true → D 8 = true)) ?_ ?_ ?_
  · intro D hD
    have d1 := hD 1 (by decide)
    have d4 := hD 4 (by decide)
    have d8 := hD 8 (by decide)
    have d9 := hD 9 (by decide)
    exact ⟨none, 0, fun _ => False, none, 0, fun _ => False, 0, by rw [cnd_f d1, cnd_f d4, cnd_f d8]; exact S.out.drew.ems 3, (nof (hD 0 (by decide))), (nof (hD 1 (by decide))), (nof (hD 2 (by decide))), (nof (hD 3 (by decide))), (nof (hD 4 (by decide))), (nof (hD 5 (by decide))), (nof (hD 6 (by decide))), (nof (hD 7 (by decide))), (nof (hD 8 (by decide))), (nof (hD 10 (by decide))), (nof (hD 5 (by decide))), (nof (hD 6 (by decide))), (nof (hD 9 (by decide))), (nof (hD 9 (by decide)))⟩
  · intro i o D V w a ho hI hDi haf hev
    obtain ⟨AZ, cZ, FZ, AP, cP, FPP, gd8, S, f0, f1, f2, f3, f4, f5, f6, f7, f8, f10, o5_4, o6_4, o9_4, o9_8⟩ := hI
    rcases i with _ | _ | _ | _ | _ | _ | _ | _ | _ | _ | _ | i
    · obtain rfl := inj_ ho
      exact op_row 49 _ rfl S 3 rfl ((hev.old 2 (by kernel_rfl)).trans rfl) Try.isAgg49 (by kernel_rfl) ⟨_, rfl, AZ, cZ, FZ, AP, cP, FPP, gd8, S, fun _ => rfl, f1, f2, f3, f4, f5, f6, f7, f8, f10, o5_4, o6_4, o9_4, o9_8⟩
    · obtain rfl := inj_ ho
      have h0 := aft_ haf 0 rfl
      have hx0 := (hev.at_ 0 80 rfl rfl h0 f0)
      refine op_call _ _ _ rfl (enters_of Try.func28 (by kernel_rfl) rfl) #[.agg #[.int .i64 hd.pos, .int .i64 hd.cc, .int .i64 hd.ck, .int .i64 hd.cv, .int .i64 hd.cur, .int .i64 hd.want, .int .i64 hd.key, .int .i64 hd.kid, .int .i64 hd.old, .int .i64 hd.next, .int .i64 hd.new, .slice A n c, .int .i64 hd.thn, .int .i64 hd.beg, .int .i64 hd.rep, .int .i64 hd.out]] (by simp [hx0]) (TN.out w (S.rs HH.out)) (fun e w2 hh => ?_)
      obtain ⟨A9, c9, F9, rfl, oo, ff, bb⟩ := hh
      have S2 := S.turn 10 (I := em) (by simp only [gs_, gz_, cnd_f hDi]) (Only.of_below bb) (ow (.slice A9 n c9) hd.st F9) oo (fun k hk => ⟨.inr (ff k hk).1, (ff k hk).2⟩)
      exact ⟨_, rfl, ⟨_, rfl, A9, c9, F9, AP, cP, FPP, gd8, S2, f0, fun _ => rfl, f2, f3, f4, f5, f6, f7, f8, f10, o5_4, o6_4, o9_4, o9_8⟩⟩
    · obtain rfl := inj_ ho
      exact op_row 44 _ rfl S 2 rfl ((hev.old 3 (by kernel_rfl)).trans rfl) Try.isAgg44 (by kernel_rfl) ⟨_, rfl, AZ, cZ, FZ, AP, cP, FPP, gd8, S, f0, f1, fun _ => rfl, f3, f4, f5, f6, f7, f8, f10, o5_4, o6_4, o9_4, o9_8⟩
    · obtain rfl := inj_ ho
      have h2 := aft_ haf 2 rfl
      have hx0 := (hev.at_ 2 82 rfl rfl h2 f2)
      refine op_call _ _ _ rfl (enters_of Try.func26 (by kernel_rfl) rfl) #[.agg #[.int .i64 cc, .int .i64 ck, .int .i64 cv]] (by simp [hx0]) (TP.out w) (fun e w2 hh => ?_)
      obtain ⟨rfl, b⟩ := hh
      exact ⟨_, rfl, ⟨_, rfl, AZ, cZ, FZ, AP, cP, FPP, gd8, S.call b, f0, f1, f2, fun _ => rfl, f4, f5, f6, f7, f8, f10, o5_4, o6_4, o9_4, o9_8⟩⟩
    · obtain rfl := inj_ ho
      have h1 := aft_ haf 1 rfl
      have h3 := aft_ haf 3 rfl
      have ns9 := nofb hDi o9_4
      have hx0 := (hev.at_ 1 81 rfl rfl h1 f1)
      have hx1 := (hev.at_ 3 83 rfl rfl h3 f3)
      have so := S.get 10 (I := ow (.slice AZ n cZ) hd.st FZ) (by simp only [gs_, gz_, cnd_t h1])
      refine op_call _ _ _ rfl (enters_of Try.func15 (by kernel_rfl) rfl) #[.agg #[.int .i64 hd.pos, .int .i64 hd.cc, .int .i64 hd.ck, .int .i64 hd.cv, .int .i64 hd.cur, .int .i64 hd.want, .int .i64 hd.key, .int .i64 hd.kid, .int .i64 hd.old, .int .i64 hd.next, .int .i64 hd.new, .slice AZ n cZ, .int .i64 hd.thn, .int .i64 hd.beg, .int .i64 hd.rep, .int .i64 hd.out], .agg #[.int .i64 cc, .int .i64 ck, .int .i64 cv]] (by simp [hx0, hx1]) (HI.out AZ cZ w (OwnS.cap so).1 (OwnS.cap so).2 (OwnS.rs so HN.out)) (fun e w2 hh => ?_)
      obtain ⟨A8, c8, F8, rfl, u8, v8, bb⟩ := hh
      rw [HNL.out] at u8
      unfold hdV
      rw [HNL.out]
      have S2 := S.turn 11 (I := em) (by simp only [gs_, gz_, cnd_f hDi]) (Only.of_below bb) (ow (.slice A8 nl c8) rd.st F8) u8 (fun k hk => ⟨.inr (v8 k hk).1, (v8 k hk).2⟩)
      exact ⟨_, rfl, ⟨_, rfl, AZ, cZ, FZ, A8, c8, F8, gd8, (by have SS := S2; rw [cnd_f ns9] at SS; rw [show updB D 4 9 = false from ns9]; exact SS), f0, f1, f2, f3, fun _ => rfl, (fun h => nof hDi (o5_4 h)), (fun h => nof hDi (o6_4 h)), f7, f8, f10, fun _ => rfl, fun _ => rfl, fun _ => rfl, o9_8⟩⟩
    · obtain rfl := inj_ ho
      have h4 := aft_ haf 4 rfl
      exact op_move (.inl rfl) (hev.at_ 4 84 rfl rfl h4 f4) ⟨_, rfl, AZ, cZ, FZ, AP, cP, FPP, gd8, S, f0, f1, f2, f3, f4, fun _ => rfl, f6, f7, f8, f10, fun _ => h4, o6_4, o9_4, o9_8⟩
    · obtain rfl := inj_ ho
      have h5 := aft_ haf 5 rfl
      have h4 : D 4 = true := o5_4 h5
      exact op_extract _ _ rfl (hev.at_ 5 79 rfl rfl h5 f5) rfl ⟨_, rfl, AZ, cZ, FZ, AP, cP, FPP, gd8, S, f0, f1, f2, f3, f4, f5, fun _ => rfl, f7, f8, f10, o5_4, fun _ => h4, o9_4, o9_8⟩
    · obtain rfl := inj_ ho
      have h5 := aft_ haf 5 rfl
      exact op_extract _ _ rfl (hev.at_ 5 79 rfl rfl h5 f5) rfl ⟨_, rfl, AZ, cZ, FZ, AP, cP, FPP, gd8, S, f0, f1, f2, f3, f4, f5, f6, fun _ => rfl, f8, f10, o5_4, o6_4, o9_4, o9_8⟩
    · obtain rfl := inj_ ho
      have nst := nofb hDi o9_8
      refine op_nxAt 31 rfl S 12 (by simp only [gs_, gz_, cnd_f hDi]) _ Try.zeroValue31 (fun g w S => ⟨_, rfl, AZ, cZ, FZ, AP, cP, FPP, g, (by have e : updB D 8 9 = false := nst; rw [e]; exact S), f0, f1, f2, f3, f4, f5, f6, f7, fun _ => rfl, f10, o5_4, o6_4, o9_4, fun _ => rfl⟩)
    · obtain rfl := inj_ ho
      have h8 := aft_ haf 8 rfl
      have h6 := aft_ haf 6 rfl
      have h4 : D 4 = true := o6_4 h6
      have ha : D 8 = true := aft_ haf 8 rfl
      exact op_putR 31 _ _ rfl S 12 (g := gd8) (C := #[.int .i64 0, .int .i64 0, .int .i64 0, .int .i64 0, .int .i64 0, .int .i64 0, .int .i64 0, .int .i64 0, .int .i64 0, .int .i64 0, .int .i64 0, .slice none 0 0, .int .i64 0, .int .i64 0, .int .i64 0, .int .i64 0]) (t := 31) (by simp only [gs_, gz_, cnd_t ha, cnd_f hDi]) (hev.at_ 8 14 rfl rfl h8 f8) _ (hev.at_ 6 85 rfl rfl h6 f6) rfl (by kernel_rfl) rfl (fun w S => ⟨_, rfl, AZ, cZ, FZ, AP, cP, FPP, gd8, (by have e : updB D 9 8 = true := ha; rw [e]; exact S), f0, f1, f2, f3, f4, f5, f6, f7, f8, f10, o5_4, o6_4, fun _ => h4, fun _ => h8⟩)
    · obtain rfl := inj_ ho
      have h7 := aft_ haf 7 rfl
      exact op_move (.inr rfl) (hev.at_ 7 86 rfl rfl h7 f7) ⟨_, rfl, AZ, cZ, FZ, AP, cP, FPP, gd8, S, f0, f1, f2, f3, f4, f5, f6, f7, f8, fun _ => rfl, o5_4, o6_4, o9_4, o9_8⟩
    · exact absurd ho (by simp)
  intro V w hI
  obtain ⟨AZ, cZ, FZ, AP, cP, FPP, gd8, S, f0, f1, f2, f3, f4, f5, f6, f7, f8, f10, o5_4, o6_4, o9_4, o9_8⟩ := hI
  replace f0 := f0 rfl
  replace f1 := f1 rfl
  replace f2 := f2 rfl
  replace f3 := f3 rfl
  replace f4 := f4 rfl
  replace f5 := f5 rfl
  replace f6 := f6 rfl
  replace f7 := f7 rfl
  replace f8 := f8 rfl
  replace f10 := f10 rfl
  replace S : Hid (Sep noX w0 [bx gX #[.int .i64 hd.pos, .int .i64 hd.cc, .int .i64 hd.ck, .int .i64 hd.cv, .int .i64 hd.cur, .int .i64 hd.want, .int .i64 hd.key, .int .i64 hd.kid, .int .i64 hd.old, .int .i64 hd.next, .int .i64 hd.new, .slice AX n cX, .int .i64 hd.thn, .int .i64 hd.beg, .int .i64 hd.rep, .int .i64 hd.out] 31, ow (.slice AX n cX) (mkS 1 hd.st) FX, bx gp #[.int .i64 cc, .int .i64 ck, .int .i64 cv] 44, bx gx #[.int .i64 hd.pos, .int .i64 hd.cc, .int .i64 hd.ck, .int .i64 hd.cv, .int .i64 hd.cur, .int .i64 hd.want, .int .i64 hd.key, .int .i64 hd.kid, .int .i64 hd.old, .int .i64 hd.next, .int .i64 hd.new, .slice A n c, .int .i64 hd.thn, .int .i64 hd.beg, .int .i64 hd.rep, .int .i64 hd.out] 49, ow (.slice A1 n c1) hd.st F1, ow (.slice AA nl cA) rd.st FA, bx ga8 #[.int .i64 rd.pos, .int .i64 rd.cc, .int .i64 rd.ck, .int .i64 rd.cv, .int .i64 rd.cur, .int .i64 rd.want, .int .i64 rd.key, .int .i64 rd.kid, .int .i64 rd.old, .int .i64 rd.next, .int .i64 rd.new, .slice AA nl cA, .int .i64 rd.thn, .int .i64 rd.beg, .int .i64 rd.rep, .int .i64 rd.out] 31, ow (.slice AG nl cG) (mkS 1 rd.st) FG, bx gb7 #[.int .i64 rd.pos, .int .i64 rd.cc, .int .i64 rd.ck, .int .i64 rd.cv, .int .i64 rd.cur, .int .i64 rd.want, .int .i64 rd.key, .int .i64 rd.kid, .int .i64 rd.old, .int .i64 rd.next, .int .i64 rd.new, .slice AG nl cG, .int .i64 rd.thn, .int .i64 rd.beg, .int .i64 rd.rep, .int .i64 rd.out] 31, ow (.slice AY n cY) hd.st FY, ow (.slice AZ n cZ) hd.st FZ, ow (.slice AP nl cP) rd.st FPP, bx gd8 #[.int .i64 rd.pos, .int .i64 rd.cc, .int .i64 rd.ck, .int .i64 rd.cv, .int .i64 rd.cur, .int .i64 rd.want, .int .i64 rd.key, .int .i64 rd.kid, .int .i64 rd.old, .int .i64 rd.next, .int .i64 rd.new, .slice AP nl cP, .int .i64 rd.thn, .int .i64 rd.beg, .int .i64 rd.rep, .int .i64 rd.out] 31] w) := Lib.hid S
  simp only [putF, Act.put, List.setIfInBounds_toArray, List.set_cons_succ, List.set_cons_zero, f0, f1, f2, f3, f4, f5, f6, f7, f8, f10]
  clear f0 f1 f2 f3 f4 f5 f6 f7 f8 f10 o5_4 o6_4 o9_4 o9_8
  go_wp2_with (first
      | go_skip
      | (refine wpList_op rfl (op_row 31 _ rfl S.out 12 rfl rfl Try.isAgg31 (by kernel_rfl) ?_); simp only [Act.put, List.setIfInBounds_toArray, List.set_cons_succ, List.set_cons_zero])
      | (refine wpList_op rfl (op_row 31 _ rfl S.out 6 rfl rfl Try.isAgg31 (by kernel_rfl) ?_); simp only [Act.put, List.setIfInBounds_toArray, List.set_cons_succ, List.set_cons_zero]))
  refine (EL.out AP AA _ (OwnS.rs (S.out.get 11 rfl) HNL.out) (OwnS.rs (S.out.get 5 rfl) HNL.out)).mono ?_
  rintro e w ⟨rfl, b⟩
  replace S := Lib.hid (S.out.call b)
  clear b
  go_wp2_with (first
      | go_skip
      | (refine wpList_op rfl (op_row 31 _ rfl S.out 8 rfl rfl Try.isAgg31 (by kernel_rfl) ?_); simp only [Act.put, List.setIfInBounds_toArray, List.set_cons_succ, List.set_cons_zero]))
  refine (DG.out _ _ (OwnS.rs (S.out.get 7 rfl) ML.out)).mono ?_
  rintro e w ⟨rfl, b⟩
  replace S := Lib.hid (S.out.call b)
  clear b
  go_wp2_with fail
  go_ret
  exact ⟨rfl, S.out.below⟩
end Go.Proofs.Ytjookicpmjmdhaa
