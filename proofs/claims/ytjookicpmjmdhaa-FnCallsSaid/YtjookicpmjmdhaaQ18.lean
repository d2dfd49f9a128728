/- The walk of the model's l9Down. (Made by genY4.py.) -/
import Derived.Test.YtjookicpmjmdhaaQ17
open Go.Value renaming int → jI, slice → jS
open Go.IntKind renaming i64 → jZ
namespace Go.Proofs.Ytjookicpmjmdhaa
open Go.RowKit

def GivesD (r : Int) (A : Option Addr) (n c : Nat) (A' : Option Addr) (c' : Nat) (st0 : List Int) (w : World) (s : StR) (e : Ending) (w' : World) : Prop :=
 ∃ A2 c2, e = .returned (.tuple #[.agg (if s.b then #[jI jZ r, jS A n c] else #[jI jZ 0, jS none 0 0]), hdV s.h A2 s.h.st.length c2, .bool s.b]) ∧
   ((A2 = A' ∧ c2 = c' ∧ s.h.st = st0) ∨ ∃ F, OwnS w' (jS A2 s.h.st.length c2) s.h.st F ∧ Fresh F w w') ∧ (s.b = false → A2 = none ∧ c2 = 0) ∧ Below w.heap.size w w'

theorem none_D {r : Int} {A : Option Addr} {n c : Nat} {A' : Option Addr} {c' : Nat} {st0 : List Int} {w w' : World} (b : Below w.heap.size w w') : GivesD r A n c A' c' st0 w noneS (.returned (.tuple #[.agg #[jI jZ 0, jS none 0 0], hdV zeroH none 0 0, .bool false])) w' :=
 ⟨none, 0, rfl, .inr ⟨fun _ => False, OwnS.nil _ _, fun _ hk => absurd hk id⟩, fun _ => ⟨rfl, rfl⟩, b⟩
theorem done_yes {t : Tr} {h : Hd} (hq : treeOk t.root t.ns = true) (hq2 : handOk h = true) : doneS t h = ⟨t, h, true⟩ := by unfold doneS; rw [hq, hq2]; rfl
theorem done_no {t : Tr} {h : Hd} (hq : handOk h = false) : doneS t h = noneS := by unfold doneS; rw [hq]; simp

set_option maxRecDepth 100000 in
set_option maxHeartbeats 4000000 in
theorem down9_any (r : Int) (xs : List Nd) (A : Option Addr) (n c : Nat) (hd : Hd) (A' : Option Addr) (n' c' : Nat) (w0 : World) (hR : RS w0 w0.heap.size A n xs) (hT : treeOk r xs = true) (hH : RS w0 w0.heap.size A' n' hd.st) (hn' : n' ≤ 1048576) (hcur : hasB n hd.cur = true) :
   Calls Try.prog 93 #[.agg #[jI jZ r, jS A n c], hdV hd A' n' c'] w0 (GivesD r A n c A' c' hd.st w0 (downD ⟨r, xs⟩ hd)) := by
 have hlx : xs.length = n := hR.1
 have hTR : Right n r xs := by have := right_of hT; rwa [hlx] at this
 have hs : Small.sm xs := sm_right hTR
 obtain ⟨h0, h1⟩ := (hasB_iff n hd.cur).1 hcur
 obtain ⟨k, hk⟩ : ∃ k : Nat, hd.cur = k := ⟨hd.cur.toNat, by omega⟩
 have NX := Lib.hid (fun w (h : RS w w.heap.size A n xs) => (show Calls Try.prog 107 #[.agg #[jI jZ r, jS A n c], jI jZ hd.cur, jI jZ hd.key, jI jZ hd.want] w _ from by rw [hk]; exact next_any r xs A n c k hd.key hd.want w h hTR (by omega)))
 have hE : downD ⟨r, xs⟩ hd = (if (nextP xs k hd.key hd.want).2 = 1 then doneS ⟨r, xs⟩ { hd with cur := (nextP xs k hd.key hd.want).1 } else if (nextP xs k hd.key hd.want).2 = 2 then doneS ⟨r, xs⟩ { hd with st := hd.st ++ [hd.cur], cur := (nextP xs k hd.key hd.want).1 } else if (nextP xs k hd.key hd.want).2 = 3 then doneS ⟨r, xs⟩ (hereH ⟨r, xs⟩ hd) else noneS) := by
   unfold downD
   simp only [hk, Int.toNat_natCast]
 have HE := Lib.hid (fun w hR => here9_any r xs A n c hd A' n' c' w hR hTR hcur)
 have NN := Lib.hid none9_any
 have CK := Lib.hid (fun w hR => copyI_any hd.st A' n' c' w hR hn')
 have HR := Lib.hid hR
 have HH := Lib.hid hH
 have HL := Lib.hid hH.1
 have HT := Lib.hid hT
 have HE2 := Lib.hid hE
 clear hR hH hlx hTR hE hT hcur h0 h1 hk
 generalize nextP xs k hd.key hd.want = p at *
 obtain ⟨p1, p2⟩ := p
 simp only at *
 have S := Lib.hid (Sep.start noX w0)
 have tok0 : True := trivial
 have tok1 : True := trivial
 have tok2 : True := trivial
 have tok3 : True := trivial
 unfold hdV at *
 by_cases e1 : p2 = 1
 · have HE3 : Hid (downD ⟨r, xs⟩ hd = doneS ⟨r, xs⟩ { hd with cur := p1 }) := Lib.hid (by rw [HE2.out, if_pos e1])
   obtain rfl := e1
   go_enter Try.func93, Try.ntmps93
   go_wp2_with (first
       | (clear tok0; refine bx_ 77 S rfl rfl rfl ?_; clear S; intro gt w S)
       | (clear tok1; refine bx_ 31 S rfl rfl rfl ?_; clear S; intro gh w S)
       | (clear tok2; refine nx_ 77 S rfl rfl Try.zeroValue77 ?_; clear S; intro rt w S)
       | (clear tok3; refine nx_ 31 S rfl rfl Try.zeroValue31 ?_; clear S; intro rh w S)
       | (refine wpList_op rfl (op_row 77 _ rfl S.out 3 rfl rfl Try.isAgg77 (by kernel_rfl) ?_))
       | (refine wpList_op rfl (op_get 2 _ rfl S.out 2 rfl _ rfl Try.isAgg2 _ rfl ?_)))
   refine (NX.out _ (S.out.rs HR.out)).mono ?_
   rintro e w ⟨rfl, b⟩
   replace S := Lib.hid (S.out.call b)
   clear b
   go_wp2_with (first
       | (refine wpList_op rfl (op_put1_2 2 _ _ rfl S _ rfl _ rfl rfl (by kernel_rfl) (of_decide_eq_true rfl) ?_); clear S; intro w S; replace S : Hid (Sep noX w0 [bx rh #[jI jZ 0, jI jZ 0, jI jZ 0, jI jZ 0, jI jZ 0, jI jZ 0, jI jZ 0, jI jZ 0, jI jZ 0, jI jZ 0, jI jZ 0, jS none 0 0, jI jZ 0, jI jZ 0, jI jZ 0, jI jZ 0] 31, bx rt #[jI jZ 0, jS none 0 0] 77, bx gh #[jI jZ hd.pos, jI jZ hd.cc, jI jZ hd.ck, jI jZ hd.cv, jI jZ p1, jI jZ hd.want, jI jZ hd.key, jI jZ hd.kid, jI jZ hd.old, jI jZ hd.next, jI jZ hd.new, jS A' n' c', jI jZ hd.thn, jI jZ hd.beg, jI jZ hd.rep, jI jZ hd.out] 31, bx gt #[jI jZ r, jS A n c] 77] w) := S)
       | (refine wpList_op rfl (op_row 77 _ rfl S.out 3 rfl rfl Try.isAgg77 (by kernel_rfl) ?_))
       | (refine wpList_op rfl (op_row 31 _ rfl S.out 2 rfl rfl Try.isAgg31 (by kernel_rfl) ?_)))
   by_cases hq : handOk { hd with cur := p1 } = true
   · have hd2 := (done9_yes r xs A n c { hd with cur := p1 } A' n' c' w (S.out.rs HR.out) hs (S.out.rs HH.out) HT.out hq)
     unfold hdV at hd2
     refine hd2.mono ?_
     rintro e w ⟨rfl, b⟩
     replace S := Lib.hid (S.out.call b)
     clear b hd2
     go_wp2_with (first
         | (refine wpList_op rfl (op_putR_1 77 _ _ rfl S rfl _ rfl rfl (by kernel_rfl) rfl ?_); clear S; intro w S)
         | (refine wpList_op rfl (op_putR_0 31 _ _ rfl S rfl _ rfl rfl (by kernel_rfl) rfl ?_); clear S; intro w S))
     exact bodyPost_ret (results_ccs rfl _ S.out 1 0 rfl rfl rfl rfl Try.isAgg77 Try.isAgg31 (by kernel_rfl) (by kernel_rfl)) rfl ⟨A', c', by rw [HE3.out, done_yes HT.out hq]; simp only [HL.out]; rfl, .inl ⟨rfl, rfl, by rw [HE3.out, done_yes HT.out hq]⟩, (by rw [HE3.out, done_yes HT.out hq]; exact fun h => by cases h), S.out.below⟩
   · have hd2 := (done9_no r xs A n c { hd with cur := p1 } A' n' c' w (S.out.rs HR.out) hs (S.out.rs HH.out) (by simp [hq]))
     unfold hdV at hd2
     refine hd2.mono ?_
     rintro e w ⟨rfl, b⟩
     replace S := Lib.hid (S.out.call b)
     clear b hd2
     go_wp2_with (first
         | (refine wpList_op rfl (op_putR_1 77 _ _ rfl S rfl _ rfl rfl (by kernel_rfl) rfl ?_); clear S; intro w S)
         | (refine wpList_op rfl (op_putR_0 31 _ _ rfl S rfl _ rfl rfl (by kernel_rfl) rfl ?_); clear S; intro w S))
     exact bodyPost_ret (results_ccs rfl _ S.out 1 0 rfl rfl rfl rfl Try.isAgg77 Try.isAgg31 (by kernel_rfl) (by kernel_rfl)) rfl (by rw [HE3.out, done_no (by simpa using hq)]; exact none_D S.out.below)
 have g1 : (p2 == 1) = false := by simpa using e1
 by_cases e2 : p2 = 2
 · have HE3 : Hid (downD ⟨r, xs⟩ hd = doneS ⟨r, xs⟩ { hd with st := hd.st ++ [hd.cur], cur := p1 }) := Lib.hid (by rw [HE2.out, if_neg e1, if_pos e2])
   obtain rfl := e2
   clear g1 e1
   go_enter Try.func93, Try.ntmps93
   go_wp2_with (first
       | (clear tok0; refine bx_ 77 S rfl rfl rfl ?_; clear S; intro gt w S)
       | (clear tok1; refine bx_ 31 S rfl rfl rfl ?_; clear S; intro gh w S)
       | (clear tok2; refine nx_ 77 S rfl rfl Try.zeroValue77 ?_; clear S; intro rt w S)
       | (clear tok3; refine nx_ 31 S rfl rfl Try.zeroValue31 ?_; clear S; intro rh w S)
       | (refine wpList_op rfl (op_row 77 _ rfl S.out 3 rfl rfl Try.isAgg77 (by kernel_rfl) ?_))
       | (refine wpList_op rfl (op_get 2 _ rfl S.out 2 rfl _ rfl Try.isAgg2 _ rfl ?_)))
   refine (NX.out _ (S.out.rs HR.out)).mono ?_
   rintro e w ⟨rfl, b⟩
   replace S := Lib.hid (S.out.call b)
   clear b
   go_wp2_with fail
   refine wp_region_ev (by kernel_rfl) _ (by kernel_rfl) (by kernel_rfl) 52 rfl (by kernel_rfl) (fun D V w => ∃ v2 : Value, ∃ F2 : FP, ∃ gb : Nat, ∃ A6 : Option Addr, ∃ c6 : Nat, ∃ F6 : FP, Sep noX w0 [bx rh #[jI jZ 0, jI jZ 0, jI jZ 0, jI jZ 0, jI jZ 0, jI jZ 0, jI jZ 0, jI jZ 0, jI jZ 0, jI jZ 0, jI jZ 0, jS none 0 0, jI jZ 0, jI jZ 0, jI jZ 0, jI jZ 0] 31, bx rt #[jI jZ 0, jS none 0 0] 77, cnd (D 8) (bx gh #[jI jZ hd.pos, jI jZ hd.cc, jI jZ hd.ck, jI jZ hd.cv, jI jZ hd.cur, jI jZ hd.want, jI jZ hd.key, jI jZ hd.kid, jI jZ hd.old, jI jZ hd.next, jI jZ hd.new, jS A' n' c', jI jZ hd.thn, jI jZ hd.beg, jI jZ hd.rep, jI jZ hd.out] 31) (bx gh #[jI jZ hd.pos, jI jZ hd.cc, jI jZ hd.ck, jI jZ hd.cv, jI jZ hd.cur, jI jZ hd.want, jI jZ hd.key, jI jZ hd.kid, jI jZ hd.old, jI jZ hd.next, jI jZ hd.new, jS A6 (hd.st.length + 1) c6, jI jZ hd.thn, jI jZ hd.beg, jI jZ hd.rep, jI jZ hd.out] 31), bx gt #[jI jZ r, jS A n c] 77, cnd (D 2) em (cnd (D 6) (ow v2 hd.st F2) (ow (jS A6 (hd.st.length + 1) c6) (hd.st ++ [hd.cur]) F6)), cnd (D 5) em (bx gb (IL [hd.cur]).toArray 2)] w ∧ (D 0 = true → V 0 = .pointer (some ⟨gh, 11, none⟩)) ∧ (D 1 = true → V 1 = jS A' n' c') ∧ (D 2 = true → V 2 = v2) ∧ (D 3 = true → V 3 = .pointer (some ⟨gh, 4, none⟩)) ∧ (D 4 = true → V 4 = jI jZ hd.cur) ∧ (D 5 = true → V 5 = jS (some ⟨gb, 0, none⟩) 1 1) ∧ (D 6 = true → V 6 = jS A6 (hd.st.length + 1) c6) ∧ (D 7 = true → V 7 = .pointer (some ⟨gh, 11, none⟩)) ∧ (D 2 = true → D 1 = true) ∧ (D 5 = true → D 4 = true) ∧ (D 6 = true → D 1 = true) ∧ (D 6 = true → D 2 = true) ∧ (D 6 = true → D 4 = true) ∧ (D 8 = true → D 1 = true) ∧ (D 8 = true → D 4 = true) ∧ (D 8 = true → D 6 = true)) ?_ ?_ ?_
   · intro D hD
     have d2 := hD 2 (by decide)
     have d5 := hD 5 (by decide)
     have d8 := hD 8 (by decide)
     exact ⟨undef, fun _ => False, 0, none, 0, fun _ => False, by rw [cnd_f d8, cnd_f d2, cnd_f d5]; exact S.out.drew.ems 2, (nof (hD 0 (by decide))), (nof (hD 1 (by decide))), (nof (hD 2 (by decide))), (nof (hD 3 (by decide))), (nof (hD 4 (by decide))), (nof (hD 5 (by decide))), (nof (hD 6 (by decide))), (nof (hD 7 (by decide))), (nof (hD 2 (by decide))), (nof (hD 5 (by decide))), (nof (hD 6 (by decide))), (nof (hD 6 (by decide))), (nof (hD 6 (by decide))), (nof (hD 8 (by decide))), (nof (hD 8 (by decide))), (nof (hD 8 (by decide)))⟩
   · intro i o D V w a ho hI hDi haf hev
     obtain ⟨v2, F2, gb, A6, c6, F6, S, f0, f1, f2, f3, f4, f5, f6, f7, o2_1, o5_4, o6_1, o6_2, o6_4, o8_1, o8_4, o8_6⟩ := hI
     rcases i with _ | _ | _ | _ | _ | _ | _ | _ | _ | i
     · obtain rfl := inj_ ho
       exact op_field _ _ _ rfl ((hev.old 3 (by kernel_rfl)).trans rfl) (by kernel_rfl) ⟨_, rfl, v2, F2, gb, A6, c6, F6, S, fun _ => rfl, f1, f2, f3, f4, f5, f6, f7, o2_1, o5_4, o6_1, o6_2, o6_4, o8_1, o8_4, o8_6⟩
     · obtain rfl := inj_ ho
       have h0 := aft_ haf 0 rfl
       have nn := nofb hDi o8_1
       exact op_get 29 _ rfl S 2 (g := gh) (C := #[jI jZ hd.pos, jI jZ hd.cc, jI jZ hd.ck, jI jZ hd.cv, jI jZ hd.cur, jI jZ hd.want, jI jZ hd.key, jI jZ hd.kid, jI jZ hd.old, jI jZ hd.next, jI jZ hd.new, jS A' n' c', jI jZ hd.thn, jI jZ hd.beg, jI jZ hd.rep, jI jZ hd.out]) (t := 31) (by simp only [gs_, gz_, cnd_f nn]) 11 (hev.at_ 0 31 rfl rfl h0 f0) Try.isAgg29 _ rfl ⟨_, rfl, v2, F2, gb, A6, c6, F6, S, f0, fun _ => rfl, f2, f3, f4, f5, f6, f7, fun _ => rfl, o5_4, fun _ => rfl, o6_2, o6_4, fun _ => rfl, o8_4, o8_6⟩
     · obtain rfl := inj_ ho
       have h1 := aft_ haf 1 rfl
       have nn := nofb hDi o6_2
       have hx := (hev.at_ 1 32 rfl rfl h1 f1)
       refine op_call _ _ _ rfl (enters_of Try.func59 (by kernel_rfl) rfl) #[jS A' n' c'] (by simp [hx]) (CK.out _ (S.rs HH.out)) (fun e w2 hh => ?_)
       obtain ⟨v, rfl, own, b⟩ := hh
       rw [← HL.out] at own
       have S2 := S.turn 4 (I := em) (by simp only [gs_, gz_, cnd_f hDi]) (Only.of_below b) (ow v hd.st (blkF v.ownBlock)) (OwnS.of_ints own (fun k hk => hk)) (fun k hk => by have := own.lt k hk; exact ⟨.inr this.1, this.2⟩)
       exact ⟨_, rfl, ⟨_, rfl, v, blkF v.ownBlock, gb, A6, c6, F6, (by rw [show updB D 2 6 = false from nn]; exact S2), f0, f1, fun _ => rfl, f3, f4, f5, f6, f7, fun _ => h1, o5_4, o6_1, fun _ => rfl, o6_4, o8_1, o8_4, o8_6⟩⟩
     · obtain rfl := inj_ ho
       exact op_field _ _ _ rfl ((hev.old 3 (by kernel_rfl)).trans rfl) (by kernel_rfl) ⟨_, rfl, v2, F2, gb, A6, c6, F6, S, f0, f1, f2, fun _ => rfl, f4, f5, f6, f7, o2_1, o5_4, o6_1, o6_2, o6_4, o8_1, o8_4, o8_6⟩
     · obtain rfl := inj_ ho
       have h3 := aft_ haf 3 rfl
       have nn := nofb hDi o8_4
       exact op_get 2 _ rfl S 2 (g := gh) (C := #[jI jZ hd.pos, jI jZ hd.cc, jI jZ hd.ck, jI jZ hd.cv, jI jZ hd.cur, jI jZ hd.want, jI jZ hd.key, jI jZ hd.kid, jI jZ hd.old, jI jZ hd.next, jI jZ hd.new, jS A' n' c', jI jZ hd.thn, jI jZ hd.beg, jI jZ hd.rep, jI jZ hd.out]) (t := 31) (by simp only [gs_, gz_, cnd_f nn]) 4 (hev.at_ 3 34 rfl rfl h3 f3) Try.isAgg2 _ rfl ⟨_, rfl, v2, F2, gb, A6, c6, F6, S, f0, f1, f2, f3, fun _ => rfl, f5, f6, f7, o2_1, fun _ => rfl, o6_1, o6_2, fun _ => rfl, o8_1, fun _ => rfl, o8_6⟩
     · obtain rfl := inj_ ho
       have h4 := aft_ haf 4 rfl
       have hx0 := (hev.at_ 4 35 rfl rfl h4 f4)
       exact op_bsI 1 _ rfl S 5 (by simp only [gs_, gz_, cnd_f hDi]) [(0, jI jZ hd.cur)] (by simp [hx0]) [hd.cur] (by kernel_rfl) (by omega) (by omega) (fun g w S => ⟨_, rfl, v2, F2, g, A6, c6, F6, S, f0, f1, f2, f3, f4, fun _ => rfl, f6, f7, o2_1, fun _ => h4, o6_1, o6_2, o6_4, o8_1, o8_4, o8_6⟩)
     · obtain rfl := inj_ ho
       have h2 := aft_ haf 2 rfl
       have h5 := aft_ haf 5 rfl
       have h1 : D 1 = true := o2_1 h2
       have h4 : D 4 = true := o5_4 h5
       have ns8 := nofb hDi o8_6
       have hx0 := (hev.at_ 2 33 rfl rfl h2 f2)
       have hx1 := (hev.at_ 5 36 rfl rfl h5 f5)
       exact op_appI _ _ rfl S 4 (v := v2) (xs := hd.st) (F := F2) (by simp only [gs_, gz_, cnd_t h2, cnd_f hDi]) hx0 5 [hd.cur] (g := gb) (t := 2) (by simp only [gs_, gz_, cnd_t h5]) 1 1 rfl (by omega) hx1 (by have := HL.out; omega) (fun A c F w S => ⟨_, rfl, v2, F2, gb, A, c, F, (by rw [show updB D 6 2 = true from h2]; rw [cnd_f ns8] at S; rw [show updB D 6 8 = false from ns8]; exact S), f0, f1, f2, f3, f4, f5, fun _ => rfl, f7, o2_1, o5_4, fun _ => h1, fun _ => h2, fun _ => h4, o8_1, o8_4, fun _ => rfl⟩)
     · obtain rfl := inj_ ho
       exact op_field _ _ _ rfl ((hev.old 3 (by kernel_rfl)).trans rfl) (by kernel_rfl) ⟨_, rfl, v2, F2, gb, A6, c6, F6, S, f0, f1, f2, f3, f4, f5, f6, fun _ => rfl, o2_1, o5_4, o6_1, o6_2, o6_4, o8_1, o8_4, o8_6⟩
     · obtain rfl := inj_ ho
       have h7 := aft_ haf 7 rfl
       have h6 := aft_ haf 6 rfl
       have h1 : D 1 = true := o6_1 h6
       have h4 : D 4 = true := o6_4 h6
       exact op_put1 29 _ _ rfl S 2 (g := gh) (C := #[jI jZ hd.pos, jI jZ hd.cc, jI jZ hd.ck, jI jZ hd.cv, jI jZ hd.cur, jI jZ hd.want, jI jZ hd.key, jI jZ hd.kid, jI jZ hd.old, jI jZ hd.next, jI jZ hd.new, jS A' n' c', jI jZ hd.thn, jI jZ hd.beg, jI jZ hd.rep, jI jZ hd.out]) (t := 31) (by simp only [gs_, gz_, cnd_f hDi]) 11 (hev.at_ 7 38 rfl rfl h7 f7) _ (hev.at_ 6 37 rfl rfl h6 f6) rfl (by kernel_rfl) (of_decide_eq_true rfl) (fun w S => ⟨_, rfl, v2, F2, gb, A6, c6, F6, S, f0, f1, f2, f3, f4, f5, f6, f7, o2_1, o5_4, o6_1, o6_2, o6_4, fun _ => h1, fun _ => h4, fun _ => h6⟩)
     · exact absurd ho (by simp)
   intro V w hI
   obtain ⟨v2, F2, gb, A6, c6, F6, S, f0, f1, f2, f3, f4, f5, f6, f7, o2_1, o5_4, o6_1, o6_2, o6_4, o8_1, o8_4, o8_6⟩ := hI
   replace S : Hid (Sep noX w0 [bx rh #[jI jZ 0, jI jZ 0, jI jZ 0, jI jZ 0, jI jZ 0, jI jZ 0, jI jZ 0, jI jZ 0, jI jZ 0, jI jZ 0, jI jZ 0, jS none 0 0, jI jZ 0, jI jZ 0, jI jZ 0, jI jZ 0] 31, bx rt #[jI jZ 0, jS none 0 0] 77, bx gh #[jI jZ hd.pos, jI jZ hd.cc, jI jZ hd.ck, jI jZ hd.cv, jI jZ hd.cur, jI jZ hd.want, jI jZ hd.key, jI jZ hd.kid, jI jZ hd.old, jI jZ hd.next, jI jZ hd.new, jS A6 (hd.st.length + 1) c6, jI jZ hd.thn, jI jZ hd.beg, jI jZ hd.rep, jI jZ hd.out] 31, bx gt #[jI jZ r, jS A n c] 77, ow (jS A6 (hd.st.length + 1) c6) (hd.st ++ [hd.cur]) F6, bx gb (IL [hd.cur]).toArray 2] w) := Lib.hid S
   simp only [putF, Act.put, sa_, sb_, sc_, f0 rfl, f1 rfl, f2 rfl, f3 rfl, f4 rfl, f5 rfl, f6 rfl, f7 rfl]
   clear f0 f1 f2 f3 f4 f5 f6 f7 o2_1 o5_4 o6_1 o6_2 o6_4 o8_1 o8_4 o8_6
   go_wp2_with (first
       | (refine wpList_op rfl (op_put1_2 2 _ _ rfl S _ rfl _ rfl rfl (by kernel_rfl) (of_decide_eq_true rfl) ?_); clear S; intro w S; replace S : Hid (Sep noX w0 [bx rh #[jI jZ 0, jI jZ 0, jI jZ 0, jI jZ 0, jI jZ 0, jI jZ 0, jI jZ 0, jI jZ 0, jI jZ 0, jI jZ 0, jI jZ 0, jS none 0 0, jI jZ 0, jI jZ 0, jI jZ 0, jI jZ 0] 31, bx rt #[jI jZ 0, jS none 0 0] 77, bx gh #[jI jZ hd.pos, jI jZ hd.cc, jI jZ hd.ck, jI jZ hd.cv, jI jZ p1, jI jZ hd.want, jI jZ hd.key, jI jZ hd.kid, jI jZ hd.old, jI jZ hd.next, jI jZ hd.new, jS A6 (hd.st.length + 1) c6, jI jZ hd.thn, jI jZ hd.beg, jI jZ hd.rep, jI jZ hd.out] 31, bx gt #[jI jZ r, jS A n c] 77, ow (jS A6 (hd.st.length + 1) c6) (hd.st ++ [hd.cur]) F6, bx gb (IL [hd.cur]).toArray 2] w) := S)
       | (refine wpList_op rfl (op_row 77 _ rfl S.out 3 rfl rfl Try.isAgg77 (by kernel_rfl) ?_))
       | (refine wpList_op rfl (op_row 31 _ rfl S.out 2 rfl rfl Try.isAgg31 (by kernel_rfl) ?_)))
   have hl7 : (hd.st ++ [hd.cur]).length = hd.st.length + 1 := by simp
   by_cases hq : handOk { hd with st := hd.st ++ [hd.cur], cur := p1 } = true
   · have hd2 := (done9_yes r xs A n c { hd with st := hd.st ++ [hd.cur], cur := p1 } A6 (hd.st.length + 1) c6 w (S.out.rs HR.out) hs (by exact OwnS.rs (S.out.get 4 rfl) (by simp)) HT.out hq)
     unfold hdV at hd2
     refine hd2.mono ?_
     rintro e w ⟨rfl, b⟩
     replace S := Lib.hid (S.out.call b)
     clear b hd2
     go_wp2_with (first
         | (refine wpList_op rfl (op_putR_1 77 _ _ rfl S rfl _ rfl rfl (by kernel_rfl) rfl ?_); clear S; intro w S)
         | (refine wpList_op rfl (op_putR_0 31 _ _ rfl S rfl _ rfl rfl (by kernel_rfl) rfl ?_); clear S; intro w S))
     exact bodyPost_ret (results_ccs rfl _ S.out 1 0 rfl rfl rfl rfl Try.isAgg77 Try.isAgg31 (by kernel_rfl) (by kernel_rfl)) rfl ⟨A6, c6, by rw [HE3.out, done_yes HT.out hq]; simp only [hl7]; rfl, .inr ⟨F6, by rw [HE3.out, done_yes HT.out hq]; simp only [hl7]; have := S.out.ends 4 rfl; exact ⟨this.1, this.2.1⟩⟩, (by rw [HE3.out, done_yes HT.out hq]; exact fun h => by cases h), S.out.below⟩
   · have hd2 := (done9_no r xs A n c { hd with st := hd.st ++ [hd.cur], cur := p1 } A6 (hd.st.length + 1) c6 w (S.out.rs HR.out) hs (by exact OwnS.rs (S.out.get 4 rfl) (by simp)) (by simp [hq]))
     unfold hdV at hd2
     refine hd2.mono ?_
     rintro e w ⟨rfl, b⟩
     replace S := Lib.hid (S.out.call b)
     clear b hd2
     go_wp2_with (first
         | (refine wpList_op rfl (op_putR_1 77 _ _ rfl S rfl _ rfl rfl (by kernel_rfl) rfl ?_); clear S; intro w S)
         | (refine wpList_op rfl (op_putR_0 31 _ _ rfl S rfl _ rfl rfl (by kernel_rfl) rfl ?_); clear S; intro w S))
     exact bodyPost_ret (results_ccs rfl _ S.out 1 0 rfl rfl rfl rfl Try.isAgg77 Try.isAgg31 (by kernel_rfl) (by kernel_rfl)) rfl (by rw [HE3.out, done_no (by simpa using hq)]; exact none_D S.out.below)
 have g2 : (p2 == 2) = false := by simpa using e2
 by_cases e3 : p2 = 3
 · have HE3 : Hid (downD ⟨r, xs⟩ hd = doneS ⟨r, xs⟩ (hereH ⟨r, xs⟩ hd)) := Lib.hid (by rw [HE2.out, if_neg e1, if_neg e2, if_pos e3])
   obtain rfl := e3
   clear g1 e1 g2 e2
   by_cases hcc : hd.cc = 1
   · have HS : Hid ((hereH ⟨r, xs⟩ hd).st = []) := Lib.hid (by unfold hereH; rw [if_pos hcc]; split <;> rfl)
     have HE4 : Hid (∀ w, RS w w.heap.size A n xs → Calls Try.prog 108 #[.agg #[jI jZ r, jS A n c], .agg #[jI jZ hd.pos, jI jZ hd.cc, jI jZ hd.ck, jI jZ hd.cv, jI jZ hd.cur, jI jZ hd.want, jI jZ hd.key, jI jZ hd.kid, jI jZ hd.old, jI jZ hd.next, jI jZ hd.new, jS A' n' c', jI jZ hd.thn, jI jZ hd.beg, jI jZ hd.rep, jI jZ hd.out]] w fun e w' => e = .returned (hdV (hereH ⟨r, xs⟩ hd) none 0 0) ∧ Below w.heap.size w w') := Lib.hid (fun w h => by have := HE.out w h; rw [if_pos hcc] at this; exact this)
     clear HE hcc
     generalize hereH ⟨r, xs⟩ hd = hr at *
     unfold hdV at HE4
     go_enter Try.func93, Try.ntmps93
     go_wp2_with (first
         | (clear tok0; refine bx_ 77 S rfl rfl rfl ?_; clear S; intro gt w S)
         | (clear tok1; refine bx_ 31 S rfl rfl rfl ?_; clear S; intro gh w S)
         | (clear tok2; refine nx_ 77 S rfl rfl Try.zeroValue77 ?_; clear S; intro rt w S)
         | (clear tok3; refine nx_ 31 S rfl rfl Try.zeroValue31 ?_; clear S; intro rh w S)
         | (refine wpList_op rfl (op_row 77 _ rfl S.out 3 rfl rfl Try.isAgg77 (by kernel_rfl) ?_))
         | (refine wpList_op rfl (op_get 2 _ rfl S.out 2 rfl _ rfl Try.isAgg2 _ rfl ?_)))
     refine (NX.out _ (S.out.rs HR.out)).mono ?_
     rintro e w ⟨rfl, b⟩
     replace S := Lib.hid (S.out.call b)
     clear b
     go_wp2_with (first
         | (refine wpList_op rfl (op_row 77 _ rfl S.out 3 rfl rfl Try.isAgg77 (by kernel_rfl) ?_))
         | (refine wpList_op rfl (op_row 31 _ rfl S.out 2 rfl rfl Try.isAgg31 (by kernel_rfl) ?_)))
     refine (HE4.out _ (S.out.rs HR.out)).mono ?_
     rintro e w ⟨rfl, b⟩
     replace S := Lib.hid (S.out.call b)
     clear b
     go_wp2_with (first
         | (refine wpList_op rfl (op_putR_2 31 _ _ rfl S rfl _ rfl rfl (by kernel_rfl) rfl ?_); clear S; intro w S)
         | (refine wpList_op rfl (op_row 77 _ rfl S.out 3 rfl rfl Try.isAgg77 (by kernel_rfl) ?_))
         | (refine wpList_op rfl (op_row 31 _ rfl S.out 2 rfl rfl Try.isAgg31 (by kernel_rfl) ?_)))
     by_cases hq : handOk hr = true
     · have hd2 := (done9_yes r xs A n c hr none 0 0 w (S.out.rs HR.out) hs (by rw [HS.out]; exact RS.nil _ _ _) HT.out hq)
       unfold hdV at hd2
       refine hd2.mono ?_
       rintro e w ⟨rfl, b⟩
       replace S := Lib.hid (S.out.call b)
       clear b hd2
       go_wp2_with (first
           | (refine wpList_op rfl (op_putR_1 77 _ _ rfl S rfl _ rfl rfl (by kernel_rfl) rfl ?_); clear S; intro w S)
           | (refine wpList_op rfl (op_putR_0 31 _ _ rfl S rfl _ rfl rfl (by kernel_rfl) rfl ?_); clear S; intro w S))
       exact bodyPost_ret (results_ccs rfl _ S.out 1 0 rfl rfl rfl rfl Try.isAgg77 Try.isAgg31 (by kernel_rfl) (by kernel_rfl)) rfl ⟨none, 0, by rw [HE3.out, done_yes HT.out hq]; simp only [HS.out]; rfl, .inr ⟨fun _ => False, by rw [HE3.out, done_yes HT.out hq]; simp only [HS.out]; exact OwnS.nil _ _, fun k hk => absurd hk id⟩, (by rw [HE3.out, done_yes HT.out hq]; exact fun h => by cases h), S.out.below⟩
     · have hd2 := (done9_no r xs A n c hr none 0 0 w (S.out.rs HR.out) hs (by rw [HS.out]; exact RS.nil _ _ _) (by simp [hq]))
       unfold hdV at hd2
       refine hd2.mono ?_
       rintro e w ⟨rfl, b⟩
       replace S := Lib.hid (S.out.call b)
       clear b hd2
       go_wp2_with (first
           | (refine wpList_op rfl (op_putR_1 77 _ _ rfl S rfl _ rfl rfl (by kernel_rfl) rfl ?_); clear S; intro w S)
           | (refine wpList_op rfl (op_putR_0 31 _ _ rfl S rfl _ rfl rfl (by kernel_rfl) rfl ?_); clear S; intro w S))
       exact bodyPost_ret (results_ccs rfl _ S.out 1 0 rfl rfl rfl rfl Try.isAgg77 Try.isAgg31 (by kernel_rfl) (by kernel_rfl)) rfl (by rw [HE3.out, done_no (by simpa using hq)]; exact none_D S.out.below)
   · have HS : Hid ((hereH ⟨r, xs⟩ hd).st = hd.st) := Lib.hid (by unfold hereH; rw [if_neg hcc])
     have HE4 : Hid (∀ w, RS w w.heap.size A n xs → Calls Try.prog 108 #[.agg #[jI jZ r, jS A n c], .agg #[jI jZ hd.pos, jI jZ hd.cc, jI jZ hd.ck, jI jZ hd.cv, jI jZ hd.cur, jI jZ hd.want, jI jZ hd.key, jI jZ hd.kid, jI jZ hd.old, jI jZ hd.next, jI jZ hd.new, jS A' n' c', jI jZ hd.thn, jI jZ hd.beg, jI jZ hd.rep, jI jZ hd.out]] w fun e w' => e = .returned (hdV (hereH ⟨r, xs⟩ hd) A' n' c') ∧ Below w.heap.size w w') := Lib.hid (fun w h => by have := HE.out w h; rw [if_neg hcc] at this; exact this)
     clear HE hcc
     generalize hereH ⟨r, xs⟩ hd = hr at *
     unfold hdV at HE4
     go_enter Try.func93, Try.ntmps93
     go_wp2_with (first
         | (clear tok0; refine bx_ 77 S rfl rfl rfl ?_; clear S; intro gt w S)
         | (clear tok1; refine bx_ 31 S rfl rfl rfl ?_; clear S; intro gh w S)
         | (clear tok2; refine nx_ 77 S rfl rfl Try.zeroValue77 ?_; clear S; intro rt w S)
         | (clear tok3; refine nx_ 31 S rfl rfl Try.zeroValue31 ?_; clear S; intro rh w S)
         | (refine wpList_op rfl (op_row 77 _ rfl S.out 3 rfl rfl Try.isAgg77 (by kernel_rfl) ?_))
         | (refine wpList_op rfl (op_get 2 _ rfl S.out 2 rfl _ rfl Try.isAgg2 _ rfl ?_)))
     refine (NX.out _ (S.out.rs HR.out)).mono ?_
     rintro e w ⟨rfl, b⟩
     replace S := Lib.hid (S.out.call b)
     clear b
     go_wp2_with (first
         | (refine wpList_op rfl (op_row 77 _ rfl S.out 3 rfl rfl Try.isAgg77 (by kernel_rfl) ?_))
         | (refine wpList_op rfl (op_row 31 _ rfl S.out 2 rfl rfl Try.isAgg31 (by kernel_rfl) ?_)))
     refine (HE4.out _ (S.out.rs HR.out)).mono ?_
     rintro e w ⟨rfl, b⟩
     replace S := Lib.hid (S.out.call b)
     clear b
     go_wp2_with (first
         | (refine wpList_op rfl (op_putR_2 31 _ _ rfl S rfl _ rfl rfl (by kernel_rfl) rfl ?_); clear S; intro w S)
         | (refine wpList_op rfl (op_row 77 _ rfl S.out 3 rfl rfl Try.isAgg77 (by kernel_rfl) ?_))
         | (refine wpList_op rfl (op_row 31 _ rfl S.out 2 rfl rfl Try.isAgg31 (by kernel_rfl) ?_)))
     by_cases hq : handOk hr = true
     · have hd2 := (done9_yes r xs A n c hr A' n' c' w (S.out.rs HR.out) hs (by rw [HS.out]; exact S.out.rs HH.out) HT.out hq)
       unfold hdV at hd2
       refine hd2.mono ?_
       rintro e w ⟨rfl, b⟩
       replace S := Lib.hid (S.out.call b)
       clear b hd2
       go_wp2_with (first
           | (refine wpList_op rfl (op_putR_1 77 _ _ rfl S rfl _ rfl rfl (by kernel_rfl) rfl ?_); clear S; intro w S)
           | (refine wpList_op rfl (op_putR_0 31 _ _ rfl S rfl _ rfl rfl (by kernel_rfl) rfl ?_); clear S; intro w S))
       exact bodyPost_ret (results_ccs rfl _ S.out 1 0 rfl rfl rfl rfl Try.isAgg77 Try.isAgg31 (by kernel_rfl) (by kernel_rfl)) rfl ⟨A', c', by rw [HE3.out, done_yes HT.out hq]; simp only [HS.out, HL.out]; rfl, .inl ⟨rfl, rfl, by rw [HE3.out, done_yes HT.out hq]; exact HS.out⟩, (by rw [HE3.out, done_yes HT.out hq]; exact fun h => by cases h), S.out.below⟩
     · have hd2 := (done9_no r xs A n c hr A' n' c' w (S.out.rs HR.out) hs (by rw [HS.out]; exact S.out.rs HH.out) (by simp [hq]))
       unfold hdV at hd2
       refine hd2.mono ?_
       rintro e w ⟨rfl, b⟩
       replace S := Lib.hid (S.out.call b)
       clear b hd2
       go_wp2_with (first
           | (refine wpList_op rfl (op_putR_1 77 _ _ rfl S rfl _ rfl rfl (by kernel_rfl) rfl ?_); clear S; intro w S)
           | (refine wpList_op rfl (op_putR_0 31 _ _ rfl S rfl _ rfl rfl (by kernel_rfl) rfl ?_); clear S; intro w S))
       exact bodyPost_ret (results_ccs rfl _ S.out 1 0 rfl rfl rfl rfl Try.isAgg77 Try.isAgg31 (by kernel_rfl) (by kernel_rfl)) rfl (by rw [HE3.out, done_no (by simpa using hq)]; exact none_D S.out.below)
 have g3 : (p2 == 3) = false := by simpa using e3
 have HE3 : Hid (downD ⟨r, xs⟩ hd = noneS) := Lib.hid (by rw [HE2.out, if_neg e1, if_neg e2, if_neg e3])
 clear e1 e2 e3
 go_enter Try.func93, Try.ntmps93
 go_wp2_with (first
     | (clear tok0; refine bx_ 77 S rfl rfl rfl ?_; clear S; intro gt w S)
     | (clear tok1; refine bx_ 31 S rfl rfl rfl ?_; clear S; intro gh w S)
     | (clear tok2; refine nx_ 77 S rfl rfl Try.zeroValue77 ?_; clear S; intro rt w S)
     | (clear tok3; refine nx_ 31 S rfl rfl Try.zeroValue31 ?_; clear S; intro rh w S)
     | (refine wpList_op rfl (op_row 77 _ rfl S.out 3 rfl rfl Try.isAgg77 (by kernel_rfl) ?_))
     | (refine wpList_op rfl (op_get 2 _ rfl S.out 2 rfl _ rfl Try.isAgg2 _ rfl ?_)))
 refine (NX.out _ (S.out.rs HR.out)).mono ?_
 rintro e w ⟨rfl, b⟩
 replace S := Lib.hid (S.out.call b)
 clear b
 go_wp2_with fail
 refine (NN.out _).mono ?_
 rintro e w ⟨rfl, b⟩
 replace S := Lib.hid (S.out.call b)
 clear b
 unfold zeroS hdV
 go_wp2_with (first
     | (refine wpList_op rfl (op_putR_1 77 _ _ rfl S rfl _ rfl rfl (by kernel_rfl) rfl ?_); clear S; intro w S)
     | (refine wpList_op rfl (op_putR_0 31 _ _ rfl S rfl _ rfl rfl (by kernel_rfl) rfl ?_); clear S; intro w S))
 exact bodyPost_ret (results_ccs rfl _ S.out 1 0 rfl rfl rfl rfl Try.isAgg77 Try.isAgg31 (by kernel_rfl) (by kernel_rfl)) rfl (by rw [HE3.out]; exact none_D S.out.below)
end Go.Proofs.Ytjookicpmjmdhaa
