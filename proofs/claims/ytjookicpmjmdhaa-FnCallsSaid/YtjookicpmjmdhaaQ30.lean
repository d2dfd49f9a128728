/- The walk of the model's LeafStep. (Made by genY9.py.) -/
import Derived.Test.YtjookicpmjmdhaaQ28
import Derived.Test.YtjookicpmjmdhaaQ29
open Go.Value renaming int → jI, slice → jS
open Go.IntKind renaming i64 → jZ
namespace Go.Proofs.Ytjookicpmjmdhaa
open Go.RowKit

theorem Sep.turnedIn {X : FP} {w0 w w' : World} {L : List Item} (h : Sep X w0 L w) (p : Nat) {v : Value} {xs ys : List Nd} {F : FP} (e : L[p]? = some (ow v xs F)) (t : Turned F w v ys w') : ∃ G, Sep X w0 (L.set p (ow v ys G)) w' := by
 obtain ⟨G, h1, h2, h3⟩ := t
 exact ⟨G, h.turn p e h3 _ h1 (fun k hk => h2 k hk)⟩
theorem Sep.lt {X : FP} {w0 w : World} {L : List Item} (h : Sep X w0 L w) (p : Nat) {α : Type} [Enc α] {v : Value} {xs : List α} {F : FP} (e : L[p]? = some (ow v xs F)) : ∀ k, F k → k < w.heap.size := fun k hk => (h.fresh _ (List.mem_of_getElem? e) k hk).2
theorem sm_set {xs : List Nd} (h : Small.sm xs) (k : Nat) {x : Nd} (hx : x.ps.length ≤ 1048576) : Small.sm (xs.set k x) := by
 refine ⟨by rw [List.length_set]; exact h.1, fun i hi => ?_⟩
 rw [List.length_set] at hi
 by_cases hik : i = k
 · subst hik
   have e : ndAt (xs.set i x) i = x := by unfold ndAt; simp [hi]
   rw [e]; exact hx
 · have e : ndAt (xs.set k x) i = ndAt xs i := by unfold ndAt; simp only [List.getD_eq_getElem?_getD]; rw [List.getElem?_set_ne (by omega)]
   rw [e]; exact h.2 i hi
theorem nodeOk_four {x : Nd} (hg : nodeOk x = true) : x.ps.length ≤ 4 := by
 unfold nodeOk at hg
 simp only [Bool.and_eq_true, decide_eq_true_eq] at hg
 exact hg.1.1.1.1.2
theorem writeT_ns {r : Int} {xs : List Nd} {n : Nat} (hT : Right n r xs) (hl : xs.length = n) {hd : Hd} (hc : hasB n hd.cur = true) : (writeT ⟨r, xs⟩ hd).root = r ∧ (writeT ⟨r, xs⟩ hd).ns.length = n ∧ Small.sm (writeT ⟨r, xs⟩ hd).ns := by
 obtain ⟨h0, h1⟩ := (hasB_iff n hd.cur).1 hc
 have h4 := nodeOk_four (hT.good hd.cur.toNat (by omega)).1
 have hs := sm_right hT
 unfold writeT setN nodeT
 split
 · refine ⟨rfl, by simp [hl], sm_set hs _ ?_⟩
   have := leftTo_le (ndAt xs hd.cur.toNat).ps hd.key (ndAt xs hd.cur.toNat).ps.length
   simp only
   omega
 · refine ⟨rfl, by simp [hl], sm_set hs _ ?_⟩
   have := insL_length (ndAt xs hd.cur.toNat).ps hd.key (pairV hd)
   simp only
   split at this <;> omega
theorem writeH_st (t : Tr) (hd : Hd) : (writeH t hd).st = hd.st := by
 unfold writeH freeH
 simp only
 split
 · rfl
 · split <;> rfl
theorem checkH_st (t : Tr) (hd : Hd) : (checkH t hd).st = hd.st := by
 unfold checkH freeH
 simp only
 split
 · rfl
 · split
   · rfl
   · split <;> rfl
theorem doneS_no {t : Tr} {h : Hd} (hq : ¬ (treeOk t.root t.ns && handOk h) = true) : doneS t h = noneS := done_no9 (by simpa using hq)

set_option maxRecDepth 100000 in
set_option maxHeartbeats 16000000 in
theorem leaf_no (r : Int) (xs : List Nd) (A : Option Addr) (n c : Nat) (task : Int) (hd : Hd) (A' : Option Addr) (n' c' : Nat) (w0 : World) (hR : RS w0 w0.heap.size A n xs) (hs : Small.sm xs) (hH : RS w0 w0.heap.size A' n' hd.st) (hn' : n' ≤ 1048576) (hk : ok10 ⟨r, xs⟩ task hd 4 5 = false) :
   Calls Try.prog 86 #[.agg #[jI jZ r, jS A n c], jI jZ task, hdV hd A' n' c'] w0 (GivesS w0 (leafS ⟨r, xs⟩ task hd)) := by
 have hE : leafS ⟨r, xs⟩ task hd = noneS := by unfold leafS; rw [hk]; rfl
 have OK := Lib.hid (fun w hR hH => ok10_any r xs A n c task hd A' n' c' 4 5 w hR hs hH hn')
 have CT := Lib.hid (fun w hR => copyT_any r xs A n c w hR hs)
 have CH := Lib.hid (fun w hR => copyH_any hd A' n' c' w hR hn')
 have NN := Lib.hid none9_any
 have HR := Lib.hid hR
 have HH := Lib.hid hH
 have HL := Lib.hid hH.1
 have HE := Lib.hid hE
 rw [hk] at OK
 clear hE hk hR hH hs hn'
 have S := Lib.hid (Sep.start noX w0)
 have tokg : True := trivial
 have tokx : True := trivial
 have toky : True := trivial
 have tok0 : True := trivial
 have tok1 : True := trivial
 have tok2 : True := trivial
 have tok3 : True := trivial
 unfold hdV at *
 go_enter Try.func86, Try.ntmps86
 go_wp2_with (first
     | go_skip
     | (clear tok0; refine bx_ 77 S rfl rfl rfl ?_; clear S; intro gt w S)
     | (clear tok1; refine bx_ 31 S rfl rfl rfl ?_; clear S; intro gh w S)
     | (clear tok2; refine nx_ 77 S rfl rfl Try.zeroValue77 ?_; clear S; intro rt w S)
     | (clear tok3; refine nx_ 31 S rfl rfl Try.zeroValue31 ?_; clear S; intro rh w S)
     | (refine wpList_op rfl (op_row 77 _ rfl S.out 3 rfl rfl Try.isAgg77 (by kernel_rfl) ?_))
     | (refine wpList_op rfl (op_row 31 _ rfl S.out 2 rfl rfl Try.isAgg31 (by kernel_rfl) ?_)))
 refine (OK.out _ (S.out.rs HR.out) (S.out.rs HH.out)).mono ?_
 rintro e w ⟨rfl, b⟩
 replace S := Lib.hid (S.out.call b)
 clear b
 go_wp2_with fail
 refine (NN.out _).mono ?_
 rintro e w ⟨rfl, b⟩
 replace S := Lib.hid (S.out.call b)
 clear b
 unfold zeroS hdV
 go_wp2_with (first
     | go_skip
     | (refine wpList_op rfl (op_putR_1 77 _ _ rfl S rfl _ rfl rfl (by kernel_rfl) rfl ?_); clear S; intro w S)
     | (refine wpList_op rfl (op_putR_0 31 _ _ rfl S rfl _ rfl rfl (by kernel_rfl) rfl ?_); clear S; intro w S))
 exact bodyPost_ret (results_ccs rfl _ S.out 1 0 rfl rfl rfl rfl Try.isAgg77 Try.isAgg31 (by kernel_rfl) (by kernel_rfl)) rfl (by rw [HE.out]; exact none_S S.out.below)

set_option maxRecDepth 100000 in
set_option maxHeartbeats 16000000 in
theorem leaf_check (r : Int) (xs : List Nd) (A : Option Addr) (n c : Nat) (task : Int) (hd : Hd) (A' : Option Addr) (n' c' : Nat) (w0 : World) (hR : RS w0 w0.heap.size A n xs) (hs : Small.sm xs) (hH : RS w0 w0.heap.size A' n' hd.st) (hn' : n' ≤ 1048576) (hk : ok10 ⟨r, xs⟩ task hd 4 5 = true) (hp : hd.pos = 4) :
   Calls Try.prog 86 #[.agg #[jI jZ r, jS A n c], jI jZ task, hdV hd A' n' c'] w0 (GivesS w0 (leafS ⟨r, xs⟩ task hd)) := by
 have hE : leafS ⟨r, xs⟩ task hd = doneS ⟨r, xs⟩ (checkH ⟨r, xs⟩ hd) := by unfold leafS; rw [hk, if_pos hp]; rfl
 have hk9 : ok9 ⟨r, xs⟩ task hd 4 5 = true := by unfold ok10 at hk; simp only [Bool.and_eq_true] at hk; exact hk.1
 have hT := (ok9_of hk9).1
 have hC := (ok9_of hk9).2.2.2.2.1
 have hRt := right_of hT
 have hlx : xs.length = n := hR.1
 have CK := Lib.hid (fun (A4 : Option Addr) n4 c4 w hR => check_any r xs A n c hd A4 n4 c4 w hR (by rw [← hlx]; exact hRt) (by rw [← hlx]; exact hC))
 have hst := checkH_st ⟨r, xs⟩ hd
 have DY := Lib.hid (fun (hq : handOk (checkH ⟨r, xs⟩ hd) = true) (A3 : Option Addr) (c3 : Nat) (A4 : Option Addr) (c4 : Nat) w hR (hS : RS w w.heap.size A4 hd.st.length hd.st) => done9_yes r xs A3 xs.length c3 (checkH ⟨r, xs⟩ hd) A4 hd.st.length c4 w hR hs (by rw [hst]; exact hS) hT hq)
 have DNO := Lib.hid (fun (hq : ¬ handOk (checkH ⟨r, xs⟩ hd) = true) (A3 : Option Addr) (c3 : Nat) (A4 : Option Addr) (c4 : Nat) w hR (hS : RS w w.heap.size A4 hd.st.length hd.st) => done9_no r xs A3 xs.length c3 (checkH ⟨r, xs⟩ hd) A4 hd.st.length c4 w hR hs (by rw [hst]; exact hS) (by simp [hq]))
 have OK := Lib.hid (fun w hR hH => ok10_any r xs A n c task hd A' n' c' 4 5 w hR hs hH hn')
 have CT := Lib.hid (fun w hR => copyT_any r xs A n c w hR hs)
 have CH := Lib.hid (fun w hR => copyH_any hd A' n' c' w hR hn')
 have NN := Lib.hid none9_any
 have HR := Lib.hid hR
 have HH := Lib.hid hH
 have HL := Lib.hid hH.1
 have HE := Lib.hid hE
 have HT : Hid (treeOk r xs = true) := Lib.hid hT
 have HST := Lib.hid hst
 rw [hk] at OK
 have g1 : (hd.pos == 4) = true := by simp [hp]
 clear hE hk hp hR hH hs hn' hk9 hT hC hRt hlx hst
 generalize checkH ⟨r, xs⟩ hd = ch at *
 have S := Lib.hid (Sep.start noX w0)
 have tokg : True := trivial
 have tokx : True := trivial
 have toky : True := trivial
 have tok0 : True := trivial
 have tok1 : True := trivial
 have tok2 : True := trivial
 have tok3 : True := trivial
 unfold hdV at *
 go_enter Try.func86, Try.ntmps86
 go_wp2_with (first
     | go_skip
     | (clear tok0; refine bx_ 77 S rfl rfl rfl ?_; clear S; intro gt w S)
     | (clear tok1; refine bx_ 31 S rfl rfl rfl ?_; clear S; intro gh w S)
     | (clear tok2; refine nx_ 77 S rfl rfl Try.zeroValue77 ?_; clear S; intro rt w S)
     | (clear tok3; refine nx_ 31 S rfl rfl Try.zeroValue31 ?_; clear S; intro rh w S)
     | (refine wpList_op rfl (op_row 77 _ rfl S.out 3 rfl rfl Try.isAgg77 (by kernel_rfl) ?_))
     | (refine wpList_op rfl (op_row 31 _ rfl S.out 2 rfl rfl Try.isAgg31 (by kernel_rfl) ?_)))
 refine (OK.out _ (S.out.rs HR.out) (S.out.rs HH.out)).mono ?_
 rintro e w ⟨rfl, b⟩
 replace S := Lib.hid (S.out.call b)
 clear b
 go_wp2_with (first
     | go_skip
     | (refine wpList_op rfl (op_row 77 _ rfl S.out 3 rfl rfl Try.isAgg77 (by kernel_rfl) ?_)))
 refine (CT.out _ (S.out.rs HR.out)).mono ?_
 rintro e w ⟨v, F, rfl, o, f, b⟩
 obtain ⟨A3, c3, rfl, _, _⟩ := o.form
 replace S := Lib.hid (S.out.own b o f)
 clear o f b
 go_wp2_with (first
     | go_skip
     | (clear tokg; refine nx_ 77 S rfl rfl Try.zeroValue77 ?_; clear S; intro go w S)
     | (refine wpList_op rfl (op_putR_0 77 _ _ rfl S rfl _ rfl rfl (by kernel_rfl) rfl ?_); clear S; intro w S)
     | (refine wpList_op rfl (op_row 31 _ rfl S.out 4 rfl rfl Try.isAgg31 (by kernel_rfl) ?_)))
 refine (CH.out _ (S.out.rs HH.out)).mono ?_
 rintro e w ⟨A4, c4, G, rfl, o, f, b⟩
 replace S := Lib.hid (S.out.own b o f)
 clear o f b
 unfold hdV
 go_wp2_with (first
     | go_skip
     | (refine wpList_op rfl (op_putR_5 31 _ _ rfl S rfl _ rfl rfl (by kernel_rfl) rfl ?_); clear S; intro w S)
     | (refine wpList_op rfl (op_get 2 _ rfl S.out 5 rfl _ rfl Try.isAgg2 _ rfl ?_)))
 by_cases hq : handOk ch = true
 · have DN := Lib.hid (DY.out hq)
   unfold hdV at DN
   have HQ := Lib.hid hq
   clear DY DNO hq
   refine wp_region_ev (by kernel_rfl) _ (by kernel_rfl) (by kernel_rfl) 48 rfl (by kernel_rfl) (fun D V w => Sep noX w0 [ow (jS A4 hd.st.length c4) hd.st G, bx go #[jI jZ r, jS A3 xs.length c3] 77, ow (jS A3 xs.length c3) xs F, cnd (D 9) (bx rh #[jI jZ 0, jI jZ 0, jI jZ 0, jI jZ 0, jI jZ 0, jI jZ 0, jI jZ 0, jI jZ 0, jI jZ 0, jI jZ 0, jI jZ 0, jS none 0 0, jI jZ 0, jI jZ 0, jI jZ 0, jI jZ 0] 31) (bx rh #[jI jZ ch.pos, jI jZ ch.cc, jI jZ ch.ck, jI jZ ch.cv, jI jZ ch.cur, jI jZ ch.want, jI jZ ch.key, jI jZ ch.kid, jI jZ ch.old, jI jZ ch.next, jI jZ ch.new, jS A4 hd.st.length c4, jI jZ ch.thn, jI jZ ch.beg, jI jZ ch.rep, jI jZ ch.out] 31), cnd (D 8) (bx rt #[jI jZ 0, jS none 0 0] 77) (bx rt #[jI jZ r, jS A3 xs.length c3] 77), bx gh #[jI jZ hd.pos, jI jZ hd.cc, jI jZ hd.ck, jI jZ hd.cv, jI jZ hd.cur, jI jZ hd.want, jI jZ hd.key, jI jZ hd.kid, jI jZ hd.old, jI jZ hd.next, jI jZ hd.new, jS A4 hd.st.length c4, jI jZ hd.thn, jI jZ hd.beg, jI jZ hd.rep, jI jZ hd.out] 31, bx gt #[jI jZ r, jS A n c] 77] w ∧ (D 0 = true → V 0 = .agg #[jI jZ r, jS A3 xs.length c3]) ∧ (D 1 = true → V 1 = .agg #[jI jZ r, jS A n c]) ∧ (D 2 = true → V 2 = .agg #[jI jZ hd.pos, jI jZ hd.cc, jI jZ hd.ck, jI jZ hd.cv, jI jZ hd.cur, jI jZ hd.want, jI jZ hd.key, jI jZ hd.kid, jI jZ hd.old, jI jZ hd.next, jI jZ hd.new, jS A4 hd.st.length c4, jI jZ hd.thn, jI jZ hd.beg, jI jZ hd.rep, jI jZ hd.out]) ∧ (D 3 = true → V 3 = .agg #[jI jZ ch.pos, jI jZ ch.cc, jI jZ ch.ck, jI jZ ch.cv, jI jZ ch.cur, jI jZ ch.want, jI jZ ch.key, jI jZ ch.kid, jI jZ ch.old, jI jZ ch.next, jI jZ ch.new, jS A4 hd.st.length c4, jI jZ ch.thn, jI jZ ch.beg, jI jZ ch.rep, jI jZ ch.out]) ∧ (D 4 = true → V 4 = .tuple #[.agg #[jI jZ r, jS A3 xs.length c3], .agg #[jI jZ ch.pos, jI jZ ch.cc, jI jZ ch.ck, jI jZ ch.cv, jI jZ ch.cur, jI jZ ch.want, jI jZ ch.key, jI jZ ch.kid, jI jZ ch.old, jI jZ ch.next, jI jZ ch.new, jS A4 hd.st.length c4, jI jZ ch.thn, jI jZ ch.beg, jI jZ ch.rep, jI jZ ch.out], .bool true]) ∧ (D 5 = true → V 5 = .agg #[jI jZ r, jS A3 xs.length c3]) ∧ (D 6 = true → V 6 = .agg #[jI jZ ch.pos, jI jZ ch.cc, jI jZ ch.ck, jI jZ ch.cv, jI jZ ch.cur, jI jZ ch.want, jI jZ ch.key, jI jZ ch.kid, jI jZ ch.old, jI jZ ch.next, jI jZ ch.new, jS A4 hd.st.length c4, jI jZ ch.thn, jI jZ ch.beg, jI jZ ch.rep, jI jZ ch.out]) ∧ (D 7 = true → V 7 = .bool true) ∧ (D 10 = true → V 10 = .bool true)) ?_ ?_ ?_
   · intro D hD
     have d8 := hD 8 (by decide)
     have d9 := hD 9 (by decide)
     exact ⟨by rw [cnd_f d9, cnd_f d8]; exact S.out.drew.ems 0, (nof (hD 0 (by decide))), (nof (hD 1 (by decide))), (nof (hD 2 (by decide))), (nof (hD 3 (by decide))), (nof (hD 4 (by decide))), (nof (hD 5 (by decide))), (nof (hD 6 (by decide))), (nof (hD 7 (by decide))), (nof (hD 10 (by decide)))⟩
   · intro i o D V w a ho hI hDi haf hev
     obtain ⟨S, f0, f1, f2, f3, f4, f5, f6, f7, f10⟩ := hI
     rcases i with _ | _ | _ | _ | _ | _ | _ | _ | _ | _ | _ | i
     · obtain rfl := inj_ ho
       exact op_row 77 _ rfl S 1 rfl ((hev.old 9 (by kernel_rfl)).trans rfl) Try.isAgg77 (by kernel_rfl) ⟨_, rfl, S, fun _ => rfl, f1, f2, f3, f4, f5, f6, f7, f10⟩
     · obtain rfl := inj_ ho
       exact op_row 77 _ rfl S 6 rfl ((hev.old 3 (by kernel_rfl)).trans rfl) Try.isAgg77 (by kernel_rfl) ⟨_, rfl, S, f0, fun _ => rfl, f2, f3, f4, f5, f6, f7, f10⟩
     · obtain rfl := inj_ ho
       exact op_row 31 _ rfl S 5 rfl ((hev.old 5 (by kernel_rfl)).trans rfl) Try.isAgg31 (by kernel_rfl) ⟨_, rfl, S, f0, f1, fun _ => rfl, f3, f4, f5, f6, f7, f10⟩
     · obtain rfl := inj_ ho
       have h1 := aft_ haf 1 rfl
       have h2 := aft_ haf 2 rfl
       have hx0 := (hev.at_ 1 29 rfl rfl h1 f1)
       have hx1 := (hev.at_ 2 30 rfl rfl h2 f2)
       refine op_call _ _ _ rfl (enters_of Try.func97 (by kernel_rfl) rfl) #[.agg #[jI jZ r, jS A n c], .agg #[jI jZ hd.pos, jI jZ hd.cc, jI jZ hd.ck, jI jZ hd.cv, jI jZ hd.cur, jI jZ hd.want, jI jZ hd.key, jI jZ hd.kid, jI jZ hd.old, jI jZ hd.next, jI jZ hd.new, jS A4 hd.st.length c4, jI jZ hd.thn, jI jZ hd.beg, jI jZ hd.rep, jI jZ hd.out]] (by simp [hx0, hx1]) (CK.out A4 hd.st.length c4 w (S.rs HR.out)) (fun e w2 hh => ?_)
       obtain ⟨rfl, b⟩ := hh
       exact ⟨_, rfl, ⟨_, rfl, S.call b, f0, f1, f2, fun _ => rfl, f4, f5, f6, f7, f10⟩⟩
     · obtain rfl := inj_ ho
       have h0 := aft_ haf 0 rfl
       have h3 := aft_ haf 3 rfl
       have hx0 := (hev.at_ 0 28 rfl rfl h0 f0)
       have hx1 := (hev.at_ 3 31 rfl rfl h3 f3)
       refine op_call _ _ _ rfl (enters_of Try.func95 (by kernel_rfl) rfl) #[.agg #[jI jZ r, jS A3 xs.length c3], .agg #[jI jZ ch.pos, jI jZ ch.cc, jI jZ ch.ck, jI jZ ch.cv, jI jZ ch.cur, jI jZ ch.want, jI jZ ch.key, jI jZ ch.kid, jI jZ ch.old, jI jZ ch.next, jI jZ ch.new, jS A4 hd.st.length c4, jI jZ ch.thn, jI jZ ch.beg, jI jZ ch.rep, jI jZ ch.out]] (by simp [hx0, hx1]) (DN.out A3 c3 A4 c4 w (OwnS.rs (S.get 2 rfl) rfl) (OwnS.rs (S.get 0 rfl) rfl)) (fun e w2 hh => ?_)
       obtain ⟨rfl, b⟩ := hh
       exact ⟨_, rfl, ⟨_, rfl, S.call b, f0, f1, f2, f3, fun _ => rfl, f5, f6, f7, f10⟩⟩
     · obtain rfl := inj_ ho
       have h4 := aft_ haf 4 rfl
       exact op_extract _ _ rfl (hev.at_ 4 32 rfl rfl h4 f4) rfl ⟨_, rfl, S, f0, f1, f2, f3, f4, fun _ => rfl, f6, f7, f10⟩
     · obtain rfl := inj_ ho
       have h4 := aft_ haf 4 rfl
       exact op_extract _ _ rfl (hev.at_ 4 32 rfl rfl h4 f4) rfl ⟨_, rfl, S, f0, f1, f2, f3, f4, f5, fun _ => rfl, f7, f10⟩
     · obtain rfl := inj_ ho
       have h4 := aft_ haf 4 rfl
       exact op_extract _ _ rfl (hev.at_ 4 32 rfl rfl h4 f4) rfl ⟨_, rfl, S, f0, f1, f2, f3, f4, f5, f6, fun _ => rfl, f10⟩
     · obtain rfl := inj_ ho
       have h5 := aft_ haf 5 rfl
       exact op_putR 77 _ _ rfl S 4 (g := rt) (C := #[jI jZ 0, jS none 0 0]) (t := 77) (by simp only [gs_, gz_, cnd_f hDi]) ((hev.old 6 (by kernel_rfl)).trans rfl) _ (hev.at_ 5 33 rfl rfl h5 f5) rfl (by kernel_rfl) rfl (fun w S => ⟨_, rfl, S, f0, f1, f2, f3, f4, f5, f6, f7, f10⟩)
     · obtain rfl := inj_ ho
       have h6 := aft_ haf 6 rfl
       exact op_putR 31 _ _ rfl S 3 (g := rh) (C := #[jI jZ 0, jI jZ 0, jI jZ 0, jI jZ 0, jI jZ 0, jI jZ 0, jI jZ 0, jI jZ 0, jI jZ 0, jI jZ 0, jI jZ 0, jS none 0 0, jI jZ 0, jI jZ 0, jI jZ 0, jI jZ 0]) (t := 31) (by simp only [gs_, gz_, cnd_f hDi]) ((hev.old 7 (by kernel_rfl)).trans rfl) _ (hev.at_ 6 34 rfl rfl h6 f6) rfl (by kernel_rfl) rfl (fun w S => ⟨_, rfl, S, f0, f1, f2, f3, f4, f5, f6, f7, f10⟩)
     · obtain rfl := inj_ ho
       have h7 := aft_ haf 7 rfl
       exact op_move (.inr rfl) (hev.at_ 7 35 rfl rfl h7 f7) ⟨_, rfl, S, f0, f1, f2, f3, f4, f5, f6, f7, fun _ => rfl⟩
     · exact absurd ho (by simp)
   intro V w hI
   obtain ⟨S, f0, f1, f2, f3, f4, f5, f6, f7, f10⟩ := hI
   replace S : Hid (Sep noX w0 [ow (jS A4 hd.st.length c4) hd.st G, bx go #[jI jZ r, jS A3 xs.length c3] 77, ow (jS A3 xs.length c3) xs F, bx rh #[jI jZ ch.pos, jI jZ ch.cc, jI jZ ch.ck, jI jZ ch.cv, jI jZ ch.cur, jI jZ ch.want, jI jZ ch.key, jI jZ ch.kid, jI jZ ch.old, jI jZ ch.next, jI jZ ch.new, jS A4 hd.st.length c4, jI jZ ch.thn, jI jZ ch.beg, jI jZ ch.rep, jI jZ ch.out] 31, bx rt #[jI jZ r, jS A3 xs.length c3] 77, bx gh #[jI jZ hd.pos, jI jZ hd.cc, jI jZ hd.ck, jI jZ hd.cv, jI jZ hd.cur, jI jZ hd.want, jI jZ hd.key, jI jZ hd.kid, jI jZ hd.old, jI jZ hd.next, jI jZ hd.new, jS A4 hd.st.length c4, jI jZ hd.thn, jI jZ hd.beg, jI jZ hd.rep, jI jZ hd.out] 31, bx gt #[jI jZ r, jS A n c] 77] w) := Lib.hid S
   simp only [putF, Act.put, sa_, sb_, sc_, f0 rfl, f1 rfl, f2 rfl, f3 rfl, f4 rfl, f5 rfl, f6 rfl, f7 rfl, f10 rfl]
   clear f0 f1 f2 f3 f4 f5 f6 f7 f10
   go_wp2_with fail
   exact bodyPost_ret (results_ccs rfl _ S.out 4 3 rfl rfl rfl rfl Try.isAgg77 Try.isAgg31 (by kernel_rfl) (by kernel_rfl)) rfl (by rw [HE.out, done_yes HT.out HQ.out]; exact S.out.gives 2 0 (by omega) (s := ⟨⟨r, xs⟩, ch, true⟩) rfl (by rw [HST.out]; rfl) rfl (by rw [HST.out]))
 · have DN := Lib.hid (DNO.out hq)
   unfold hdV at DN
   have HQ := Lib.hid hq
   clear DY DNO hq
   refine wp_region_ev (by kernel_rfl) _ (by kernel_rfl) (by kernel_rfl) 48 rfl (by kernel_rfl) (fun D V w => Sep noX w0 [ow (jS A4 hd.st.length c4) hd.st G, bx go #[jI jZ r, jS A3 xs.length c3] 77, ow (jS A3 xs.length c3) xs F, cnd (D 9) (bx rh #[jI jZ 0, jI jZ 0, jI jZ 0, jI jZ 0, jI jZ 0, jI jZ 0, jI jZ 0, jI jZ 0, jI jZ 0, jI jZ 0, jI jZ 0, jS none 0 0, jI jZ 0, jI jZ 0, jI jZ 0, jI jZ 0] 31) (bx rh #[jI jZ 0, jI jZ 0, jI jZ 0, jI jZ 0, jI jZ 0, jI jZ 0, jI jZ 0, jI jZ 0, jI jZ 0, jI jZ 0, jI jZ 0, jS none 0 0, jI jZ 0, jI jZ 0, jI jZ 0, jI jZ 0] 31), cnd (D 8) (bx rt #[jI jZ 0, jS none 0 0] 77) (bx rt #[jI jZ 0, jS none 0 0] 77), bx gh #[jI jZ hd.pos, jI jZ hd.cc, jI jZ hd.ck, jI jZ hd.cv, jI jZ hd.cur, jI jZ hd.want, jI jZ hd.key, jI jZ hd.kid, jI jZ hd.old, jI jZ hd.next, jI jZ hd.new, jS A4 hd.st.length c4, jI jZ hd.thn, jI jZ hd.beg, jI jZ hd.rep, jI jZ hd.out] 31, bx gt #[jI jZ r, jS A n c] 77] w ∧ (D 0 = true → V 0 = .agg #[jI jZ r, jS A3 xs.length c3]) ∧ (D 1 = true → V 1 = .agg #[jI jZ r, jS A n c]) ∧ (D 2 = true → V 2 = .agg #[jI jZ hd.pos, jI jZ hd.cc, jI jZ hd.ck, jI jZ hd.cv, jI jZ hd.cur, jI jZ hd.want, jI jZ hd.key, jI jZ hd.kid, jI jZ hd.old, jI jZ hd.next, jI jZ hd.new, jS A4 hd.st.length c4, jI jZ hd.thn, jI jZ hd.beg, jI jZ hd.rep, jI jZ hd.out]) ∧ (D 3 = true → V 3 = .agg #[jI jZ ch.pos, jI jZ ch.cc, jI jZ ch.ck, jI jZ ch.cv, jI jZ ch.cur, jI jZ ch.want, jI jZ ch.key, jI jZ ch.kid, jI jZ ch.old, jI jZ ch.next, jI jZ ch.new, jS A4 hd.st.length c4, jI jZ ch.thn, jI jZ ch.beg, jI jZ ch.rep, jI jZ ch.out]) ∧ (D 4 = true → V 4 = .tuple #[.agg #[jI jZ 0, jS none 0 0], .agg #[jI jZ 0, jI jZ 0, jI jZ 0, jI jZ 0, jI jZ 0, jI jZ 0, jI jZ 0, jI jZ 0, jI jZ 0, jI jZ 0, jI jZ 0, jS none 0 0, jI jZ 0, jI jZ 0, jI jZ 0, jI jZ 0], .bool false]) ∧ (D 5 = true → V 5 = .agg #[jI jZ 0, jS none 0 0]) ∧ (D 6 = true → V 6 = .agg #[jI jZ 0, jI jZ 0, jI jZ 0, jI jZ 0, jI jZ 0, jI jZ 0, jI jZ 0, jI jZ 0, jI jZ 0, jI jZ 0, jI jZ 0, jS none 0 0, jI jZ 0, jI jZ 0, jI jZ 0, jI jZ 0]) ∧ (D 7 = true → V 7 = .bool false) ∧ (D 10 = true → V 10 = .bool false)) ?_ ?_ ?_
   · intro D hD
     have d8 := hD 8 (by decide)
     have d9 := hD 9 (by decide)
     exact ⟨by rw [cnd_f d9, cnd_f d8]; exact S.out.drew.ems 0, (nof (hD 0 (by decide))), (nof (hD 1 (by decide))), (nof (hD 2 (by decide))), (nof (hD 3 (by decide))), (nof (hD 4 (by decide))), (nof (hD 5 (by decide))), (nof (hD 6 (by decide))), (nof (hD 7 (by decide))), (nof (hD 10 (by decide)))⟩
   · intro i o D V w a ho hI hDi haf hev
     obtain ⟨S, f0, f1, f2, f3, f4, f5, f6, f7, f10⟩ := hI
     rcases i with _ | _ | _ | _ | _ | _ | _ | _ | _ | _ | _ | i
     · obtain rfl := inj_ ho
       exact op_row 77 _ rfl S 1 rfl ((hev.old 9 (by kernel_rfl)).trans rfl) Try.isAgg77 (by kernel_rfl) ⟨_, rfl, S, fun _ => rfl, f1, f2, f3, f4, f5, f6, f7, f10⟩
     · obtain rfl := inj_ ho
       exact op_row 77 _ rfl S 6 rfl ((hev.old 3 (by kernel_rfl)).trans rfl) Try.isAgg77 (by kernel_rfl) ⟨_, rfl, S, f0, fun _ => rfl, f2, f3, f4, f5, f6, f7, f10⟩
     · obtain rfl := inj_ ho
       exact op_row 31 _ rfl S 5 rfl ((hev.old 5 (by kernel_rfl)).trans rfl) Try.isAgg31 (by kernel_rfl) ⟨_, rfl, S, f0, f1, fun _ => rfl, f3, f4, f5, f6, f7, f10⟩
     · obtain rfl := inj_ ho
       have h1 := aft_ haf 1 rfl
       have h2 := aft_ haf 2 rfl
       have hx0 := (hev.at_ 1 29 rfl rfl h1 f1)
       have hx1 := (hev.at_ 2 30 rfl rfl h2 f2)
       refine op_call _ _ _ rfl (enters_of Try.func97 (by kernel_rfl) rfl) #[.agg #[jI jZ r, jS A n c], .agg #[jI jZ hd.pos, jI jZ hd.cc, jI jZ hd.ck, jI jZ hd.cv, jI jZ hd.cur, jI jZ hd.want, jI jZ hd.key, jI jZ hd.kid, jI jZ hd.old, jI jZ hd.next, jI jZ hd.new, jS A4 hd.st.length c4, jI jZ hd.thn, jI jZ hd.beg, jI jZ hd.rep, jI jZ hd.out]] (by simp [hx0, hx1]) (CK.out A4 hd.st.length c4 w (S.rs HR.out)) (fun e w2 hh => ?_)
       obtain ⟨rfl, b⟩ := hh
       exact ⟨_, rfl, ⟨_, rfl, S.call b, f0, f1, f2, fun _ => rfl, f4, f5, f6, f7, f10⟩⟩
     · obtain rfl := inj_ ho
       have h0 := aft_ haf 0 rfl
       have h3 := aft_ haf 3 rfl
       have hx0 := (hev.at_ 0 28 rfl rfl h0 f0)
       have hx1 := (hev.at_ 3 31 rfl rfl h3 f3)
       refine op_call _ _ _ rfl (enters_of Try.func95 (by kernel_rfl) rfl) #[.agg #[jI jZ r, jS A3 xs.length c3], .agg #[jI jZ ch.pos, jI jZ ch.cc, jI jZ ch.ck, jI jZ ch.cv, jI jZ ch.cur, jI jZ ch.want, jI jZ ch.key, jI jZ ch.kid, jI jZ ch.old, jI jZ ch.next, jI jZ ch.new, jS A4 hd.st.length c4, jI jZ ch.thn, jI jZ ch.beg, jI jZ ch.rep, jI jZ ch.out]] (by simp [hx0, hx1]) (DN.out A3 c3 A4 c4 w (OwnS.rs (S.get 2 rfl) rfl) (OwnS.rs (S.get 0 rfl) rfl)) (fun e w2 hh => ?_)
       obtain ⟨rfl, b⟩ := hh
       exact ⟨_, rfl, ⟨_, rfl, S.call b, f0, f1, f2, f3, fun _ => rfl, f5, f6, f7, f10⟩⟩
     · obtain rfl := inj_ ho
       have h4 := aft_ haf 4 rfl
       exact op_extract _ _ rfl (hev.at_ 4 32 rfl rfl h4 f4) rfl ⟨_, rfl, S, f0, f1, f2, f3, f4, fun _ => rfl, f6, f7, f10⟩
     · obtain rfl := inj_ ho
       have h4 := aft_ haf 4 rfl
       exact op_extract _ _ rfl (hev.at_ 4 32 rfl rfl h4 f4) rfl ⟨_, rfl, S, f0, f1, f2, f3, f4, f5, fun _ => rfl, f7, f10⟩
     · obtain rfl := inj_ ho
       have h4 := aft_ haf 4 rfl
       exact op_extract _ _ rfl (hev.at_ 4 32 rfl rfl h4 f4) rfl ⟨_, rfl, S, f0, f1, f2, f3, f4, f5, f6, fun _ => rfl, f10⟩
     · obtain rfl := inj_ ho
       have h5 := aft_ haf 5 rfl
       exact op_putR 77 _ _ rfl S 4 (g := rt) (C := #[jI jZ 0, jS none 0 0]) (t := 77) (by simp only [gs_, gz_, cnd_f hDi]) ((hev.old 6 (by kernel_rfl)).trans rfl) _ (hev.at_ 5 33 rfl rfl h5 f5) rfl (by kernel_rfl) rfl (fun w S => ⟨_, rfl, S, f0, f1, f2, f3, f4, f5, f6, f7, f10⟩)
     · obtain rfl := inj_ ho
       have h6 := aft_ haf 6 rfl
       exact op_putR 31 _ _ rfl S 3 (g := rh) (C := #[jI jZ 0, jI jZ 0, jI jZ 0, jI jZ 0, jI jZ 0, jI jZ 0, jI jZ 0, jI jZ 0, jI jZ 0, jI jZ 0, jI jZ 0, jS none 0 0, jI jZ 0, jI jZ 0, jI jZ 0, jI jZ 0]) (t := 31) (by simp only [gs_, gz_, cnd_f hDi]) ((hev.old 7 (by kernel_rfl)).trans rfl) _ (hev.at_ 6 34 rfl rfl h6 f6) rfl (by kernel_rfl) rfl (fun w S => ⟨_, rfl, S, f0, f1, f2, f3, f4, f5, f6, f7, f10⟩)
     · obtain rfl := inj_ ho
       have h7 := aft_ haf 7 rfl
       exact op_move (.inr rfl) (hev.at_ 7 35 rfl rfl h7 f7) ⟨_, rfl, S, f0, f1, f2, f3, f4, f5, f6, f7, fun _ => rfl⟩
     · exact absurd ho (by simp)
   intro V w hI
   obtain ⟨S, f0, f1, f2, f3, f4, f5, f6, f7, f10⟩ := hI
   replace S : Hid (Sep noX w0 [ow (jS A4 hd.st.length c4) hd.st G, bx go #[jI jZ r, jS A3 xs.length c3] 77, ow (jS A3 xs.length c3) xs F, bx rh #[jI jZ 0, jI jZ 0, jI jZ 0, jI jZ 0, jI jZ 0, jI jZ 0, jI jZ 0, jI jZ 0, jI jZ 0, jI jZ 0, jI jZ 0, jS none 0 0, jI jZ 0, jI jZ 0, jI jZ 0, jI jZ 0] 31, bx rt #[jI jZ 0, jS none 0 0] 77, bx gh #[jI jZ hd.pos, jI jZ hd.cc, jI jZ hd.ck, jI jZ hd.cv, jI jZ hd.cur, jI jZ hd.want, jI jZ hd.key, jI jZ hd.kid, jI jZ hd.old, jI jZ hd.next, jI jZ hd.new, jS A4 hd.st.length c4, jI jZ hd.thn, jI jZ hd.beg, jI jZ hd.rep, jI jZ hd.out] 31, bx gt #[jI jZ r, jS A n c] 77] w) := Lib.hid S
   simp only [putF, Act.put, sa_, sb_, sc_, f0 rfl, f1 rfl, f2 rfl, f3 rfl, f4 rfl, f5 rfl, f6 rfl, f7 rfl, f10 rfl]
   clear f0 f1 f2 f3 f4 f5 f6 f7 f10
   go_wp2_with fail
   exact bodyPost_ret (results_ccs rfl _ S.out 4 3 rfl rfl rfl rfl Try.isAgg77 Try.isAgg31 (by kernel_rfl) (by kernel_rfl)) rfl (by rw [HE.out, done_no (by simpa using HQ.out)]; exact none_S S.out.below)

set_option maxRecDepth 100000 in
set_option maxHeartbeats 16000000 in
theorem leaf_write (r : Int) (xs : List Nd) (A : Option Addr) (n c : Nat) (task : Int) (hd : Hd) (A' : Option Addr) (n' c' : Nat) (w0 : World) (hR : RS w0 w0.heap.size A n xs) (hs : Small.sm xs) (hH : RS w0 w0.heap.size A' n' hd.st) (hn' : n' ≤ 1048576) (hk : ok10 ⟨r, xs⟩ task hd 4 5 = true) (hp : hd.pos ≠ 4) :
   Calls Try.prog 86 #[.agg #[jI jZ r, jS A n c], jI jZ task, hdV hd A' n' c'] w0 (GivesS w0 (leafS ⟨r, xs⟩ task hd)) := by
 have hE : leafS ⟨r, xs⟩ task hd = doneS (writeT ⟨r, xs⟩ hd) (writeH ⟨r, xs⟩ hd) := by unfold leafS; rw [hk, if_neg hp]; rfl
 have hk9 : ok9 ⟨r, xs⟩ task hd 4 5 = true := by unfold ok10 at hk; simp only [Bool.and_eq_true] at hk; exact hk.1
 have hT := (ok9_of hk9).1
 have hC := (ok9_of hk9).2.2.2.2.1
 have hRt := right_of hT
 have hlx : xs.length = n := hR.1
 have WT := Lib.hid (fun (A3 : Option Addr) c3 F (A4 : Option Addr) n4 c4 w hO hF => write_any r xs A3 xs.length c3 F hd A4 n4 c4 w hO hF hRt hC)
 obtain ⟨ht1, ht2, ht3⟩ := writeT_ns hRt rfl hC
 have hst := writeH_st ⟨r, xs⟩ hd
 have hEt : writeT ⟨r, xs⟩ hd = ⟨r, (writeT ⟨r, xs⟩ hd).ns⟩ := by
   cases hw : writeT ⟨r, xs⟩ hd with
   | mk a b => rw [hw] at ht1; simp only at ht1; rw [ht1]
 rw [hEt] at hE
 generalize writeH ⟨r, xs⟩ hd = wh at *
 generalize (writeT ⟨r, xs⟩ hd).ns = ys at *
 have DY := Lib.hid (fun (hq : (treeOk r ys && handOk wh) = true) (A3 : Option Addr) (c3 : Nat) (A4 : Option Addr) (c4 : Nat) w hR (hS : RS w w.heap.size A4 hd.st.length hd.st) => done9_yes r ys A3 xs.length c3 wh A4 hd.st.length c4 w hR ht3 (by rw [hst]; exact hS) (by simp only [Bool.and_eq_true] at hq; exact hq.1) (by simp only [Bool.and_eq_true] at hq; exact hq.2))
 have DNO := Lib.hid (fun (hq : ¬ (treeOk r ys && handOk wh) = true) (A3 : Option Addr) (c3 : Nat) (A4 : Option Addr) (c4 : Nat) w hR (hS : RS w w.heap.size A4 hd.st.length hd.st) => done9_no r ys A3 xs.length c3 wh A4 hd.st.length c4 w hR ht3 (by rw [hst]; exact hS) (by simpa using hq))
 have OK := Lib.hid (fun w hR hH => ok10_any r xs A n c task hd A' n' c' 4 5 w hR hs hH hn')
 have CT := Lib.hid (fun w hR => copyT_any r xs A n c w hR hs)
 have CH := Lib.hid (fun w hR => copyH_any hd A' n' c' w hR hn')
 have NN := Lib.hid none9_any
 have HR := Lib.hid hR
 have HH := Lib.hid hH
 have HL := Lib.hid hH.1
 have HE := Lib.hid hE
 have HY := Lib.hid ht2
 have HST := Lib.hid hst
 rw [hk] at OK
 have g1 : (hd.pos == 4) = false := by simpa using hp
 clear hE hk hp hR hH hs hn' hk9 hT hC hRt hlx hst ht1 ht2 ht3 hEt
 have S := Lib.hid (Sep.start noX w0)
 have tokg : True := trivial
 have tokx : True := trivial
 have toky : True := trivial
 have tok0 : True := trivial
 have tok1 : True := trivial
 have tok2 : True := trivial
 have tok3 : True := trivial
 unfold hdV at *
 go_enter Try.func86, Try.ntmps86
 go_wp2_with (first
     | go_skip
     | (clear tok0; refine bx_ 77 S rfl rfl rfl ?_; clear S; intro gt w S)
     | (clear tok1; refine bx_ 31 S rfl rfl rfl ?_; clear S; intro gh w S)
     | (clear tok2; refine nx_ 77 S rfl rfl Try.zeroValue77 ?_; clear S; intro rt w S)
     | (clear tok3; refine nx_ 31 S rfl rfl Try.zeroValue31 ?_; clear S; intro rh w S)
     | (refine wpList_op rfl (op_row 77 _ rfl S.out 3 rfl rfl Try.isAgg77 (by kernel_rfl) ?_))
     | (refine wpList_op rfl (op_row 31 _ rfl S.out 2 rfl rfl Try.isAgg31 (by kernel_rfl) ?_)))
 refine (OK.out _ (S.out.rs HR.out) (S.out.rs HH.out)).mono ?_
 rintro e w ⟨rfl, b⟩
 replace S := Lib.hid (S.out.call b)
 clear b
 go_wp2_with (first
     | go_skip
     | (refine wpList_op rfl (op_row 77 _ rfl S.out 3 rfl rfl Try.isAgg77 (by kernel_rfl) ?_)))
 refine (CT.out _ (S.out.rs HR.out)).mono ?_
 rintro e w ⟨v, F, rfl, o, f, b⟩
 obtain ⟨A3, c3, rfl, _, _⟩ := o.form
 replace S := Lib.hid (S.out.own b o f)
 clear o f b
 go_wp2_with (first
     | go_skip
     | (clear tokg; refine nx_ 77 S rfl rfl Try.zeroValue77 ?_; clear S; intro go w S)
     | (refine wpList_op rfl (op_putR_0 77 _ _ rfl S rfl _ rfl rfl (by kernel_rfl) rfl ?_); clear S; intro w S)
     | (refine wpList_op rfl (op_row 31 _ rfl S.out 4 rfl rfl Try.isAgg31 (by kernel_rfl) ?_)))
 refine (CH.out _ (S.out.rs HH.out)).mono ?_
 rintro e w ⟨A4, c4, G, rfl, o, f, b⟩
 replace S := Lib.hid (S.out.own b o f)
 clear o f b
 unfold hdV
 go_wp2_with (first
     | go_skip
     | (refine wpList_op rfl (op_putR_5 31 _ _ rfl S rfl _ rfl rfl (by kernel_rfl) rfl ?_); clear S; intro w S)
     | (refine wpList_op rfl (op_get 2 _ rfl S.out 5 rfl _ rfl Try.isAgg2 _ rfl ?_))
     | (refine wpList_op rfl (op_row 77 _ rfl S.out 1 rfl rfl Try.isAgg77 (by kernel_rfl) ?_))
     | (refine wpList_op rfl (op_row 31 _ rfl S.out 5 rfl rfl Try.isAgg31 (by kernel_rfl) ?_)))
 refine (WT.out A3 c3 F A4 hd.st.length c4 _ (S.out.get 2 rfl) (S.out.lt 2 rfl)).mono ?_
 rintro e w ⟨rfl, tu⟩
 obtain ⟨G2, S2⟩ := S.out.turnedIn 2 rfl tu
 replace S : Hid (Sep noX w0 [ow (jS A4 hd.st.length c4) hd.st G, bx go #[jI jZ r, jS A3 xs.length c3] 77, ow (jS A3 xs.length c3) ys G2, bx rh #[jI jZ 0, jI jZ 0, jI jZ 0, jI jZ 0, jI jZ 0, jI jZ 0, jI jZ 0, jI jZ 0, jI jZ 0, jI jZ 0, jI jZ 0, jS none 0 0, jI jZ 0, jI jZ 0, jI jZ 0, jI jZ 0] 31, bx rt #[jI jZ 0, jS none 0 0] 77, bx gh #[jI jZ hd.pos, jI jZ hd.cc, jI jZ hd.ck, jI jZ hd.cv, jI jZ hd.cur, jI jZ hd.want, jI jZ hd.key, jI jZ hd.kid, jI jZ hd.old, jI jZ hd.next, jI jZ hd.new, jS A4 hd.st.length c4, jI jZ hd.thn, jI jZ hd.beg, jI jZ hd.rep, jI jZ hd.out] 31, bx gt #[jI jZ r, jS A n c] 77] w) := Lib.hid S2
 clear S2 tu
 go_wp2_with (first
     | go_skip
     | (clear tokx; refine nx_ 77 S rfl rfl Try.zeroValue77 ?_; clear S; intro gx w S)
     | (clear toky; refine nx_ 31 S rfl rfl Try.zeroValue31 ?_; clear S; intro gy w S)
     | (refine wpList_op rfl (op_putR_1 77 _ _ rfl S rfl _ rfl rfl (by kernel_rfl) rfl ?_); clear S; intro w S)
     | (refine wpList_op rfl (op_putR_0 31 _ _ rfl S rfl _ rfl rfl (by kernel_rfl) rfl ?_); clear S; intro w S)
     | (refine wpList_op rfl (op_row 77 _ rfl S.out 1 rfl rfl Try.isAgg77 (by kernel_rfl) ?_))
     | (refine wpList_op rfl (op_row 31 _ rfl S.out 0 rfl rfl Try.isAgg31 (by kernel_rfl) ?_)))
 by_cases hq : (treeOk r ys && handOk wh) = true
 · have hd2 := (DY.out hq A3 c3 A4 c4 w (OwnS.rs (S.out.get 4 rfl) HY.out) (OwnS.rs (S.out.get 2 rfl) rfl))
   unfold hdV at hd2
   refine hd2.mono ?_
   rintro e w ⟨rfl, b⟩
   replace S := Lib.hid (S.out.call b)
   have HQ := Lib.hid hq
   clear b hd2 hq
   go_wp2_with (first
       | go_skip
       | (refine wpList_op rfl (op_putR_6 77 _ _ rfl S rfl _ rfl rfl (by kernel_rfl) rfl ?_); clear S; intro w S)
       | (refine wpList_op rfl (op_putR_5 31 _ _ rfl S rfl _ rfl rfl (by kernel_rfl) rfl ?_); clear S; intro w S))
   exact bodyPost_ret (results_ccs rfl _ S.out 6 5 rfl rfl rfl rfl Try.isAgg77 Try.isAgg31 (by kernel_rfl) (by kernel_rfl)) rfl (by rw [HE.out, done_yes (t := ⟨r, ys⟩) (by have := HQ.out; simp only [Bool.and_eq_true] at this; exact this.1) (by have := HQ.out; simp only [Bool.and_eq_true] at this; exact this.2)]; exact S.out.gives 4 2 (by omega) (s := ⟨⟨r, ys⟩, wh, true⟩) rfl (by rw [HST.out]; rfl) HY.out (by rw [HST.out]))
 · have hd2 := (DNO.out hq A3 c3 A4 c4 w (OwnS.rs (S.out.get 4 rfl) HY.out) (OwnS.rs (S.out.get 2 rfl) rfl))
   unfold hdV at hd2
   refine hd2.mono ?_
   rintro e w ⟨rfl, b⟩
   replace S := Lib.hid (S.out.call b)
   have HQ := Lib.hid hq
   clear b hd2 hq
   go_wp2_with (first
       | go_skip
       | (refine wpList_op rfl (op_putR_6 77 _ _ rfl S rfl _ rfl rfl (by kernel_rfl) rfl ?_); clear S; intro w S)
       | (refine wpList_op rfl (op_putR_5 31 _ _ rfl S rfl _ rfl rfl (by kernel_rfl) rfl ?_); clear S; intro w S))
   exact bodyPost_ret (results_ccs rfl _ S.out 6 5 rfl rfl rfl rfl Try.isAgg77 Try.isAgg31 (by kernel_rfl) (by kernel_rfl)) rfl (by rw [HE.out, doneS_no (t := ⟨r, ys⟩) HQ.out]; exact none_S S.out.below)

theorem sLeaf_any (r : Int) (xs : List Nd) (A : Option Addr) (n c : Nat) (task : Int) (hd : Hd) (A' : Option Addr) (n' c' : Nat) (w0 : World) (hR : RS w0 w0.heap.size A n xs) (hs : Small.sm xs) (hH : RS w0 w0.heap.size A' n' hd.st) (hn' : n' ≤ 1048576) :
   Calls Try.prog 86 #[.agg #[jI jZ r, jS A n c], jI jZ task, hdV hd A' n' c'] w0 (GivesS w0 (leafS ⟨r, xs⟩ task hd)) := by
 by_cases hk : ok10 ⟨r, xs⟩ task hd 4 5 = true
 · by_cases hp : hd.pos = 4
   · exact leaf_check r xs A n c task hd A' n' c' w0 hR hs hH hn' hk hp
   · exact leaf_write r xs A n c task hd A' n' c' w0 hR hs hH hn' hk hp
 · exact leaf_no r xs A n c task hd A' n' c' w0 hR hs hH hn' (by simpa using hk)
end Go.Proofs.Ytjookicpmjmdhaa
