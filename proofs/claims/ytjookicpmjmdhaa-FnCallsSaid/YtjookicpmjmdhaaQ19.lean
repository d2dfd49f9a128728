/- The walk of the model's DownStep. (Made by genY5.py.) -/
import Derived.Test.YtjookicpmjmdhaaQ18
open Go.Value renaming int → jI, slice → jS
open Go.IntKind renaming i64 → jZ
namespace Go.Proofs.Ytjookicpmjmdhaa
open Go.RowKit

def GivesS (w : World) (s : StR) (e : Ending) (w' : World) : Prop :=
 ∃ A c F A' c' G, e = .returned (.tuple #[.agg #[jI jZ s.t.root, jS A s.t.ns.length c], hdV s.h A' s.h.st.length c', .bool s.b]) ∧ OwnS w' (jS A s.t.ns.length c) s.t.ns F ∧ OwnS w' (jS A' s.h.st.length c') s.h.st G ∧
   Apart F G ∧ Fresh F w w' ∧ Fresh G w w' ∧ Below w.heap.size w w'
theorem none_S {w w' : World} (b : Below w.heap.size w w') : GivesS w noneS (.returned (.tuple #[.agg #[jI jZ 0, jS none 0 0], hdV zeroH none 0 0, .bool false])) w' :=
 ⟨none, 0, fun _ => False, none, 0, fun _ => False, rfl, OwnS.nil _ _, OwnS.nil _ _, fun _ hk => absurd hk id, fun _ hk => absurd hk id, fun _ hk => absurd hk id, b⟩
theorem done_no9 {t : Tr} {h : Hd} (hq : (treeOk t.root t.ns && handOk h) = false) : doneS t h = noneS := by unfold doneS; rw [hq]; rfl
theorem Sep.gives {w0 w : World} {L : List Item} (h : Sep noX w0 L w) (i j : Nat) (hij : i ≠ j) {s : StR} {A A' : Option Addr} {c c' m m' : Nat} {F G : FP} (e : L[i]? = some (ow (jS A m c) s.t.ns F)) (e' : L[j]? = some (ow (jS A' m' c') s.h.st G))
   (hm : s.t.ns.length = m) (hm' : s.h.st.length = m') : GivesS w0 s (.returned (.tuple #[.agg #[jI jZ s.t.root, jS A m c], hdV s.h A' m' c', .bool s.b])) w := by
 subst hm hm'
 obtain ⟨h1, h2, h3⟩ := h.ends i e
 obtain ⟨h4, h5, _⟩ := h.ends j e'
 refine ⟨A, c, F, A', c', G, rfl, h1, h4, ?_, h2, h5, h3⟩
 rcases Nat.lt_or_gt_of_ne hij with h' | h'
 · exact h.two i j h' e e'
 · exact (h.two j i h' e' e).symm
theorem ok9_of {t : Tr} {task : Int} {h : Hd} {lo hi : Int} (hk : ok9 t task h lo hi = true) : treeOk t.root t.ns = true ∧ inB task 0 5 = true ∧ handOk h = true ∧ (lo ≤ h.pos ∧ h.pos ≤ hi) ∧ hasB t.ns.length h.cur = true ∧ hasB t.ns.length h.kid = true ∧ hasB t.ns.length h.old = true ∧ hasB t.ns.length h.next = true ∧ hasB t.ns.length h.new = true := by
 unfold ok9 at hk
 simp only [Bool.and_eq_true, List.all_append, List.all_cons, List.all_nil, Bool.and_true] at hk
 obtain ⟨h1, h2, h3, h4, h5, h6, h7, h8, h9, h10⟩ := hk
 refine ⟨h1, h2, h3, ?_, h6, h7, h8, h9, h10⟩
 unfold inB at h4
 simpa using h4
theorem downD_form (t : Tr) (h : Hd) : downD t h = noneS ∨ ∃ h', downD t h = ⟨t, h', true⟩ := by
 have hd : ∀ x : Hd, doneS t x = noneS ∨ ∃ h', doneS t x = ⟨t, h', true⟩ := fun x => by
   unfold doneS
   split
   · exact .inr ⟨x, rfl⟩
   · exact .inl rfl
 unfold downD
 simp only
 split
 · exact hd _
 · split
   · exact hd _
   · split
     · exact hd _
     · exact .inl rfl

set_option maxRecDepth 100000 in
set_option maxHeartbeats 4000000 in
theorem down_no (r : Int) (xs : List Nd) (A : Option Addr) (n c : Nat) (task : Int) (hd : Hd) (A' : Option Addr) (n' c' : Nat) (w0 : World) (hR : RS w0 w0.heap.size A n xs) (hs : Small.sm xs) (hH : RS w0 w0.heap.size A' n' hd.st) (hn' : n' ≤ 1048576) (hk : (ok9 ⟨r, xs⟩ task hd 1 3 && !(decide (hd.pos = 3) && decide (hd.cc = 1))) = false) :
   Calls Try.prog 85 #[.agg #[jI jZ r, jS A n c], jI jZ task, hdV hd A' n' c'] w0 (GivesS w0 (downS ⟨r, xs⟩ task hd)) := by
 have hE : downS ⟨r, xs⟩ task hd = noneS := by unfold downS; rw [hk]; rfl
 have OK := Lib.hid (fun w hR hH => ok9_any r xs A n c task hd A' n' c' 1 3 w hR hs hH hn')
 have CT := Lib.hid (fun w hR => copyT_any r xs A n c w hR hs)
 have CH := Lib.hid (fun w hR => copyH_any hd A' n' c' w hR hn')
 have NN := Lib.hid none9_any
 have HR := Lib.hid hR
 have HH := Lib.hid hH
 have HL := Lib.hid hH.1
 clear hR hH
 have HE := Lib.hid hE
 clear hE
 generalize ok9 ⟨r, xs⟩ task hd 1 3 = q at *
 cases q
 · clear hk
   have S := Lib.hid (Sep.start noX w0)
   have tokg : True := trivial
   have tokx : True := trivial
   have tok0 : True := trivial
   have tok1 : True := trivial
   have tok2 : True := trivial
   have tok3 : True := trivial
   unfold hdV at *
   go_enter Try.func85, Try.ntmps85
   go_wp2_with (first
       | (clear tok0; refine bx_ 77 S rfl rfl rfl ?_; clear S; intro gt w S)
       | (clear tok1; refine bx_ 31 S rfl rfl rfl ?_; clear S; intro gh w S)
       | (clear tok2; refine nx_ 77 S rfl rfl Try.zeroValue77 ?_; clear S; intro rt w S)
       | (clear tok3; refine nx_ 31 S rfl rfl Try.zeroValue31 ?_; clear S; intro rh w S)
       | (refine wpList_op rfl (op_row 77 _ rfl S.out 3 rfl rfl Try.isAgg77 (by kernel_rfl) ?_))
       | (refine wpList_op rfl (op_row 31 _ rfl S.out 2 rfl rfl Try.isAgg31 (by kernel_rfl) ?_)))
   refine (OK.out _ (S.out.rs HR.out) (S.out.rs HH.out)).mono ?_
   rintro e w ⟨rfl, b⟩
   replace S := Lib.hid (S.out.call b)
   clear b
   go_wp2_with fail
   refine (NN.out _).mono ?_
   rintro e w ⟨rfl, b⟩
   replace S := Lib.hid (S.out.call b)
   clear b
   unfold zeroS hdV
   go_wp2_with (first
       | (refine wpList_op rfl (op_putR_1 77 _ _ rfl S rfl _ rfl rfl (by kernel_rfl) rfl ?_); clear S; intro w S)
       | (refine wpList_op rfl (op_putR_0 31 _ _ rfl S rfl _ rfl rfl (by kernel_rfl) rfl ?_); clear S; intro w S))
   exact bodyPost_ret (results_ccs rfl _ S.out 1 0 rfl rfl rfl rfl Try.isAgg77 Try.isAgg31 (by kernel_rfl) (by kernel_rfl)) rfl (by rw [HE.out]; exact none_S S.out.below)
 · obtain ⟨hp, hcc⟩ : hd.pos = 3 ∧ hd.cc = 1 := by simpa using hk
   have g1 : (hd.pos == 3) = true := by simp [hp]
   have g2 : (hd.cc == 1) = true := by simp [hcc]
   clear hk hp hcc
   have S := Lib.hid (Sep.start noX w0)
   have tokg : True := trivial
   have tokx : True := trivial
   have tok0 : True := trivial
   have tok1 : True := trivial
   have tok2 : True := trivial
   have tok3 : True := trivial
   unfold hdV at *
   go_enter Try.func85, Try.ntmps85
   go_wp2_with (first
       | (clear tok0; refine bx_ 77 S rfl rfl rfl ?_; clear S; intro gt w S)
       | (clear tok1; refine bx_ 31 S rfl rfl rfl ?_; clear S; intro gh w S)
       | (clear tok2; refine nx_ 77 S rfl rfl Try.zeroValue77 ?_; clear S; intro rt w S)
       | (clear tok3; refine nx_ 31 S rfl rfl Try.zeroValue31 ?_; clear S; intro rh w S)
       | (refine wpList_op rfl (op_row 77 _ rfl S.out 3 rfl rfl Try.isAgg77 (by kernel_rfl) ?_))
       | (refine wpList_op rfl (op_row 31 _ rfl S.out 2 rfl rfl Try.isAgg31 (by kernel_rfl) ?_)))
   refine (OK.out _ (S.out.rs HR.out) (S.out.rs HH.out)).mono ?_
   rintro e w ⟨rfl, b⟩
   replace S := Lib.hid (S.out.call b)
   clear b
   go_wp2_with (first
       | (refine wpList_op rfl (op_get 2 _ rfl S.out 2 rfl _ rfl Try.isAgg2 _ rfl ?_)))
   refine (NN.out _).mono ?_
   rintro e w ⟨rfl, b⟩
   replace S := Lib.hid (S.out.call b)
   clear b
   unfold zeroS hdV
   go_wp2_with (first
       | (refine wpList_op rfl (op_putR_1 77 _ _ rfl S rfl _ rfl rfl (by kernel_rfl) rfl ?_); clear S; intro w S)
       | (refine wpList_op rfl (op_putR_0 31 _ _ rfl S rfl _ rfl rfl (by kernel_rfl) rfl ?_); clear S; intro w S))
   exact bodyPost_ret (results_ccs rfl _ S.out 1 0 rfl rfl rfl rfl Try.isAgg77 Try.isAgg31 (by kernel_rfl) (by kernel_rfl)) rfl (by rw [HE.out]; exact none_S S.out.below)

set_option maxRecDepth 100000 in
set_option maxHeartbeats 4000000 in
theorem down_root (r : Int) (xs : List Nd) (A : Option Addr) (n c : Nat) (task : Int) (hd : Hd) (A' : Option Addr) (n' c' : Nat) (w0 : World) (hR : RS w0 w0.heap.size A n xs) (hs : Small.sm xs) (hH : RS w0 w0.heap.size A' n' hd.st) (hn' : n' ≤ 1048576) (hk : ok9 ⟨r, xs⟩ task hd 1 3 = true) (hp : hd.pos = 1) :
   Calls Try.prog 85 #[.agg #[jI jZ r, jS A n c], jI jZ task, hdV hd A' n' c'] w0 (GivesS w0 (downS ⟨r, xs⟩ task hd)) := by
 have hE : downS ⟨r, xs⟩ task hd = doneS ⟨r, xs⟩ { hd with cur := r, st := [], pos := 2 } := by unfold downS; rw [hk, if_pos hp, hp]; rfl
 have hT := (ok9_of hk).1
 have OK := Lib.hid (fun w hR hH => ok9_any r xs A n c task hd A' n' c' 1 3 w hR hs hH hn')
 have CT := Lib.hid (fun w hR => copyT_any r xs A n c w hR hs)
 have CH := Lib.hid (fun w hR => copyH_any hd A' n' c' w hR hn')
 have NN := Lib.hid none9_any
 have HR := Lib.hid hR
 have HH := Lib.hid hH
 have HL := Lib.hid hH.1
 clear hR hH
 have HE := Lib.hid hE
 have HT : Hid (treeOk r xs = true) := Lib.hid hT
 clear hE hT
 rw [hk] at OK
 have g1 : (hd.pos == 3) = false := by simp [hp]
 have g2 : (hd.pos == 1) = true := by simp [hp]
 clear hk hp
 have S := Lib.hid (Sep.start noX w0)
 have tokg : True := trivial
 have tokx : True := trivial
 have tok0 : True := trivial
 have tok1 : True := trivial
 have tok2 : True := trivial
 have tok3 : True := trivial
 unfold hdV at *
 go_enter Try.func85, Try.ntmps85
 go_wp2_with (first
     | (clear tok0; refine bx_ 77 S rfl rfl rfl ?_; clear S; intro gt w S)
     | (clear tok1; refine bx_ 31 S rfl rfl rfl ?_; clear S; intro gh w S)
     | (clear tok2; refine nx_ 77 S rfl rfl Try.zeroValue77 ?_; clear S; intro rt w S)
     | (clear tok3; refine nx_ 31 S rfl rfl Try.zeroValue31 ?_; clear S; intro rh w S)
     | (refine wpList_op rfl (op_row 77 _ rfl S.out 3 rfl rfl Try.isAgg77 (by kernel_rfl) ?_))
     | (refine wpList_op rfl (op_row 31 _ rfl S.out 2 rfl rfl Try.isAgg31 (by kernel_rfl) ?_)))
 refine (OK.out _ (S.out.rs HR.out) (S.out.rs HH.out)).mono ?_
 rintro e w ⟨rfl, b⟩
 replace S := Lib.hid (S.out.call b)
 clear b
 go_wp2_with (first
     | (refine wpList_op rfl (op_get 2 _ rfl S.out 2 rfl _ rfl Try.isAgg2 _ rfl ?_))
     | (refine wpList_op rfl (op_row 77 _ rfl S.out 3 rfl rfl Try.isAgg77 (by kernel_rfl) ?_)))
 refine (CT.out _ (S.out.rs HR.out)).mono ?_
 rintro e w ⟨v, F, rfl, o, f, b⟩
 obtain ⟨A3, c3, rfl, _, _⟩ := o.form
 replace S := Lib.hid (S.out.own b o f)
 clear o f b
 go_wp2_with (first
     | (clear tokg; refine nx_ 77 S rfl rfl Try.zeroValue77 ?_; clear S; intro go w S)
     | (refine wpList_op rfl (op_putR_0 77 _ _ rfl S rfl _ rfl rfl (by kernel_rfl) rfl ?_); clear S; intro w S)
     | (refine wpList_op rfl (op_row 31 _ rfl S.out 4 rfl rfl Try.isAgg31 (by kernel_rfl) ?_)))
 refine (CH.out _ (S.out.rs HH.out)).mono ?_
 rintro e w ⟨A4, c4, G, rfl, o, f, b⟩
 replace S := Lib.hid (S.out.own b o f)
 clear o f b
 unfold hdV
 go_wp2_with (first
     | (refine wpList_op rfl (op_bs0 rfl S.out ?_); clear S; intro ge w S; replace S := Lib.hid S)
     | (refine wpList_op rfl (op_putR_5 31 _ _ rfl S rfl _ rfl rfl (by kernel_rfl) rfl ?_); clear S; intro w S)
     | (refine wpList_op rfl (op_get 2 _ rfl S.out 5 rfl _ rfl Try.isAgg2 _ rfl ?_))
     | (refine wpList_op rfl (op_get 2 _ rfl S.out 6 rfl _ rfl Try.isAgg2 _ rfl ?_))
     | (refine wpList_op rfl (op_put1_5 2 _ _ rfl S _ rfl _ rfl rfl (by kernel_rfl) (of_decide_eq_true rfl) ?_); clear S; intro w S)
     | (refine wpList_op rfl (op_put1_6 29 _ _ rfl S _ rfl _ rfl rfl (by kernel_rfl) (of_decide_eq_true rfl) ?_); clear S; intro w S)
     | (refine wpList_op rfl (op_put1_6 2 _ _ rfl S _ rfl _ rfl rfl (by kernel_rfl) (of_decide_eq_true rfl) ?_); clear S; intro w S; replace S : Hid (Sep noX w0 [ow (jS (some ⟨ge, 0, none⟩) 0 0) ([] : List Int) (fun k => k = ge), ow (jS A4 hd.st.length c4) hd.st G, bx go #[jI jZ r, jS A3 xs.length c3] 77, ow (jS A3 xs.length c3) xs F, bx rh #[jI jZ 0, jI jZ 0, jI jZ 0, jI jZ 0, jI jZ 0, jI jZ 0, jI jZ 0, jI jZ 0, jI jZ 0, jI jZ 0, jI jZ 0, jS none 0 0, jI jZ 0, jI jZ 0, jI jZ 0, jI jZ 0] 31, bx rt #[jI jZ 0, jS none 0 0] 77, bx gh #[jI jZ 2, jI jZ hd.cc, jI jZ hd.ck, jI jZ hd.cv, jI jZ r, jI jZ hd.want, jI jZ hd.key, jI jZ hd.kid, jI jZ hd.old, jI jZ hd.next, jI jZ hd.new, jS (some ⟨ge, 0, none⟩) 0 0, jI jZ hd.thn, jI jZ hd.beg, jI jZ hd.rep, jI jZ hd.out] 31, bx gt #[jI jZ r, jS A n c] 77] w) := S)
     | (refine wpList_op rfl (op_row 77 _ rfl S.out 2 rfl rfl Try.isAgg77 (by kernel_rfl) ?_))
     | (refine wpList_op rfl (op_row 31 _ rfl S.out 6 rfl rfl Try.isAgg31 (by kernel_rfl) ?_)))
 by_cases hq : handOk { hd with cur := r, st := [], pos := 2 } = true
 · have hd2 := (done9_yes r xs A3 xs.length c3 { hd with cur := r, st := [], pos := 2 } (some ⟨ge, 0, none⟩) 0 0 w (OwnS.rs (S.out.get 3 rfl) rfl) hs (by exact OwnS.rs (S.out.get 0 rfl) rfl) HT.out hq)
   unfold hdV at hd2
   refine hd2.mono ?_
   rintro e w ⟨rfl, b⟩
   replace S := Lib.hid (S.out.call b)
   clear b hd2
   go_wp2_with (first
       | (refine wpList_op rfl (op_putR_5 77 _ _ rfl S rfl _ rfl rfl (by kernel_rfl) rfl ?_); clear S; intro w S)
       | (refine wpList_op rfl (op_putR_4 31 _ _ rfl S rfl _ rfl rfl (by kernel_rfl) rfl ?_); clear S; intro w S))
   exact bodyPost_ret (results_ccs rfl _ S.out 5 4 rfl rfl rfl rfl Try.isAgg77 Try.isAgg31 (by kernel_rfl) (by kernel_rfl)) rfl (by rw [HE.out, done_yes HT.out hq]; exact S.out.gives 3 0 (by omega) (s := ⟨⟨r, xs⟩, { hd with cur := r, st := [], pos := 2 }, true⟩) rfl rfl rfl rfl)
 · have hd2 := (done9_no r xs A3 xs.length c3 { hd with cur := r, st := [], pos := 2 } (some ⟨ge, 0, none⟩) 0 0 w (OwnS.rs (S.out.get 3 rfl) rfl) hs (by exact OwnS.rs (S.out.get 0 rfl) rfl) (by simp [hq]))
   unfold hdV at hd2
   refine hd2.mono ?_
   rintro e w ⟨rfl, b⟩
   replace S := Lib.hid (S.out.call b)
   clear b hd2
   go_wp2_with (first
       | (refine wpList_op rfl (op_putR_5 77 _ _ rfl S rfl _ rfl rfl (by kernel_rfl) rfl ?_); clear S; intro w S)
       | (refine wpList_op rfl (op_putR_4 31 _ _ rfl S rfl _ rfl rfl (by kernel_rfl) rfl ?_); clear S; intro w S))
   exact bodyPost_ret (results_ccs rfl _ S.out 5 4 rfl rfl rfl rfl Try.isAgg77 Try.isAgg31 (by kernel_rfl) (by kernel_rfl)) rfl (by rw [HE.out, done_no (by simpa using hq)]; exact none_S S.out.below)

set_option maxRecDepth 100000 in
set_option maxHeartbeats 4000000 in
theorem down_down (r : Int) (xs : List Nd) (A : Option Addr) (n c : Nat) (task : Int) (hd : Hd) (A' : Option Addr) (n' c' : Nat) (w0 : World) (hR : RS w0 w0.heap.size A n xs) (hs : Small.sm xs) (hH : RS w0 w0.heap.size A' n' hd.st) (hn' : n' ≤ 1048576) (hk : ok9 ⟨r, xs⟩ task hd 1 3 = true) (hp : hd.pos = 2) :
   Calls Try.prog 85 #[.agg #[jI jZ r, jS A n c], jI jZ task, hdV hd A' n' c'] w0 (GivesS w0 (downS ⟨r, xs⟩ task hd)) := by
 have hE : downS ⟨r, xs⟩ task hd = downD ⟨r, xs⟩ hd := by unfold downS; simp [hk, hp]
 have hT := (ok9_of hk).1
 have hC := (ok9_of hk).2.2.2.2.1
 have DD := Lib.hid (fun A3 c3 A4 c4 w hR hS hst => down9_any r xs A3 xs.length c3 hd A4 hd.st.length c4 w hR hT hS hst hC)
 have hl6 : hd.st.length ≤ 1048576 := by rw [hH.1]; exact hn'
 have HL6 := Lib.hid hl6
 have OK := Lib.hid (fun w hR hH => ok9_any r xs A n c task hd A' n' c' 1 3 w hR hs hH hn')
 have CT := Lib.hid (fun w hR => copyT_any r xs A n c w hR hs)
 have CH := Lib.hid (fun w hR => copyH_any hd A' n' c' w hR hn')
 have NN := Lib.hid none9_any
 have HR := Lib.hid hR
 have HH := Lib.hid hH
 have HL := Lib.hid hH.1
 clear hR hH
 have HE := Lib.hid hE
 clear hE hT hC hl6
 rw [hk] at OK
 have g1 : (hd.pos == 3) = false := by simp [hp]
 have g2 : (hd.pos == 1) = false := by simp [hp]
 have g3 : (hd.pos == 2) = true := by simp [hp]
 clear hk hp
 have S := Lib.hid (Sep.start noX w0)
 have tokg : True := trivial
 have tokx : True := trivial
 have tok0 : True := trivial
 have tok1 : True := trivial
 have tok2 : True := trivial
 have tok3 : True := trivial
 unfold hdV at *
 go_enter Try.func85, Try.ntmps85
 go_wp2_with (first
     | (clear tok0; refine bx_ 77 S rfl rfl rfl ?_; clear S; intro gt w S)
     | (clear tok1; refine bx_ 31 S rfl rfl rfl ?_; clear S; intro gh w S)
     | (clear tok2; refine nx_ 77 S rfl rfl Try.zeroValue77 ?_; clear S; intro rt w S)
     | (clear tok3; refine nx_ 31 S rfl rfl Try.zeroValue31 ?_; clear S; intro rh w S)
     | (refine wpList_op rfl (op_row 77 _ rfl S.out 3 rfl rfl Try.isAgg77 (by kernel_rfl) ?_))
     | (refine wpList_op rfl (op_row 31 _ rfl S.out 2 rfl rfl Try.isAgg31 (by kernel_rfl) ?_)))
 refine (OK.out _ (S.out.rs HR.out) (S.out.rs HH.out)).mono ?_
 rintro e w ⟨rfl, b⟩
 replace S := Lib.hid (S.out.call b)
 clear b
 go_wp2_with (first
     | (refine wpList_op rfl (op_get 2 _ rfl S.out 2 rfl _ rfl Try.isAgg2 _ rfl ?_))
     | (refine wpList_op rfl (op_row 77 _ rfl S.out 3 rfl rfl Try.isAgg77 (by kernel_rfl) ?_)))
 refine (CT.out _ (S.out.rs HR.out)).mono ?_
 rintro e w ⟨v, F, rfl, o, f, b⟩
 obtain ⟨A3, c3, rfl, _, _⟩ := o.form
 replace S := Lib.hid (S.out.own b o f)
 clear o f b
 go_wp2_with (first
     | (clear tokg; refine nx_ 77 S rfl rfl Try.zeroValue77 ?_; clear S; intro go w S)
     | (refine wpList_op rfl (op_putR_0 77 _ _ rfl S rfl _ rfl rfl (by kernel_rfl) rfl ?_); clear S; intro w S)
     | (refine wpList_op rfl (op_row 31 _ rfl S.out 4 rfl rfl Try.isAgg31 (by kernel_rfl) ?_)))
 refine (CH.out _ (S.out.rs HH.out)).mono ?_
 rintro e w ⟨A4, c4, G, rfl, o, f, b⟩
 replace S := Lib.hid (S.out.own b o f)
 clear o f b
 unfold hdV
 go_wp2_with (first
     | (refine wpList_op rfl (op_putR_5 31 _ _ rfl S rfl _ rfl rfl (by kernel_rfl) rfl ?_); clear S; intro w S)
     | (refine wpList_op rfl (op_get 2 _ rfl S.out 5 rfl _ rfl Try.isAgg2 _ rfl ?_))
     | (refine wpList_op rfl (op_row 77 _ rfl S.out 1 rfl rfl Try.isAgg77 (by kernel_rfl) ?_))
     | (refine wpList_op rfl (op_row 31 _ rfl S.out 5 rfl rfl Try.isAgg31 (by kernel_rfl) ?_)))
 refine (DD.out A3 c3 A4 c4 _ (OwnS.rs (S.out.get 2 rfl) rfl) (OwnS.rs (S.out.get 0 rfl) rfl) HL6.out).mono ?_
 rintro e w ⟨A5, c5, rfl, hst, hno, b⟩
 rcases downD_form ⟨r, xs⟩ hd with hs2 | ⟨h2, hs2⟩
 · rw [hs2]
   replace S := Lib.hid (S.out.call b)
   obtain ⟨rfl, rfl⟩ := hno (by rw [hs2]; rfl)
   clear b hst hno
   simp only [noneS]
   unfold hdV
   go_wp2_with (first
       | (refine wpList_op rfl (op_putR_4 77 _ _ rfl S rfl _ rfl rfl (by kernel_rfl) rfl ?_); clear S; intro w S)
       | (refine wpList_op rfl (op_putR_3 31 _ _ rfl S rfl _ rfl rfl (by kernel_rfl) rfl ?_); clear S; intro w S))
   exact bodyPost_ret (results_ccs rfl _ S.out 4 3 rfl rfl rfl rfl Try.isAgg77 Try.isAgg31 (by kernel_rfl) (by kernel_rfl)) rfl (by rw [HE.out, hs2]; exact none_S S.out.below)
 · clear hno
   rw [hs2] at hst ⊢
   simp only [if_true] at hst ⊢
   unfold hdV
   rcases hst with ⟨rfl, rfl, hst⟩ | ⟨G2, o, f⟩
   · replace S := Lib.hid (S.out.call b)
     clear b
     have HST := Lib.hid hst
     clear hst
     go_wp2_with (first
         | (refine wpList_op rfl (op_putR_4 77 _ _ rfl S rfl _ rfl rfl (by kernel_rfl) rfl ?_); clear S; intro w S)
         | (refine wpList_op rfl (op_putR_3 31 _ _ rfl S rfl _ rfl rfl (by kernel_rfl) rfl ?_); clear S; intro w S))
     exact bodyPost_ret (results_ccs rfl _ S.out 4 3 rfl rfl rfl rfl Try.isAgg77 Try.isAgg31 (by kernel_rfl) (by kernel_rfl)) rfl (by rw [HE.out, hs2]; exact S.out.gives 2 0 (by omega) (s := ⟨⟨r, xs⟩, h2, true⟩) rfl (by rw [← HST.out]; rfl) rfl rfl)
   · replace S := Lib.hid (S.out.own b o f)
     clear b o f
     go_wp2_with (first
         | (refine wpList_op rfl (op_putR_5 77 _ _ rfl S rfl _ rfl rfl (by kernel_rfl) rfl ?_); clear S; intro w S)
         | (refine wpList_op rfl (op_putR_4 31 _ _ rfl S rfl _ rfl rfl (by kernel_rfl) rfl ?_); clear S; intro w S))
     exact bodyPost_ret (results_ccs rfl _ S.out 5 4 rfl rfl rfl rfl Try.isAgg77 Try.isAgg31 (by kernel_rfl) (by kernel_rfl)) rfl (by rw [HE.out, hs2]; exact S.out.gives 3 0 (by omega) (s := ⟨⟨r, xs⟩, h2, true⟩) rfl rfl rfl rfl)

set_option maxRecDepth 100000 in
set_option maxHeartbeats 4000000 in
theorem down_latch (r : Int) (xs : List Nd) (A : Option Addr) (n c : Nat) (task : Int) (hd : Hd) (A' : Option Addr) (n' c' : Nat) (w0 : World) (hR : RS w0 w0.heap.size A n xs) (hs : Small.sm xs) (hH : RS w0 w0.heap.size A' n' hd.st) (hn' : n' ≤ 1048576) (hk : ok9 ⟨r, xs⟩ task hd 1 3 = true) (hp : hd.pos = 3) (hcc : hd.cc ≠ 1) :
   Calls Try.prog 85 #[.agg #[jI jZ r, jS A n c], jI jZ task, hdV hd A' n' c'] w0 (GivesS w0 (downS ⟨r, xs⟩ task hd)) := by
 have hE : downS ⟨r, xs⟩ task hd = (if latchedB r xs hd.cur task then doneS ⟨latchedR r xs hd.cur task, latchedX r xs hd.cur task⟩ { hd with pos := 4 } else ⟨⟨r, xs⟩, hd, false⟩) := by unfold downS; simp [hk, hp, hcc]
 have LT := Lib.hid (fun w hR => sLatched_any r xs A n c hd.cur task w hR hs)
 have hsm := latchedX_sm r xs hd.cur task
 have OK := Lib.hid (fun w hR hH => ok9_any r xs A n c task hd A' n' c' 1 3 w hR hs hH hn')
 have CT := Lib.hid (fun w hR => copyT_any r xs A n c w hR hs)
 have CH := Lib.hid (fun w hR => copyH_any hd A' n' c' w hR hn')
 have NN := Lib.hid none9_any
 have HR := Lib.hid hR
 have HH := Lib.hid hH
 have HL := Lib.hid hH.1
 clear hR hH
 have HE := Lib.hid hE
 have HSM := Lib.hid hsm
 clear hE hsm
 rw [hk] at OK
 have g1 : (hd.pos == 3) = true := by simp [hp]
 have g2 : (hd.pos == 1) = false := by simp [hp]
 have g3 : (hd.pos == 2) = false := by simp [hp]
 have g4 : (hd.cc == 1) = false := by simpa using hcc
 clear hk hp hcc
 generalize latchedB r xs hd.cur task = lb at *
 generalize latchedX r xs hd.cur task = lx at *
 generalize latchedR r xs hd.cur task = lr at *
 have S := Lib.hid (Sep.start noX w0)
 have tokg : True := trivial
 have tokx : True := trivial
 have tok0 : True := trivial
 have tok1 : True := trivial
 have tok2 : True := trivial
 have tok3 : True := trivial
 unfold hdV at *
 go_enter Try.func85, Try.ntmps85
 go_wp2_with (first
     | (clear tok0; refine bx_ 77 S rfl rfl rfl ?_; clear S; intro gt w S)
     | (clear tok1; refine bx_ 31 S rfl rfl rfl ?_; clear S; intro gh w S)
     | (clear tok2; refine nx_ 77 S rfl rfl Try.zeroValue77 ?_; clear S; intro rt w S)
     | (clear tok3; refine nx_ 31 S rfl rfl Try.zeroValue31 ?_; clear S; intro rh w S)
     | (refine wpList_op rfl (op_row 77 _ rfl S.out 3 rfl rfl Try.isAgg77 (by kernel_rfl) ?_))
     | (refine wpList_op rfl (op_row 31 _ rfl S.out 2 rfl rfl Try.isAgg31 (by kernel_rfl) ?_)))
 refine (OK.out _ (S.out.rs HR.out) (S.out.rs HH.out)).mono ?_
 rintro e w ⟨rfl, b⟩
 replace S := Lib.hid (S.out.call b)
 clear b
 go_wp2_with (first
     | (refine wpList_op rfl (op_get 2 _ rfl S.out 2 rfl _ rfl Try.isAgg2 _ rfl ?_))
     | (refine wpList_op rfl (op_row 77 _ rfl S.out 3 rfl rfl Try.isAgg77 (by kernel_rfl) ?_)))
 refine (CT.out _ (S.out.rs HR.out)).mono ?_
 rintro e w ⟨v, F, rfl, o, f, b⟩
 obtain ⟨A3, c3, rfl, _, _⟩ := o.form
 replace S := Lib.hid (S.out.own b o f)
 clear o f b
 go_wp2_with (first
     | (clear tokg; refine nx_ 77 S rfl rfl Try.zeroValue77 ?_; clear S; intro go w S)
     | (refine wpList_op rfl (op_putR_0 77 _ _ rfl S rfl _ rfl rfl (by kernel_rfl) rfl ?_); clear S; intro w S)
     | (refine wpList_op rfl (op_row 31 _ rfl S.out 4 rfl rfl Try.isAgg31 (by kernel_rfl) ?_)))
 refine (CH.out _ (S.out.rs HH.out)).mono ?_
 rintro e w ⟨A4, c4, G, rfl, o, f, b⟩
 replace S := Lib.hid (S.out.own b o f)
 clear o f b
 unfold hdV
 go_wp2_with (first
     | (refine wpList_op rfl (op_putR_5 31 _ _ rfl S rfl _ rfl rfl (by kernel_rfl) rfl ?_); clear S; intro w S)
     | (refine wpList_op rfl (op_get 2 _ rfl S.out 5 rfl _ rfl Try.isAgg2 _ rfl ?_))
     | (refine wpList_op rfl (op_row 77 _ rfl S.out 6 rfl rfl Try.isAgg77 (by kernel_rfl) ?_)))
 refine (LT.out _ (S.out.rs HR.out)).mono ?_
 rintro e w ⟨A5, c5, FX, rfl, o, f, b⟩
 replace S := Lib.hid (S.out.own b o f)
 clear o f b
 cases lb
 · go_wp2_with (first
       | (clear tokx; refine nx_ 77 S rfl rfl Try.zeroValue77 ?_; clear S; intro gx w S)
       | (refine wpList_op rfl (op_putR_0 77 _ _ rfl S rfl _ rfl rfl (by kernel_rfl) rfl ?_); clear S; intro w S))
   refine wp_region_ev (by kernel_rfl) _ (by kernel_rfl) (by kernel_rfl) 76 rfl (by kernel_rfl) (fun D V w => Sep noX w0 [bx gx #[jI jZ lr, jS A5 lx.length c5] 77, ow (jS A5 lx.length c5) lx FX, ow (jS A4 hd.st.length c4) hd.st G, bx go #[jI jZ r, jS A3 xs.length c3] 77, ow (jS A3 xs.length c3) xs F, cnd (D 3) (bx rh #[jI jZ 0, jI jZ 0, jI jZ 0, jI jZ 0, jI jZ 0, jI jZ 0, jI jZ 0, jI jZ 0, jI jZ 0, jI jZ 0, jI jZ 0, jS none 0 0, jI jZ 0, jI jZ 0, jI jZ 0, jI jZ 0] 31) (bx rh #[jI jZ hd.pos, jI jZ hd.cc, jI jZ hd.ck, jI jZ hd.cv, jI jZ hd.cur, jI jZ hd.want, jI jZ hd.key, jI jZ hd.kid, jI jZ hd.old, jI jZ hd.next, jI jZ hd.new, jS A4 hd.st.length c4, jI jZ hd.thn, jI jZ hd.beg, jI jZ hd.rep, jI jZ hd.out] 31), cnd (D 2) (bx rt #[jI jZ 0, jS none 0 0] 77) (bx rt #[jI jZ r, jS A3 xs.length c3] 77), bx gh #[jI jZ hd.pos, jI jZ hd.cc, jI jZ hd.ck, jI jZ hd.cv, jI jZ hd.cur, jI jZ hd.want, jI jZ hd.key, jI jZ hd.kid, jI jZ hd.old, jI jZ hd.next, jI jZ hd.new, jS A4 hd.st.length c4, jI jZ hd.thn, jI jZ hd.beg, jI jZ hd.rep, jI jZ hd.out] 31, bx gt #[jI jZ r, jS A n c] 77] w ∧ (D 0 = true → V 0 = .agg #[jI jZ r, jS A3 xs.length c3]) ∧ (D 1 = true → V 1 = .agg #[jI jZ hd.pos, jI jZ hd.cc, jI jZ hd.ck, jI jZ hd.cv, jI jZ hd.cur, jI jZ hd.want, jI jZ hd.key, jI jZ hd.kid, jI jZ hd.old, jI jZ hd.next, jI jZ hd.new, jS A4 hd.st.length c4, jI jZ hd.thn, jI jZ hd.beg, jI jZ hd.rep, jI jZ hd.out]) ∧ (D 4 = true → V 4 = .bool false)) ?_ ?_ ?_
   · intro D hD
     have d2 := hD 2 (by decide)
     have d3 := hD 3 (by decide)
     exact ⟨by rw [cnd_f d3, cnd_f d2]; exact S.out.drew.ems 0, (nof (hD 0 (by decide))), (nof (hD 1 (by decide))), (nof (hD 4 (by decide)))⟩
   · intro i o D V w a ho hI hDi haf hev
     obtain ⟨S, f0, f1, f4⟩ := hI
     rcases i with _ | _ | _ | _ | _ | i
     · obtain rfl := inj_ ho
       exact op_row 77 _ rfl S 3 rfl ((hev.old 9 (by kernel_rfl)).trans rfl) Try.isAgg77 (by kernel_rfl) ⟨_, rfl, S, fun _ => rfl, f1, f4⟩
     · obtain rfl := inj_ ho
       exact op_row 31 _ rfl S 7 rfl ((hev.old 5 (by kernel_rfl)).trans rfl) Try.isAgg31 (by kernel_rfl) ⟨_, rfl, S, f0, fun _ => rfl, f4⟩
     · obtain rfl := inj_ ho
       have h0 := aft_ haf 0 rfl
       exact op_putR 77 _ _ rfl S 6 (g := rt) (C := #[jI jZ 0, jS none 0 0]) (t := 77) (by simp only [gs_, gz_, cnd_f hDi]) ((hev.old 6 (by kernel_rfl)).trans rfl) _ (hev.at_ 0 66 rfl rfl h0 f0) rfl (by kernel_rfl) rfl (fun w S => ⟨_, rfl, S, f0, f1, f4⟩)
     · obtain rfl := inj_ ho
       have h1 := aft_ haf 1 rfl
       exact op_putR 31 _ _ rfl S 5 (g := rh) (C := #[jI jZ 0, jI jZ 0, jI jZ 0, jI jZ 0, jI jZ 0, jI jZ 0, jI jZ 0, jI jZ 0, jI jZ 0, jI jZ 0, jI jZ 0, jS none 0 0, jI jZ 0, jI jZ 0, jI jZ 0, jI jZ 0]) (t := 31) (by simp only [gs_, gz_, cnd_f hDi]) ((hev.old 7 (by kernel_rfl)).trans rfl) _ (hev.at_ 1 67 rfl rfl h1 f1) rfl (by kernel_rfl) rfl (fun w S => ⟨_, rfl, S, f0, f1, f4⟩)
     · obtain rfl := inj_ ho
       exact op_move (.inr rfl) rfl ⟨_, rfl, S, f0, f1, fun _ => rfl⟩
     · exact absurd ho (by simp)
   intro V w hI
   obtain ⟨S, f0, f1, f4⟩ := hI
   replace S : Hid (Sep noX w0 [bx gx #[jI jZ lr, jS A5 lx.length c5] 77, ow (jS A5 lx.length c5) lx FX, ow (jS A4 hd.st.length c4) hd.st G, bx go #[jI jZ r, jS A3 xs.length c3] 77, ow (jS A3 xs.length c3) xs F, bx rh #[jI jZ hd.pos, jI jZ hd.cc, jI jZ hd.ck, jI jZ hd.cv, jI jZ hd.cur, jI jZ hd.want, jI jZ hd.key, jI jZ hd.kid, jI jZ hd.old, jI jZ hd.next, jI jZ hd.new, jS A4 hd.st.length c4, jI jZ hd.thn, jI jZ hd.beg, jI jZ hd.rep, jI jZ hd.out] 31, bx rt #[jI jZ r, jS A3 xs.length c3] 77, bx gh #[jI jZ hd.pos, jI jZ hd.cc, jI jZ hd.ck, jI jZ hd.cv, jI jZ hd.cur, jI jZ hd.want, jI jZ hd.key, jI jZ hd.kid, jI jZ hd.old, jI jZ hd.next, jI jZ hd.new, jS A4 hd.st.length c4, jI jZ hd.thn, jI jZ hd.beg, jI jZ hd.rep, jI jZ hd.out] 31, bx gt #[jI jZ r, jS A n c] 77] w) := Lib.hid S
   simp only [putF, Act.put, sa_, sb_, sc_, f0 rfl, f1 rfl, f4 rfl]
   clear f0 f1 f4
   go_wp2_with fail
   exact bodyPost_ret (results_ccs rfl _ S.out 6 5 rfl rfl rfl rfl Try.isAgg77 Try.isAgg31 (by kernel_rfl) (by kernel_rfl)) rfl (by rw [HE.out]; exact S.out.gives 4 2 (by omega) (s := ⟨⟨r, xs⟩, hd, false⟩) rfl rfl rfl rfl)
 · go_wp2_with (first
       | (clear tokx; refine nx_ 77 S rfl rfl Try.zeroValue77 ?_; clear S; intro gx w S)
       | (refine wpList_op rfl (op_row 77 _ rfl S.out 0 rfl rfl Try.isAgg77 (by kernel_rfl) ?_))
       | (refine wpList_op rfl (op_putR_0 77 _ _ rfl S rfl _ rfl rfl (by kernel_rfl) rfl ?_); clear S; intro w S)
       | (refine wpList_op rfl (op_putR_3 77 _ _ rfl S rfl _ rfl rfl (by kernel_rfl) rfl ?_); clear S; intro w S)
       | (refine wpList_op rfl (op_put1_7 2 _ _ rfl S _ rfl _ rfl rfl (by kernel_rfl) (of_decide_eq_true rfl) ?_); clear S; intro w S; replace S : Hid (Sep noX w0 [bx gx #[jI jZ lr, jS A5 lx.length c5] 77, ow (jS A5 lx.length c5) lx FX, ow (jS A4 hd.st.length c4) hd.st G, bx go #[jI jZ lr, jS A5 lx.length c5] 77, ow (jS A3 xs.length c3) xs F, bx rh #[jI jZ 0, jI jZ 0, jI jZ 0, jI jZ 0, jI jZ 0, jI jZ 0, jI jZ 0, jI jZ 0, jI jZ 0, jI jZ 0, jI jZ 0, jS none 0 0, jI jZ 0, jI jZ 0, jI jZ 0, jI jZ 0] 31, bx rt #[jI jZ 0, jS none 0 0] 77, bx gh #[jI jZ 4, jI jZ hd.cc, jI jZ hd.ck, jI jZ hd.cv, jI jZ hd.cur, jI jZ hd.want, jI jZ hd.key, jI jZ hd.kid, jI jZ hd.old, jI jZ hd.next, jI jZ hd.new, jS A4 hd.st.length c4, jI jZ hd.thn, jI jZ hd.beg, jI jZ hd.rep, jI jZ hd.out] 31, bx gt #[jI jZ r, jS A n c] 77] w) := S)
       | (refine wpList_op rfl (op_row 77 _ rfl S.out 3 rfl rfl Try.isAgg77 (by kernel_rfl) ?_))
       | (refine wpList_op rfl (op_row 31 _ rfl S.out 7 rfl rfl Try.isAgg31 (by kernel_rfl) ?_)))
   by_cases hq : (treeOk lr lx && handOk { hd with pos := 4 }) = true
   · have hd2 := (done9_yes lr lx A5 lx.length c5 { hd with pos := 4 } A4 hd.st.length c4 w (OwnS.rs (S.out.get 1 rfl) rfl) HSM.out (by exact OwnS.rs (S.out.get 2 rfl) rfl) (by have := hq; simp only [Bool.and_eq_true] at this; exact this.1) (by have := hq; simp only [Bool.and_eq_true] at this; exact this.2))
     unfold hdV at hd2
     refine hd2.mono ?_
     rintro e w ⟨rfl, b⟩
     replace S := Lib.hid (S.out.call b)
     clear b hd2
     go_wp2_with (first
         | (refine wpList_op rfl (op_putR_6 77 _ _ rfl S rfl _ rfl rfl (by kernel_rfl) rfl ?_); clear S; intro w S)
         | (refine wpList_op rfl (op_putR_5 31 _ _ rfl S rfl _ rfl rfl (by kernel_rfl) rfl ?_); clear S; intro w S))
     exact bodyPost_ret (results_ccs rfl _ S.out 6 5 rfl rfl rfl rfl Try.isAgg77 Try.isAgg31 (by kernel_rfl) (by kernel_rfl)) rfl (by rw [HE.out]; simp only [if_true]; rw [done_yes (by have := hq; simp only [Bool.and_eq_true] at this; exact this.1) (by have := hq; simp only [Bool.and_eq_true] at this; exact this.2)]; exact S.out.gives 1 2 (by omega) (s := ⟨⟨lr, lx⟩, { hd with pos := 4 }, true⟩) rfl rfl rfl rfl)
   · have hd2 := (done9_no lr lx A5 lx.length c5 { hd with pos := 4 } A4 hd.st.length c4 w (OwnS.rs (S.out.get 1 rfl) rfl) HSM.out (by exact OwnS.rs (S.out.get 2 rfl) rfl) (by simpa using hq))
     unfold hdV at hd2
     refine hd2.mono ?_
     rintro e w ⟨rfl, b⟩
     replace S := Lib.hid (S.out.call b)
     clear b hd2
     go_wp2_with (first
         | (refine wpList_op rfl (op_putR_6 77 _ _ rfl S rfl _ rfl rfl (by kernel_rfl) rfl ?_); clear S; intro w S)
         | (refine wpList_op rfl (op_putR_5 31 _ _ rfl S rfl _ rfl rfl (by kernel_rfl) rfl ?_); clear S; intro w S))
     exact bodyPost_ret (results_ccs rfl _ S.out 6 5 rfl rfl rfl rfl Try.isAgg77 Try.isAgg31 (by kernel_rfl) (by kernel_rfl)) rfl (by rw [HE.out]; simp only [if_true]; rw [done_no9 (by simpa using hq)]; exact none_S S.out.below)

theorem sDown_any (r : Int) (xs : List Nd) (A : Option Addr) (n c : Nat) (task : Int) (hd : Hd) (A' : Option Addr) (n' c' : Nat) (w0 : World) (hR : RS w0 w0.heap.size A n xs) (hs : Small.sm xs) (hH : RS w0 w0.heap.size A' n' hd.st) (hn' : n' ≤ 1048576) :
   Calls Try.prog 85 #[.agg #[jI jZ r, jS A n c], jI jZ task, hdV hd A' n' c'] w0 (GivesS w0 (downS ⟨r, xs⟩ task hd)) := by
 by_cases hk : (ok9 ⟨r, xs⟩ task hd 1 3 && !(decide (hd.pos = 3) && decide (hd.cc = 1))) = true
 · simp only [Bool.and_eq_true, Bool.not_eq_true', Bool.and_eq_false_iff, decide_eq_false_iff_not] at hk
   have hp := (ok9_of hk.1).2.2.2.1
   by_cases h1 : hd.pos = 1
   · exact down_root r xs A n c task hd A' n' c' w0 hR hs hH hn' hk.1 h1
   · by_cases h2 : hd.pos = 2
     · exact down_down r xs A n c task hd A' n' c' w0 hR hs hH hn' hk.1 h2
     · exact down_latch r xs A n c task hd A' n' c' w0 hR hs hH hn' hk.1 (by omega) (by rcases hk.2 with h | h; exact absurd (by omega) h; exact h)
 · exact down_no r xs A n c task hd A' n' c' w0 hR hs hH hn' (by simpa using hk)
end Go.Proofs.Ytjookicpmjmdhaa
