/- The walk of the model's l12Top. (Made by genY13.py.) -/
import Derived.Test.YtjookicpmjmdhaaQ32
import Derived.Test.YtjookicpmjmdhaaQ30
open Go.Value renaming int → jI, slice → jS
open Go.IntKind renaming i64 → jZ
namespace Go.Proofs.Ytjookicpmjmdhaa
open Go.RowKit

theorem op_geqI {o : Oper} {a : Act} {w : World} {K : Act → World → Prop} {Q : Exit → Act → World → Prop} (x y : Operand) (ho : o.op = .binOp .geq 2 x y 2) {p q : Int} (hx : a.eval x = jI jZ p) (hy : a.eval y = jI jZ q)
   (hK : K (a.put o.dst (.bool (decide (q ≤ p)))) w) : o.wp Try.prog a w K Q := by
 refine op_val ?_ hK
 generalize a.eval = E at hx hy ⊢
 simp [execOp, ho, hx, hy, go_sem]
def topH (t : Tr) (h : Hd) : Hd :=
 if t.root = h.old then { h with pos := 10 }
 else if h.want ≤ (nodeT t t.root).lv then { h with cur := t.root, st := [], pos := 2 }
 else if 40 ≤ t.ns.length then restH h.rep 0
 else h
def topB (t : Tr) (h : Hd) : Bool := decide (t.root = h.old) || (decide (h.want ≤ (nodeT t t.root).lv) || decide (40 ≤ t.ns.length))
theorem topS_eq (t : Tr) (h : Hd) : topS t h = if topB t h then doneS t (topH t h) else ⟨t, h, false⟩ := by
 unfold topS topB topH
 by_cases h1 : t.root = h.old
 · simp [h1]
 · by_cases h2 : h.want ≤ (nodeT t t.root).lv
   · simp [h1, h2]
   · by_cases h3 : 40 ≤ t.ns.length <;> simp [h1, h2, h3]
def GivesTop (t : Tr) (hd : Hd) (A' : Option Addr) (n' c' : Nat) (w : World) (e : Ending) (w' : World) : Prop :=
 ∃ A2 n2 c2, e = .returned (.tuple #[hdV (topH t hd) A2 n2 c2, .bool (topB t hd)]) ∧
   ((A2 = A' ∧ n2 = n' ∧ c2 = c' ∧ (topH t hd).st = hd.st) ∨ ∃ F, OwnS w' (jS A2 n2 c2) (topH t hd).st F ∧ Fresh F w w') ∧ Below w.heap.size w w'

set_option maxRecDepth 100000 in
set_option maxHeartbeats 16000000 in
theorem top_any (r : Int) (xs : List Nd) (A : Option Addr) (n c : Nat) (hd : Hd) (A' : Option Addr) (n' c' : Nat) (w0 : World) (hR : RS w0 w0.heap.size A n xs) (hT : Right n r xs) :
   Calls Try.prog 103 #[.agg #[jI jZ r, jS A n c], hdV hd A' n' c'] w0 (GivesTop ⟨r, xs⟩ hd A' n' c' w0) := by
 obtain ⟨k, hkk⟩ : ∃ k : Nat, r = k := ⟨r.toNat, by have := hT.root; omega⟩
 have hkn : k < n := by have := hT.root; omega
 have hlx : xs.length = n := hT.len
 obtain ⟨b, off, rfl, hb, A2, n2, c2, hnd, hP, _⟩ := hR.ndAt k hkn
 have hnt : nodeT ⟨r, xs⟩ r = ndAt xs k := by unfold nodeT; rw [hkk]; rfl
 have DH : Hid (topH ⟨r, xs⟩ hd = if r = hd.old then { hd with pos := 10 } else if hd.want ≤ (ndAt xs k).lv then { hd with cur := r, st := [], pos := 2 } else if 40 ≤ n then restH hd.rep 0 else hd) := Lib.hid (by unfold topH; simp only [hnt, hlx])
 have DB : Hid (topB ⟨r, xs⟩ hd = (decide (r = hd.old) || (decide (hd.want ≤ (ndAt xs k).lv) || decide (40 ≤ n)))) := Lib.hid (by unfold topB; simp only [hnt, hlx])
 have RK := Lib.hid rest_any
 have HC := Lib.hid hkk
 have HKN := Lib.hid hkn
 have HB := Lib.hid hb
 have ND := Lib.hid hnd
 clear hR hT hkk hkn hlx hb hnd hP hnt
 unfold GivesTop
 generalize topH ⟨r, xs⟩ hd = th at *
 generalize topB ⟨r, xs⟩ hd = tb at *
 generalize ndAt xs k = nd at *
 have S := Lib.hid (Sep.start noX w0)
 have tok0 : True := trivial
 have tok1 : True := trivial
 have tok2 : True := trivial
 unfold hdV at *
 by_cases h1 : r = hd.old
 · have g1 : (r == hd.old) = true := by simp [h1]
   obtain rfl : th = { hd with pos := 10 } := by rw [DH.out, if_pos h1]
   obtain rfl : tb = true := by rw [DB.out]; simp [h1]
   clear DH DB h1
   go_enter Try.func103, Try.ntmps103
   go_wp2_with (first
       | go_skip
       | (clear tok0; refine bx_ 77 S rfl rfl rfl ?_; clear S; intro gt w S)
       | (clear tok1; refine bx_ 31 S rfl rfl rfl ?_; clear S; intro gh w S)
       | (clear tok2; refine nx_ 31 S rfl rfl Try.zeroValue31 ?_; clear S; intro rh w S)
       | (refine wpList_op rfl (op_get 2 _ rfl S.out 2 rfl _ rfl Try.isAgg2 _ rfl ?_))
       | (refine wpList_op rfl (op_get 2 _ rfl S.out 1 rfl _ rfl Try.isAgg2 _ rfl ?_))
       | (refine wpList_op rfl (op_put1_1 2 _ _ rfl S _ rfl _ rfl rfl (by kernel_rfl) (of_decide_eq_true rfl) ?_); clear S; intro w S)
       | (refine wpList_op rfl (op_row 31 _ rfl S.out 1 rfl rfl Try.isAgg31 (by kernel_rfl) ?_))
       | (refine wpList_op rfl (op_putR_0 31 _ _ rfl S rfl _ rfl rfl (by kernel_rfl) rfl ?_); clear S; intro w S))
   exact bodyPost_ret (results_cs rfl _ S.out 0 rfl rfl Try.isAgg31 (by kernel_rfl)) rfl ⟨A', n', c', rfl, .inl (by simp), S.out.below⟩
 have g1 : (r == hd.old) = false := by simp [h1]
 go_enter Try.func103, Try.ntmps103
 go_wp2_with (first
     | go_skip
     | (clear tok0; refine bx_ 77 S rfl rfl rfl ?_; clear S; intro gt w S)
     | (clear tok1; refine bx_ 31 S rfl rfl rfl ?_; clear S; intro gh w S)
     | (clear tok2; refine nx_ 31 S rfl rfl Try.zeroValue31 ?_; clear S; intro rh w S)
     | (refine wpList_op rfl (op_get 2 _ rfl S.out 2 rfl _ rfl Try.isAgg2 _ rfl ?_))
     | (refine wpList_op rfl (op_get 2 _ rfl S.out 1 rfl _ rfl Try.isAgg2 _ rfl ?_)))
 obtain ⟨q2, hq2⟩ : ∃ q2, q2 = decide (hd.want ≤ nd.lv) := ⟨_, rfl⟩
 have HQ2 := Lib.hid hq2
 clear hq2
 refine wp_region_ev (by kernel_rfl) _ (by kernel_rfl) (by kernel_rfl) 40 rfl (by kernel_rfl) (fun D V w => Sep noX w0 [bx rh #[jI jZ 0, jI jZ 0, jI jZ 0, jI jZ 0, jI jZ 0, jI jZ 0, jI jZ 0, jI jZ 0, jI jZ 0, jI jZ 0, jI jZ 0, jS none 0 0, jI jZ 0, jI jZ 0, jI jZ 0, jI jZ 0] 31, bx gh #[jI jZ hd.pos, jI jZ hd.cc, jI jZ hd.ck, jI jZ hd.cv, jI jZ hd.cur, jI jZ hd.want, jI jZ hd.key, jI jZ hd.kid, jI jZ hd.old, jI jZ hd.next, jI jZ hd.new, jS A' n' c', jI jZ hd.thn, jI jZ hd.beg, jI jZ hd.rep, jI jZ hd.out] 31, bx gt #[jI jZ r, jS (some ⟨b, off, none⟩) n c] 77] w ∧ (D 0 = true → V 0 = .pointer (some ⟨gt, 1, none⟩)) ∧ (D 1 = true → V 1 = jS (some ⟨b, off, none⟩) n c) ∧ (D 2 = true → V 2 = .pointer (some ⟨gt, 0, none⟩)) ∧ (D 3 = true → V 3 = jI jZ r) ∧ (D 4 = true → V 4 = .pointer (some ⟨b, off + k * 5, none⟩)) ∧ (D 5 = true → V 5 = .pointer (some ⟨b, off + k * 5, none⟩)) ∧ (D 6 = true → V 6 = jI jZ nd.lv) ∧ (D 7 = true → V 7 = .pointer (some ⟨gh, 5, none⟩)) ∧ (D 8 = true → V 8 = jI jZ hd.want) ∧ (D 9 = true → V 9 = .bool q2) ∧ (D 10 = true → V 10 = .bool q2)) ?_ ?_ ?_
 · intro D hD
   exact ⟨by exact S.out.drew.ems 0, (nof (hD 0 (by decide))), (nof (hD 1 (by decide))), (nof (hD 2 (by decide))), (nof (hD 3 (by decide))), (nof (hD 4 (by decide))), (nof (hD 5 (by decide))), (nof (hD 6 (by decide))), (nof (hD 7 (by decide))), (nof (hD 8 (by decide))), (nof (hD 9 (by decide))), (nof (hD 10 (by decide)))⟩
 · intro i o D V w a ho hI hDi haf hev
   obtain ⟨S, f0, f1, f2, f3, f4, f5, f6, f7, f8, f9, f10⟩ := hI
   rcases i with _ | _ | _ | _ | _ | _ | _ | _ | _ | _ | _ | i
   · obtain rfl := inj_ ho
     exact op_field _ _ _ rfl ((hev.old 2 (by kernel_rfl)).trans rfl) (by kernel_rfl) ⟨_, rfl, S, fun _ => rfl, f1, f2, f3, f4, f5, f6, f7, f8, f9, f10⟩
   · obtain rfl := inj_ ho
     have h0 := aft_ haf 0 rfl
     exact op_get 75 _ rfl S 2 rfl 1 (hev.at_ 0 15 rfl rfl h0 f0) Try.isAgg75 _ rfl ⟨_, rfl, S, f0, fun _ => rfl, f2, f3, f4, f5, f6, f7, f8, f9, f10⟩
   · obtain rfl := inj_ ho
     exact op_field _ _ _ rfl ((hev.old 2 (by kernel_rfl)).trans rfl) (by kernel_rfl) ⟨_, rfl, S, f0, f1, fun _ => rfl, f3, f4, f5, f6, f7, f8, f9, f10⟩
   · obtain rfl := inj_ ho
     have h2 := aft_ haf 2 rfl
     exact op_get 2 _ rfl S 2 rfl 0 (hev.at_ 2 17 rfl rfl h2 f2) Try.isAgg2 _ rfl ⟨_, rfl, S, f0, f1, f2, fun _ => rfl, f4, f5, f6, f7, f8, f9, f10⟩
   · obtain rfl := inj_ ho
     have h1 := aft_ haf 1 rfl
     have h3 := aft_ haf 3 rfl
     exact op_idx _ _ _ rfl 101 5 Try.underlying75 Try.sizeOf101 (hev.at_ 1 16 rfl rfl h1 f1) (by rw [← HC.out]; exact (hev.at_ 3 18 rfl rfl h3 f3)) HKN.out ⟨_, rfl, S, f0, f1, f2, f3, fun _ => rfl, f5, f6, f7, f8, f9, f10⟩
   · obtain rfl := inj_ ho
     have h4 := aft_ haf 4 rfl
     exact op_field _ _ _ rfl (hev.at_ 4 19 rfl rfl h4 f4) (by kernel_rfl) ⟨_, rfl, S, f0, f1, f2, f3, f4, fun _ => rfl, f6, f7, f8, f9, f10⟩
   · obtain rfl := inj_ ho
     have h5 := aft_ haf 5 rfl
     exact op_ndCell 0 2 _ rfl (hev.at_ 5 20 rfl rfl h5 f5) (S.nd HB.out ND.out) Try.isAgg2 _ rfl ⟨_, rfl, S, f0, f1, f2, f3, f4, f5, fun _ => rfl, f7, f8, f9, f10⟩
   · obtain rfl := inj_ ho
     exact op_field _ _ _ rfl ((hev.old 3 (by kernel_rfl)).trans rfl) (by kernel_rfl) ⟨_, rfl, S, f0, f1, f2, f3, f4, f5, f6, fun _ => rfl, f8, f9, f10⟩
   · obtain rfl := inj_ ho
     have h7 := aft_ haf 7 rfl
     exact op_get 2 _ rfl S 1 rfl 5 (hev.at_ 7 22 rfl rfl h7 f7) Try.isAgg2 _ rfl ⟨_, rfl, S, f0, f1, f2, f3, f4, f5, f6, f7, fun _ => rfl, f9, f10⟩
   · obtain rfl := inj_ ho
     have h6 := aft_ haf 6 rfl
     have h8 := aft_ haf 8 rfl
     exact op_geqI _ _ rfl (hev.at_ 6 21 rfl rfl h6 f6) (hev.at_ 8 23 rfl rfl h8 f8) (by rw [← HQ2.out]; exact ⟨_, rfl, S, f0, f1, f2, f3, f4, f5, f6, f7, f8, fun _ => rfl, f10⟩)
   · obtain rfl := inj_ ho
     have h9 := aft_ haf 9 rfl
     exact op_move (.inr rfl) (hev.at_ 9 24 rfl rfl h9 f9) ⟨_, rfl, S, f0, f1, f2, f3, f4, f5, f6, f7, f8, f9, fun _ => rfl⟩
   · exact absurd ho (by simp)
 intro V w hI
 obtain ⟨S, f0, f1, f2, f3, f4, f5, f6, f7, f8, f9, f10⟩ := hI
 replace S : Hid (Sep noX w0 [bx rh #[jI jZ 0, jI jZ 0, jI jZ 0, jI jZ 0, jI jZ 0, jI jZ 0, jI jZ 0, jI jZ 0, jI jZ 0, jI jZ 0, jI jZ 0, jS none 0 0, jI jZ 0, jI jZ 0, jI jZ 0, jI jZ 0] 31, bx gh #[jI jZ hd.pos, jI jZ hd.cc, jI jZ hd.ck, jI jZ hd.cv, jI jZ hd.cur, jI jZ hd.want, jI jZ hd.key, jI jZ hd.kid, jI jZ hd.old, jI jZ hd.next, jI jZ hd.new, jS A' n' c', jI jZ hd.thn, jI jZ hd.beg, jI jZ hd.rep, jI jZ hd.out] 31, bx gt #[jI jZ r, jS (some ⟨b, off, none⟩) n c] 77] w) := Lib.hid S
 simp only [putF, Act.put, sa_, sb_, sc_, f0 rfl, f1 rfl, f2 rfl, f3 rfl, f4 rfl, f5 rfl, f6 rfl, f7 rfl, f8 rfl, f9 rfl, f10 rfl]
 clear f0 f1 f2 f3 f4 f5 f6 f7 f8 f9 f10
 by_cases h2 : hd.want ≤ nd.lv
 · obtain rfl : q2 = true := by rw [HQ2.out]; simp [h2]
   obtain rfl : th = { hd with cur := r, st := [], pos := 2 } := by rw [DH.out, if_neg h1, if_pos h2]
   obtain rfl : tb = true := by rw [DB.out]; simp [h2]
   clear DH DB h1 h2
   go_wp2_with (first
       | go_skip
       | (refine wpList_op rfl (op_bs0 rfl S.out ?_); clear S; intro ge w S; replace S := Lib.hid S)
       | (refine wpList_op rfl (op_get 2 _ rfl S.out 2 rfl _ rfl Try.isAgg2 _ rfl ?_))
       | (refine wpList_op rfl (op_put1_1 2 _ _ rfl S _ rfl _ rfl rfl (by kernel_rfl) (of_decide_eq_true rfl) ?_); clear S; intro w S)
       | (refine wpList_op rfl (op_put1_2 29 _ _ rfl S _ rfl _ rfl rfl (by kernel_rfl) (of_decide_eq_true rfl) ?_); clear S; intro w S)
       | (refine wpList_op rfl (op_put1_2 2 _ _ rfl S _ rfl _ rfl rfl (by kernel_rfl) (of_decide_eq_true rfl) ?_); clear S; intro w S)
       | (refine wpList_op rfl (op_row 31 _ rfl S.out 2 rfl rfl Try.isAgg31 (by kernel_rfl) ?_))
       | (refine wpList_op rfl (op_putR_1 31 _ _ rfl S rfl _ rfl rfl (by kernel_rfl) rfl ?_); clear S; intro w S))
   exact bodyPost_ret (results_cs rfl _ S.out 1 rfl rfl Try.isAgg31 (by kernel_rfl)) rfl (by obtain ⟨q1, q2, q3⟩ := S.out.ends 0 rfl; exact ⟨some ⟨ge, 0, none⟩, 0, 0, rfl, .inr ⟨_, q1, q2⟩, q3⟩)
 obtain rfl : q2 = false := by rw [HQ2.out]; simp [h2]
 by_cases h3 : 40 ≤ n
 · have g3 : decide ((40 : Int) ≤ (n : Int)) = true := by rw [decide_eq_true_eq]; omega
   obtain rfl : th = restH hd.rep 0 := by rw [DH.out, if_neg h1, if_neg h2, if_pos h3]
   obtain rfl : tb = true := by rw [DB.out]; simp [h3]
   clear DH DB h1 h2 h3
   go_wp2_with (first
       | go_skip
       | (refine wpList_op rfl (op_get 75 _ rfl S.out 2 rfl _ rfl Try.isAgg75 _ rfl ?_))
       | (refine wpList_op rfl (op_get 2 _ rfl S.out 1 rfl _ rfl Try.isAgg2 _ rfl ?_)))
   refine (RK.out hd.rep 0 _).mono ?_
   rintro e w ⟨rfl, b⟩
   replace S := Lib.hid (S.out.call b)
   clear b
   go_wp2_with (first
       | go_skip
       | (refine wpList_op rfl (op_putR_0 31 _ _ rfl S rfl _ rfl rfl (by kernel_rfl) rfl ?_); clear S; intro w S))
   exact bodyPost_ret (results_cs rfl _ S.out 0 rfl rfl Try.isAgg31 (by kernel_rfl)) rfl ⟨none, 0, 0, rfl, .inr ⟨fun _ => False, OwnS.nil _ _, fun _ hk => absurd hk id⟩, S.out.below⟩
 · have g3 : decide ((40 : Int) ≤ (n : Int)) = false := by rw [decide_eq_false_iff_not]; omega
   obtain rfl : th = hd := by rw [DH.out, if_neg h1, if_neg h2, if_neg h3]
   obtain rfl : tb = false := by rw [DB.out]; simp [h1, h2, h3]
   clear DH DB h1 h2 h3
   go_wp2_with (first
       | go_skip
       | (refine wpList_op rfl (op_get 75 _ rfl S.out 2 rfl _ rfl Try.isAgg75 _ rfl ?_))
       | (refine wpList_op rfl (op_row 31 _ rfl S.out 1 rfl rfl Try.isAgg31 (by kernel_rfl) ?_))
       | (refine wpList_op rfl (op_putR_0 31 _ _ rfl S rfl _ rfl rfl (by kernel_rfl) rfl ?_); clear S; intro w S))
   exact bodyPost_ret (results_cs rfl _ S.out 0 rfl rfl Try.isAgg31 (by kernel_rfl)) rfl ⟨A', n', c', rfl, .inl (by simp), S.out.below⟩
end Go.Proofs.Ytjookicpmjmdhaa
namespace Go.Proofs.Ytjookicpmjmdhaa
open Go.RowKit

section
variable {X F : FP} {w0 w : World} {L : List Item} {o : Oper} {a : Act} {K : Act → World → Prop} {Q : Exit → Act → World → Prop}
theorem op_bsN1 (x : Operand) (ho : o.op = .buildSlice 75 1 #[(0, x)]) (h : Sep X w0 L w) {v0 v1 v2 v3 v4 : Value} (hx : a.eval x = .agg #[v0, v1, v2, v3, v4])
   (hK : ∀ g w', Sep X w0 (bx g #[v0, v1, v2, v3, v4] 101 :: L) w' → K (a.put o.dst (jS (some ⟨g, 0, none⟩) 1 1)) w') : o.wp Try.prog a w K Q := by
 obtain ⟨i0, hi0, hz0, hz1, hz2⟩ := info_parts node_info
 refine wp_buildSlice 75 101 1 #[(0, x)] ho #[v0, v1, v2, v3, v4] i0 (.agg #[jI jZ 0, jS none 0 0, jI jZ 0, jI jZ 0, jI jZ 0]) Try.underlying75 hi0 hz0 (by rw [hz1]; omega) (by rw [hz1]; omega) ?_ ?_
 · rw [hz1]
   generalize a.eval = E at hx ⊢
   simp only [List.map_toArray, List.map_cons, List.map_nil, hx]
   kernel_rfl
 · exact hK _ _ (h.alloc _ _)
theorem op_bsP2 (x y : Operand) (ho : o.op = .buildSlice 99 2 #[(0, x), (1, y)]) (h : Sep X w0 L w) {k0 v0 k1 v1 : Int} (hx : a.eval x = .agg #[jI jZ k0, jI jZ v0]) (hy : a.eval y = .agg #[jI jZ k1, jI jZ v1])
   (hK : ∀ g w', Sep X w0 (ow (jS (some ⟨g, 0, none⟩) 2 2) [(k0, v0), (k1, v1)] (fun k => k = g) :: L) w' → K (a.put o.dst (jS (some ⟨g, 0, none⟩) 2 2)) w') : o.wp Try.prog a w K Q := by
 obtain ⟨i0, hi0, hz0, hz1, hz2⟩ := info_parts pair_info
 refine wp_buildSlice 99 86 2 #[(0, x), (1, y)] ho #[jI jZ k0, jI jZ v0, jI jZ k1, jI jZ v1] i0 (.agg #[jI jZ 0, jI jZ 0]) Try.underlying99 hi0 hz0 (by rw [hz1]; omega) (by rw [hz1]; omega) ?_ ?_
 · rw [hz1]
   generalize a.eval = E at hx hy ⊢
   simp only [List.map_toArray, List.map_cons, List.map_nil, hx, hy]
   kernel_rfl
 · have h1 := World.ownsRow_lit (e := 86) (size := 2) w #[jI jZ k0, jI jZ v0, jI jZ k1, jI jZ v1] 2 (Nat.le_refl _) (by unfold maxLen; omega) (by simp)
   exact hK _ _ (h.gain ((Below.refl _ _).alloc (Nat.le_refl _) _) _ (OwnS.of_pairs (zs := [(k0, v0), (k1, v1)]) h1 (fun k hk => by simpa [Value.ownBlock] using hk.symm)) (fun k hk => by
     have hk : k = w.heap.size := hk
     subst hk
     exact ⟨Nat.le_refl _, by simp⟩))
theorem op_appNode (s x : Operand) (ho : o.op = .call { callee := .builtin .append, args := #[s, x], argTypes := #[75, 75] }) (h : Sep F w0 L w) {v : Value} {n g : Nat} {xs : List Nd} {u : Value} {FZ : FP} (y : Nd) (i j q : Nat) (hij : i ≠ j)
   (e : L[i]? = some (pin F w0)) (e' : L[j]? = some (ow u y.ps FZ)) (e2 : L[q]? = some (bx g #[jI jZ y.lv, u, jI jZ y.hi, jI jZ y.ri, jI jZ y.ow] 101))
   (hO : OwnS w0 v xs F) (hn : xs.length = n) (hsz : n ≤ 4194304) (hs : a.eval s = v) (hx : a.eval x = jS (some ⟨g, 0, none⟩) 1 1)
   (hK : ∀ A c' F' w', Sep F w0 ((L.set i (ow (jS A (n + 1) c') (xs ++ [y]) F')).set j em) w' → K (a.put o.dst (jS A (n + 1) c')) w') : o.wp Try.prog a w K Q := by
 have hpin := h.get i e
 have hOw : OwnS w v xs F := hO.keep (fun k hF _ => (hpin k hF).2)
 have hZ : OwnS w u y.ps FZ := h.get j e'
 have hap : Apart F FZ := by
   rcases Nat.lt_or_gt_of_ne hij with h' | h'
   · exact h.two i j h' e e'
   · exact (h.two j i h' e' e).symm
 have h2 := h.merge i j hij e e' (both v xs F u y.ps FZ) ⟨hOw, hZ, hap⟩ (fun k hk => hk)
 obtain ⟨z1, z2⟩ := hZ.pairs
 obtain ⟨Au, cu, hu, _, _⟩ := hZ.form
 refine wp_appN s x ho v xs n hn F hs hOw y u FZ g hx (h.get q e2) ⟨u, rfl, z1, z2⟩ (fun k hk => ?_) (fun k hk hF => hap k hF hk) (by rw [hu]; rfl) (by omega) (fun g' cap w' o1 o2 => ?_)
 · rcases hk with hk | hk
   · exact (h.fresh _ (List.mem_of_getElem? e) k hk).2
   · exact (h.fresh _ (List.mem_of_getElem? e') k hk).2
 · have hgi : ((L.set i (both v xs F u y.ps FZ)).set j em)[i]? = some (both v xs F u y.ps FZ) := by
     rw [List.getElem?_set_ne (by omega), List.getElem?_set_self (List.getElem?_eq_some_iff.1 e).1]
   have h7 := h2.turn i hgi (o2.more (fun k hk => .inl hk)) (ow (jS (some ⟨g', 0, none⟩) (n + 1) cap) (xs ++ [y]) _) o1 (fun k hk => by
     have hz := o2.size
     rcases hk with hk | hk | hk
     · exact ⟨.inl (.inl hk), Nat.lt_of_lt_of_le (h.fresh _ (List.mem_of_getElem? e) k hk).2 hz⟩
     · exact ⟨.inl (.inr hk), Nat.lt_of_lt_of_le (h.fresh _ (List.mem_of_getElem? e') k hk).2 hz⟩
     · exact ⟨.inr hk.1, hk.2⟩)
   rw [show ((L.set i (both v xs F u y.ps FZ)).set j em).set i (ow (jS (some ⟨g', 0, none⟩) (n + 1) cap) (xs ++ [y]) _) = (L.set i (ow (jS (some ⟨g', 0, none⟩) (n + 1) cap) (xs ++ [y]) _)).set j em by rw [List.set_comm _ _ (by omega), List.set_set]] at h7
   exact hK _ _ _ _ h7
end
end Go.Proofs.Ytjookicpmjmdhaa
