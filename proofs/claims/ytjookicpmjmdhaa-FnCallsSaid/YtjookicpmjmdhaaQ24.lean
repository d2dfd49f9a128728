/- The walk of the model's NewWorld. (Made by genY25.py.) -/
import Derived.Test.YtjookicpmjmdhaaQ23
open Go.Value renaming int → jI, slice → jS
open Go.IntKind renaming i64 → jZ
namespace Go.Proofs.Ytjookicpmjmdhaa
open Go.RowKit

def GivesWB (w : World) (W : Wd) (b : Bool) (e : Ending) (w' : World) : Prop :=
 ∃ A c F A1 c1 F1 A2 c2 F2, e = .returned (.tuple #[wdV W A c A1 c1 A2 c2, .bool b]) ∧ OwnW w' W A c F A1 c1 F1 A2 c2 F2 ∧ Fresh F w w' ∧ Fresh F1 w w' ∧ Fresh F2 w w' ∧ Below w.heap.size w w'
def GivesWI (w : World) (W : Wd) (k : Int) (e : Ending) (w' : World) : Prop :=
 ∃ A c F A1 c1 F1 A2 c2 F2, e = .returned (.tuple #[wdV W A c A1 c1 A2 c2, jI jZ k]) ∧ OwnW w' W A c F A1 c1 F1 A2 c2 F2 ∧ Fresh F w w' ∧ Fresh F1 w w' ∧ Fresh F2 w w' ∧ Below w.heap.size w w'
theorem ownW_zero (w : World) : OwnW w zeroW none 0 (fun _ => False) none 0 (fun _ => False) none 0 (fun _ => False) :=
 ⟨OwnS.nil _ _, OwnS.nil _ _, OwnS.nil _ _, fun _ hk => absurd hk id, fun _ hk => absurd hk id, fun _ hk => absurd hk id⟩
theorem zero_WB {w w' : World} (b : Below w.heap.size w w') (q : Bool) : GivesWB w zeroW q (.returned (.tuple #[wdV zeroW none 0 none 0 none 0, .bool q])) w' :=
 ⟨none, 0, fun _ => False, none, 0, fun _ => False, none, 0, fun _ => False, rfl, ownW_zero _, fun _ hk => absurd hk id, fun _ hk => absurd hk id, fun _ hk => absurd hk id, b⟩
theorem zero_WI {w w' : World} (b : Below w.heap.size w w') (k : Int) : GivesWI w zeroW k (.returned (.tuple #[wdV zeroW none 0 none 0 none 0, jI jZ k])) w' :=
 ⟨none, 0, fun _ => False, none, 0, fun _ => False, none, 0, fun _ => False, rfl, ownW_zero _, fun _ hk => absurd hk id, fun _ hk => absurd hk id, fun _ hk => absurd hk id, b⟩
theorem el_rest (rep out : Int) : ∀ w, em.P w → encHd.Own w (hdC (restH rep out) none 0 0).toList (restH rep out) em.F := fun _ _ => ⟨none, 0, rfl, OwnS.nil _ _⟩

set_option maxRecDepth 100000 in
set_option maxHeartbeats 16000000 in
theorem newW_any (tasks : Int) (w0 : World) :
   Calls Try.prog 69 #[jI jZ tasks] w0 (GivesWB w0 (newW tasks) (inB tasks 1 6)) := by
 have IN := Lib.hid (fun w => in_any tasks 1 6 w)
 have S := Lib.hid (Sep.start noX w0)
 have tok0 : True := trivial
 by_cases hq : inB tasks 1 6 = true
 · obtain ⟨tn, rfl⟩ : ∃ tn : Nat, tasks = tn := ⟨tasks.toNat, by unfold inB at hq; simp at hq; omega⟩
   have htn : tn ≤ 6 := by unfold inB at hq; simp at hq; omega
   have hE : newW (tn : Int) = ⟨0, [newNd], List.replicate tn (restH 0 0), [], 0⟩ := by unfold newW; rw [if_pos hq]; simp
   have HE := Lib.hid hE
   rw [hq] at IN
   rw [hq]
   have RK := Lib.hid rest_any
   have HTN := Lib.hid htn
   clear hE hq
   go_enter Try.func69, Try.ntmps69
   go_wp2_with (first
       | go_skip
       | (clear tok0; refine nx_ 81 S rfl rfl Try.zeroValue81 ?_; clear S; intro rw w S))
   refine (IN.out _).mono ?_
   rintro e w9 ⟨rfl, rfl⟩
   go_wp2_with fail
   refine (sNewTree_any _).mono ?_
   rintro e w ⟨AN, cN, FN, rfl, own, fr, b⟩
   replace S := Lib.hid (S.out.own b own fr)
   clear own fr b IN
   have tokw : True := trivial
   go_wp2_with (first
       | go_skip
       | (refine wpList_op rfl (op_build 81 _ rfl [(0, .agg #[jI jZ 0, jS AN 1 cN])] rfl #[jI jZ 0, jS AN 1 cN, jS none 0 0, jS none 0 0, jI jZ 0] (by kernel_rfl) ?_))
       | (clear tokw; refine nx_ 81 S rfl rfl Try.zeroValue81 ?_; clear S; intro gn w S)
       | (refine wpList_op rfl (op_putR_0 81 _ _ rfl S rfl _ rfl rfl (by kernel_rfl) rfl ?_); clear S; intro w S))
   have S2 : Sep noX w0 [ow (jS none 0 0) ([] : List Hd) (fun _ => False), bx gn #[jI jZ 0, jS AN 1 cN, jS none 0 0, jS none 0 0, jI jZ 0] 81, ow (jS AN 1 cN) [newNd] FN, bx rw #[jI jZ 0, jS none 0 0, jS none 0 0, jS none 0 0, jI jZ 0] 81, em] w := (S.out.own (α := Hd) (Below.refl _ _) (OwnS.nil _ _) (fun _ hk => absurd hk id)).ems 1
   go_loopw [5] (fun i wr => ∃ (k : Nat) (A5 : Option Addr) (c5 : Nat) (F5 : FP), i = jI jZ k ∧ k ≤ tn ∧ Hid (Sep noX w0 [ow (jS A5 k c5) (List.replicate k (restH 0 0)) F5, bx gn #[jI jZ 0, jS AN 1 cN, jS A5 k c5, jS none 0 0, jI jZ 0] 81, ow (jS AN 1 cN) [newNd] FN, bx rw #[jI jZ 0, jS none 0 0, jS none 0 0, jS none 0 0, jI jZ 0] 81, em] wr)) (fun i _ => tn - (intOf i).toNat)
   case atStart => exact ⟨0, none, 0, fun _ => False, rfl, by omega, Lib.hid S2⟩
   case round =>
     clear S S2
     obtain ⟨k, A5, c5, F5, rfl, hk, S⟩ := hrel
     have htn := HTN.out
     by_cases hlt : k < tn
     · have HLT := Lib.hid hlt
       go_wp2_with fail
       refine wp_region_ev (by kernel_rfl) _ (by kernel_rfl) (by kernel_rfl) 24 rfl (by kernel_rfl) (fun D V w => ∃ gq : Nat, ∃ AH : Option Addr, ∃ cH : Nat, ∃ FH : FP, Sep noX w0 [cnd (D 4) (ow (jS A5 k c5) (List.replicate k (restH 0 0)) F5) (ow (jS AH (k + 1) cH) (List.replicate k (restH 0 0) ++ [restH 0 0]) FH), cnd (D 6) (bx gn #[jI jZ 0, jS AN 1 cN, jS A5 k c5, jS none 0 0, jI jZ 0] 81) (bx gn #[jI jZ 0, jS AN 1 cN, jS AH (k + 1) cH, jS none 0 0, jI jZ 0] 81), ow (jS AN 1 cN) [newNd] FN, bx rw #[jI jZ 0, jS none 0 0, jS none 0 0, jS none 0 0, jI jZ 0] 81, em, cnd (D 3) em (bx gq #[jI jZ 0, jI jZ 0, jI jZ 0, jI jZ 0, jI jZ 0, jI jZ 0, jI jZ 0, jI jZ 0, jI jZ 0, jI jZ 0, jI jZ 0, jS none 0 0, jI jZ 0, jI jZ 0, jI jZ 0, jI jZ 0] 31)] w ∧ (D 0 = true → V 0 = .pointer (some ⟨gn, 2, none⟩)) ∧ (D 1 = true → V 1 = jS A5 k c5) ∧ (D 2 = true → V 2 = .agg #[jI jZ 0, jI jZ 0, jI jZ 0, jI jZ 0, jI jZ 0, jI jZ 0, jI jZ 0, jI jZ 0, jI jZ 0, jI jZ 0, jI jZ 0, jS none 0 0, jI jZ 0, jI jZ 0, jI jZ 0, jI jZ 0]) ∧ (D 3 = true → V 3 = jS (some ⟨gq, 0, none⟩) 1 1) ∧ (D 4 = true → V 4 = jS AH (k + 1) cH) ∧ (D 5 = true → V 5 = .pointer (some ⟨gn, 2, none⟩)) ∧ (D 4 = true → D 1 = true) ∧ (D 4 = true → D 3 = true) ∧ (D 6 = true → D 1 = true) ∧ (D 6 = true → D 4 = true)) ?_ ?_ ?_
       · intro D hD
         have d3 := hD 3 (by decide)
         have d4 := hD 4 (by decide)
         have d6 := hD 6 (by decide)
         exact ⟨0, none, 0, fun _ => False, by simp only [cnd_f d3, cnd_f d4, cnd_f d6]; exact S.out.drew.ems 1, (nof (hD 0 (by decide))), (nof (hD 1 (by decide))), (nof (hD 2 (by decide))), (nof (hD 3 (by decide))), (nof (hD 4 (by decide))), (nof (hD 5 (by decide))), (nof (hD 4 (by decide))), (nof (hD 4 (by decide))), (nof (hD 6 (by decide))), (nof (hD 6 (by decide)))⟩
       · intro i o D V w a ho hI hDi haf hev
         obtain ⟨gq, AH, cH, FH, S, f0, f1, f2, f3, f4, f5, o4_1, o4_3, o6_1, o6_4⟩ := hI
         rcases i with _ | _ | _ | _ | _ | _ | _ | i
         · obtain rfl := inj_ ho
           exact op_field _ _ _ rfl ((hev.old 4 (by kernel_rfl)).trans rfl) (by kernel_rfl) ⟨_, rfl, gq, AH, cH, FH, S, fun _ => rfl, f1, f2, f3, f4, f5, o4_1, o4_3, o6_1, o6_4⟩
         · obtain rfl := inj_ ho
           have h0 := aft_ haf 0 rfl
           have nn := nofb hDi o6_1
           exact op_get 78 _ rfl S 1 (g := gn) (C := #[jI jZ 0, jS AN 1 cN, jS A5 k c5, jS none 0 0, jI jZ 0]) (t := 81) (by simp only [gs_, gz_, cnd_f nn]) 2 (hev.at_ 0 17 rfl rfl h0 f0) Try.isAgg78 _ rfl ⟨_, rfl, gq, AH, cH, FH, S, f0, fun _ => rfl, f2, f3, f4, f5, fun _ => rfl, o4_3, fun _ => rfl, o6_4⟩
         · obtain rfl := inj_ ho
           refine op_call _ _ _ rfl (enters_of Try.func25 (by kernel_rfl) rfl) #[jI jZ 0, jI jZ 0] (by simp [eval_const]) (RK.out 0 0 w) (fun e w2 hh => ?_)
           obtain ⟨rfl, b⟩ := hh
           exact ⟨_, rfl, ⟨_, rfl, gq, AH, cH, FH, S.call b, f0, f1, fun _ => rfl, f3, f4, f5, o4_1, o4_3, o6_1, o6_4⟩⟩
         · obtain rfl := inj_ ho
           have h2 := aft_ haf 2 rfl
           have hx0 := (hev.at_ 2 19 rfl rfl h2 f2)
           exact op_bsH1At _ rfl S 5 (by simp only [gs_, gz_, cnd_f hDi]) hx0 (fun g w S => ⟨_, rfl, g, AH, cH, FH, S, f0, f1, f2, fun _ => rfl, f4, f5, o4_1, fun _ => rfl, o6_1, o6_4⟩)
         · obtain rfl := inj_ ho
           have h1 := aft_ haf 1 rfl
           have h3 := aft_ haf 3 rfl
           have ns6 := nofb hDi o6_4
           have hx0 := (hev.at_ 1 18 rfl rfl h1 f1)
           have hx1 := (hev.at_ 3 20 rfl rfl h3 f3)
           exact op_appEl 78 16 144 kd_hand rfl Try.underlying78 (by omega) _ _ rfl S (v := jS A5 k c5) (xs := List.replicate k (restH 0 0)) (F := F5) (C := #[jI jZ 0, jI jZ 0, jI jZ 0, jI jZ 0, jI jZ 0, jI jZ 0, jI jZ 0, jI jZ 0, jI jZ 0, jI jZ 0, jI jZ 0, jS none 0 0, jI jZ 0, jI jZ 0, jI jZ 0, jI jZ 0]) (J := em) (y := restH 0 0) 0 4 5 (by omega) (by simp only [List.getElem?_cons_zero, cnd_f hDi]) rfl (by simp only [gs_, gz_, cnd_t h3]; rfl) (el_rest 0 0) (by simp [Value.oneCell']) List.length_replicate (by have := HTN.out; have := HLT.out; omega) (by omega) hx0 hx1 (fun A9 c9 F9 w S => ⟨_, rfl, gq, A9, c9, F9, (by have SS := S; rw [cnd_f ns6] at SS; rw [show updB D 4 6 = false from ns6]; exact SS), f0, f1, f2, f3, fun _ => rfl, f5, fun _ => h1, fun _ => h3, o6_1, fun _ => rfl⟩)
         · obtain rfl := inj_ ho
           exact op_field _ _ _ rfl ((hev.old 4 (by kernel_rfl)).trans rfl) (by kernel_rfl) ⟨_, rfl, gq, AH, cH, FH, S, f0, f1, f2, f3, f4, fun _ => rfl, o4_1, o4_3, o6_1, o6_4⟩
         · obtain rfl := inj_ ho
           have h5 := aft_ haf 5 rfl
           have h4 := aft_ haf 4 rfl
           have h1 : D 1 = true := o4_1 h4
           exact op_put1 78 _ _ rfl S 1 (g := gn) (C := #[jI jZ 0, jS AN 1 cN, jS A5 k c5, jS none 0 0, jI jZ 0]) (t := 81) (by simp only [gs_, gz_, cnd_f hDi]) 2 (hev.at_ 5 22 rfl rfl h5 f5) _ (hev.at_ 4 21 rfl rfl h4 f4) rfl (by kernel_rfl) (of_decide_eq_true rfl) (fun w S => ⟨_, rfl, gq, AH, cH, FH, S, f0, f1, f2, f3, f4, f5, o4_1, o4_3, fun _ => h1, fun _ => h4⟩)
         · exact absurd ho (by simp)
       intro V w hI
       obtain ⟨gq, AH, cH, FH, S, f0, f1, f2, f3, f4, f5, o4_1, o4_3, o6_1, o6_4⟩ := hI
       replace S : Hid (Sep noX w0 [ow (jS AH (k + 1) cH) (List.replicate k (restH 0 0) ++ [restH 0 0]) FH, bx gn #[jI jZ 0, jS AN 1 cN, jS AH (k + 1) cH, jS none 0 0, jI jZ 0] 81, ow (jS AN 1 cN) [newNd] FN, bx rw #[jI jZ 0, jS none 0 0, jS none 0 0, jS none 0 0, jI jZ 0] 81, em, bx gq #[jI jZ 0, jI jZ 0, jI jZ 0, jI jZ 0, jI jZ 0, jI jZ 0, jI jZ 0, jI jZ 0, jI jZ 0, jI jZ 0, jI jZ 0, jS none 0 0, jI jZ 0, jI jZ 0, jI jZ 0, jI jZ 0] 31] w) := Lib.hid S
       simp only [putF, Act.put, sa_, sb_, sc_, f0 rfl, f1 rfl, f2 rfl, f3 rfl, f4 rfl, f5 rfl]
       clear f0 f1 f2 f3 f4 f5 o4_1 o4_3 o6_1 o6_4
       replace S : Hid (Sep noX w0 [ow (jS AH (k + 1) cH) (List.replicate k (restH 0 0) ++ [restH 0 0]) FH, bx gn #[jI jZ 0, jS AN 1 cN, jS AH (k + 1) cH, jS none 0 0, jI jZ 0] 81, ow (jS AN 1 cN) [newNd] FN, bx rw #[jI jZ 0, jS none 0 0, jS none 0 0, jS none 0 0, jI jZ 0] 81, em] w) := Lib.hid (S.out.drop (List.sublist_append_left [ow (jS AH (k + 1) cH) (List.replicate k (restH 0 0) ++ [restH 0 0]) FH, bx gn #[jI jZ 0, jS AN 1 cN, jS AH (k + 1) cH, jS none 0 0, jI jZ 0] 81, ow (jS AN 1 cN) [newNd] FN, bx rw #[jI jZ 0, jS none 0 0, jS none 0 0, jS none 0 0, jI jZ 0] 81, em] [bx gq #[jI jZ 0, jI jZ 0, jI jZ 0, jI jZ 0, jI jZ 0, jI jZ 0, jI jZ 0, jI jZ 0, jI jZ 0, jI jZ 0, jI jZ 0, jS none 0 0, jI jZ 0, jI jZ 0, jI jZ 0, jI jZ 0] 31]))
       go_wp2_with fail
       go_roundw
       case rel => exact ⟨k + 1, AH, cH, FH, by go_num, by have := HLT.out; omega, by rw [show List.replicate (k + 1) (restH 0 0) = List.replicate k (restH 0 0) ++ [restH 0 0] by rw [List.replicate_succ']]; exact S⟩
       case measure => simp [intOf]; have := HLT.out; omega
     · obtain rfl : tn = k := by omega
       clear hlt hk htn
       go_wp2_with (first
           | go_skip
           | (refine wpList_op rfl (op_row 81 _ rfl S.out 1 rfl rfl Try.isAgg81 (by kernel_rfl) ?_))
           | (refine wpList_op rfl (op_putR_3 81 _ _ rfl S rfl _ rfl rfl (by kernel_rfl) rfl ?_); clear S; intro w S))
       exact bodyPost_ret (results_cs rfl _ S.out 3 rfl rfl Try.isAgg81 (by kernel_rfl)) rfl (by rw [HE.out]; exact ⟨AN, cN, FN, A5, c5, F5, none, 0, fun _ => False, by simp [wdV], ⟨S.out.get 2 rfl, by show OwnS _ (jS A5 (List.replicate tn (restH 0 0)).length c5) (List.replicate tn (restH 0 0)) F5; rw [List.length_replicate]; exact S.out.get 0 rfl, OwnS.nil _ _, S.out.apart_at 2 0 (by omega) rfl rfl, fun _ _ hk => absurd hk id, fun _ _ hk => absurd hk id⟩, (S.out.ends 2 rfl).2.1, (S.out.ends 0 rfl).2.1, fun _ hk => absurd hk id, S.out.below⟩)
 · have hq : inB tasks 1 6 = false := by simpa using hq
   have hE : newW tasks = zeroW := by unfold newW; rw [hq]; rfl
   rw [hq] at IN
   rw [hq, hE]
   clear hE hq
   go_enter Try.func69, Try.ntmps69
   go_wp2_with (first
       | go_skip
       | (clear tok0; refine nx_ 81 S rfl rfl Try.zeroValue81 ?_; clear S; intro rw w S))
   refine (IN.out _).mono ?_
   rintro e w9 ⟨rfl, rfl⟩
   go_wp2_with (first
       | go_skip
       | (refine wpList_op rfl (op_build 81 _ rfl [] rfl #[jI jZ 0, jS none 0 0, jS none 0 0, jS none 0 0, jI jZ 0] (by kernel_rfl) ?_))
       | (refine wpList_op rfl (op_putR_0 81 _ _ rfl S rfl _ rfl rfl (by kernel_rfl) rfl ?_); clear S; intro w S))
   exact bodyPost_ret (results_cs rfl _ S.out 0 rfl rfl Try.isAgg81 (by kernel_rfl)) rfl (by exact zero_WB S.out.below false)
end Go.Proofs.Ytjookicpmjmdhaa
namespace Go.Proofs.Ytjookicpmjmdhaa
open Go.RowKit
section
variable {P : Program} {X : FP} {w0 w w' : World} {L : List Item} {o : Oper} {a : Act} {K : Act → World → Prop} {Q : Exit → Act → World → Prop} {I0 I1 I2 I3 I4 I5 I6 I7 I8 I9 I10 I11 I12 : Item}
theorem op_putR_8 (ty : TypeId) (x y : Operand) (ho : o.op = .store ty x y) {g : Nat} {C : Array Value} {t : TypeId} (h : Hid (Sep X w0 (I0 :: I1 :: I2 :: I3 :: I4 :: I5 :: I6 :: I7 :: bx g C t :: L) w)) (hx : a.eval x = .pointer (some ⟨g, 0, none⟩))
   (C' : Array Value) (hy : a.eval y = .agg C') (h1 : C'.toList.all (·.oneCell') = true) (hi : (P.info? ty).map (·.size) = some C'.size) (hj : C'.size = C.size)
   (hK : ∀ w', Hid (Sep X w0 (I0 :: I1 :: I2 :: I3 :: I4 :: I5 :: I6 :: I7 :: bx g C' t :: L) w') → K (a.put o.dst undef) w') : o.wp P a w K Q := op_putR ty x y ho h.out 8 rfl hx C' hy h1 hi hj (fun w' h' => hK w' (Lib.hid h'))
theorem op_put1_8 (ty : TypeId) (x y : Operand) (ho : o.op = .store ty x y) {g : Nat} {C : Array Value} {t : TypeId} (h : Hid (Sep X w0 (I0 :: I1 :: I2 :: I3 :: I4 :: I5 :: I6 :: I7 :: bx g C t :: L) w)) (j : Nat) (hx : a.eval x = .pointer (some ⟨g, j, none⟩))
   (v : Value) (hy : a.eval y = v) (h1 : v.oneCell' = true) (hi : (P.info? ty).map (·.size) = some 1) (hj : j < C.size)
   (hK : ∀ w', Hid (Sep X w0 (I0 :: I1 :: I2 :: I3 :: I4 :: I5 :: I6 :: I7 :: bx g (C.setIfInBounds j v) t :: L) w') → K (a.put o.dst undef) w') : o.wp P a w K Q := op_put1 ty x y ho h.out 8 rfl j hx v hy h1 hi hj (fun w' h' => hK w' (Lib.hid h'))
theorem op_putR_9 (ty : TypeId) (x y : Operand) (ho : o.op = .store ty x y) {g : Nat} {C : Array Value} {t : TypeId} (h : Hid (Sep X w0 (I0 :: I1 :: I2 :: I3 :: I4 :: I5 :: I6 :: I7 :: I8 :: bx g C t :: L) w)) (hx : a.eval x = .pointer (some ⟨g, 0, none⟩))
   (C' : Array Value) (hy : a.eval y = .agg C') (h1 : C'.toList.all (·.oneCell') = true) (hi : (P.info? ty).map (·.size) = some C'.size) (hj : C'.size = C.size)
   (hK : ∀ w', Hid (Sep X w0 (I0 :: I1 :: I2 :: I3 :: I4 :: I5 :: I6 :: I7 :: I8 :: bx g C' t :: L) w') → K (a.put o.dst undef) w') : o.wp P a w K Q := op_putR ty x y ho h.out 9 rfl hx C' hy h1 hi hj (fun w' h' => hK w' (Lib.hid h'))
theorem op_putR_10 (ty : TypeId) (x y : Operand) (ho : o.op = .store ty x y) {g : Nat} {C : Array Value} {t : TypeId} (h : Hid (Sep X w0 (I0 :: I1 :: I2 :: I3 :: I4 :: I5 :: I6 :: I7 :: I8 :: I9 :: bx g C t :: L) w)) (hx : a.eval x = .pointer (some ⟨g, 0, none⟩))
   (C' : Array Value) (hy : a.eval y = .agg C') (h1 : C'.toList.all (·.oneCell') = true) (hi : (P.info? ty).map (·.size) = some C'.size) (hj : C'.size = C.size)
   (hK : ∀ w', Hid (Sep X w0 (I0 :: I1 :: I2 :: I3 :: I4 :: I5 :: I6 :: I7 :: I8 :: I9 :: bx g C' t :: L) w') → K (a.put o.dst undef) w') : o.wp P a w K Q := op_putR ty x y ho h.out 10 rfl hx C' hy h1 hi hj (fun w' h' => hK w' (Lib.hid h'))
theorem op_putR_12 (ty : TypeId) (x y : Operand) (ho : o.op = .store ty x y) {g : Nat} {C : Array Value} {t : TypeId} (h : Hid (Sep X w0 (I0 :: I1 :: I2 :: I3 :: I4 :: I5 :: I6 :: I7 :: I8 :: I9 :: I10 :: I11 :: bx g C t :: L) w)) (hx : a.eval x = .pointer (some ⟨g, 0, none⟩))
   (C' : Array Value) (hy : a.eval y = .agg C') (h1 : C'.toList.all (·.oneCell') = true) (hi : (P.info? ty).map (·.size) = some C'.size) (hj : C'.size = C.size)
   (hK : ∀ w', Hid (Sep X w0 (I0 :: I1 :: I2 :: I3 :: I4 :: I5 :: I6 :: I7 :: I8 :: I9 :: I10 :: I11 :: bx g C' t :: L) w') → K (a.put o.dst undef) w') : o.wp P a w K Q := op_putR ty x y ho h.out 12 rfl hx C' hy h1 hi hj (fun w' h' => hK w' (Lib.hid h'))
theorem Sep.gain3 (h : Sep X w0 L w) (b : Below w.heap.size w w') (I J M : Item) (p : I.P w') (q : J.P w') (r : M.P w') (f : ∀ k, I.F k → w.heap.size ≤ k ∧ k < w'.heap.size) (g : ∀ k, J.F k → w.heap.size ≤ k ∧ k < w'.heap.size) (m : ∀ k, M.F k → w.heap.size ≤ k ∧ k < w'.heap.size)
   (a1 : Apart I.F J.F) (a2 : Apart I.F M.F) (a3 : Apart J.F M.F) : Sep X w0 (I :: J :: M :: L) w' := by
 have h2 := h.gain2 b J M q r g m a3
 refine ⟨h2.only, fun i hi => ?_, fun i hi k hk => ?_, List.pairwise_cons.2 ⟨fun j hj => ?_, h2.apart⟩⟩
 · rcases List.mem_cons.1 hi with rfl | hi
   · exact p
   · exact h2.holds i hi
 · rcases List.mem_cons.1 hi with rfl | hi
   · have := f k hk; have := h.size; exact ⟨.inr (by omega), by omega⟩
   · exact h2.fresh i hi k hk
 · rcases List.mem_cons.1 hj with rfl | hj
   · exact a1
   · rcases List.mem_cons.1 hj with rfl | hj
     · exact a2
     · exact fun k hk hk2 => by have := f k hk; have := (h.fresh j hj k hk2).2; omega
end
theorem world_of {W : Wd} (h : worldOk W = true) : treeOk W.root W.ns = true ∧ 1 ≤ W.hs.length ∧ W.hs.length ≤ 6 ∧ W.ds.length ≤ 1000 ∧ (0 ≤ W.now ∧ W.now ≤ 20000) ∧ (∀ i, i < W.hs.length → handOk (hdAt W.hs i) = true ∧ (hdAt W.hs i).beg ≤ W.now) := by
 unfold worldOk at h
 simp only [Bool.and_eq_true, decide_eq_true_eq] at h
 obtain ⟨h1, h2, h3, h4, h5, h6, h7⟩ := h
 refine ⟨h1, h2, h3, h4, by unfold inB at h5; simpa using h5, fun i hi => ?_⟩
 rw [List.all_eq_true] at h6
 have h8 := h6 (hdAt W.hs i) (by unfold hdAt; simp [hi])
 simpa using h8
theorem hand_stack {hd : Hd} (h : handOk hd = true) : hd.st.length ≤ 6 := by
 unfold handOk stackOk at h
 simp only [Bool.and_eq_true, decide_eq_true_eq] at h
 exact h.2.2.1.1
end Go.Proofs.Ytjookicpmjmdhaa
namespace Go.Proofs.Ytjookicpmjmdhaa
open Go.RowKit

def Good (s : StR) (h : Hd) : Prop := s.b = true → treeOk s.t.root s.t.ns = true ∧ handOk s.h = true ∧ (s.h.beg = h.beg ∨ s.h.beg = 0)
theorem good_done {t : Tr} {h2 h : Hd} (hb : h2.beg = h.beg ∨ h2.beg = 0) : Good (doneS t h2) h := by
 intro hq
 unfold doneS at hq ⊢
 by_cases h9 : (treeOk t.root t.ns && handOk h2) = true
 · rw [if_pos h9]
   simp only [Bool.and_eq_true] at h9
   exact ⟨h9.1, h9.2, hb⟩
 · rw [if_neg h9] at hq
   cases hq
theorem good_none (h : Hd) : Good noneS h := fun hq => by cases hq
theorem rest_beg (rep out : Int) (h : Hd) : (restH rep out).beg = h.beg ∨ (restH rep out).beg = 0 := .inr rfl
theorem good_up (t : Tr) (task : Int) (h : Hd) : Good (upS t task h) h := by
 unfold upS
 split
 · split
   · unfold topS
     split
     · exact good_done (.inl rfl)
     · split
       · exact good_done (.inl rfl)
       · split
         · exact good_done (rest_beg _ _ _)
         · exact fun hq => by cases hq
   · split
     · unfold raiseS
       split
       · exact good_done (rest_beg _ _ _)
       · exact good_done (.inl rfl)
     · split
       · exact good_done (rest_beg _ _ _)
       · exact good_done (.inl rfl)
 · exact good_none h
theorem then_beg (h : Hd) : (thenH h).beg = h.beg ∨ (thenH h).beg = 0 := by
 unfold thenH
 split
 · exact .inr rfl
 · split
   · exact .inl rfl
   · split <;> exact .inl rfl
theorem good_split (t : Tr) (task : Int) (h : Hd) : Good (splitS t task h) h := by
 unfold splitS
 split
 · split
   · unfold makeS
     split
     · refine good_done (.inl ?_)
       unfold freeH
       split <;> rfl
     · split
       · exact good_done (.inl rfl)
       · exact good_none h
   · split
     · unfold halveS
       split
       · exact good_done (.inl rfl)
       · exact good_none h
     · exact good_done (then_beg h)
 · exact good_none h
theorem write_beg (t : Tr) (h : Hd) : (writeH t h).beg = h.beg := by
 unfold writeH freeH
 simp only
 split
 · rfl
 · split <;> rfl
theorem check_beg (t : Tr) (h : Hd) : (checkH t h).beg = h.beg := by
 unfold checkH freeH
 simp only
 split
 · rfl
 · split
   · rfl
   · split <;> rfl
theorem good_leaf (t : Tr) (task : Int) (h : Hd) : Good (leafS t task h) h := by
 unfold leafS
 split
 · split
   · exact good_done (.inl (check_beg t h))
   · exact good_done (.inl (write_beg t h))
 · exact good_none h
theorem here_beg (t : Tr) (h : Hd) : (hereH t h).beg = h.beg ∨ (hereH t h).beg = 0 := by
 unfold hereH
 split
 · split <;> exact .inr rfl
 · exact .inl rfl
theorem good_down (t : Tr) (task : Int) (h : Hd) : Good (downS t task h) h := by
 unfold downS
 split
 · split
   · exact good_done (.inl rfl)
   · split
     · unfold downD
       simp only
       split
       · exact good_done (.inl rfl)
       · split
         · exact good_done (.inl rfl)
         · split
           · exact good_done (here_beg t h)
           · exact good_none h
     · split
       · exact good_done (.inl rfl)
       · exact fun hq => by cases hq
 · exact good_none h
theorem good_step (t : Tr) (task : Int) (h : Hd) : Good (stepS t task h) h := by
 unfold stepS
 split
 · exact good_down t task h
 · split
   · exact good_leaf t task h
   · split
     · exact good_split t task h
     · exact good_up t task h
theorem all_set {α : Type} {xs : List α} {p : α → Bool} {k : Nat} {x : α} (h : xs.all p = true) (hx : p x = true) : (xs.set k x).all p = true := by
 rw [List.all_eq_true] at h ⊢
 intro y hy
 rcases List.mem_or_eq_of_mem_set hy with h' | rfl
 · exact h y h'
 · exact hx
theorem hand_facts {hd : Hd} (h : handOk hd = true) : (0 ≤ hd.beg ∧ hd.beg ≤ 20000) ∧ (0 ≤ hd.out ∧ hd.out ≤ 999) := by
 unfold handOk at h
 simp only [Bool.and_eq_true] at h
 obtain ⟨_, _, _, _, _, _, _, _, _, _, _, h1, _, h2⟩ := h
 unfold inB at h1 h2
 exact ⟨by simpa using h1, by simpa using h2⟩
theorem stepW_ok {W : Wd} {kk : Nat} (h : worldOk W = true) (hk : kk < W.hs.length) (hb : stepsB W kk = true) : worldOk (stepW W kk) = true ∧ (stepW W kk).hs.length = W.hs.length := by
 obtain ⟨q1, q2, q3, q4, q5, q6⟩ := world_of h
 have hg := good_step ⟨W.root, W.ns⟩ kk (hdAt W.hs kk)
 have hb2 := hb
 unfold stepsB at hb2
 simp only [Bool.and_eq_true, Bool.not_eq_true', decide_eq_false_iff_not, Bool.or_eq_true, decide_eq_true_eq] at hb2
 obtain ⟨hb3, hnow, hdl⟩ := hb2
 obtain ⟨g1, g2, g3⟩ := hg hb3
 have hq := q6 kk hk
 obtain ⟨p1, p2⟩ := hand_facts hq.1
 obtain ⟨r1, r2⟩ := hand_facts g2
 unfold stepW
 simp only
 rw [if_pos hb]
 generalize hs : stepS ⟨W.root, W.ns⟩ kk (hdAt W.hs kk) = s at *
 have hall : W.hs.all (fun h => handOk h && decide (h.beg ≤ W.now)) = true ∧ W.ds.all (dealOk W.hs.length W.now) = true := by
   unfold worldOk at h
   simp only [Bool.and_eq_true] at h
   exact ⟨h.2.2.2.2.2.1, h.2.2.2.2.2.2⟩
 have hh1 : (W.hs.set kk s.h).all (fun h => handOk h && decide (h.beg ≤ W.now + 1)) = true := by
   refine all_set ?_ (by rw [g2]; simp; omega)
   rw [List.all_eq_true]
   intro y hy
   have := (List.all_eq_true.1 hall.1) y hy
   simp only [Bool.and_eq_true, decide_eq_true_eq] at this ⊢
   exact ⟨this.1, by omega⟩
 have hd1 : W.ds.all (dealOk W.hs.length (W.now + 1)) = true := by
   rw [List.all_eq_true]
   intro y hy
   have := (List.all_eq_true.1 hall.2) y hy
   unfold dealOk inB at this ⊢
   simp only [Bool.and_eq_true, decide_eq_true_eq] at this ⊢
   obtain ⟨t1, t2, t3, t4, t5⟩ := this
   exact ⟨t1, t2, by omega, by omega, t5⟩
 have hlen : (W.hs.set kk s.h).length = W.hs.length := by simp
 refine ⟨?_, hlen⟩
 unfold worldOk
 simp only [hlen, g1, hh1, Bool.true_and, Bool.and_eq_true, decide_eq_true_eq]
 refine ⟨q2, q3, ?_, by unfold inB; simp; omega, ?_⟩
 · split
   · rename_i hp
     rcases hdl with h' | h'
     · exact absurd hp h'
     · simp only [List.length_append, List.length_cons, List.length_nil]; omega
   · exact q4
 · split
   · rename_i hp
     rcases hdl with h' | h'
     · exact absurd hp h'
     · rw [List.all_append, hd1]
       simp only [Bool.true_and, List.all_cons, List.all_nil, Bool.and_true]
       unfold dealOk hasB inB
       simp only [Bool.and_eq_true, decide_eq_true_eq]
       exact ⟨by omega, h'.2, by omega, by omega, by omega⟩
   · exact hd1
theorem alone_step {kk f : Nat} {w : Wd} (h1 : (hdAt w.hs kk).pos ≠ 0) (h2 : stepsB w kk = true) : aloneF kk (f + 1) w = ((aloneF kk f (stepW w kk)).1, (aloneF kk f (stepW w kk)).2 + 1) := by
 conv => lhs; unfold aloneF
 rw [if_neg h1, if_pos h2]
theorem alone_rest {kk f : Nat} {w : Wd} (h1 : (hdAt w.hs kk).pos = 0) : aloneF kk f w = (w, 0) := by
 cases f with
 | zero => rfl
 | succ f => unfold aloneF; rw [if_pos h1]
theorem alone_stands {kk f : Nat} {w : Wd} (h2 : stepsB w kk = false) : aloneF kk f w = (w, 0) := by
 cases f with
 | zero => rfl
 | succ f =>
   unfold aloneF
   split
   · rfl
   · rw [h2]; rfl
theorem Sep.emI {X : FP} {w0 w : World} {L : List Item} (h : Sep X w0 L w) : Sep X w0 (em :: L) w := h.gain (Below.refl _ _) em trivial (fun _ hk => absurd hk id)
theorem isW_own {w : World} {W : Wd} {A : Option Addr} {c : Nat} {F : FP} {A1 : Option Addr} {c1 : Nat} {F1 : FP} {A2 : Option Addr} {c2 : Nat} {F2 : FP} (hk : worldOk W = true) (h0 : OwnS w (jS A W.ns.length c) W.ns F) (h1 : OwnS w (jS A1 W.hs.length c1) W.hs F1) (h2 : OwnS w (jS A2 W.ds.length c2) W.ds F2) :
   IsW w w.heap.size W A W.ns.length A1 W.hs.length A2 W.ds.length := by
 obtain ⟨q1, q2, q3, q4, _⟩ := world_of hk
 exact ⟨OwnS.rs h0 rfl, sm_right (right_of q1), OwnS.rs h1 rfl, OwnS.rs h2 rfl, by omega, by omega⟩
end Go.Proofs.Ytjookicpmjmdhaa
