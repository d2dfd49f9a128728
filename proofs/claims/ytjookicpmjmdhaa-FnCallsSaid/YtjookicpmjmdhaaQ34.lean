/- The walk of the model's l12Raise: into a tree of the caller's own. (Made by genY14.py.) -/
import Derived.Test.YtjookicpmjmdhaaQ33
import Derived.Test.YtjookicpmjmdhaaQ29
open Go.Value renaming int → jI, slice → jS
open Go.IntKind renaming i64 → jZ
namespace Go.Proofs.Ytjookicpmjmdhaa
open Go.RowKit

theorem Sep.turned_pin {F : FP} {w0 w : World} {L : List Item} (h : Sep F w0 L w) (i : Nat) (e : L[i]? = some (pin F w0)) {v : Value} {xs : List Nd} (hO : OwnS w0 v xs F) : Turned F w0 v xs w :=
 ⟨F, hO.keep (fun k hF _ => (h.get i e k hF).2), h.fresh _ (List.mem_of_getElem? e), h.only⟩
theorem op_lenN {o : Oper} {a : Act} {w : World} {K : Act → World → Prop} {Q : Exit → Act → World → Prop} (t e : TypeId) (s : Operand) (ho : o.op = .call { callee := .builtin .len, args := #[s], argTypes := #[t] }) (ht : Try.prog.underlying t = some (.slice e)) {A : Option Addr} {n c : Nat} (hs : a.eval s = jS A n c)
   (hK : K (a.put o.dst (jI jZ n)) w) : o.wp Try.prog a w K Q := by
 refine op_val ?_ hK
 generalize a.eval = E at hs ⊢
 simp [execOp, ho, hs, resolve, invoke, builtin, go_sem, ht]
def raiseX (xs : List Nd) (hd : Hd) : List Nd := if 40 ≤ xs.length then xs else xs ++ [rootN hd]
def raiseH (xs : List Nd) (hd : Hd) : Hd := if 40 ≤ xs.length then restH hd.rep 0 else { hd with new := xs.length, pos := 11 }
theorem raiseS_eq (r : Int) (xs : List Nd) (hd : Hd) : raiseS ⟨r, xs⟩ hd = doneS ⟨r, raiseX xs hd⟩ (raiseH xs hd) := by
 unfold raiseS raiseX raiseH
 by_cases h : 40 ≤ xs.length <;> simp [h]
def GivesRaise (F : FP) (w0 : World) (r : Int) (xs : List Nd) (hd : Hd) (A' : Option Addr) (n' c' : Nat) (e : Ending) (w' : World) : Prop :=
 ∃ A5 c5 A2 n2 c2, e = .returned (.tuple #[.agg #[jI jZ r, jS A5 (raiseX xs hd).length c5], hdV (raiseH xs hd) A2 n2 c2]) ∧ Turned F w0 (jS A5 (raiseX xs hd).length c5) (raiseX xs hd) w' ∧
   ((A2 = A' ∧ n2 = n' ∧ c2 = c' ∧ (raiseH xs hd).st = hd.st) ∨ (A2 = none ∧ n2 = 0 ∧ c2 = 0 ∧ (raiseH xs hd).st = []))

set_option maxRecDepth 100000 in
set_option maxHeartbeats 16000000 in
theorem raise_any (r : Int) (xs : List Nd) (A : Option Addr) (n c : Nat) (F : FP) (hd : Hd) (A' : Option Addr) (n' c' : Nat) (w0 : World) (hO : OwnS w0 (jS A n c) xs F) (hF : ∀ k, F k → k < w0.heap.size) :
   Calls Try.prog 104 #[.agg #[jI jZ r, jS A n c], hdV hd A' n' c'] w0 (GivesRaise F w0 r xs hd A' n' c') := by
 have hlx : xs.length = n := hO.len
 have DX : Hid (raiseX xs hd = if 40 ≤ n then xs else xs ++ [rootN hd]) := Lib.hid (by unfold raiseX; rw [hlx])
 have DH : Hid (raiseH xs hd = if 40 ≤ n then restH hd.rep 0 else { hd with new := n, pos := 11 }) := Lib.hid (by unfold raiseH; rw [hlx])
 have RK := Lib.hid rest_any
 have HO := Lib.hid hO
 have HLX := Lib.hid hlx
 have S := Lib.hid (Sep.startX w0 hF)
 clear hO hF hlx
 unfold GivesRaise
 generalize raiseX xs hd = rx at *
 generalize raiseH xs hd = rh2 at *
 have tok0 : True := trivial
 have tok1 : True := trivial
 have tok2 : True := trivial
 have tok3 : True := trivial
 unfold hdV at *
 by_cases h4 : 40 ≤ n
 · have g4 : decide ((40 : Int) ≤ (n : Int)) = true := by rw [decide_eq_true_eq]; omega
   obtain rfl : rx = xs := by rw [DX.out, if_pos h4]
   obtain rfl : rh2 = restH hd.rep 0 := by rw [DH.out, if_pos h4]
   clear DX DH h4
   go_enter Try.func104, Try.ntmps104
   go_wp2_with (first
       | go_skip
       | (clear tok0; refine bx_ 77 S rfl rfl rfl ?_; clear S; intro gt w S)
       | (clear tok1; refine bx_ 31 S rfl rfl rfl ?_; clear S; intro gh w S)
       | (clear tok2; refine nx_ 77 S rfl rfl Try.zeroValue77 ?_; clear S; intro rt w S)
       | (clear tok3; refine nx_ 31 S rfl rfl Try.zeroValue31 ?_; clear S; intro rh w S)
       | (refine wpList_op rfl (op_lenN _ _ _ rfl Try.underlying75 rfl ?_))
       | (refine wpList_op rfl (op_get 75 _ rfl S.out 3 rfl _ rfl Try.isAgg75 _ rfl ?_)))
   refine wp_region_ev (by kernel_rfl) _ (by kernel_rfl) (by kernel_rfl) 38 rfl (by kernel_rfl) (fun D V w => Sep F w0 [cnd (D 5) (bx rh #[jI jZ 0, jI jZ 0, jI jZ 0, jI jZ 0, jI jZ 0, jI jZ 0, jI jZ 0, jI jZ 0, jI jZ 0, jI jZ 0, jI jZ 0, jS none 0 0, jI jZ 0, jI jZ 0, jI jZ 0, jI jZ 0] 31) (bx rh #[jI jZ 0, jI jZ 0, jI jZ 0, jI jZ 0, jI jZ 0, jI jZ 0, jI jZ 0, jI jZ 0, jI jZ 0, jI jZ 0, jI jZ 0, jS none 0 0, jI jZ 0, jI jZ 0, jI jZ hd.rep, jI jZ 0] 31), cnd (D 4) (bx rt #[jI jZ 0, jS none 0 0] 77) (bx rt #[jI jZ r, jS A n c] 77), bx gh #[jI jZ hd.pos, jI jZ hd.cc, jI jZ hd.ck, jI jZ hd.cv, jI jZ hd.cur, jI jZ hd.want, jI jZ hd.key, jI jZ hd.kid, jI jZ hd.old, jI jZ hd.next, jI jZ hd.new, jS A' n' c', jI jZ hd.thn, jI jZ hd.beg, jI jZ hd.rep, jI jZ hd.out] 31, bx gt #[jI jZ r, jS A n c] 77, pin F w0] w ∧ (D 0 = true → V 0 = .agg #[jI jZ r, jS A n c]) ∧ (D 1 = true → V 1 = .pointer (some ⟨gh, 14, none⟩)) ∧ (D 2 = true → V 2 = jI jZ hd.rep) ∧ (D 3 = true → V 3 = .agg #[jI jZ 0, jI jZ 0, jI jZ 0, jI jZ 0, jI jZ 0, jI jZ 0, jI jZ 0, jI jZ 0, jI jZ 0, jI jZ 0, jI jZ 0, jS none 0 0, jI jZ 0, jI jZ 0, jI jZ hd.rep, jI jZ 0])) ?_ ?_ ?_
   · intro D hD
     have d4 := hD 4 (by decide)
     have d5 := hD 5 (by decide)
     exact ⟨by rw [cnd_f d5, cnd_f d4]; exact S.out.drew.ems 0, (nof (hD 0 (by decide))), (nof (hD 1 (by decide))), (nof (hD 2 (by decide))), (nof (hD 3 (by decide)))⟩
   · intro i o D V w a ho hI hDi haf hev
     obtain ⟨S, f0, f1, f2, f3⟩ := hI
     rcases i with _ | _ | _ | _ | _ | _ | i
     · obtain rfl := inj_ ho
       exact op_row 77 _ rfl S 3 rfl ((hev.old 2 (by kernel_rfl)).trans rfl) Try.isAgg77 (by kernel_rfl) ⟨_, rfl, S, fun _ => rfl, f1, f2, f3⟩
     · obtain rfl := inj_ ho
       exact op_field _ _ _ rfl ((hev.old 3 (by kernel_rfl)).trans rfl) (by kernel_rfl) ⟨_, rfl, S, f0, fun _ => rfl, f2, f3⟩
     · obtain rfl := inj_ ho
       have h1 := aft_ haf 1 rfl
       exact op_get 2 _ rfl S 2 rfl 14 (hev.at_ 1 11 rfl rfl h1 f1) Try.isAgg2 _ rfl ⟨_, rfl, S, f0, f1, fun _ => rfl, f3⟩
     · obtain rfl := inj_ ho
       have h2 := aft_ haf 2 rfl
       have hx0 := (hev.at_ 2 12 rfl rfl h2 f2)
       refine op_call _ _ _ rfl (enters_of Try.func25 (by kernel_rfl) rfl) #[jI jZ hd.rep, jI jZ 0] (by simp [hx0, eval_const]) (RK.out hd.rep 0 w) (fun e w2 hh => ?_)
       obtain ⟨rfl, b⟩ := hh
       exact ⟨_, rfl, ⟨_, rfl, S.call b, f0, f1, f2, fun _ => rfl⟩⟩
     · obtain rfl := inj_ ho
       have h0 := aft_ haf 0 rfl
       exact op_putR 77 _ _ rfl S 1 (g := rt) (C := #[jI jZ 0, jS none 0 0]) (t := 77) (by simp only [gs_, gz_, cnd_f hDi]) ((hev.old 4 (by kernel_rfl)).trans rfl) _ (hev.at_ 0 10 rfl rfl h0 f0) rfl (by kernel_rfl) rfl (fun w S => ⟨_, rfl, S, f0, f1, f2, f3⟩)
     · obtain rfl := inj_ ho
       have h3 := aft_ haf 3 rfl
       exact op_putR 31 _ _ rfl S 0 (g := rh) (C := #[jI jZ 0, jI jZ 0, jI jZ 0, jI jZ 0, jI jZ 0, jI jZ 0, jI jZ 0, jI jZ 0, jI jZ 0, jI jZ 0, jI jZ 0, jS none 0 0, jI jZ 0, jI jZ 0, jI jZ 0, jI jZ 0]) (t := 31) (by simp only [List.getElem?_cons_zero, cnd_f hDi]) ((hev.old 5 (by kernel_rfl)).trans rfl) _ (hev.at_ 3 13 rfl rfl h3 f3) rfl (by kernel_rfl) rfl (fun w S => ⟨_, rfl, S, f0, f1, f2, f3⟩)
     · exact absurd ho (by simp)
   intro V w hI
   obtain ⟨S, f0, f1, f2, f3⟩ := hI
   replace S : Hid (Sep F w0 [bx rh #[jI jZ 0, jI jZ 0, jI jZ 0, jI jZ 0, jI jZ 0, jI jZ 0, jI jZ 0, jI jZ 0, jI jZ 0, jI jZ 0, jI jZ 0, jS none 0 0, jI jZ 0, jI jZ 0, jI jZ hd.rep, jI jZ 0] 31, bx rt #[jI jZ r, jS A n c] 77, bx gh #[jI jZ hd.pos, jI jZ hd.cc, jI jZ hd.ck, jI jZ hd.cv, jI jZ hd.cur, jI jZ hd.want, jI jZ hd.key, jI jZ hd.kid, jI jZ hd.old, jI jZ hd.next, jI jZ hd.new, jS A' n' c', jI jZ hd.thn, jI jZ hd.beg, jI jZ hd.rep, jI jZ hd.out] 31, bx gt #[jI jZ r, jS A n c] 77, pin F w0] w) := Lib.hid S
   simp only [putF, Act.put, sa_, sb_, sc_, f0 rfl, f1 rfl, f2 rfl, f3 rfl]
   clear f0 f1 f2 f3
   go_wp2_with fail
   exact bodyPost_ret (results_cc rfl _ S.out 1 0 rfl rfl rfl rfl Try.isAgg77 Try.isAgg31 (by kernel_rfl) (by kernel_rfl)) rfl ⟨A, c, none, 0, 0, by rw [HLX.out]; rfl, by rw [HLX.out]; exact S.out.turned_pin 4 rfl HO.out, .inr ⟨rfl, rfl, rfl, by first | rfl | trivial⟩⟩
 · have g4 : decide ((40 : Int) ≤ (n : Int)) = false := by rw [decide_eq_false_iff_not]; omega
   have HN40 : Hid (n < 40) := Lib.hid (by omega)
   obtain rfl : rx = xs ++ [rootN hd] := by rw [DX.out, if_neg h4]
   obtain rfl : rh2 = { hd with new := n, pos := 11 } := by rw [DH.out, if_neg h4]
   clear DX DH h4
   have hl2 : (xs ++ [rootN hd]).length = n + 1 := by simp [HLX.out]
   rw [hl2]
   clear hl2
   go_enter Try.func104, Try.ntmps104
   go_wp2_with (first
       | go_skip
       | (clear tok0; refine bx_ 77 S rfl rfl rfl ?_; clear S; intro gt w S)
       | (clear tok1; refine bx_ 31 S rfl rfl rfl ?_; clear S; intro gh w S)
       | (clear tok2; refine nx_ 77 S rfl rfl Try.zeroValue77 ?_; clear S; intro rt w S)
       | (clear tok3; refine nx_ 31 S rfl rfl Try.zeroValue31 ?_; clear S; intro rh w S)
       | (refine wpList_op rfl (op_lenN _ _ _ rfl Try.underlying75 rfl ?_))
       | (refine wpList_op rfl (op_bsP2 _ _ rfl S.out rfl rfl ?_); clear S; intro gp w S; replace S := Lib.hid S)
       | (refine wpList_op rfl (op_bsN1 _ rfl S.out rfl ?_); clear S; intro gq w S; replace S := Lib.hid S)
       | (refine wpList_op rfl (op_appNode _ _ rfl S.out (rootN hd) 6 1 0 (by omega) rfl rfl rfl HO.out HLX.out (by have := HN40.out; omega) rfl rfl ?_); clear S; intro A5 c5 F5 w S; replace S : Hid (Sep F w0 [bx gq #[jI jZ hd.want, jS (some ⟨gp, 0, none⟩) 2 2, jI jZ (-1), jI jZ (-1), jI jZ 0] 101, em, bx rh #[jI jZ 0, jI jZ 0, jI jZ 0, jI jZ 0, jI jZ 0, jI jZ 0, jI jZ 0, jI jZ 0, jI jZ 0, jI jZ 0, jI jZ 0, jS none 0 0, jI jZ 0, jI jZ 0, jI jZ 0, jI jZ 0] 31, bx rt #[jI jZ 0, jS none 0 0] 77, bx gh #[jI jZ hd.pos, jI jZ hd.cc, jI jZ hd.ck, jI jZ hd.cv, jI jZ hd.cur, jI jZ hd.want, jI jZ hd.key, jI jZ hd.kid, jI jZ hd.old, jI jZ hd.next, jI jZ n, jS A' n' c', jI jZ hd.thn, jI jZ hd.beg, jI jZ hd.rep, jI jZ hd.out] 31, bx gt #[jI jZ r, jS A n c] 77, ow (jS A5 (n + 1) c5) (xs ++ [rootN hd]) F5] w) := Lib.hid S)
       | (refine wpList_op rfl (op_get 75 _ rfl S.out 3 rfl _ rfl Try.isAgg75 _ rfl ?_))
       | (refine wpList_op rfl (op_put1_2 2 _ _ rfl S _ rfl _ rfl rfl (by kernel_rfl) (of_decide_eq_true rfl) ?_); clear S; intro w S; replace S : Hid (Sep F w0 [bx rh #[jI jZ 0, jI jZ 0, jI jZ 0, jI jZ 0, jI jZ 0, jI jZ 0, jI jZ 0, jI jZ 0, jI jZ 0, jI jZ 0, jI jZ 0, jS none 0 0, jI jZ 0, jI jZ 0, jI jZ 0, jI jZ 0] 31, bx rt #[jI jZ 0, jS none 0 0] 77, bx gh #[jI jZ hd.pos, jI jZ hd.cc, jI jZ hd.ck, jI jZ hd.cv, jI jZ hd.cur, jI jZ hd.want, jI jZ hd.key, jI jZ hd.kid, jI jZ hd.old, jI jZ hd.next, jI jZ n, jS A' n' c', jI jZ hd.thn, jI jZ hd.beg, jI jZ hd.rep, jI jZ hd.out] 31, bx gt #[jI jZ r, jS A n c] 77, pin F w0] w) := S)
       | (refine wpList_op rfl (op_get 2 _ rfl S.out 2 rfl _ rfl Try.isAgg2 _ rfl ?_))
       | (refine wpList_op rfl (op_put1_5 75 _ _ rfl S _ rfl _ rfl rfl (by kernel_rfl) (of_decide_eq_true rfl) ?_); clear S; intro w S; replace S : Hid (Sep F w0 [bx gq #[jI jZ hd.want, jS (some ⟨gp, 0, none⟩) 2 2, jI jZ (-1), jI jZ (-1), jI jZ 0] 101, em, bx rh #[jI jZ 0, jI jZ 0, jI jZ 0, jI jZ 0, jI jZ 0, jI jZ 0, jI jZ 0, jI jZ 0, jI jZ 0, jI jZ 0, jI jZ 0, jS none 0 0, jI jZ 0, jI jZ 0, jI jZ 0, jI jZ 0] 31, bx rt #[jI jZ 0, jS none 0 0] 77, bx gh #[jI jZ hd.pos, jI jZ hd.cc, jI jZ hd.ck, jI jZ hd.cv, jI jZ hd.cur, jI jZ hd.want, jI jZ hd.key, jI jZ hd.kid, jI jZ hd.old, jI jZ hd.next, jI jZ n, jS A' n' c', jI jZ hd.thn, jI jZ hd.beg, jI jZ hd.rep, jI jZ hd.out] 31, bx gt #[jI jZ r, jS A5 (n + 1) c5] 77, ow (jS A5 (n + 1) c5) (xs ++ [rootN hd]) F5] w) := S)
       | (refine wpList_op rfl (op_put1_4 2 _ _ rfl S _ rfl _ rfl rfl (by kernel_rfl) (of_decide_eq_true rfl) ?_); clear S; intro w S; replace S : Hid (Sep F w0 [bx gq #[jI jZ hd.want, jS (some ⟨gp, 0, none⟩) 2 2, jI jZ (-1), jI jZ (-1), jI jZ 0] 101, em, bx rh #[jI jZ 0, jI jZ 0, jI jZ 0, jI jZ 0, jI jZ 0, jI jZ 0, jI jZ 0, jI jZ 0, jI jZ 0, jI jZ 0, jI jZ 0, jS none 0 0, jI jZ 0, jI jZ 0, jI jZ 0, jI jZ 0] 31, bx rt #[jI jZ 0, jS none 0 0] 77, bx gh #[jI jZ 11, jI jZ hd.cc, jI jZ hd.ck, jI jZ hd.cv, jI jZ hd.cur, jI jZ hd.want, jI jZ hd.key, jI jZ hd.kid, jI jZ hd.old, jI jZ hd.next, jI jZ n, jS A' n' c', jI jZ hd.thn, jI jZ hd.beg, jI jZ hd.rep, jI jZ hd.out] 31, bx gt #[jI jZ r, jS A5 (n + 1) c5] 77, ow (jS A5 (n + 1) c5) (xs ++ [rootN hd]) F5] w) := S))
   refine wp_region_ev (by kernel_rfl) _ (by kernel_rfl) (by kernel_rfl) 38 rfl (by kernel_rfl) (fun D V w => Sep F w0 [bx gq #[jI jZ hd.want, jS (some ⟨gp, 0, none⟩) 2 2, jI jZ (-1), jI jZ (-1), jI jZ 0] 101, em, cnd (D 3) (bx rh #[jI jZ 0, jI jZ 0, jI jZ 0, jI jZ 0, jI jZ 0, jI jZ 0, jI jZ 0, jI jZ 0, jI jZ 0, jI jZ 0, jI jZ 0, jS none 0 0, jI jZ 0, jI jZ 0, jI jZ 0, jI jZ 0] 31) (bx rh #[jI jZ 11, jI jZ hd.cc, jI jZ hd.ck, jI jZ hd.cv, jI jZ hd.cur, jI jZ hd.want, jI jZ hd.key, jI jZ hd.kid, jI jZ hd.old, jI jZ hd.next, jI jZ n, jS A' n' c', jI jZ hd.thn, jI jZ hd.beg, jI jZ hd.rep, jI jZ hd.out] 31), cnd (D 2) (bx rt #[jI jZ 0, jS none 0 0] 77) (bx rt #[jI jZ r, jS A5 (n + 1) c5] 77), bx gh #[jI jZ 11, jI jZ hd.cc, jI jZ hd.ck, jI jZ hd.cv, jI jZ hd.cur, jI jZ hd.want, jI jZ hd.key, jI jZ hd.kid, jI jZ hd.old, jI jZ hd.next, jI jZ n, jS A' n' c', jI jZ hd.thn, jI jZ hd.beg, jI jZ hd.rep, jI jZ hd.out] 31, bx gt #[jI jZ r, jS A5 (n + 1) c5] 77, ow (jS A5 (n + 1) c5) (xs ++ [rootN hd]) F5] w ∧ (D 0 = true → V 0 = .agg #[jI jZ r, jS A5 (n + 1) c5]) ∧ (D 1 = true → V 1 = .agg #[jI jZ 11, jI jZ hd.cc, jI jZ hd.ck, jI jZ hd.cv, jI jZ hd.cur, jI jZ hd.want, jI jZ hd.key, jI jZ hd.kid, jI jZ hd.old, jI jZ hd.next, jI jZ n, jS A' n' c', jI jZ hd.thn, jI jZ hd.beg, jI jZ hd.rep, jI jZ hd.out])) ?_ ?_ ?_
   · intro D hD
     have d2 := hD 2 (by decide)
     have d3 := hD 3 (by decide)
     exact ⟨by rw [cnd_f d3, cnd_f d2]; exact S.out.drew.ems 0, (nof (hD 0 (by decide))), (nof (hD 1 (by decide)))⟩
   · intro i o D V w a ho hI hDi haf hev
     obtain ⟨S, f0, f1⟩ := hI
     rcases i with _ | _ | _ | _ | i
     · obtain rfl := inj_ ho
       exact op_row 77 _ rfl S 5 rfl ((hev.old 2 (by kernel_rfl)).trans rfl) Try.isAgg77 (by kernel_rfl) ⟨_, rfl, S, fun _ => rfl, f1⟩
     · obtain rfl := inj_ ho
       exact op_row 31 _ rfl S 4 rfl ((hev.old 3 (by kernel_rfl)).trans rfl) Try.isAgg31 (by kernel_rfl) ⟨_, rfl, S, f0, fun _ => rfl⟩
     · obtain rfl := inj_ ho
       have h0 := aft_ haf 0 rfl
       exact op_putR 77 _ _ rfl S 3 (g := rt) (C := #[jI jZ 0, jS none 0 0]) (t := 77) (by simp only [gs_, gz_, cnd_f hDi]) ((hev.old 4 (by kernel_rfl)).trans rfl) _ (hev.at_ 0 36 rfl rfl h0 f0) rfl (by kernel_rfl) rfl (fun w S => ⟨_, rfl, S, f0, f1⟩)
     · obtain rfl := inj_ ho
       have h1 := aft_ haf 1 rfl
       exact op_putR 31 _ _ rfl S 2 (g := rh) (C := #[jI jZ 0, jI jZ 0, jI jZ 0, jI jZ 0, jI jZ 0, jI jZ 0, jI jZ 0, jI jZ 0, jI jZ 0, jI jZ 0, jI jZ 0, jS none 0 0, jI jZ 0, jI jZ 0, jI jZ 0, jI jZ 0]) (t := 31) (by simp only [gs_, gz_, cnd_f hDi]) ((hev.old 5 (by kernel_rfl)).trans rfl) _ (hev.at_ 1 37 rfl rfl h1 f1) rfl (by kernel_rfl) rfl (fun w S => ⟨_, rfl, S, f0, f1⟩)
     · exact absurd ho (by simp)
   intro V w hI
   obtain ⟨S, f0, f1⟩ := hI
   replace S : Hid (Sep F w0 [bx gq #[jI jZ hd.want, jS (some ⟨gp, 0, none⟩) 2 2, jI jZ (-1), jI jZ (-1), jI jZ 0] 101, em, bx rh #[jI jZ 11, jI jZ hd.cc, jI jZ hd.ck, jI jZ hd.cv, jI jZ hd.cur, jI jZ hd.want, jI jZ hd.key, jI jZ hd.kid, jI jZ hd.old, jI jZ hd.next, jI jZ n, jS A' n' c', jI jZ hd.thn, jI jZ hd.beg, jI jZ hd.rep, jI jZ hd.out] 31, bx rt #[jI jZ r, jS A5 (n + 1) c5] 77, bx gh #[jI jZ 11, jI jZ hd.cc, jI jZ hd.ck, jI jZ hd.cv, jI jZ hd.cur, jI jZ hd.want, jI jZ hd.key, jI jZ hd.kid, jI jZ hd.old, jI jZ hd.next, jI jZ n, jS A' n' c', jI jZ hd.thn, jI jZ hd.beg, jI jZ hd.rep, jI jZ hd.out] 31, bx gt #[jI jZ r, jS A5 (n + 1) c5] 77, ow (jS A5 (n + 1) c5) (xs ++ [rootN hd]) F5] w) := Lib.hid S
   simp only [putF, Act.put, sa_, sb_, sc_, f0 rfl, f1 rfl]
   clear f0 f1
   go_wp2_with fail
   exact bodyPost_ret (results_cc rfl _ S.out 3 2 rfl rfl rfl rfl Try.isAgg77 Try.isAgg31 (by kernel_rfl) (by kernel_rfl)) rfl ⟨A5, c5, A', n', c', rfl, S.out.turned 6 rfl, .inl ⟨rfl, rfl, rfl, by first | rfl | trivial⟩⟩
end Go.Proofs.Ytjookicpmjmdhaa
