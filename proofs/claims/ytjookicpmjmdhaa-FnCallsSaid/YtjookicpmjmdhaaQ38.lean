/- The walk of the model's l11Then. (Made by genY12.py.) -/
import Derived.Test.YtjookicpmjmdhaaQ32
import Derived.Test.YtjookicpmjmdhaaQ30
import Derived.Test.YtjookicpmjmdhaaQ34
open Go.Value renaming int → jI, slice → jS
open Go.IntKind renaming i64 → jZ
namespace Go.Proofs.Ytjookicpmjmdhaa
open Go.RowKit

section
variable {X : FP} {w0 w : World} {L : List Item} {o : Oper} {a : Act} {K : Act → World → Prop} {Q : Exit → Act → World → Prop}
theorem op_slToT (t e : TypeId) (sz k : Nat) (x y : Operand) (ho : o.op = .slice t x none (some y) none) (ht : Try.prog.underlying t = some (.slice e)) (hi : ∀ w, (sizeOf e).run Try.prog w = .ok sz w) {b off n c : Nat} (hx : a.eval x = jS (some ⟨b, off, none⟩) n c) (hy : a.eval y = jI jZ k) (hkc : k ≤ c) (hk0 : 0 < c)
   (hK : K (a.put o.dst (jS (some ⟨b, off, none⟩) k c)) w) : o.wp Try.prog a w K Q := by
 refine op_val ?_ hK
 have h1 : (k : Int) ≤ c := by omega
 have h2 : ¬ c = 0 := by omega
 generalize a.eval = E at hx hy ⊢
 simp [execOp, ho, hx, hy, go_sem, ht, hi, h1, h2]
theorem op_len (t e _ty : TypeId) (s : Operand) (ho : o.op = .call { callee := .builtin .len, args := #[s], argTypes := #[t] }) (ht : Try.prog.underlying t = some (.slice e)) {A : Option Addr} {n c : Nat} (hs : a.eval s = jS A n c)
   (hK : K (a.put o.dst (jI jZ n)) w) : o.wp Try.prog a w K Q := by
 refine op_val ?_ hK
 generalize a.eval = E at hs ⊢
 simp [execOp, ho, hs, resolve, invoke, builtin, go_sem, ht]
theorem OwnS.front {w : World} {g n c m : Nat} {xs : List Int} {F : FP} (h : OwnS w (jS (some ⟨g, 0, none⟩) n c) xs F) (hl : xs.length = n) (hm : m ≤ n) : OwnS w (jS (some ⟨g, 0, none⟩) m c) (xs.take m) F := by
 obtain ⟨h1, h2⟩ := h.ints
 have hlen : (xs.take m).length = m := by rw [List.length_take]; omega
 refine OwnS.of_ints (base := 0) (n := (xs.take m).length) ?_ (fun k hk => h2 k hk)
 rw [hlen]
 rcases h1 with ⟨e1, h3 | ⟨g', cap, cur, hv, hb, hg, k1, k2, k3, k4⟩⟩
 · exact absurd h3.1 (by simp)
 · cases hv
   refine ⟨by rw [IL_len, hlen]; omega, .inr ⟨g, c, cur, rfl, hb, hg, by omega, k2, k3, ?_⟩⟩
   have e3 : IL (xs.take m) = (IL xs).take m := by unfold IL; rw [List.map_take]
   rw [e3, ← k4, List.take_take]
   congr 1
   omega
end
def thenV (hd : Hd) (A' : Option Addr) (n' c' : Nat) : Value :=
 if hd.thn = 0 then hdV (thenH hd) none 0 0 else if hd.thn = 1 then hdV (thenH hd) A' n' c' else if 0 < n' then hdV (thenH hd) A' (n' - 1) c' else hdV (thenH hd) A' n' c'

set_option maxRecDepth 100000 in
set_option maxHeartbeats 16000000 in
theorem then_any (hd : Hd) (A' : Option Addr) (n' c' : Nat) (w0 : World) (hH : RS w0 w0.heap.size A' n' hd.st) (hc : n' ≤ c') (hc2 : c' ≤ 9223372036854775807) (hw : 0 ≤ hd.want ∧ hd.want ≤ 6) :
   Calls Try.prog 102 #[hdV hd A' n' c'] w0 fun e w' => e = .returned (thenV hd A' n' c') ∧ Below w0.heap.size w0 w' := by
 have RK := Lib.hid rest_any
 have W1 : IntKind.i64.wrap (hd.want + 1) = hd.want + 1 := IntWalk.i64_in _ (by omega)
 by_cases h0 : hd.thn = 0
 · have hE : thenV hd A' n' c' = hdV (restH hd.rep 0) none 0 0 := by unfold thenV thenH; simp only [if_pos h0]
   have g0 : (hd.thn == 0) = true := by simp [h0]
   rw [hE]
   clear hE h0 hw hH hc hc2
   have S := Lib.hid (Sep.start noX w0)
   have tok0 : True := trivial
   have tok1 : True := trivial
   unfold hdV at *
   go_enter Try.func102, Try.ntmps102
   go_wp2_with (first
       | go_skip
       | (clear tok0; refine bx_ 31 S rfl rfl rfl ?_; clear S; intro gh w S)
       | (clear tok1; refine nx_ 31 S rfl rfl Try.zeroValue31 ?_; clear S; intro rh w S)
       | (refine wpList_op rfl (op_get 2 _ rfl S.out 1 rfl _ rfl Try.isAgg2 _ rfl ?_)))
   refine (RK.out hd.rep 0 _).mono ?_
   rintro e w ⟨rfl, b⟩
   replace S := Lib.hid (S.out.call b)
   clear b
   go_wp2_with (first
       | go_skip
       | (refine wpList_op rfl (op_putR_0 31 _ _ rfl S rfl _ rfl rfl (by kernel_rfl) rfl ?_); clear S; intro w S))
   exact bodyPost_ret (results_c rfl _ S.out 0 rfl rfl Try.isAgg31 (by kernel_rfl)) rfl ⟨rfl, S.out.below⟩
 by_cases h1 : hd.thn = 1
 · have hE : thenV hd A' n' c' = hdV { hd with cur := hd.next, pos := 3 } A' n' c' := by unfold thenV thenH; simp only [if_neg h0, if_pos h1]
   have g0 : (hd.thn == 0) = false := by simp [h0]
   have g1 : (hd.thn == 1) = true := by simp [h1]
   rw [hE]
   clear hE h0 h1 hw hH hc hc2
   have S := Lib.hid (Sep.start noX w0)
   have tok0 : True := trivial
   have tok1 : True := trivial
   unfold hdV at *
   go_enter Try.func102, Try.ntmps102
   go_wp2_with (first
       | go_skip
       | (clear tok0; refine bx_ 31 S rfl rfl rfl ?_; clear S; intro gh w S)
       | (clear tok1; refine nx_ 31 S rfl rfl Try.zeroValue31 ?_; clear S; intro rh w S)
       | (refine wpList_op rfl (op_get 2 _ rfl S.out 1 rfl _ rfl Try.isAgg2 _ rfl ?_))
       | (refine wpList_op rfl (op_put1_1 2 _ _ rfl S _ rfl _ rfl rfl (by kernel_rfl) (of_decide_eq_true rfl) ?_); clear S; intro w S)
       | (refine wpList_op rfl (op_row 31 _ rfl S.out 1 rfl rfl Try.isAgg31 (by kernel_rfl) ?_))
       | (refine wpList_op rfl (op_putR_0 31 _ _ rfl S rfl _ rfl rfl (by kernel_rfl) rfl ?_); clear S; intro w S))
   exact bodyPost_ret (results_c rfl _ S.out 0 rfl rfl Try.isAgg31 (by kernel_rfl)) rfl ⟨rfl, S.out.below⟩
 have g0 : (hd.thn == 0) = false := by simp [h0]
 have g1 : (hd.thn == 1) = false := by simp [h1]
 by_cases h2 : 0 < n'
 · obtain ⟨m, rfl⟩ : ∃ m, n' = m + 1 := ⟨n' - 1, by omega⟩
   have hlen : hd.st.length = m + 1 := hH.1
   have hE : thenV hd A' (m + 1) c' = hdV { hd with want := hd.want + 1, cur := iAt hd.st m, st := hd.st.take m, pos := 3 } A' m c' := by unfold thenV thenH; simp only [if_neg h0, if_neg h1, if_pos h2, hlen]; rfl
   obtain ⟨b, off, rfl, hb, hcell⟩ := hH.2 h2
   obtain ⟨cs, hcs, hcl⟩ := hcell m (by omega)
   have hk0 : w0.cell? ⟨b, off + m * 1, none⟩ = some (jI jZ (iAt hd.st m)) := by
     have := hcl 0 (jI jZ (iAt hd.st m)) (by rw [show cs = [jI jZ (iAt hd.st m)] from hcs]; rfl)
     exact this
   have CC := Lib.hid hk0
   have HB := Lib.hid hb
   have HCC : Hid (m + 1 ≤ c') := Lib.hid hc
   have W2 : IntKind.i64.wrap ((m : Int) + 1 - 1) = (m : Int) := by rw [IntWalk.i64_in _ (by omega)]; omega
   have W3 : IntKind.i64.wrap (m : Int) = (m : Int) := IntWalk.i64_in _ (by omega)
   have g2 : decide (0 < (m : Int) + 1) = true := by rw [decide_eq_true_eq]; omega
   have g3 : decide (0 < m + 1) = true := by rw [decide_eq_true_eq]; omega
   rw [hE]
   generalize iAt hd.st m = tp at *
   clear hE h0 h1 h2 hw hH hc hc2 hlen hb hcell hcs hcl hk0
   have S := Lib.hid (Sep.start noX w0)
   have tok0 : True := trivial
   have tok1 : True := trivial
   unfold hdV at *
   go_enter Try.func102, Try.ntmps102
   go_wp2_with (first
       | go_skip
       | (clear tok0; refine bx_ 31 S rfl rfl rfl ?_; clear S; intro gh w S)
       | (clear tok1; refine nx_ 31 S rfl rfl Try.zeroValue31 ?_; clear S; intro rh w S)
       | (refine wpList_op rfl (op_idx _ _ _ rfl 2 1 Try.underlying29 Try.sizeOf2 (k := m) rfl rfl (by omega) ?_))
       | (refine wpList_op rfl (op_cell 2 _ rfl rfl Try.isAgg2 ((S.out.below.cell HB.out).trans CC.out) ?_))
       | (refine wpList_op rfl (op_slToT _ 2 1 m _ _ rfl Try.underlying29 Try.sizeOf2 rfl rfl (by have := HCC.out; omega) (by have := HCC.out; omega) ?_))
       | (refine wpList_op rfl (op_get 2 _ rfl S.out 1 rfl _ rfl Try.isAgg2 _ rfl ?_))
       | (refine wpList_op rfl (op_get 29 _ rfl S.out 1 rfl _ rfl Try.isAgg29 _ rfl ?_))
       | (refine wpList_op rfl (op_put1_1 2 _ _ rfl S _ rfl _ rfl rfl (by kernel_rfl) (of_decide_eq_true rfl) ?_); clear S; intro w S)
       | (refine wpList_op rfl (op_put1_1 29 _ _ rfl S _ rfl _ rfl rfl (by kernel_rfl) (of_decide_eq_true rfl) ?_); clear S; intro w S)
       | (refine wpList_op rfl (op_row 31 _ rfl S.out 1 rfl rfl Try.isAgg31 (by kernel_rfl) ?_))
       | (refine wpList_op rfl (op_putR_0 31 _ _ rfl S rfl _ rfl rfl (by kernel_rfl) rfl ?_); clear S; intro w S))
   exact bodyPost_ret (results_c rfl _ S.out 0 rfl rfl Try.isAgg31 (by kernel_rfl)) rfl ⟨rfl, S.out.below⟩
 · have hE : thenV hd A' n' c' = hdV { hd with want := hd.want + 1, pos := 9 } A' n' c' := by unfold thenV thenH; simp only [if_neg h0, if_neg h1, if_neg h2]; rw [if_neg (by rw [hH.1]; exact h2)]
   have g2 : decide ((0 : Int) < (n' : Int)) = false := by rw [decide_eq_false_iff_not]; omega
   have g3 : decide (0 < n') = false := by rw [decide_eq_false_iff_not]; omega
   rw [hE]
   clear hE h0 h1 h2 hw hH hc hc2
   have S := Lib.hid (Sep.start noX w0)
   have tok0 : True := trivial
   have tok1 : True := trivial
   unfold hdV at *
   go_enter Try.func102, Try.ntmps102
   go_wp2_with (first
       | go_skip
       | (clear tok0; refine bx_ 31 S rfl rfl rfl ?_; clear S; intro gh w S)
       | (clear tok1; refine nx_ 31 S rfl rfl Try.zeroValue31 ?_; clear S; intro rh w S)
       | (refine wpList_op rfl (op_get 2 _ rfl S.out 1 rfl _ rfl Try.isAgg2 _ rfl ?_))
       | (refine wpList_op rfl (op_get 29 _ rfl S.out 1 rfl _ rfl Try.isAgg29 _ rfl ?_))
       | (refine wpList_op rfl (op_put1_1 2 _ _ rfl S _ rfl _ rfl rfl (by kernel_rfl) (of_decide_eq_true rfl) ?_); clear S; intro w S)
       | (refine wpList_op rfl (op_row 31 _ rfl S.out 1 rfl rfl Try.isAgg31 (by kernel_rfl) ?_))
       | (refine wpList_op rfl (op_putR_0 31 _ _ rfl S rfl _ rfl rfl (by kernel_rfl) rfl ?_); clear S; intro w S))
   exact bodyPost_ret (results_c rfl _ S.out 0 rfl rfl Try.isAgg31 (by kernel_rfl)) rfl ⟨rfl, S.out.below⟩
end Go.Proofs.Ytjookicpmjmdhaa
namespace Go.Proofs.Ytjookicpmjmdhaa
open Go.RowKit

def halfN (xs : List Nd) (hd : Hd) (at_ : Int) : Bool := halfB (ndAt xs hd.cur.toNat) hd.key (pairV hd) at_
def upNd (xs : List Nd) (hd : Hd) (at_ : Int) : Nd := upH (ndAt xs hd.cur.toNat) hd.key (pairV hd) at_
def loNd (xs : List Nd) (hd : Hd) (at_ : Int) : Nd := loH (ndAt xs hd.cur.toNat) hd.key (pairV hd) at_
def makeX (xs : List Nd) (hd : Hd) : List Nd := if 40 ≤ xs.length then xs else if halfN xs hd xs.length then xs ++ [upNd xs hd xs.length] else xs
def makeH (xs : List Nd) (hd : Hd) : Hd := if 40 ≤ xs.length then freeH (if hd.want = 0 then { hd with rep := 3 } else hd) 0 else if halfN xs hd xs.length then { hd with new := xs.length, pos := 7 } else hd
def makeB (xs : List Nd) (hd : Hd) : Bool := decide (40 ≤ xs.length) || halfN xs hd xs.length
theorem makeS_eq (r : Int) (xs : List Nd) (hd : Hd) : makeS ⟨r, xs⟩ hd = if makeB xs hd then doneS ⟨r, makeX xs hd⟩ (makeH xs hd) else noneS := by
 unfold makeS makeX makeH makeB halfN upNd nodeT
 by_cases h : 40 ≤ xs.length
 · simp [h]
 · by_cases h2 : halfB (ndAt xs hd.cur.toNat) hd.key (pairV hd) xs.length = true
   · simp [h, h2]
   · simp [h, h2]
theorem makeH_st (xs : List Nd) (hd : Hd) : (makeH xs hd).st = hd.st := by
 unfold makeH freeH
 split
 · split <;> rfl
 · split <;> rfl
def GivesTH (F : FP) (w0 : World) (r : Int) (ys : List Nd) (h2 : Hd) (b : Bool) (A' : Option Addr) (n' c' : Nat) (e : Ending) (w' : World) : Prop :=
 ∃ A5 c5, e = .returned (.tuple #[.agg #[jI jZ r, jS A5 ys.length c5], hdV h2 A' n' c', .bool b]) ∧ Turned F w0 (jS A5 ys.length c5) ys w'

end Go.Proofs.Ytjookicpmjmdhaa
