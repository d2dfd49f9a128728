/- More laws at one operation: a struct loaded out of a slice's element, a node of a list. -/
import Derived.Test.YtjookicpmjmdhaaQ19
open Go.Value renaming int → jI, slice → jS
open Go.IntKind renaming i64 → jZ
namespace Go.Proofs.Ytjookicpmjmdhaa
open Go.RowKit

section
variable {X : FP} {w0 w : World} {L : List Item} {o : Oper} {a : Act} {K : Act → World → Prop} {Q : Exit → Act → World → Prop}
theorem op_cells {P : Program} (ty : TypeId) (x : Operand) (ho : o.op = .load ty x) {b j : Nat} (hx : a.eval x = .pointer (some ⟨b, j, none⟩)) (hu : ∀ w, (isAgg ty).run P w = .ok true w) (vs : List Value)
   (hc : ∀ k v, vs[k]? = some v → w.cell? ⟨b, j + k, none⟩ = some v) (hi : (P.info? ty).map (·.size) = some vs.length) (hK : K (a.put o.dst (.agg vs.toArray)) w) : o.wp P a w K Q := by
 have hc : ∀ k v, vs[k]? = some v → w.cell? ((⟨b, j, none⟩ : Addr).add k) = some v := fun k v hk => by
   have hadd : (⟨b, j, none⟩ : Addr).add k = ⟨b, j + k, none⟩ := by unfold Addr.add; split <;> simp_all
   rw [hadd]; exact hc k v hk
 have hl := run_loadCells_list (P := P) w ⟨b, j, none⟩ vs hc
 unfold Oper.wp execOp
 cases hq : P.info? ty with
 | none => rw [hq] at hi; cases hi
 | some q =>
   have hs : q.size = vs.length := by rw [hq] at hi; simpa using hi
   have hsz : ∀ w, (sizeOf ty).run P w = .ok vs.length w := fun w => by simp [sizeOf, typeInfo, hq, hs]
   simp only [ho, hx, Instr.loadAt, Instr.sureAddr, loadVar, Sem.run_bind, Sem.run_pure, Result.andThen_ok, hu, if_true, hsz, hl]
   exact hK
def NdAt (w : World) (b o : Nat) (x : Nd) (A : Option Addr) (n c : Nat) : Prop :=
 w.cell? ⟨b, o, none⟩ = some (jI jZ x.lv) ∧ w.cell? ⟨b, o + 1, none⟩ = some (.slice A n c) ∧ w.cell? ⟨b, o + 2, none⟩ = some (jI jZ x.hi) ∧ w.cell? ⟨b, o + 3, none⟩ = some (jI jZ x.ri) ∧ w.cell? ⟨b, o + 4, none⟩ = some (jI jZ x.ow)
theorem NdAt.keep {w w' : World} {b o : Nat} {x : Nd} {A : Option Addr} {n c : Nat} (h : NdAt w b o x A n c) (hk : ∀ j, w'.cell? ⟨b, j, none⟩ = w.cell? ⟨b, j, none⟩) : NdAt w' b o x A n c :=
 ⟨(hk _).trans h.1, (hk _).trans h.2.1, (hk _).trans h.2.2.1, (hk _).trans h.2.2.2.1, (hk _).trans h.2.2.2.2⟩
theorem Sep.nd (h : Sep noX w0 L w) {b o n c : Nat} {x : Nd} {A : Option Addr} (hb : b < w0.heap.size) (hx : NdAt w0 b o x A n c) : NdAt w b o x A n c := hx.keep fun _ => h.below.cell hb
theorem op_ndLoad (x : Operand) (ho : o.op = .load 101 x) {b j n c : Nat} {y : Nd} {A : Option Addr} (hx : a.eval x = .pointer (some ⟨b, j, none⟩)) (h : NdAt w b j y A n c)
   (hK : K (a.put o.dst (.agg #[jI jZ y.lv, jS A n c, jI jZ y.hi, jI jZ y.ri, jI jZ y.ow])) w) : o.wp Try.prog a w K Q := by
 obtain ⟨h0, h1, h2, h3, h4⟩ := h
 refine op_cells _ x ho hx Try.isAgg101 [jI jZ y.lv, jS A n c, jI jZ y.hi, jI jZ y.ri, jI jZ y.ow] (fun k v hk => ?_) (by kernel_rfl) hK
 rcases k with _ | _ | _ | _ | _ | k
 · cases hk; exact h0
 · cases hk; exact h1
 · cases hk; exact h2
 · cases hk; exact h3
 · cases hk; exact h4
 · simp at hk
theorem op_ndCell (f : Nat) (ty : TypeId) (x : Operand) (ho : o.op = .load ty x) {b j n c : Nat} {y : Nd} {A : Option Addr} (hx : a.eval x = .pointer (some ⟨b, j + f, none⟩)) (h : NdAt w b j y A n c) (hu : ∀ w, (isAgg ty).run Try.prog w = .ok false w)
   (v : Value) (hv : [Value.int .i64 y.lv, jS A n c, jI jZ y.hi, jI jZ y.ri, jI jZ y.ow][f]? = some v) (hK : K (a.put o.dst v) w) : o.wp Try.prog a w K Q := by
 refine op_cell ty x ho hx hu ?_ hK
 obtain ⟨h0, h1, h2, h3, h4⟩ := h
 rcases f with _ | _ | _ | _ | _ | f
 · cases hv; exact h0
 · cases hv; exact h1
 · cases hv; exact h2
 · cases hv; exact h3
 · cases hv; exact h4
 · simp at hv
end
theorem RS.ndAt {w : World} {B n : Nat} {A : Option Addr} {xs : List Nd} (h : RS w B A n xs) (k : Nat) (hk : k < n) :
   ∃ b off, A = some ⟨b, off, none⟩ ∧ b < B ∧ ∃ A2 n2 c2, NdAt w b (off + k * 5) (ndAt xs k) A2 n2 c2 ∧ RP w B A2 n2 (ndAt xs k).ps ∧ n2 ≤ c2 ∧ c2 ≤ 9223372036854775807 := by
 obtain ⟨b, off, e, hb, hc⟩ := h.nd (by omega)
 obtain ⟨A2, n2, c2, q0, q1, q2, q3, q4, hP, h5⟩ := hc k hk
 exact ⟨b, off, e, hb, A2, n2, c2, ⟨q0, q1, q2, q3, q4⟩, hP, h5⟩
theorem nodeOk_len {x : Nd} (hg : nodeOk x = true) : x.ps.length ≤ 1048576 := by
 unfold nodeOk at hg
 simp only [Bool.and_eq_true, decide_eq_true_eq] at hg
 have := hg.1.1.1.1.2
 omega
end Go.Proofs.Ytjookicpmjmdhaa
namespace Go.Proofs.Ytjookicpmjmdhaa
open Go.RowKit

instance encHd : Enc Hd where
 ty := 31
 sz := 16
 dflt := zeroH
 Is := fun w B cs x => ∃ A n c, cs = (hdC x A n c).toList ∧ RS w B A n x.st ∧ n ≤ c ∧ c ≤ 9223372036854775807
 Own := fun w cs x F => ∃ A c, cs = (hdC x A x.st.length c).toList ∧ OwnS w (jS A x.st.length c) x.st F
 is_len := fun ⟨_, _, _, h, _⟩ => by rw [h]; rfl
 is_keep := fun ⟨A, n, c, h, hR, hc⟩ hk => ⟨A, n, c, h, hR.keep hk, hc⟩
 is_more := fun ⟨A, n, c, h, hR, hc⟩ hB => ⟨A, n, c, h, hR.more hB, hc⟩
 own_is := fun ⟨A, c, h, ho⟩ => by
   obtain ⟨A', c', hv', hc, hm⟩ := ho.form
   obtain ⟨rfl, rfl⟩ : A = A' ∧ c = c' := by simpa using hv'
   exact ⟨A, _, c, h, OwnS.rs ho rfl, hc, hm⟩
 own_keep := fun ⟨A, c, h, ho⟩ hk => ⟨A, c, h, ho.keep hk⟩
 own_more := fun ⟨A, c, h, ho⟩ hs => ⟨A, c, h, ho.more hs⟩

def dlC (d : Dl) : List Value := [jI jZ d.task, jI jZ d.cc, jI jZ d.ck, jI jZ d.cv, jI jZ d.beg, jI jZ d.fin, jI jZ d.rep, jI jZ d.out]
instance encDl : Enc Dl where
 ty := 104
 sz := 8
 dflt := ⟨0, 0, 0, 0, 0, 0, 0, 0⟩
 Is := fun _ _ cs x => cs = dlC x
 Own := fun _ cs x _ => cs = dlC x
 is_len := fun h => by rw [h]; rfl
 is_keep := fun h _ => h
 is_more := fun h _ => h
 own_is := fun h => h
 own_keep := fun h _ => h
 own_more := fun h _ => h

theorem el_hand (x : Hd) (A : Option Addr) (c : Nat) (G : FP) : ∀ w, (ow (jS A x.st.length c) x.st G).P w → encHd.Own w (hdC x A x.st.length c).toList x G := fun _ h => ⟨A, c, rfl, h⟩

theorem hand_info : (Try.prog.info? 31).map (fun i => (i.zero, i.size)) = some (some (.agg #[jI jZ 0, jI jZ 0, jI jZ 0, jI jZ 0, jI jZ 0, jI jZ 0, jI jZ 0, jI jZ 0, jI jZ 0, jI jZ 0, jI jZ 0, jS none 0 0, jI jZ 0, jI jZ 0, jI jZ 0, jI jZ 0]), 16) := by kernel_rfl
theorem deal_info : (Try.prog.info? 104).map (fun i => (i.zero, i.size)) = some (some (.agg #[jI jZ 0, jI jZ 0, jI jZ 0, jI jZ 0, jI jZ 0, jI jZ 0, jI jZ 0, jI jZ 0]), 8) := by kernel_rfl
theorem hand_bytes : (Try.prog.info? 31).map (·.bytes) = some 144 := by kernel_rfl
theorem deal_bytes : (Try.prog.info? 104).map (·.bytes) = some 64 := by kernel_rfl

theorem RS.hdAt {w : World} {B n : Nat} {A : Option Addr} {xs : List Hd} (h : RS w B A n xs) (k : Nat) (hk : k < n) :
   ∃ b off, A = some ⟨b, off, none⟩ ∧ b < B ∧ ∃ A2 n2 c2, (∀ j u, (hdC (hdAt xs k) A2 n2 c2).toList[j]? = some u → w.cell? ⟨b, off + k * 16 + j, none⟩ = some u) ∧ RS w B A2 n2 (hdAt xs k).st ∧ n2 ≤ c2 ∧ c2 ≤ 9223372036854775807 := by
 obtain ⟨b, off, e, hb, hc⟩ := h.2 (by omega)
 obtain ⟨cs, ⟨A2, n2, c2, h1, h2, h3⟩, h4⟩ := hc k hk
 subst h1
 exact ⟨b, off, e, hb, A2, n2, c2, h4, h2, h3⟩
theorem RS.dlAt {w : World} {B n : Nat} {A : Option Addr} {xs : List Dl} (h : RS w B A n xs) (k : Nat) (hk : k < n) :
   ∃ b off, A = some ⟨b, off, none⟩ ∧ b < B ∧ ∀ j u, (dlC (xs.getD k encDl.dflt))[j]? = some u → w.cell? ⟨b, off + k * 8 + j, none⟩ = some u := by
 obtain ⟨b, off, e, hb, hc⟩ := h.2 (by omega)
 obtain ⟨cs, h1, h4⟩ := hc k hk
 have h1 : cs = dlC (xs.getD k encDl.dflt) := h1
 subst h1
 exact ⟨b, off, e, hb, h4⟩

theorem quiet_cells {P : Program} {C : World → Prop} {o : Oper} {a : Act} {K : Act → Prop} (ty : TypeId) (x : Operand) (ho : o.op = .load ty x) {b j : Nat} (hx : a.eval x = .pointer (some ⟨b, j, none⟩)) (hu : ∀ w, (isAgg ty).run P w = .ok true w) (vs : List Value)
   (hc : ∀ w, C w → ∀ k v, vs[k]? = some v → w.cell? ⟨b, j + k, none⟩ = some v) (hi : (P.info? ty).map (·.size) = some vs.length) (hK : K (a.put o.dst (.agg vs.toArray))) : o.quiet P a C K := by
 refine ⟨.agg vs.toArray, fun w hw => ?_, hK⟩
 have hc : ∀ k v, vs[k]? = some v → w.cell? ((⟨b, j, none⟩ : Addr).add k) = some v := fun k v hk => by
   have hadd : (⟨b, j, none⟩ : Addr).add k = ⟨b, j + k, none⟩ := by unfold Addr.add; split <;> simp_all
   rw [hadd]; exact hc w hw k v hk
 have hl := run_loadCells_list (P := P) w ⟨b, j, none⟩ vs hc
 unfold Oper.quietAt execOp
 cases hq : P.info? ty with
 | none => rw [hq] at hi; cases hi
 | some q =>
   have hs : q.size = vs.length := by rw [hq] at hi; simpa using hi
   have hsz : ∀ w, (sizeOf ty).run P w = .ok vs.length w := fun w => by simp [sizeOf, typeInfo, hq, hs]
   simp only [ho, hx, Instr.loadAt, Instr.sureAddr, loadVar, Sem.run_bind, Sem.run_pure, Result.andThen_ok, hu, if_true, hsz, hl]
   exact ⟨rfl, rfl⟩
theorem op_cells0 {w0 w : World} {L : List Item} {o : Oper} {a : Act} {K : Act → World → Prop} {Q : Exit → Act → World → Prop} (ty : TypeId) (x : Operand) (ho : o.op = .load ty x) (h : Sep noX w0 L w) {b j : Nat} (hb : b < w0.heap.size) (hx : a.eval x = .pointer (some ⟨b, j, none⟩)) (hu : ∀ w, (isAgg ty).run Try.prog w = .ok true w) (vs : List Value)
   (hc : ∀ k v, vs[k]? = some v → w0.cell? ⟨b, j + k, none⟩ = some v) (hi : (Try.prog.info? ty).map (·.size) = some vs.length) (C : Array Value) (hC : C = vs.toArray) (hK : K (a.put o.dst (.agg C)) w) : o.wp Try.prog a w K Q := by
 subst hC
 exact op_cells ty x ho hx hu vs (fun k v hk => (h.below.cell hb).trans (hc k v hk)) hi hK
end Go.Proofs.Ytjookicpmjmdhaa
namespace Go.Proofs.Ytjookicpmjmdhaa
open Go.RowKit

theorem now_any (x : Int) (w : World) : Calls Try.prog 77 #[jI jZ x] w fun e w' => e = .returned (.bool (inB x 0 20000)) ∧ w = w' := by
 go_enter Try.func77, Try.ntmps77
 go_wp2_with (go_at_call 44; refine (in_any _ _ _ _).mono ?_; rintro e w' ⟨rfl, rfl⟩)
 go_ret
 exact ⟨rfl, rfl⟩
set_option maxRecDepth 100000 in
theorem task_any (r now who : Int) (A : Option Addr) (n c : Nat) (A1 : Option Addr) (n1 c1 : Nat) (A2 : Option Addr) (n2 c2 : Nat) (w0 : World) (hn : n1 ≤ 1048576) :
   Calls Try.prog 75 #[.agg #[jI jZ r, jS A n c, jS A1 n1 c1, jS A2 n2 c2, jI jZ now], jI jZ who] w0 fun e w' => e = .returned (.bool (hasB n1 who)) ∧ Below w0.heap.size w0 w' := by
 unfold hasB
 have S := Lib.hid (Sep.start noX w0)
 have tok0 : True := trivial
 go_enter Try.func75, Try.ntmps75
 go_wp2_with (first
     | go_skip
     | (clear tok0; refine bx_ 81 S rfl rfl rfl ?_; clear S; intro gw w S)
     | (refine wpList_op rfl (op_get 78 _ rfl S.out 0 rfl _ rfl Try.isAgg78 _ rfl ?_)))
 refine (in_any _ _ _ _).mono ?_
 rintro e w9 ⟨rfl, rfl⟩
 go_wp2_with fail
 go_ret
 exact ⟨rfl, S.out.below⟩
def dealAt (ds : List Dl) (i : Nat) : Dl := ds.getD i encDl.dflt
theorem all_no {α : Type} {d : α} {xs : List α} {p : α → Bool} {k : Nat} (hk : k < xs.length) (h : p (xs.getD k d) = false) : xs.all p = false := by
 rw [List.all_eq_false]
 refine ⟨xs[k], List.getElem_mem hk, ?_⟩
 have : xs.getD k d = xs[k] := by simp [hk]
 rw [this] at h
 simp [h]
theorem all_yes {α : Type} {d : α} {xs : List α} {p : α → Bool} (h : ∀ j, j < xs.length → p (xs.getD j d) = true) : xs.all p = true := by
 rw [List.all_eq_true]
 intro x hx
 obtain ⟨i, hi, rfl⟩ := List.getElem_of_mem hx
 have := h i hi
 have e : xs.getD i d = xs[i] := by simp [hi]
 rwa [e] at this
structure IsW (w : World) (B : Nat) (W : Wd) (A : Option Addr) (n : Nat) (A1 : Option Addr) (n1 : Nat) (A2 : Option Addr) (n2 : Nat) : Prop where
 ns : RS w B A n W.ns
 sm : Small.sm W.ns
 hs : RS w B A1 n1 W.hs
 ds : RS w B A2 n2 W.ds
 h1 : n1 ≤ 1048576
 h2 : n2 ≤ 1048576

set_option maxRecDepth 100000 in
set_option maxHeartbeats 16000000 in
theorem world_no0 (W : Wd) (A : Option Addr) (n c : Nat) (A1 : Option Addr) (n1 c1 : Nat) (A2 : Option Addr) (n2 c2 : Nat) (w0 : World) (hW : IsW w0 w0.heap.size W A n A1 n1 A2 n2) (q0 : ¬ (treeOk W.root W.ns = true)) :
   Calls Try.prog 74 #[.agg #[jI jZ W.root, jS A n c, jS A1 n1 c1, jS A2 n2 c2, jI jZ W.now]] w0 fun e w' => e = .returned (.bool (worldOk W)) ∧ Below w0.heap.size w0 w' := by
 have TK := Lib.hid (fun w hR => sTreeOk_any W.root W.ns A n c w hR hW.sm)
 have HN := Lib.hid hW.ns
 have HH := Lib.hid hW.hs
 have HD := Lib.hid hW.ds
 have L1 := Lib.hid hW.hs.1
 have L2 := Lib.hid hW.ds.1
 have hb1 := hW.h1
 have hb2 := hW.h2
 have l1 : W.hs.length = n1 := hW.hs.1
 have l2 : W.ds.length = n2 := hW.ds.1
 have e1 : worldOk W = false := by
   unfold worldOk
   rw [l1, l2]
   simp [q0]
 rw [e1]
 have t0 : treeOk W.root W.ns = false := by simpa using q0
 rw [t0] at TK
 obtain ⟨r, hr⟩ : ∃ r, r = W.root := ⟨_, rfl⟩
 obtain ⟨now, hnow⟩ : ∃ now, now = W.now := ⟨_, rfl⟩
 rw [← hr] at TK
 rw [← hr, ← hnow]
 clear e1 l1 l2 hb1 hb2 hW q0 t0 L1 L2 HH HD hr hnow
 have S := Lib.hid (Sep.start noX w0)
 have tok0 : True := trivial
 go_enter Try.func74, Try.ntmps74
 go_wp2_with (first
     | go_skip
     | (clear tok0; refine bx_ 81 S rfl rfl rfl ?_; clear S; intro gw w S)
     | (refine wpList_op rfl (op_getK 77 _ rfl S.out 0 rfl 0 rfl Try.isAgg77 [jI jZ r, jS A n c] rfl (by kernel_rfl) ?_)))
 refine (TK.out _ (S.out.rs HN.out)).mono ?_
 rintro e w ⟨rfl, b⟩
 replace S := Lib.hid (S.out.call b)
 clear b
 go_wp2_with (first
     | go_skip
     | (refine wpList_op rfl (op_get 78 _ rfl S.out 0 rfl _ rfl Try.isAgg78 _ rfl ?_))
     | (refine wpList_op rfl (op_get 79 _ rfl S.out 0 rfl _ rfl Try.isAgg79 _ rfl ?_))
     | (refine wpList_op rfl (op_get 2 _ rfl S.out 0 rfl _ rfl Try.isAgg2 _ rfl ?_)))
 go_ret
 exact ⟨rfl, S.out.below⟩

set_option maxRecDepth 100000 in
set_option maxHeartbeats 16000000 in
theorem world_no1 (W : Wd) (A : Option Addr) (n c : Nat) (A1 : Option Addr) (n1 c1 : Nat) (A2 : Option Addr) (n2 c2 : Nat) (w0 : World) (hW : IsW w0 w0.heap.size W A n A1 n1 A2 n2) (q0 : treeOk W.root W.ns = true) (q1 : ¬ (1 ≤ n1)) :
   Calls Try.prog 74 #[.agg #[jI jZ W.root, jS A n c, jS A1 n1 c1, jS A2 n2 c2, jI jZ W.now]] w0 fun e w' => e = .returned (.bool (worldOk W)) ∧ Below w0.heap.size w0 w' := by
 have TK := Lib.hid (fun w hR => sTreeOk_any W.root W.ns A n c w hR hW.sm)
 have HN := Lib.hid hW.ns
 have HH := Lib.hid hW.hs
 have HD := Lib.hid hW.ds
 have L1 := Lib.hid hW.hs.1
 have L2 := Lib.hid hW.ds.1
 have hb1 := hW.h1
 have hb2 := hW.h2
 have l1 : W.hs.length = n1 := hW.hs.1
 have l2 : W.ds.length = n2 := hW.ds.1
 have e1 : worldOk W = false := by
   unfold worldOk
   rw [l1, l2]
   simp [q0, q1]
 rw [e1]
 rw [q0] at TK
 have ga1 : decide (n1 < 1) = true := by rw [decide_eq_true_eq]; omega
 have gb1 : decide ((n1 : Int) < 1) = true := by rw [decide_eq_true_eq]; omega
 obtain ⟨r, hr⟩ : ∃ r, r = W.root := ⟨_, rfl⟩
 obtain ⟨now, hnow⟩ : ∃ now, now = W.now := ⟨_, rfl⟩
 rw [← hr] at TK
 rw [← hr, ← hnow]
 clear e1 l1 l2 hb1 hb2 hW q0 q1 L1 L2 HH HD hr hnow
 have S := Lib.hid (Sep.start noX w0)
 have tok0 : True := trivial
 go_enter Try.func74, Try.ntmps74
 go_wp2_with (first
     | go_skip
     | (clear tok0; refine bx_ 81 S rfl rfl rfl ?_; clear S; intro gw w S)
     | (refine wpList_op rfl (op_getK 77 _ rfl S.out 0 rfl 0 rfl Try.isAgg77 [jI jZ r, jS A n c] rfl (by kernel_rfl) ?_)))
 refine (TK.out _ (S.out.rs HN.out)).mono ?_
 rintro e w ⟨rfl, b⟩
 replace S := Lib.hid (S.out.call b)
 clear b
 go_wp2_with (first
     | go_skip
     | (refine wpList_op rfl (op_get 78 _ rfl S.out 0 rfl _ rfl Try.isAgg78 _ rfl ?_))
     | (refine wpList_op rfl (op_get 79 _ rfl S.out 0 rfl _ rfl Try.isAgg79 _ rfl ?_))
     | (refine wpList_op rfl (op_get 2 _ rfl S.out 0 rfl _ rfl Try.isAgg2 _ rfl ?_)))
 go_ret
 exact ⟨rfl, S.out.below⟩

set_option maxRecDepth 100000 in
set_option maxHeartbeats 16000000 in
theorem world_no2 (W : Wd) (A : Option Addr) (n c : Nat) (A1 : Option Addr) (n1 c1 : Nat) (A2 : Option Addr) (n2 c2 : Nat) (w0 : World) (hW : IsW w0 w0.heap.size W A n A1 n1 A2 n2) (q0 : treeOk W.root W.ns = true) (q1 : 1 ≤ n1) (q2 : ¬ (n1 ≤ 6)) :
   Calls Try.prog 74 #[.agg #[jI jZ W.root, jS A n c, jS A1 n1 c1, jS A2 n2 c2, jI jZ W.now]] w0 fun e w' => e = .returned (.bool (worldOk W)) ∧ Below w0.heap.size w0 w' := by
 have TK := Lib.hid (fun w hR => sTreeOk_any W.root W.ns A n c w hR hW.sm)
 have HN := Lib.hid hW.ns
 have HH := Lib.hid hW.hs
 have HD := Lib.hid hW.ds
 have L1 := Lib.hid hW.hs.1
 have L2 := Lib.hid hW.ds.1
 have hb1 := hW.h1
 have hb2 := hW.h2
 have l1 : W.hs.length = n1 := hW.hs.1
 have l2 : W.ds.length = n2 := hW.ds.1
 have e1 : worldOk W = false := by
   unfold worldOk
   rw [l1, l2]
   simp [q0, q1, q2]
 rw [e1]
 rw [q0] at TK
 have ga1 : decide (n1 < 1) = false := by rw [decide_eq_false_iff_not]; omega
 have gb1 : decide ((n1 : Int) < 1) = false := by rw [decide_eq_false_iff_not]; omega
 have ga2 : decide (6 < n1) = true := by rw [decide_eq_true_eq]; omega
 have gb2 : decide ((6 : Int) < (n1 : Int)) = true := by rw [decide_eq_true_eq]; omega
 obtain ⟨r, hr⟩ : ∃ r, r = W.root := ⟨_, rfl⟩
 obtain ⟨now, hnow⟩ : ∃ now, now = W.now := ⟨_, rfl⟩
 rw [← hr] at TK
 rw [← hr, ← hnow]
 clear e1 l1 l2 hb1 hb2 hW q0 q1 q2 L1 L2 HH HD hr hnow
 have S := Lib.hid (Sep.start noX w0)
 have tok0 : True := trivial
 go_enter Try.func74, Try.ntmps74
 go_wp2_with (first
     | go_skip
     | (clear tok0; refine bx_ 81 S rfl rfl rfl ?_; clear S; intro gw w S)
     | (refine wpList_op rfl (op_getK 77 _ rfl S.out 0 rfl 0 rfl Try.isAgg77 [jI jZ r, jS A n c] rfl (by kernel_rfl) ?_)))
 refine (TK.out _ (S.out.rs HN.out)).mono ?_
 rintro e w ⟨rfl, b⟩
 replace S := Lib.hid (S.out.call b)
 clear b
 go_wp2_with (first
     | go_skip
     | (refine wpList_op rfl (op_get 78 _ rfl S.out 0 rfl _ rfl Try.isAgg78 _ rfl ?_))
     | (refine wpList_op rfl (op_get 79 _ rfl S.out 0 rfl _ rfl Try.isAgg79 _ rfl ?_))
     | (refine wpList_op rfl (op_get 2 _ rfl S.out 0 rfl _ rfl Try.isAgg2 _ rfl ?_)))
 go_ret
 exact ⟨rfl, S.out.below⟩

set_option maxRecDepth 100000 in
set_option maxHeartbeats 16000000 in
theorem world_no3 (W : Wd) (A : Option Addr) (n c : Nat) (A1 : Option Addr) (n1 c1 : Nat) (A2 : Option Addr) (n2 c2 : Nat) (w0 : World) (hW : IsW w0 w0.heap.size W A n A1 n1 A2 n2) (q0 : treeOk W.root W.ns = true) (q1 : 1 ≤ n1) (q2 : n1 ≤ 6) (q3 : ¬ (n2 ≤ 1000)) :
   Calls Try.prog 74 #[.agg #[jI jZ W.root, jS A n c, jS A1 n1 c1, jS A2 n2 c2, jI jZ W.now]] w0 fun e w' => e = .returned (.bool (worldOk W)) ∧ Below w0.heap.size w0 w' := by
 have TK := Lib.hid (fun w hR => sTreeOk_any W.root W.ns A n c w hR hW.sm)
 have HN := Lib.hid hW.ns
 have HH := Lib.hid hW.hs
 have HD := Lib.hid hW.ds
 have L1 := Lib.hid hW.hs.1
 have L2 := Lib.hid hW.ds.1
 have hb1 := hW.h1
 have hb2 := hW.h2
 have l1 : W.hs.length = n1 := hW.hs.1
 have l2 : W.ds.length = n2 := hW.ds.1
 have e1 : worldOk W = false := by
   unfold worldOk
   rw [l1, l2]
   simp [q0, q1, q2, q3]
 rw [e1]
 rw [q0] at TK
 have ga1 : decide (n1 < 1) = false := by rw [decide_eq_false_iff_not]; omega
 have gb1 : decide ((n1 : Int) < 1) = false := by rw [decide_eq_false_iff_not]; omega
 have ga2 : decide (6 < n1) = false := by rw [decide_eq_false_iff_not]; omega
 have gb2 : decide ((6 : Int) < (n1 : Int)) = false := by rw [decide_eq_false_iff_not]; omega
 have ga3 : decide (1000 < n2) = true := by rw [decide_eq_true_eq]; omega
 have gb3 : decide ((1000 : Int) < (n2 : Int)) = true := by rw [decide_eq_true_eq]; omega
 obtain ⟨r, hr⟩ : ∃ r, r = W.root := ⟨_, rfl⟩
 obtain ⟨now, hnow⟩ : ∃ now, now = W.now := ⟨_, rfl⟩
 rw [← hr] at TK
 rw [← hr, ← hnow]
 clear e1 l1 l2 hb1 hb2 hW q0 q1 q2 q3 L1 L2 HH HD hr hnow
 have S := Lib.hid (Sep.start noX w0)
 have tok0 : True := trivial
 go_enter Try.func74, Try.ntmps74
 go_wp2_with (first
     | go_skip
     | (clear tok0; refine bx_ 81 S rfl rfl rfl ?_; clear S; intro gw w S)
     | (refine wpList_op rfl (op_getK 77 _ rfl S.out 0 rfl 0 rfl Try.isAgg77 [jI jZ r, jS A n c] rfl (by kernel_rfl) ?_)))
 refine (TK.out _ (S.out.rs HN.out)).mono ?_
 rintro e w ⟨rfl, b⟩
 replace S := Lib.hid (S.out.call b)
 clear b
 go_wp2_with (first
     | go_skip
     | (refine wpList_op rfl (op_get 78 _ rfl S.out 0 rfl _ rfl Try.isAgg78 _ rfl ?_))
     | (refine wpList_op rfl (op_get 79 _ rfl S.out 0 rfl _ rfl Try.isAgg79 _ rfl ?_))
     | (refine wpList_op rfl (op_get 2 _ rfl S.out 0 rfl _ rfl Try.isAgg2 _ rfl ?_)))
 go_ret
 exact ⟨rfl, S.out.below⟩

set_option maxRecDepth 100000 in
set_option maxHeartbeats 16000000 in
theorem world_no4 (W : Wd) (A : Option Addr) (n c : Nat) (A1 : Option Addr) (n1 c1 : Nat) (A2 : Option Addr) (n2 c2 : Nat) (w0 : World) (hW : IsW w0 w0.heap.size W A n A1 n1 A2 n2) (q0 : treeOk W.root W.ns = true) (q1 : 1 ≤ n1) (q2 : n1 ≤ 6) (q3 : n2 ≤ 1000) (q4 : ¬ (inB W.now 0 20000 = true)) :
   Calls Try.prog 74 #[.agg #[jI jZ W.root, jS A n c, jS A1 n1 c1, jS A2 n2 c2, jI jZ W.now]] w0 fun e w' => e = .returned (.bool (worldOk W)) ∧ Below w0.heap.size w0 w' := by
 have TK := Lib.hid (fun w hR => sTreeOk_any W.root W.ns A n c w hR hW.sm)
 have HN := Lib.hid hW.ns
 have HH := Lib.hid hW.hs
 have HD := Lib.hid hW.ds
 have L1 := Lib.hid hW.hs.1
 have L2 := Lib.hid hW.ds.1
 have hb1 := hW.h1
 have hb2 := hW.h2
 have l1 : W.hs.length = n1 := hW.hs.1
 have l2 : W.ds.length = n2 := hW.ds.1
 have e1 : worldOk W = false := by
   unfold worldOk
   rw [l1, l2]
   simp [q0, q1, q2, q3, q4]
 rw [e1]
 rw [q0] at TK
 have ga1 : decide (n1 < 1) = false := by rw [decide_eq_false_iff_not]; omega
 have gb1 : decide ((n1 : Int) < 1) = false := by rw [decide_eq_false_iff_not]; omega
 have ga2 : decide (6 < n1) = false := by rw [decide_eq_false_iff_not]; omega
 have gb2 : decide ((6 : Int) < (n1 : Int)) = false := by rw [decide_eq_false_iff_not]; omega
 have ga3 : decide (1000 < n2) = false := by rw [decide_eq_false_iff_not]; omega
 have gb3 : decide ((1000 : Int) < (n2 : Int)) = false := by rw [decide_eq_false_iff_not]; omega
 have n0 : inB W.now 0 20000 = false := by simpa using q4
 have NW : ∀ w, Calls Try.prog 77 #[jI jZ W.now] w fun e w' => e = .returned (.bool false) ∧ w = w' := fun w => by rw [← n0]; exact now_any _ w
 obtain ⟨r, hr⟩ : ∃ r, r = W.root := ⟨_, rfl⟩
 obtain ⟨now, hnow⟩ : ∃ now, now = W.now := ⟨_, rfl⟩
 rw [← hr] at TK
 rw [← hr, ← hnow]
 rw [← hnow] at NW
 have NK := Lib.hid NW
 clear e1 l1 l2 hb1 hb2 hW q0 q1 q2 q3 q4 n0 NW L1 L2 HH HD hr hnow
 have S := Lib.hid (Sep.start noX w0)
 have tok0 : True := trivial
 go_enter Try.func74, Try.ntmps74
 go_wp2_with (first
     | go_skip
     | (clear tok0; refine bx_ 81 S rfl rfl rfl ?_; clear S; intro gw w S)
     | (refine wpList_op rfl (op_getK 77 _ rfl S.out 0 rfl 0 rfl Try.isAgg77 [jI jZ r, jS A n c] rfl (by kernel_rfl) ?_)))
 refine (TK.out _ (S.out.rs HN.out)).mono ?_
 rintro e w ⟨rfl, b⟩
 replace S := Lib.hid (S.out.call b)
 clear b
 go_wp2_with (first
     | go_skip
     | (go_at_call 77; refine (NK.out _).mono ?_; rintro e w9 ⟨rfl, rfl⟩)
     | (refine wpList_op rfl (op_get 78 _ rfl S.out 0 rfl _ rfl Try.isAgg78 _ rfl ?_))
     | (refine wpList_op rfl (op_get 79 _ rfl S.out 0 rfl _ rfl Try.isAgg79 _ rfl ?_))
     | (refine wpList_op rfl (op_get 2 _ rfl S.out 0 rfl _ rfl Try.isAgg2 _ rfl ?_)))
 go_ret
 exact ⟨rfl, S.out.below⟩

end Go.Proofs.Ytjookicpmjmdhaa
