/- The walks of the model's Resting, l1Copy, l8Copy, Called. -/
import Derived.Test.YtjookicpmjmdhaaQ11
import Derived.Test.YtjookicpmjmdhaaQ07
import Derived.Laws.Tables
import Derived.Laws.ResultCell
import Derived.Deep.WholeRow
import Derived.Deep.Cut
open Go.Value renaming int → jI, slice → jS
open Go.IntKind renaming i64 → jZ
namespace Go.Proofs.Ytjookicpmjmdhaa
open Go.RowKit

def GivesH (w : World) (h : Hd) (e : Ending) (w' : World) : Prop := ∃ A c F, e = .returned (hdV h A h.st.length c) ∧ OwnS w' (jS A h.st.length c) h.st F ∧ Fresh F w w' ∧ Below w.heap.size w w'

def hdC (h : Hd) (A : Option Addr) (n c : Nat) : Array Value := #[jI jZ h.pos, jI jZ h.cc, jI jZ h.ck, jI jZ h.cv, jI jZ h.cur, jI jZ h.want, jI jZ h.key, jI jZ h.kid, jI jZ h.old, jI jZ h.next, jI jZ h.new, jS A n c, jI jZ h.thn, jI jZ h.beg, jI jZ h.rep, jI jZ h.out]
theorem hand_size : (Try.prog.info? 31).map (·.size) = some 16 := by kernel_rfl
theorem hdC_one (h : Hd) (A : Option Addr) (n c : Nat) : (hdC h A n c).all (·.oneCell') = true := by simp [hdC, Value.oneCell']

theorem sResting_any (rep out : Int) (w : World) :
   Calls Try.prog 25 #[jI jZ rep, jI jZ out] w (GivesH w (restH rep out)) := by
 go_enter Try.func25, Try.ntmps25
 go_wp2_with (refine wpList_store_row rfl 31 (.tmp 4) (.tmp 7) rfl w.heap.size (hdC (restH rep out) none 0 0) rfl rfl 31 (hdC zeroH none 0 0) (heap_alloc_new _ _) hand_size rfl (hdC_one _ _ _ _) ?_; rw [show World.setRow _ _ _ = _ from World.setRow_alloc_new w _ (hdC (restH rep out) none 0 0) 31])
 exact bodyPost_ret (results_cell_row rfl _ _ w.heap.size 31 (hdC (restH rep out) none 0 0) (0, 0) _ rfl (heap_alloc_new _ _) Try.underlying31 rfl hand_size) rfl
   ⟨none, 0, fun _ => False, rfl, OwnS.nil _ _, fun k hk => absurd hk id, (Below.refl _ _).alloc (Nat.le_refl _) _⟩

theorem IL_get (ys : List Int) : ∀ (j : Nat) (u : Value), (IL ys)[j]? = some u → j < ys.length ∧ u = jI jZ (iAt ys j) := by
 intro j u hu
 unfold IL at hu
 rw [List.getElem?_map] at hu
 rcases h : ys[j]? with _ | x
 · rw [h] at hu; cases hu
 · rw [h] at hu
   have hj := (List.getElem?_eq_some_iff.1 h).1
   refine ⟨hj, ?_⟩
   have e : iAt ys j = x := by unfold iAt; simp [h]
   rw [e]
   simpa using hu.symm
theorem IL_one (ys : List Int) : ∀ u ∈ IL ys, u.oneCell' = true := by
 intro u hu
 unfold IL at hu
 obtain ⟨x, _, rfl⟩ := List.mem_map.1 hu
 rfl
theorem IL_len (ys : List Int) : (IL ys).length = ys.length := by simp [IL]
theorem wpList_appIs {w : World} {ops : Array Oper} {rest : List Oper} {o : Oper} {a : Act} {Q : Exit → Act → World → Prop} (hgd : o.guard = none) (s x : Operand)
   (ho : o.op = .call { callee := .builtin .append, args := #[s, x], argTypes := #[29, 29] })
   (base : Nat) (v : Value) (n : Nat) (xs : List Int) (hs : a.eval s = v) (hown : w.ownsRow base 2 1 v n (IL xs))
   (B : Nat) (A : Option Addr) (m c : Nat) (ys : List Int) (hx : a.eval x = jS A m c) (hr : RS w B A m ys) (hsz : n + m ≤ 4194304) (hbase : base ≤ w.heap.size)
   (h : ∀ v' w', w'.ownsRow base 2 1 v' (n + m) (IL (xs ++ ys)) → w.grownBy w' v.ownBlock → wpList Try.prog ops Q rest (a.put o.dst v') w') : wpList Try.prog ops Q (o :: rest) a w := by
 obtain ⟨i0, hi0, hz0, hz1, hz2⟩ := info_parts int_info
 rcases A with _ | ad
 · have hm : m = 0 := by
     rcases Nat.eq_zero_or_pos m with h0 | h0
     · exact h0
     · obtain ⟨_, _, h, _⟩ := hr.2 h0; cases h
   subst hm
   have hy : ys = [] := List.eq_nil_of_length_eq_zero hr.1
   subst hy
   refine wpList_plain hgd fun K hK => ?_
   have hrun := run_app_nil (P := Try.prog) w base 29 o.type 2 i0 1 Try.underlying29 hi0 v n (IL xs) hown c
   unfold Oper.wp
   simp [execOp, ho, resolve, invoke, builtin, hs, hx, hrun, Result.andThen]
   exact hK _ _ (h v w (by simpa using hown) (World.grownBy.refl w _))
 · refine wpList_append_own w hgd s x 29 ho base 2 i0 _ 1 8 Try.underlying29 hi0 hz0 hz1 hz2 rfl (by omega) v n (IL xs) hs hown ad m c (IL ys) hx
     (by rw [IL_len, hr.1]; omega) ?_ (IL_one ys) (by unfold maxLen; omega) (by omega) hbase (fun v' w' h2 h3 _ => h v' w' (by rw [IL_append]; exact h2) h3)
   intro j u hu
   obtain ⟨hj, rfl⟩ := IL_get ys j u hu
   rw [hr.1] at hj
   obtain ⟨b, off, e, _, hc⟩ := hr.ints (by omega)
   cases e
   have := hc j hj
   have aa : ∀ k, (⟨b, off, none⟩ : Addr).add k = ⟨b, off + k, none⟩ := by intro k; unfold Addr.add; split <;> simp_all
   rw [aa]
   exact this

theorem copyI_any (st : List Int) (A : Option Addr) (n c : Nat) (w : World) (h : RS w w.heap.size A n st) (hn : n ≤ 1048576) :
   Calls Try.prog 59 #[jS A n c] w fun e w' => ∃ v, e = .returned v ∧ w'.ownsRow w.heap.size 2 1 v n (IL st) ∧ Below w.heap.size w w' := by
 obtain ⟨w1, hw1⟩ : ∃ w1, w1 = w.alloc (.cells #[] 2) := ⟨_, rfl⟩
 have b1 : Below w.heap.size w w1 := by rw [hw1]; exact (Below.refl _ _).alloc (Nat.le_refl _) _
 have o1 : w1.ownsRow w.heap.size 2 1 (jS (some ⟨w.heap.size, 0, none⟩) 0 0) 0 (IL []) := by
   have h1 := World.ownsRow_made (e := 2) (size := 1) w #[] 0 (Nat.le_refl _) (by unfold maxLen; omega) (by simp)
   rw [hw1]
   exact h1
 have HH := Lib.hid (h.on b1)
 have O1 := Lib.hid o1
 have B1 := Lib.hid b1
 have HW := Lib.hid hw1
 clear h o1 b1 hw1
 go_enter Try.func59, Try.ntmps59
 go_wp2_with (at_builtin; rw [← HW.out]; refine wpList_appIs rfl (.tmp 3) (.tmp 4) rfl w.heap.size _ 0 [] rfl O1.out _ A n c st rfl HH.out (by omega) B1.out.size ?_)
 intro v5 w5 o5 g5
 obtain ⟨A5, c5, rfl, _, _⟩ := own_shape o5
 have B5 := Lib.hid ((B1.out.grown g5 B1.out.size (fun q hq => (O1.out.lt q hq).1)) : Below w.heap.size w w5)
 have O5 : Hid (w5.ownsRow w.heap.size 2 1 (jS A5 n c5) n (IL st)) := Lib.hid (by simpa using o5)
 clear o5 g5
 go_wp2
 go_ret
 exact ⟨_, rfl, O5.out, B5.out⟩

theorem only_setRow (w : World) (g : Nat) (cs : Array Value) : Only (fun k => k = g) w (w.setRow g cs) := ⟨rfl, rfl, rfl, by simp, fun k _ hn => setRow_other w g k cs hn⟩
theorem only_setCell (w : World) (g i : Nat) (v : Value) : Only (fun k => k = g) w (w.setCell ⟨g, i, none⟩ v) := (Only.refl (fun k => k = g) w).setCell (p := ⟨g, i, none⟩) rfl v

set_option maxRecDepth 100000 in
theorem copyH_any (h : Hd) (A : Option Addr) (n c : Nat) (w : World) (hR : RS w w.heap.size A n h.st) (hn : n ≤ 1048576) :
   Calls Try.prog 42 #[hdV h A n c] w (GivesH w h) := by
 have hl : h.st.length = n := hR.1
 have ck := fun w hR => copyI_any h.st A n c w hR hn
 obtain ⟨w1, hw1⟩ : ∃ w1, w1 = (w.alloc (.cells #[jI jZ h.pos, jI jZ h.cc, jI jZ h.ck, jI jZ h.cv, jI jZ h.cur, jI jZ h.want, jI jZ h.key, jI jZ h.kid, jI jZ h.old, jI jZ h.next, jI jZ h.new, jS A n c, jI jZ h.thn, jI jZ h.beg, jI jZ h.rep, jI jZ h.out] 31)).alloc (.cells #[jI jZ 0, jI jZ 0, jI jZ 0, jI jZ 0, jI jZ 0, jI jZ 0, jI jZ 0, jI jZ 0, jI jZ 0, jI jZ 0, jI jZ 0, jS none 0 0, jI jZ 0, jI jZ 0, jI jZ 0, jI jZ 0] 31) := ⟨_, rfl⟩
 have b1 : Below w.heap.size w w1 := by rw [hw1]; exact ((Below.refl _ _).alloc (Nat.le_refl _) _).alloc (by simp) _
 have x0 : w1.heap[w.heap.size]? = some (.cells (hdC h A n c) 31 (0, 0)) := by rw [hw1, Below.heap_alloc _ _ _ (by simp)]; exact heap_alloc_new _ _
 have x1 : w1.heap[w.heap.size + 1]? = some (.cells (hdC zeroH none 0 0) 31 (0, 0)) := by
   have hz := heap_alloc_new (w.alloc (.cells #[jI jZ h.pos, jI jZ h.cc, jI jZ h.ck, jI jZ h.cv, jI jZ h.cur, jI jZ h.want, jI jZ h.key, jI jZ h.kid, jI jZ h.old, jI jZ h.next, jI jZ h.new, jS A n c, jI jZ h.thn, jI jZ h.beg, jI jZ h.rep, jI jZ h.out] 31)) (.cells #[jI jZ 0, jI jZ 0, jI jZ 0, jI jZ 0, jI jZ 0, jI jZ 0, jI jZ 0, jI jZ 0, jI jZ 0, jI jZ 0, jI jZ 0, jS none 0 0, jI jZ 0, jI jZ 0, jI jZ 0, jI jZ 0] 31)
   rw [hw1]
   rwa [show (w.alloc (.cells #[jI jZ h.pos, jI jZ h.cc, jI jZ h.ck, jI jZ h.cv, jI jZ h.cur, jI jZ h.want, jI jZ h.key, jI jZ h.kid, jI jZ h.old, jI jZ h.next, jI jZ h.new, jS A n c, jI jZ h.thn, jI jZ h.beg, jI jZ h.rep, jI jZ h.out] 31)).heap.size = w.heap.size + 1 from by simp] at hz
 have s1 : w1.heap.size = w.heap.size + 2 := by rw [hw1]; simp
 have HR := Lib.hid (hR.on b1)
 have HL := Lib.hid hl
 have CK := Lib.hid ck
 have X0 := Lib.hid x0
 have X1 := Lib.hid x1
 have B1 := Lib.hid b1
 have S1 := Lib.hid s1
 have HW := Lib.hid hw1
 clear hR hl ck x0 x1 b1 s1 hw1
 unfold hdV
 go_enter Try.func42, Try.ntmps42
 go_wp2_with fail
 rw [← HW.out]
 refine (CK.out _ HR.out).mono ?_
 rintro e w2 ⟨v2, rfl, o2, b2⟩
 obtain ⟨A2, c2, rfl, _, _⟩ := own_shape o2
 have y0 := box_on b2 X0.out
 have y1 := box_on b2 X1.out
 have d11 : w2.cell? ⟨w.heap.size, 11, none⟩ = some (.slice A n c) := by rw [cell_of_row _ _ 11 _ _ _ y0]; rfl
 have f11 : w2.frozen? ⟨w.heap.size, 11, none⟩ = false := frozen_of_row w2 _ 11 _ _ y0
 have z0 : (w2.setCell ⟨w.heap.size, 11, none⟩ (jS A2 n c2)).heap[w.heap.size]? = some (.cells (hdC h A2 n c2) 31 (0, 0)) := heap_setCell_same w2 w.heap.size 11 (hdC h A n c) 31 (jS A2 n c2) y0
 have z1 : (w2.setCell ⟨w.heap.size, 11, none⟩ (jS A2 n c2)).heap[w.heap.size + 1]? = some (.cells (hdC zeroH none 0 0) 31 (0, 0)) := (Below.heap_setCell _ _ _ _ (by simp)).trans y1
 have Z0 := Lib.hid z0
 have Z1 := Lib.hid z1
 have O2 := Lib.hid o2
 have B2 := Lib.hid (bel_on B1.out b2)
 have S2 := Lib.hid b2.size
 clear o2 b2 y0 y1 z0 z1
 go_wp2_with (first
   | (refine wpList_load_row rfl 31 (.tmp 1) rfl w.heap.size rfl 31 (hdC h A2 n c2) (0, 0) _ Z0.out Try.underlying31 rfl hand_size ?_)
   | (refine wpList_store_row rfl 31 (.tmp 2) (.tmp 7) rfl (w.heap.size + 1) (hdC h A2 n c2) rfl rfl 31 _ Z1.out hand_size rfl (hdC_one _ _ _ _) ?_))
 have o4 : Only (fun k => k = w.heap.size ∨ k = w.heap.size + 1) w2 ((w2.setCell ⟨w.heap.size, 11, none⟩ (jS A2 n c2)).setRow (w.heap.size + 1) (hdC h A2 n c2)) :=
   ((only_setCell w2 w.heap.size 11 _).more (fun k hk => .inl hk)).trans ((only_setRow _ _ _).more (fun k hk => .inr hk))
 refine bodyPost_ret (results_cell_row rfl _ _ (w.heap.size + 1) 31 (hdC h A2 n c2) (0, 0) _ rfl (setRow_heap _ _ _ _ _ _ Z1.out) Try.underlying31 rfl hand_size) rfl ?_
 have hF : ∀ k, blkF (Value.slice A2 n c2).ownBlock k → w1.heap.size ≤ k ∧ k < w2.heap.size := fun k hk => O2.out.lt k hk
 refine ⟨A2, c2, blkF (Value.slice A2 n c2).ownBlock, by rw [HL.out]; rfl, ?_, fun k hk => ?_, ?_⟩
 · rw [HL.out]
   exact (OwnS.of_ints O2.out (fun k hk => hk)).off o4 (fun k hk h => by have := hF k hk; have := S1.out; omega)
 · have := hF k hk
   have := S1.out
   have := o4.size
   omega
 · exact bel_only B2.out o4 B2.out.size (fun k hk => by omega)
end Go.Proofs.Ytjookicpmjmdhaa
namespace Go.Proofs.Ytjookicpmjmdhaa
open Go.RowKit

theorem results_cell_row2 {fn : Func} {p u : Tmp} {ty : TypeId} (h : fn.results = #[.cell p ty, .tmp u]) (tmps : Array Value) (w : World) (g : Nat) (t : TypeId) (cs : Array Value) (fr : Nat × Nat) (fs : Array Field)
   (hp : tmps.getD p undef = .pointer (some ⟨g, 0, none⟩)) (hg : w.heap[g]? = some (.cells cs t fr))
   (hu : Try.prog.underlying ty = some (.struct fs)) (hi : (Try.prog.info? ty).map (·.size) = some cs.size) :
   (results fn tmps).run Try.prog w = .ok (.tuple #[.agg cs, tmps.getD u undef]) w := by
 rw [results_cell_tmp h, hp]
 simp [asAddr, run_loadVar_row w g t ty cs fr _ hg hu rfl hi, Result.andThen]

def GivesHI (w : World) (h : Hd) (k : Int) (e : Ending) (w' : World) : Prop := ∃ A c F, e = .returned (.tuple #[hdV h A h.st.length c, jI jZ k]) ∧ OwnS w' (jS A h.st.length c) h.st F ∧ Fresh F w w' ∧ Below w.heap.size w w'

set_option maxRecDepth 100000 in
theorem sCalled_any (h : Hd) (A : Option Addr) (n c : Nat) (cc ck cv : Int) (w : World) (hR : RS w w.heap.size A n h.st) (hn : n ≤ 1048576) :
   Calls Try.prog 16 #[hdV h A n c, .agg #[jI jZ cc, jI jZ ck, jI jZ cv]] w (GivesHI w (calledH h cc ck cv) (calledC h cc ck cv)) := by
 have hk := fun w hR => sHandOk_any h A n c w hR
 have ck' := fun w hR => copyH_any h A n c w hR hn
 have cl := fun w => sCallOk_any cc ck cv w
 have E0 : Hid (handOk h = false → calledH h cc ck cv = zeroH ∧ calledC h cc ck cv = 3) := Lib.hid (fun e => by unfold calledH calledC; rw [e]; exact ⟨rfl, rfl⟩)
 have E1 : Hid (handOk h = true → h.pos ≠ 0 → calledH h cc ck cv = h ∧ calledC h cc ck cv = 1) := Lib.hid (fun e e1 => by unfold calledH calledC; rw [e, if_neg e1, if_neg e1]; exact ⟨rfl, rfl⟩)
 have E2 : Hid (handOk h = true → h.pos = 0 → callOk cc ck cv = false → calledH h cc ck cv = h ∧ calledC h cc ck cv = 2) := Lib.hid (fun e e1 e2 => by unfold calledH calledC; rw [e, if_pos e1, if_pos e1, e2]; exact ⟨rfl, rfl⟩)
 have E3 : Hid (handOk h = true → h.pos = 0 → callOk cc ck cv = true → calledH h cc ck cv = { zeroH with pos := 1, cc := cc, ck := ck, cv := cv, key := ck } ∧ calledC h cc ck cv = 0) := Lib.hid (fun e e1 e2 => by unfold calledH calledC; rw [e, if_pos e1, if_pos e1, e2]; exact ⟨rfl, rfl⟩)
 generalize calledH h cc ck cv = rh at *
 generalize calledC h cc ck cv = rc at *
 generalize handOk h = q1 at *
 generalize callOk cc ck cv = q2 at *
 obtain ⟨w1, hw1⟩ : ∃ w1, w1 = ((w.alloc (.cells #[jI jZ h.pos, jI jZ h.cc, jI jZ h.ck, jI jZ h.cv, jI jZ h.cur, jI jZ h.want, jI jZ h.key, jI jZ h.kid, jI jZ h.old, jI jZ h.next, jI jZ h.new, jS A n c, jI jZ h.thn, jI jZ h.beg, jI jZ h.rep, jI jZ h.out] 31)).alloc (.cells #[jI jZ cc, jI jZ ck, jI jZ cv] 25)).alloc (.cells #[jI jZ 0, jI jZ 0, jI jZ 0, jI jZ 0, jI jZ 0, jI jZ 0, jI jZ 0, jI jZ 0, jI jZ 0, jI jZ 0, jI jZ 0, jS none 0 0, jI jZ 0, jI jZ 0, jI jZ 0, jI jZ 0] 31) := ⟨_, rfl⟩
 have b1 : Below w.heap.size w w1 := by rw [hw1]; exact (((Below.refl _ _).alloc (Nat.le_refl _) _).alloc (by simp) _).alloc (by simp; omega) _
 have x0 : w1.heap[w.heap.size]? = some (.cells (hdC h A n c) 31 (0, 0)) := by rw [hw1, Below.heap_alloc _ _ _ (by simp; omega), Below.heap_alloc _ _ _ (by simp)]; exact heap_alloc_new _ _
 have x2 : w1.heap[w.heap.size + 1]? = some (.cells #[jI jZ cc, jI jZ ck, jI jZ cv] 25 (0, 0)) := by
   have hz := heap_alloc_new (w.alloc (.cells #[jI jZ h.pos, jI jZ h.cc, jI jZ h.ck, jI jZ h.cv, jI jZ h.cur, jI jZ h.want, jI jZ h.key, jI jZ h.kid, jI jZ h.old, jI jZ h.next, jI jZ h.new, jS A n c, jI jZ h.thn, jI jZ h.beg, jI jZ h.rep, jI jZ h.out] 31)) (.cells #[jI jZ cc, jI jZ ck, jI jZ cv] 25)
   rw [hw1, Below.heap_alloc _ _ _ (by simp)]
   rwa [show (w.alloc (.cells #[jI jZ h.pos, jI jZ h.cc, jI jZ h.ck, jI jZ h.cv, jI jZ h.cur, jI jZ h.want, jI jZ h.key, jI jZ h.kid, jI jZ h.old, jI jZ h.next, jI jZ h.new, jS A n c, jI jZ h.thn, jI jZ h.beg, jI jZ h.rep, jI jZ h.out] 31)).heap.size = w.heap.size + 1 from by simp] at hz
 have x1 : w1.heap[w.heap.size + 1 + 1]? = some (.cells (hdC zeroH none 0 0) 31 (0, 0)) := by
   have hz := heap_alloc_new ((w.alloc (.cells #[jI jZ h.pos, jI jZ h.cc, jI jZ h.ck, jI jZ h.cv, jI jZ h.cur, jI jZ h.want, jI jZ h.key, jI jZ h.kid, jI jZ h.old, jI jZ h.next, jI jZ h.new, jS A n c, jI jZ h.thn, jI jZ h.beg, jI jZ h.rep, jI jZ h.out] 31)).alloc (.cells #[jI jZ cc, jI jZ ck, jI jZ cv] 25)) (.cells #[jI jZ 0, jI jZ 0, jI jZ 0, jI jZ 0, jI jZ 0, jI jZ 0, jI jZ 0, jI jZ 0, jI jZ 0, jI jZ 0, jI jZ 0, jS none 0 0, jI jZ 0, jI jZ 0, jI jZ 0, jI jZ 0] 31)
   rw [hw1]
   rwa [show ((w.alloc (.cells #[jI jZ h.pos, jI jZ h.cc, jI jZ h.ck, jI jZ h.cv, jI jZ h.cur, jI jZ h.want, jI jZ h.key, jI jZ h.kid, jI jZ h.old, jI jZ h.next, jI jZ h.new, jS A n c, jI jZ h.thn, jI jZ h.beg, jI jZ h.rep, jI jZ h.out] 31)).alloc (.cells #[jI jZ cc, jI jZ ck, jI jZ cv] 25)).heap.size = w.heap.size + 1 + 1 from by simp] at hz
 have s1 : w1.heap.size = w.heap.size + 3 := by rw [hw1]; simp
 have HR := Lib.hid (hR.on b1)
 have HK := Lib.hid hk
 have CK := Lib.hid ck'
 have CL := Lib.hid cl
 have X0 := Lib.hid x0
 have X1 := Lib.hid x1
 have X2 := Lib.hid x2
 have B1 := Lib.hid b1
 have S1 := Lib.hid s1
 have HW := Lib.hid hw1
 clear hR hk ck' cl x0 x1 x2 b1 s1 hw1
 unfold hdV at *
 go_enter Try.func16, Try.ntmps16
 go_upto_region 1 with (fail)
 change Code.wp _ _ _ _ (((w.alloc (.cells #[jI jZ h.pos, jI jZ h.cc, jI jZ h.ck, jI jZ h.cv, jI jZ h.cur, jI jZ h.want, jI jZ h.key, jI jZ h.kid, jI jZ h.old, jI jZ h.next, jI jZ h.new, jS A n c, jI jZ h.thn, jI jZ h.beg, jI jZ h.rep, jI jZ h.out] 31)).alloc (.cells #[jI jZ cc, jI jZ ck, jI jZ cv] 25)).alloc (.cells #[jI jZ 0, jI jZ 0, jI jZ 0, jI jZ 0, jI jZ 0, jI jZ 0, jI jZ 0, jI jZ 0, jI jZ 0, jI jZ 0, jI jZ 0, jS none 0 0, jI jZ 0, jI jZ 0, jI jZ 0, jI jZ 0] 31))
 rw [← HW.out]
 go_wp2_with (refine wpList_load_row rfl 31 (.tmp 2) rfl w.heap.size rfl 31 (hdC h A n c) (0, 0) _ X0.out Try.underlying31 rfl hand_size ?_)
 refine (HK.out _ HR.out).mono ?_
 rintro e wT ⟨rfl, bT⟩
 have XR := Lib.hid (box_on bT X1.out)
 have XH := Lib.hid (box_on bT X0.out)
 have XC := Lib.hid (box_on bT X2.out)
 have BT := Lib.hid bT
 have HRW := Lib.hid (HR.out.on bT)
 clear bT
 cases q1
 · obtain ⟨rfl, rfl⟩ := E0.out (by trivial)
   go_wp2_with (refine wpList_store_row rfl 31 (.tmp 4) (.tmp 10) rfl (w.heap.size + 1 + 1) (hdC (zeroH) none 0 0) rfl rfl 31 _ XR.out hand_size rfl (hdC_one _ _ _ _) ?_)
   refine bodyPost_ret (results_cell_row2 rfl _ _ (w.heap.size + 1 + 1) 31 (hdC (zeroH) none 0 0) (0, 0) _ rfl (setRow_heap _ _ _ _ _ _ XR.out) Try.underlying31 hand_size) rfl ?_
   have o4 := only_setRow wT (w.heap.size + 1 + 1) (hdC (zeroH) none 0 0)
   refine ⟨none, 0, fun _ => False, rfl, OwnS.nil _ _, fun k hk => absurd hk id, ?_⟩
   exact bel_only (B1.out.trans (BT.out.mono B1.out.size)) o4 (B1.out.trans (BT.out.mono B1.out.size)).size (fun k hk => by omega)
 have d0 : wT.cell? ⟨w.heap.size, 0, none⟩ = some (jI jZ h.pos) := by rw [cell_of_row _ _ 0 _ _ _ XH.out]; rfl
 by_cases hp : h.pos = 0
 rotate_left
 · obtain ⟨rfl, rfl⟩ := E1.out (by trivial) hp
   have g1 : (rh.pos != 0) = true := by simpa using hp
   clear hp
   go_wp2_with (refine wpList_load_row rfl 31 (.tmp 2) rfl w.heap.size rfl 31 (hdC rh A n c) (0, 0) _ XH.out Try.underlying31 rfl hand_size ?_)
   refine (CK.out _ HRW.out).mono ?_
   rintro e w3 ⟨A3, c3, F3, rfl, o3, f3, b3⟩
   have Z3 := Lib.hid (box_on b3 XR.out)
   have O3 := Lib.hid o3
   have F3' := Lib.hid f3
   have B3 := Lib.hid (bel_on BT.out b3)
   have S3 := Lib.hid BT.out.size
   clear o3 f3 b3
   unfold hdV
   go_wp2_with (refine wpList_store_row rfl 31 (.tmp 4) (.tmp 16) rfl (w.heap.size + 1 + 1) (hdC rh A3 rh.st.length c3) rfl rfl 31 _ Z3.out hand_size rfl (hdC_one _ _ _ _) ?_)
   refine bodyPost_ret (results_cell_row2 rfl _ _ (w.heap.size + 1 + 1) 31 (hdC rh A3 rh.st.length c3) (0, 0) _ rfl (setRow_heap _ _ _ _ _ _ Z3.out) Try.underlying31 hand_size) rfl ?_
   have o4 := only_setRow w3 (w.heap.size + 1 + 1) (hdC rh A3 rh.st.length c3)
   refine ⟨A3, c3, F3, rfl, O3.out.off o4 (fun k hk h => by have := F3'.out k hk; have := S1.out; have := S3.out; omega), fun k hk => ?_, ?_⟩
   · have := F3'.out k hk
     have := o4.size
     have := S1.out
     have := S3.out
     omega
   · exact bel_only (B1.out.trans (B3.out.mono B1.out.size)) o4 (B1.out.trans (B3.out.mono B1.out.size)).size (fun k hk => by omega)
 have g1 : (h.pos != 0) = false := by simp [hp]
 have e0 : wT.cell? ⟨w.heap.size + 1, 0, none⟩ = some (jI jZ cc) := by rw [cell_of_row _ _ 0 _ _ _ XC.out]; rfl
 have e1 : wT.cell? ⟨w.heap.size + 1, 1, none⟩ = some (jI jZ ck) := by rw [cell_of_row _ _ 1 _ _ _ XC.out]; rfl
 have e2 : wT.cell? ⟨w.heap.size + 1, 2, none⟩ = some (jI jZ cv) := by rw [cell_of_row _ _ 2 _ _ _ XC.out]; rfl
 have HP := Lib.hid hp
 clear hp
 go_wp2_with fail
 refine (CL.out _).mono ?_
 rintro e wU ⟨rfl, bU⟩
 replace XR := Lib.hid (box_on bU XR.out)
 replace XH := Lib.hid (box_on bU XH.out)
 replace XC := Lib.hid (box_on bU XC.out)
 replace BT := Lib.hid (bel_on BT.out bU)
 replace HRW := Lib.hid (HRW.out.on bU)
 clear bU d0 e0 e1 e2
 have e0 : wU.cell? ⟨w.heap.size + 1, 0, none⟩ = some (jI jZ cc) := by rw [cell_of_row _ _ 0 _ _ _ XC.out]; rfl
 have e1 : wU.cell? ⟨w.heap.size + 1, 1, none⟩ = some (jI jZ ck) := by rw [cell_of_row _ _ 1 _ _ _ XC.out]; rfl
 have e2 : wU.cell? ⟨w.heap.size + 1, 2, none⟩ = some (jI jZ cv) := by rw [cell_of_row _ _ 2 _ _ _ XC.out]; rfl
 cases q2
 · obtain ⟨rfl, rfl⟩ := E2.out (by trivial) HP.out (by trivial)
   go_wp2_with (refine wpList_load_row rfl 31 (.tmp 2) rfl w.heap.size rfl 31 (hdC rh A n c) (0, 0) _ XH.out Try.underlying31 rfl hand_size ?_)
   refine (CK.out _ HRW.out).mono ?_
   rintro e w3 ⟨A3, c3, F3, rfl, o3, f3, b3⟩
   have Z3 := Lib.hid (box_on b3 XR.out)
   have O3 := Lib.hid o3
   have F3' := Lib.hid f3
   have B3 := Lib.hid (bel_on BT.out b3)
   have S3 := Lib.hid BT.out.size
   clear o3 f3 b3
   unfold hdV
   go_wp2_with (refine wpList_store_row rfl 31 (.tmp 4) (.tmp 22) rfl (w.heap.size + 1 + 1) (hdC rh A3 rh.st.length c3) rfl rfl 31 _ Z3.out hand_size rfl (hdC_one _ _ _ _) ?_)
   refine bodyPost_ret (results_cell_row2 rfl _ _ (w.heap.size + 1 + 1) 31 (hdC rh A3 rh.st.length c3) (0, 0) _ rfl (setRow_heap _ _ _ _ _ _ Z3.out) Try.underlying31 hand_size) rfl ?_
   have o4 := only_setRow w3 (w.heap.size + 1 + 1) (hdC rh A3 rh.st.length c3)
   refine ⟨A3, c3, F3, rfl, O3.out.off o4 (fun k hk h => by have := F3'.out k hk; have := S1.out; have := S3.out; omega), fun k hk => ?_, ?_⟩
   · have := F3'.out k hk
     have := o4.size
     have := S1.out
     have := S3.out
     omega
   · exact bel_only (B1.out.trans (B3.out.mono B1.out.size)) o4 (B1.out.trans (B3.out.mono B1.out.size)).size (fun k hk => by omega)
 · obtain ⟨rfl, rfl⟩ := E3.out (by trivial) HP.out (by trivial)
   go_wp2_with (refine wpList_store_row rfl 31 (.tmp 4) (.tmp 26) rfl (w.heap.size + 1 + 1) (hdC ({ zeroH with pos := 1, cc := cc, ck := ck, cv := cv, key := ck }) none 0 0) rfl rfl 31 _ XR.out hand_size rfl (hdC_one _ _ _ _) ?_)
   refine bodyPost_ret (results_cell_row2 rfl _ _ (w.heap.size + 1 + 1) 31 (hdC ({ zeroH with pos := 1, cc := cc, ck := ck, cv := cv, key := ck }) none 0 0) (0, 0) _ rfl (setRow_heap _ _ _ _ _ _ XR.out) Try.underlying31 hand_size) rfl ?_
   have o4 := only_setRow wU (w.heap.size + 1 + 1) (hdC ({ zeroH with pos := 1, cc := cc, ck := ck, cv := cv, key := ck }) none 0 0)
   refine ⟨none, 0, fun _ => False, rfl, OwnS.nil _ _, fun k hk => absurd hk id, ?_⟩
   exact bel_only (B1.out.trans (BT.out.mono B1.out.size)) o4 (B1.out.trans (BT.out.mono B1.out.size)).size (fun k hk => by omega)
end Go.Proofs.Ytjookicpmjmdhaa
