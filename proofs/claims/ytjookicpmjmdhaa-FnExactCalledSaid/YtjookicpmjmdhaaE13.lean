/- The walks of the model's Resting, l1Copy, l8Copy, Called. -/
import Derived.Test.YtjookicpmjmdhaaE12
import Derived.Test.YtjookicpmjmdhaaE11
import Derived.Laws.Tables
import Derived.Laws.ResultCell
import Derived.Deep.WholeRow
namespace Go.Proofs.Ytjookicpmjmdhaa
open Go.RowKit

def GivesH (w : World) (h : Hd) (e : Ending) (w' : World) : Prop := ∃ A c F, e = .returned (hdV h A h.st.length c) ∧ OwnS w' (.slice A h.st.length c) h.st F ∧ Fresh F w w' ∧ Below w.heap.size w w'

def hdC (h : Hd) (A : Option Addr) (n c : Nat) : Array Value := #[.int .i64 h.pos, .int .i64 h.cc, .int .i64 h.ck, .int .i64 h.cv, .int .i64 h.cur, .int .i64 h.want, .int .i64 h.key, .int .i64 h.kid, .int .i64 h.old, .int .i64 h.next, .int .i64 h.new, .slice A n c, .int .i64 h.thn, .int .i64 h.beg, .int .i64 h.rep, .int .i64 h.out]
theorem hand_size : (Try.prog.info? 31).map (·.size) = some 16 := by kernel_rfl
theorem hdC_one (h : Hd) (A : Option Addr) (n c : Nat) : (hdC h A n c).all (·.oneCell') = true := by simp [hdC, Value.oneCell']

theorem IL_get (ys : List Int) : ∀ (j : Nat) (u : Value), (IL ys)[j]? = some u → j < ys.length ∧ u = .int .i64 (iAt ys j) := by
  intro j u hu
  unfold IL at hu
  rw [List.getElem?_map] at hu
  rcases h : ys[j]? with _ | x
  · rw [h] at hu; cases hu
  · rw [h] at hu
    have hj := (List.getElem?_eq_some_iff.1 h).1
    refine ⟨hj, ?_⟩
    have e : iAt ys j = x := by unfold iAt; simp [h]
    rw [e]
    simpa using hu.symm
theorem IL_one (ys : List Int) : ∀ u ∈ IL ys, u.oneCell' = true := by
  intro u hu
  unfold IL at hu
  obtain ⟨x, _, rfl⟩ := List.mem_map.1 hu
  rfl
theorem IL_len (ys : List Int) : (IL ys).length = ys.length := by simp [IL]
theorem wpList_appIs {w : World} {ops : Array Oper} {rest : List Oper} {o : Oper} {a : Act} {Q : Exit → Act → World → Prop} (hgd : o.guard = none) (s x : Operand)
    (ho : o.op = .call { callee := .builtin .append, args := #[s, x], argTypes := #[29, 29] })
    (base : Nat) (v : Value) (n : Nat) (xs : List Int) (hs : a.eval s = v) (hown : w.ownsRow base 2 1 v n (IL xs))
    (B : Nat) (A : Option Addr) (m c : Nat) (ys : List Int) (hx : a.eval x = .slice A m c) (hr : RS w B A m ys) (hsz : n + m ≤ 4194304) (hbase : base ≤ w.heap.size)
    (h : ∀ v' w', w'.ownsRow base 2 1 v' (n + m) (IL (xs ++ ys)) → w.grownBy w' v.ownBlock → wpList Try.prog ops Q rest (a.put o.dst v') w') : wpList Try.prog ops Q (o :: rest) a w := by
  obtain ⟨i0, hi0, hz0, hz1, hz2⟩ := info_parts int_info
  rcases A with _ | ad
  · have hm : m = 0 := by
      rcases Nat.eq_zero_or_pos m with h0 | h0
      · exact h0
      · obtain ⟨_, _, h, _⟩ := hr.2 h0; cases h
    subst hm
    have hy : ys = [] := List.eq_nil_of_length_eq_zero hr.1
    subst hy
    refine wpList_plain hgd fun K hK => ?_
    have hrun := run_app_nil (P := Try.prog) w base 29 o.type 2 i0 1 Try.underlying29 hi0 v n (IL xs) hown c
    unfold Oper.wp
    simp [execOp, ho, resolve, invoke, builtin, hs, hx, hrun, Result.andThen]
    exact hK _ _ (h v w (by simpa using hown) (World.grownBy.refl w _))
  · refine wpList_append_own w hgd s x 29 ho base 2 i0 _ 1 8 Try.underlying29 hi0 hz0 hz1 hz2 rfl (by omega) v n (IL xs) hs hown ad m c (IL ys) hx
      (by rw [IL_len, hr.1]; omega) ?_ (IL_one ys) (by unfold maxLen; omega) (by omega) hbase (fun v' w' h2 h3 _ => h v' w' (by rw [IL_append]; exact h2) h3)
    intro j u hu
    obtain ⟨hj, rfl⟩ := IL_get ys j u hu
    rw [hr.1] at hj
    obtain ⟨b, off, e, _, hc⟩ := hr.ints (by omega)
    cases e
    have := hc j hj
    have aa : ∀ k, (⟨b, off, none⟩ : Addr).add k = ⟨b, off + k, none⟩ := by intro k; unfold Addr.add; split <;> simp_all
    rw [aa]
    exact this

theorem copyI_any (st : List Int) (A : Option Addr) (n c : Nat) (w : World) (h : RS w w.heap.size A n st) (hn : n ≤ 1048576) :
    Calls Try.prog 59 #[.slice A n c] w fun e w' => ∃ v, e = .returned v ∧ w'.ownsRow w.heap.size 2 1 v n (IL st) ∧ Below w.heap.size w w' := by
  obtain ⟨w1, hw1⟩ : ∃ w1, w1 = w.alloc (.cells #[] 2) := ⟨_, rfl⟩
  have b1 : Below w.heap.size w w1 := by rw [hw1]; exact (Below.refl _ _).alloc (Nat.le_refl _) _
  have o1 : w1.ownsRow w.heap.size 2 1 (.slice (some ⟨w.heap.size, 0, none⟩) 0 0) 0 (IL []) := by
    have h1 := World.ownsRow_made (e := 2) (size := 1) w #[] 0 (Nat.le_refl _) (by unfold maxLen; omega) (by simp)
    rw [hw1]
    exact h1
  have HH := Lib.hid (h.on b1)
  have O1 := Lib.hid o1
  have B1 := Lib.hid b1
  have HW := Lib.hid hw1
  clear h o1 b1 hw1
  go_enter Try.func59, Try.ntmps59
  go_wp2_with (at_builtin; rw [← HW.out]; refine wpList_appIs rfl (.tmp 3) (.tmp 4) rfl w.heap.size _ 0 [] rfl O1.out _ A n c st rfl HH.out (by omega) B1.out.size ?_)
  intro v5 w5 o5 g5
  obtain ⟨A5, c5, rfl, _, _⟩ := own_shape o5
  have B5 := Lib.hid ((B1.out.grown g5 B1.out.size (fun q hq => (O1.out.lt q hq).1)) : Below w.heap.size w w5)
  have O5 : Hid (w5.ownsRow w.heap.size 2 1 (.slice A5 n c5) n (IL st)) := Lib.hid (by simpa using o5)
  clear o5 g5
  go_wp2
  go_ret
  exact ⟨_, rfl, O5.out, B5.out⟩

theorem only_setRow (w : World) (g : Nat) (cs : Array Value) : Only (fun k => k = g) w (w.setRow g cs) := ⟨rfl, rfl, rfl, by simp, fun k _ hn => setRow_other w g k cs hn⟩
theorem only_setCell (w : World) (g i : Nat) (v : Value) : Only (fun k => k = g) w (w.setCell ⟨g, i, none⟩ v) := (Only.refl (fun k => k = g) w).setCell (p := ⟨g, i, none⟩) rfl v

set_option maxRecDepth 100000 in
theorem copyH_any (h : Hd) (A : Option Addr) (n c : Nat) (w : World) (hR : RS w w.heap.size A n h.st) (hn : n ≤ 1048576) :
    Calls Try.prog 42 #[hdV h A n c] w (GivesH w h) := by
  have hl : h.st.length = n := hR.1
  have ck := fun w hR => copyI_any h.st A n c w hR hn
  obtain ⟨w1, hw1⟩ : ∃ w1, w1 = (w.alloc (.cells #[.int .i64 h.pos, .int .i64 h.cc, .int .i64 h.ck, .int .i64 h.cv, .int .i64 h.cur, .int .i64 h.want, .int .i64 h.key, .int .i64 h.kid, .int .i64 h.old, .int .i64 h.next, .int .i64 h.new, .slice A n c, .int .i64 h.thn, .int .i64 h.beg, .int .i64 h.rep, .int .i64 h.out] 31)).alloc (.cells #[.int .i64 0, .int .i64 0, .int .i64 0, .int .i64 0, .int .i64 0, .int .i64 0, .int .i64 0, .int .i64 0, .int .i64 0, .int .i64 0, .int .i64 0, .slice none 0 0, .int .i64 0, .int .i64 0, .int .i64 0, .int .i64 0] 31) := ⟨_, rfl⟩
  have b1 : Below w.heap.size w w1 := by rw [hw1]; exact ((Below.refl _ _).alloc (Nat.le_refl _) _).alloc (by simp) _
  have x0 : w1.heap[w.heap.size]? = some (.cells (hdC h A n c) 31 (0, 0)) := by rw [hw1, Below.heap_alloc _ _ _ (by simp)]; exact heap_alloc_new _ _
  have x1 : w1.heap[w.heap.size + 1]? = some (.cells (hdC zeroH none 0 0) 31 (0, 0)) := by
    have hz := heap_alloc_new (w.alloc (.cells #[.int .i64 h.pos, .int .i64 h.cc, .int .i64 h.ck, .int .i64 h.cv, .int .i64 h.cur, .int .i64 h.want, .int .i64 h.key, .int .i64 h.kid, .int .i64 h.old, .int .i64 h.next, .int .i64 h.new, .slice A n c, .int .i64 h.thn, .int .i64 h.beg, .int .i64 h.rep, .int .i64 h.out] 31)) (.cells #[.int .i64 0, .int .i64 0, .int .i64 0, .int .i64 0, .int .i64 0, .int .i64 0, .int .i64 0, .int .i64 0, .int .i64 0, .int .i64 0, .int .i64 0, .slice none 0 0, .int .i64 0, .int .i64 0, .int .i64 0, .int .i64 0] 31)
    rw [hw1]
    rwa [show (w.alloc (.cells #[.int .i64 h.pos, .int .i64 h.cc, .int .i64 h.ck, .int .i64 h.cv, .int .i64 h.cur, .int .i64 h.want, .int .i64 h.key, .int .i64 h.kid, .int .i64 h.old, .int .i64 h.next, .int .i64 h.new, .slice A n c, .int .i64 h.thn, .int .i64 h.beg, .int .i64 h.rep, .int .i64 h.out] 31)).heap.size = w.heap.size + 1 from by simp] at hz
  have s1 : w1.heap.size = w.heap.size + 2 := by rw [hw1]; simp
  have HR := Lib.hid (hR.on b1)
  have HL := Lib.hid hl
  have CK := Lib.hid ck
  have X0 := Lib.hid x0
  have X1 := Lib.hid x1
  have B1 := Lib.hid b1
  have S1 := Lib.hid s1
  have HW := Lib.hid hw1
  clear hR hl ck x0 x1 b1 s1 hw1
  unfold hdV
  go_enter Try.func42, Try.ntmps42
  go_wp2_with fail
  rw [← HW.out]
  refine (CK.out _ HR.out).mono ?_
  rintro e w2 ⟨v2, rfl, o2, b2⟩
  obtain ⟨A2, c2, rfl, _, _⟩ := own_shape o2
  have y0 := box_on b2 X0.out
  have y1 := box_on b2 X1.out
  have d11 : w2.cell? ⟨w.heap.size, 11, none⟩ = some (.slice A n c) := by rw [cell_of_row _ _ 11 _ _ _ y0]; rfl
  have f11 : w2.frozen? ⟨w.heap.size, 11, none⟩ = false := frozen_of_row w2 _ 11 _ _ y0
  have z0 : (w2.setCell ⟨w.heap.size, 11, none⟩ (.slice A2 n c2)).heap[w.heap.size]? = some (.cells (hdC h A2 n c2) 31 (0, 0)) := heap_setCell_same w2 w.heap.size 11 (hdC h A n c) 31 (.slice A2 n c2) y0
  have z1 : (w2.setCell ⟨w.heap.size, 11, none⟩ (.slice A2 n c2)).heap[w.heap.size + 1]? = some (.cells (hdC zeroH none 0 0) 31 (0, 0)) := (Below.heap_setCell _ _ _ _ (by simp)).trans y1
  have Z0 := Lib.hid z0
  have Z1 := Lib.hid z1
  have O2 := Lib.hid o2
  have B2 := Lib.hid (bel_on B1.out b2)
  have S2 := Lib.hid b2.size
  clear o2 b2 y0 y1 z0 z1
  go_wp2_with (first
    | (refine wpList_load_row rfl 31 (.tmp 1) rfl w.heap.size rfl 31 (hdC h A2 n c2) (0, 0) _ Z0.out Try.underlying31 rfl hand_size ?_)
    | (refine wpList_store_row rfl 31 (.tmp 2) (.tmp 7) rfl (w.heap.size + 1) (hdC h A2 n c2) rfl rfl 31 _ Z1.out hand_size rfl (hdC_one _ _ _ _) ?_))
  have o4 : Only (fun k => k = w.heap.size ∨ k = w.heap.size + 1) w2 ((w2.setCell ⟨w.heap.size, 11, none⟩ (.slice A2 n c2)).setRow (w.heap.size + 1) (hdC h A2 n c2)) :=
    ((only_setCell w2 w.heap.size 11 _).more (fun k hk => .inl hk)).trans ((only_setRow _ _ _).more (fun k hk => .inr hk))
  refine bodyPost_ret (results_cell_row rfl _ _ (w.heap.size + 1) 31 (hdC h A2 n c2) (0, 0) _ rfl (setRow_heap _ _ _ _ _ _ Z1.out) Try.underlying31 rfl hand_size) rfl ?_
  have hF : ∀ k, blkF (Value.slice A2 n c2).ownBlock k → w1.heap.size ≤ k ∧ k < w2.heap.size := fun k hk => O2.out.lt k hk
  refine ⟨A2, c2, blkF (Value.slice A2 n c2).ownBlock, by rw [HL.out]; rfl, ?_, fun k hk => ?_, ?_⟩
  · rw [HL.out]
    exact (OwnS.of_ints O2.out (fun k hk => hk)).off o4 (fun k hk h => by have := hF k hk; have := S1.out; omega)
  · have := hF k hk
    have := S1.out
    have := o4.size
    omega
  · exact bel_only B2.out o4 B2.out.size (fun k hk => by omega)
end Go.Proofs.Ytjookicpmjmdhaa
