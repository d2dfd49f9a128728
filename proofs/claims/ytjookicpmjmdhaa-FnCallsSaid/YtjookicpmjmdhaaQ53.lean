/- What the code's own functions of chapter 8 answer. -/
import Derived.Test.YtjookicpmjmdhaaQ52
import Derived.Test.YtjookicpmjmdhaaQ04
import Derived.Shelf.Abstract
import Derived.Test.YtjookicpmjmdhaaQ15
open Go.Value renaming int → jI, slice → jS
open Go.IntKind renaming i64 → jZ
namespace Go.Proofs.Ytjookicpmjmdhaa
open Go.RowKit

theorem iHandOk_any (h : Hd) (A : Option Addr) (n c : Nat) (w : World) (hR : RS w w.heap.size A n h.st) (hs : Small.sm h.st) (_hc : n ≤ c) (_hc2 : c ≤ 9223372036854775807) :
   Calls Try.prog 21 #[hdV h A n c] w fun e w' => e = .returned (.bool (handOk h)) ∧ Below w.heap.size w w' := by
 have hn : n ≤ 1048576 := by have := hR.1; have : h.st.length ≤ 1048576 := hs; omega
 obtain ⟨w0, hw0⟩ : ∃ w0, w0 = w.alloc (.cells #[jI jZ h.pos, jI jZ h.cc, jI jZ h.ck, jI jZ h.cv, jI jZ h.cur, jI jZ h.want, jI jZ h.key, jI jZ h.kid, jI jZ h.old, jI jZ h.next, jI jZ h.new, jS A n c, jI jZ h.thn, jI jZ h.beg, jI jZ h.rep, jI jZ h.out] 31) := ⟨_, rfl⟩
 have b0 : Below w.heap.size w w0 := by rw [hw0]; exact (Below.refl _ _).alloc (Nat.le_refl _) _
 have x0 : w0.heap[w.heap.size]? = some (.cells (hdC h A n c) 31 (0, 0)) := by rw [hw0]; exact heap_alloc_new _ _
 have HK := Lib.hid (fun w hR => hok_any h A n c w hR hn)
 have HR := Lib.hid (hR.on b0)
 have X0 := Lib.hid x0
 have B0 := Lib.hid b0
 have HW := Lib.hid hw0
 clear hR b0 x0 hw0
 generalize handOk h = q at *
 unfold hdV at *
 go_enter Try.func21, Try.ntmps21
 go_upto_region 1 with (fail)
 change Code.wp _ _ _ _ (w.alloc (.cells #[jI jZ h.pos, jI jZ h.cc, jI jZ h.ck, jI jZ h.cv, jI jZ h.cur, jI jZ h.want, jI jZ h.key, jI jZ h.kid, jI jZ h.old, jI jZ h.next, jI jZ h.new, jS A n c, jI jZ h.thn, jI jZ h.beg, jI jZ h.rep, jI jZ h.out] 31))
 rw [← HW.out]
 go_wp2_with (refine wpList_load_row rfl 31 (.tmp 1) rfl w.heap.size rfl 31 (hdC h A n c) (0, 0) _ X0.out Try.underlying31 rfl hand_size ?_)
 refine (HK.out _ HR.out).mono ?_
 rintro e w1 ⟨rfl, b1⟩
 have B1 := Lib.hid (B0.out.trans (b1.mono B0.out.size))
 clear b1
 go_wp2
 go_ret
 exact ⟨rfl, B1.out⟩

theorem iResting_any (rep out : Int) (w : World) :
   Calls Try.prog 24 #[jI jZ rep, jI jZ out] w (GivesH w (restH rep out)) := by
 go_enter Try.func24, Try.ntmps24
 go_wp2_with (refine wpList_store_row rfl 31 (.tmp 4) (.tmp 7) rfl w.heap.size (hdC (restH rep out) none 0 0) rfl rfl 31 (hdC zeroH none 0 0) (heap_alloc_new _ _) hand_size rfl (hdC_one _ _ _ _) ?_; rw [show World.setRow _ _ _ = _ from World.setRow_alloc_new w _ (hdC (restH rep out) none 0 0) 31])
 exact bodyPost_ret (results_cell_row rfl _ _ w.heap.size 31 (hdC (restH rep out) none 0 0) (0, 0) _ rfl (heap_alloc_new _ _) Try.underlying31 rfl hand_size) rfl
   ⟨none, 0, fun _ => False, rfl, OwnS.nil _ _, fun k hk => absurd hk id, (Below.refl _ _).alloc (Nat.le_refl _) _⟩

theorem iClone_any (st : List Int) (A : Option Addr) (n c : Nat) (w : World) (h : RS w w.heap.size A n st) (hn : n ≤ 1048576) :
   Calls Try.prog 65 #[jS A n c] w fun e w' => ∃ v, e = .returned v ∧ w'.ownsRow w.heap.size 2 1 v n (IL st) ∧ Below w.heap.size w w' := by
 have HH := Lib.hid h
 clear h
 have hnil := fun (A : Option Addr) (w : World) => Lib.run_eql_slice_nil (P := Try.prog) w 29 2 A n c 0 0 Try.underlying29
 rcases A with _ | ad
 · have hn0 : n = 0 := by
     rcases Nat.eq_zero_or_pos n with h0 | h0
     · exact h0
     · obtain ⟨_, _, h, _⟩ := HH.out.2 h0; cases h
   have hz : st = [] := List.eq_nil_of_length_eq_zero (by have := HH.out.1; omega)
   subst hn0
   subst hz
   go_enter Try.func65, Try.ntmps65
   go_wp2
   go_ret
   exact ⟨_, rfl, World.ownsRow_nil _ _ _ _, Below.refl _ _⟩
 · obtain ⟨w1, hw1⟩ : ∃ w1, w1 = w.alloc (.cells #[] 2) := ⟨_, rfl⟩
   have b1 : Below w.heap.size w w1 := by rw [hw1]; exact (Below.refl _ _).alloc (Nat.le_refl _) _
   have o1 : w1.ownsRow w.heap.size 2 1 (jS (some ⟨w.heap.size, 0, none⟩) 0 0) 0 (IL []) := by
     have h1 := World.ownsRow_made (e := 2) (size := 1) w #[] 0 (Nat.le_refl _) (by unfold maxLen; omega) (by simp)
     rw [hw1]
     exact h1
   have HO := Lib.hid (HH.out.on b1)
   have O1 := Lib.hid o1
   have B1 := Lib.hid b1
   have HW := Lib.hid hw1
   clear o1 b1 hw1
   go_enter Try.func65, Try.ntmps65
   go_wp2_with (at_builtin; rw [← HW.out]; refine wpList_appIs rfl (.tmp 5) (.tmp 6) rfl w.heap.size (jS (some ⟨w.heap.size, 0, none⟩) 0 0) 0 [] rfl O1.out _ (some ad) n c st rfl HO.out (by omega) B1.out.size ?_)
   intro v5 w5 o5 g5
   have B5 := Lib.hid ((B1.out.grown g5 B1.out.size (fun q hq => (O1.out.lt q hq).1)) : Below w.heap.size w w5)
   have O5 : Hid (w5.ownsRow w.heap.size 2 1 v5 n (IL st)) := Lib.hid (by simpa using o5)
   clear o5 g5
   go_wp2
   go_ret
   exact ⟨_, rfl, O5.out, B5.out⟩

set_option maxRecDepth 100000 in
theorem copied_any (h : Hd) (A : Option Addr) (n c : Nat) (w : World) (hR : RS w w.heap.size A n h.st) (hn : n ≤ 1048576) :
   Calls Try.prog 40 #[hdV h A n c] w (GivesH w h) := by
 have hl : h.st.length = n := hR.1
 have ck := fun w hR => iClone_any h.st A n c w hR hn
 obtain ⟨w1, hw1⟩ : ∃ w1, w1 = (w.alloc (.cells #[jI jZ h.pos, jI jZ h.cc, jI jZ h.ck, jI jZ h.cv, jI jZ h.cur, jI jZ h.want, jI jZ h.key, jI jZ h.kid, jI jZ h.old, jI jZ h.next, jI jZ h.new, jS A n c, jI jZ h.thn, jI jZ h.beg, jI jZ h.rep, jI jZ h.out] 31)).alloc (.cells #[jI jZ 0, jI jZ 0, jI jZ 0, jI jZ 0, jI jZ 0, jI jZ 0, jI jZ 0, jI jZ 0, jI jZ 0, jI jZ 0, jI jZ 0, jS none 0 0, jI jZ 0, jI jZ 0, jI jZ 0, jI jZ 0] 31) := ⟨_, rfl⟩
 have b1 : Below w.heap.size w w1 := by rw [hw1]; exact ((Below.refl _ _).alloc (Nat.le_refl _) _).alloc (by simp) _
 have x0 : w1.heap[w.heap.size]? = some (.cells (hdC h A n c) 31 (0, 0)) := by rw [hw1, Below.heap_alloc _ _ _ (by simp)]; exact heap_alloc_new _ _
 have x1 : w1.heap[w.heap.size + 1]? = some (.cells (hdC zeroH none 0 0) 31 (0, 0)) := by
   have hz := heap_alloc_new (w.alloc (.cells #[jI jZ h.pos, jI jZ h.cc, jI jZ h.ck, jI jZ h.cv, jI jZ h.cur, jI jZ h.want, jI jZ h.key, jI jZ h.kid, jI jZ h.old, jI jZ h.next, jI jZ h.new, jS A n c, jI jZ h.thn, jI jZ h.beg, jI jZ h.rep, jI jZ h.out] 31)) (.cells #[jI jZ 0, jI jZ 0, jI jZ 0, jI jZ 0, jI jZ 0, jI jZ 0, jI jZ 0, jI jZ 0, jI jZ 0, jI jZ 0, jI jZ 0, jS none 0 0, jI jZ 0, jI jZ 0, jI jZ 0, jI jZ 0] 31)
   rw [hw1]
   rwa [show (w.alloc (.cells #[jI jZ h.pos, jI jZ h.cc, jI jZ h.ck, jI jZ h.cv, jI jZ h.cur, jI jZ h.want, jI jZ h.key, jI jZ h.kid, jI jZ h.old, jI jZ h.next, jI jZ h.new, jS A n c, jI jZ h.thn, jI jZ h.beg, jI jZ h.rep, jI jZ h.out] 31)).heap.size = w.heap.size + 1 from by simp] at hz
 have s1 : w1.heap.size = w.heap.size + 2 := by rw [hw1]; simp
 have HR := Lib.hid (hR.on b1)
 have HL := Lib.hid hl
 have CK := Lib.hid ck
 have X0 := Lib.hid x0
 have X1 := Lib.hid x1
 have B1 := Lib.hid b1
 have S1 := Lib.hid s1
 have HW := Lib.hid hw1
 clear hR hl ck x0 x1 b1 s1 hw1
 unfold hdV
 go_enter Try.func40, Try.ntmps40
 go_wp2_with fail
 rw [← HW.out]
 refine (CK.out _ HR.out).mono ?_
 rintro e w2 ⟨v2, rfl, o2, b2⟩
 obtain ⟨A2, c2, rfl, _, _⟩ := own_shape o2
 have y0 := box_on b2 X0.out
 have y1 := box_on b2 X1.out
 have d11 : w2.cell? ⟨w.heap.size, 11, none⟩ = some (.slice A n c) := by rw [cell_of_row _ _ 11 _ _ _ y0]; rfl
 have f11 : w2.frozen? ⟨w.heap.size, 11, none⟩ = false := frozen_of_row w2 _ 11 _ _ y0
 have z0 : (w2.setCell ⟨w.heap.size, 11, none⟩ (jS A2 n c2)).heap[w.heap.size]? = some (.cells (hdC h A2 n c2) 31 (0, 0)) := heap_setCell_same w2 w.heap.size 11 (hdC h A n c) 31 (jS A2 n c2) y0
 have z1 : (w2.setCell ⟨w.heap.size, 11, none⟩ (jS A2 n c2)).heap[w.heap.size + 1]? = some (.cells (hdC zeroH none 0 0) 31 (0, 0)) := (Below.heap_setCell _ _ _ _ (by simp)).trans y1
 have Z0 := Lib.hid z0
 have Z1 := Lib.hid z1
 have O2 := Lib.hid o2
 have B2 := Lib.hid (bel_on B1.out b2)
 have S2 := Lib.hid b2.size
 clear o2 b2 y0 y1 z0 z1
 go_wp2_with (first
   | (refine wpList_load_row rfl 31 (.tmp 1) rfl w.heap.size rfl 31 (hdC h A2 n c2) (0, 0) _ Z0.out Try.underlying31 rfl hand_size ?_)
   | (refine wpList_store_row rfl 31 (.tmp 2) (.tmp 7) rfl (w.heap.size + 1) (hdC h A2 n c2) rfl rfl 31 _ Z1.out hand_size rfl (hdC_one _ _ _ _) ?_))
 have o4 : Only (fun k => k = w.heap.size ∨ k = w.heap.size + 1) w2 ((w2.setCell ⟨w.heap.size, 11, none⟩ (jS A2 n c2)).setRow (w.heap.size + 1) (hdC h A2 n c2)) :=
   ((only_setCell w2 w.heap.size 11 _).more (fun k hk => .inl hk)).trans ((only_setRow _ _ _).more (fun k hk => .inr hk))
 refine bodyPost_ret (results_cell_row rfl _ _ (w.heap.size + 1) 31 (hdC h A2 n c2) (0, 0) _ rfl (setRow_heap _ _ _ _ _ _ Z1.out) Try.underlying31 rfl hand_size) rfl ?_
 have hF : ∀ k, blkF (Value.slice A2 n c2).ownBlock k → w1.heap.size ≤ k ∧ k < w2.heap.size := fun k hk => O2.out.lt k hk
 refine ⟨A2, c2, blkF (Value.slice A2 n c2).ownBlock, by rw [HL.out]; rfl, ?_, fun k hk => ?_, ?_⟩
 · rw [HL.out]
   exact (OwnS.of_ints O2.out (fun k hk => hk)).off o4 (fun k hk h => by have := hF k hk; have := S1.out; omega)
 · have := hF k hk
   have := S1.out
   have := o4.size
   omega
 · exact bel_only B2.out o4 B2.out.size (fun k hk => by omega)

set_option maxRecDepth 100000 in
theorem iCalledW_any (h : Hd) (A : Option Addr) (n c : Nat) (cc ck cv : Int) (w : World) (hR : RS w w.heap.size A n h.st) (hn : n ≤ 1048576) :
   Calls Try.prog 15 #[hdV h A n c, .agg #[jI jZ cc, jI jZ ck, jI jZ cv]] w (GivesHI w (calledH h cc ck cv) (calledC h cc ck cv)) := by
 have hk := fun w hR => hok_any h A n c w hR hn
 have ck' := fun w hR => copied_any h A n c w hR hn
 have cl := fun w => callRight_any cc ck cv w
 have BU := Lib.hid (fun w => busy_any h A n c w)
 have E0 : Hid (handOk h = false → calledH h cc ck cv = zeroH ∧ calledC h cc ck cv = 3) := Lib.hid (fun e => by unfold calledH calledC; rw [e]; exact ⟨rfl, rfl⟩)
 have E1 : Hid (handOk h = true → h.pos ≠ 0 → calledH h cc ck cv = h ∧ calledC h cc ck cv = 1) := Lib.hid (fun e e1 => by unfold calledH calledC; rw [e, if_neg e1, if_neg e1]; exact ⟨rfl, rfl⟩)
 have E2 : Hid (handOk h = true → h.pos = 0 → callOk cc ck cv = false → calledH h cc ck cv = h ∧ calledC h cc ck cv = 2) := Lib.hid (fun e e1 e2 => by unfold calledH calledC; rw [e, if_pos e1, if_pos e1, e2]; exact ⟨rfl, rfl⟩)
 have E3 : Hid (handOk h = true → h.pos = 0 → callOk cc ck cv = true → calledH h cc ck cv = { zeroH with pos := 1, cc := cc, ck := ck, cv := cv, key := ck } ∧ calledC h cc ck cv = 0) := Lib.hid (fun e e1 e2 => by unfold calledH calledC; rw [e, if_pos e1, if_pos e1, e2]; exact ⟨rfl, rfl⟩)
 generalize calledH h cc ck cv = rh at *
 generalize calledC h cc ck cv = rc at *
 generalize handOk h = q1 at *
 generalize callOk cc ck cv = q2 at *
 obtain ⟨w1, hw1⟩ : ∃ w1, w1 = ((w.alloc (.cells #[jI jZ h.pos, jI jZ h.cc, jI jZ h.ck, jI jZ h.cv, jI jZ h.cur, jI jZ h.want, jI jZ h.key, jI jZ h.kid, jI jZ h.old, jI jZ h.next, jI jZ h.new, jS A n c, jI jZ h.thn, jI jZ h.beg, jI jZ h.rep, jI jZ h.out] 31)).alloc (.cells #[jI jZ cc, jI jZ ck, jI jZ cv] 25)).alloc (.cells #[jI jZ 0, jI jZ 0, jI jZ 0, jI jZ 0, jI jZ 0, jI jZ 0, jI jZ 0, jI jZ 0, jI jZ 0, jI jZ 0, jI jZ 0, jS none 0 0, jI jZ 0, jI jZ 0, jI jZ 0, jI jZ 0] 31) := ⟨_, rfl⟩
 have b1 : Below w.heap.size w w1 := by rw [hw1]; exact (((Below.refl _ _).alloc (Nat.le_refl _) _).alloc (by simp) _).alloc (by simp; omega) _
 have x0 : w1.heap[w.heap.size]? = some (.cells (hdC h A n c) 31 (0, 0)) := by rw [hw1, Below.heap_alloc _ _ _ (by simp; omega), Below.heap_alloc _ _ _ (by simp)]; exact heap_alloc_new _ _
 have x2 : w1.heap[w.heap.size + 1]? = some (.cells #[jI jZ cc, jI jZ ck, jI jZ cv] 25 (0, 0)) := by
   have hz := heap_alloc_new (w.alloc (.cells #[jI jZ h.pos, jI jZ h.cc, jI jZ h.ck, jI jZ h.cv, jI jZ h.cur, jI jZ h.want, jI jZ h.key, jI jZ h.kid, jI jZ h.old, jI jZ h.next, jI jZ h.new, jS A n c, jI jZ h.thn, jI jZ h.beg, jI jZ h.rep, jI jZ h.out] 31)) (.cells #[jI jZ cc, jI jZ ck, jI jZ cv] 25)
   rw [hw1, Below.heap_alloc _ _ _ (by simp)]
   rwa [show (w.alloc (.cells #[jI jZ h.pos, jI jZ h.cc, jI jZ h.ck, jI jZ h.cv, jI jZ h.cur, jI jZ h.want, jI jZ h.key, jI jZ h.kid, jI jZ h.old, jI jZ h.next, jI jZ h.new, jS A n c, jI jZ h.thn, jI jZ h.beg, jI jZ h.rep, jI jZ h.out] 31)).heap.size = w.heap.size + 1 from by simp] at hz
 have x1 : w1.heap[w.heap.size + 1 + 1]? = some (.cells (hdC zeroH none 0 0) 31 (0, 0)) := by
   have hz := heap_alloc_new ((w.alloc (.cells #[jI jZ h.pos, jI jZ h.cc, jI jZ h.ck, jI jZ h.cv, jI jZ h.cur, jI jZ h.want, jI jZ h.key, jI jZ h.kid, jI jZ h.old, jI jZ h.next, jI jZ h.new, jS A n c, jI jZ h.thn, jI jZ h.beg, jI jZ h.rep, jI jZ h.out] 31)).alloc (.cells #[jI jZ cc, jI jZ ck, jI jZ cv] 25)) (.cells #[jI jZ 0, jI jZ 0, jI jZ 0, jI jZ 0, jI jZ 0, jI jZ 0, jI jZ 0, jI jZ 0, jI jZ 0, jI jZ 0, jI jZ 0, jS none 0 0, jI jZ 0, jI jZ 0, jI jZ 0, jI jZ 0] 31)
   rw [hw1]
   rwa [show ((w.alloc (.cells #[jI jZ h.pos, jI jZ h.cc, jI jZ h.ck, jI jZ h.cv, jI jZ h.cur, jI jZ h.want, jI jZ h.key, jI jZ h.kid, jI jZ h.old, jI jZ h.next, jI jZ h.new, jS A n c, jI jZ h.thn, jI jZ h.beg, jI jZ h.rep, jI jZ h.out] 31)).alloc (.cells #[jI jZ cc, jI jZ ck, jI jZ cv] 25)).heap.size = w.heap.size + 1 + 1 from by simp] at hz
 have s1 : w1.heap.size = w.heap.size + 3 := by rw [hw1]; simp
 have HR := Lib.hid (hR.on b1)
 have HK := Lib.hid hk
 have CK := Lib.hid ck'
 have CL := Lib.hid cl
 have X0 := Lib.hid x0
 have X1 := Lib.hid x1
 have X2 := Lib.hid x2
 have B1 := Lib.hid b1
 have S1 := Lib.hid s1
 have HW := Lib.hid hw1
 clear hR hk ck' cl x0 x1 x2 b1 s1 hw1
 unfold hdV at *
 go_enter Try.func15, Try.ntmps15
 go_upto_region 1 with (fail)
 change Code.wp _ _ _ _ (((w.alloc (.cells #[jI jZ h.pos, jI jZ h.cc, jI jZ h.ck, jI jZ h.cv, jI jZ h.cur, jI jZ h.want, jI jZ h.key, jI jZ h.kid, jI jZ h.old, jI jZ h.next, jI jZ h.new, jS A n c, jI jZ h.thn, jI jZ h.beg, jI jZ h.rep, jI jZ h.out] 31)).alloc (.cells #[jI jZ cc, jI jZ ck, jI jZ cv] 25)).alloc (.cells #[jI jZ 0, jI jZ 0, jI jZ 0, jI jZ 0, jI jZ 0, jI jZ 0, jI jZ 0, jI jZ 0, jI jZ 0, jI jZ 0, jI jZ 0, jS none 0 0, jI jZ 0, jI jZ 0, jI jZ 0, jI jZ 0] 31))
 rw [← HW.out]
 go_wp2_with (refine wpList_load_row rfl 31 (.tmp 2) rfl w.heap.size rfl 31 (hdC h A n c) (0, 0) _ X0.out Try.underlying31 rfl hand_size ?_)
 refine (HK.out _ HR.out).mono ?_
 rintro e wT ⟨rfl, bT⟩
 have XR := Lib.hid (box_on bT X1.out)
 have XH := Lib.hid (box_on bT X0.out)
 have XC := Lib.hid (box_on bT X2.out)
 have BT := Lib.hid bT
 have HRW := Lib.hid (HR.out.on bT)
 clear bT
 cases q1
 · obtain ⟨rfl, rfl⟩ := E0.out (by trivial)
   go_wp2_with (refine wpList_store_row rfl 31 (.tmp 4) (.tmp 10) rfl (w.heap.size + 1 + 1) (hdC (zeroH) none 0 0) rfl rfl 31 _ XR.out hand_size rfl (hdC_one _ _ _ _) ?_)
   refine bodyPost_ret (results_cell_row2 rfl _ _ (w.heap.size + 1 + 1) 31 (hdC (zeroH) none 0 0) (0, 0) _ rfl (setRow_heap _ _ _ _ _ _ XR.out) Try.underlying31 hand_size) rfl ?_
   have o4 := only_setRow wT (w.heap.size + 1 + 1) (hdC (zeroH) none 0 0)
   refine ⟨none, 0, fun _ => False, rfl, OwnS.nil _ _, fun k hk => absurd hk id, ?_⟩
   exact bel_only (B1.out.trans (BT.out.mono B1.out.size)) o4 (B1.out.trans (BT.out.mono B1.out.size)).size (fun k hk => by omega)
 go_wp2_with (refine wpList_load_row rfl 31 (.tmp 2) rfl w.heap.size rfl 31 (hdC h A n c) (0, 0) _ XH.out Try.underlying31 rfl hand_size ?_)
 refine (BU.out _).mono ?_
 rintro e wB ⟨rfl, bB⟩
 replace XR := Lib.hid (box_on bB XR.out)
 replace XH := Lib.hid (box_on bB XH.out)
 replace XC := Lib.hid (box_on bB XC.out)
 replace BT := Lib.hid (bel_on BT.out bB)
 replace HRW := Lib.hid (HRW.out.on bB)
 clear bB
 obtain ⟨q3, hq3⟩ : ∃ q3, q3 = decide (h.pos = 0) := ⟨_, rfl⟩
 rw [← hq3]
 have P0 : Hid (q3 = false → h.pos ≠ 0) := Lib.hid (fun e => by rw [hq3] at e; simpa using e)
 have P1 : Hid (q3 = true → h.pos = 0) := Lib.hid (fun e => by rw [hq3] at e; simpa using e)
 clear hq3
 cases q3
 · obtain ⟨rfl, rfl⟩ := E1.out (by trivial) (P0.out rfl)
   go_wp2_with (refine wpList_load_row rfl 31 (.tmp 2) rfl w.heap.size rfl 31 (hdC rh A n c) (0, 0) _ XH.out Try.underlying31 rfl hand_size ?_)
   refine (CK.out _ HRW.out).mono ?_
   rintro e w3 ⟨A3, c3, F3, rfl, o3, f3, b3⟩
   have Z3 := Lib.hid (box_on b3 XR.out)
   have O3 := Lib.hid o3
   have F3' := Lib.hid f3
   have B3 := Lib.hid (bel_on BT.out b3)
   have S3 := Lib.hid BT.out.size
   clear o3 f3 b3
   unfold hdV
   go_wp2_with (refine wpList_store_row rfl 31 (.tmp 4) (.tmp 15) rfl (w.heap.size + 1 + 1) (hdC rh A3 rh.st.length c3) rfl rfl 31 _ Z3.out hand_size rfl (hdC_one _ _ _ _) ?_)
   refine bodyPost_ret (results_cell_row2 rfl _ _ (w.heap.size + 1 + 1) 31 (hdC rh A3 rh.st.length c3) (0, 0) _ rfl (setRow_heap _ _ _ _ _ _ Z3.out) Try.underlying31 hand_size) rfl ?_
   have o4 := only_setRow w3 (w.heap.size + 1 + 1) (hdC rh A3 rh.st.length c3)
   refine ⟨A3, c3, F3, rfl, O3.out.off o4 (fun k hk h => by have := F3'.out k hk; have := S1.out; have := S3.out; omega), fun k hk => ?_, ?_⟩
   · have := F3'.out k hk
     have := o4.size
     have := S1.out
     have := S3.out
     omega
   · exact bel_only (B1.out.trans (B3.out.mono B1.out.size)) o4 (B1.out.trans (B3.out.mono B1.out.size)).size (fun k hk => by omega)
 have hp := P1.out rfl
 have e0 : wB.cell? ⟨w.heap.size + 1, 0, none⟩ = some (jI jZ cc) := by rw [cell_of_row _ _ 0 _ _ _ XC.out]; rfl
 have e1 : wB.cell? ⟨w.heap.size + 1, 1, none⟩ = some (jI jZ ck) := by rw [cell_of_row _ _ 1 _ _ _ XC.out]; rfl
 have e2 : wB.cell? ⟨w.heap.size + 1, 2, none⟩ = some (jI jZ cv) := by rw [cell_of_row _ _ 2 _ _ _ XC.out]; rfl
 have HP := Lib.hid hp
 clear hp
 go_wp2_with fail
 refine (CL.out _).mono ?_
 rintro e wU ⟨rfl, bU⟩
 replace XR := Lib.hid (box_on bU XR.out)
 replace XH := Lib.hid (box_on bU XH.out)
 replace XC := Lib.hid (box_on bU XC.out)
 replace BT := Lib.hid (bel_on BT.out bU)
 replace HRW := Lib.hid (HRW.out.on bU)
 clear bU e0 e1 e2
 have e0 : wU.cell? ⟨w.heap.size + 1, 0, none⟩ = some (jI jZ cc) := by rw [cell_of_row _ _ 0 _ _ _ XC.out]; rfl
 have e1 : wU.cell? ⟨w.heap.size + 1, 1, none⟩ = some (jI jZ ck) := by rw [cell_of_row _ _ 1 _ _ _ XC.out]; rfl
 have e2 : wU.cell? ⟨w.heap.size + 1, 2, none⟩ = some (jI jZ cv) := by rw [cell_of_row _ _ 2 _ _ _ XC.out]; rfl
 cases q2
 · obtain ⟨rfl, rfl⟩ := E2.out (by trivial) HP.out (by trivial)
   go_wp2_with (refine wpList_load_row rfl 31 (.tmp 2) rfl w.heap.size rfl 31 (hdC rh A n c) (0, 0) _ XH.out Try.underlying31 rfl hand_size ?_)
   refine (CK.out _ HRW.out).mono ?_
   rintro e w3 ⟨A3, c3, F3, rfl, o3, f3, b3⟩
   have Z3 := Lib.hid (box_on b3 XR.out)
   have O3 := Lib.hid o3
   have F3' := Lib.hid f3
   have B3 := Lib.hid (bel_on BT.out b3)
   have S3 := Lib.hid BT.out.size
   clear o3 f3 b3
   unfold hdV
   go_wp2_with (refine wpList_store_row rfl 31 (.tmp 4) (.tmp 21) rfl (w.heap.size + 1 + 1) (hdC rh A3 rh.st.length c3) rfl rfl 31 _ Z3.out hand_size rfl (hdC_one _ _ _ _) ?_)
   refine bodyPost_ret (results_cell_row2 rfl _ _ (w.heap.size + 1 + 1) 31 (hdC rh A3 rh.st.length c3) (0, 0) _ rfl (setRow_heap _ _ _ _ _ _ Z3.out) Try.underlying31 hand_size) rfl ?_
   have o4 := only_setRow w3 (w.heap.size + 1 + 1) (hdC rh A3 rh.st.length c3)
   refine ⟨A3, c3, F3, rfl, O3.out.off o4 (fun k hk h => by have := F3'.out k hk; have := S1.out; have := S3.out; omega), fun k hk => ?_, ?_⟩
   · have := F3'.out k hk
     have := o4.size
     have := S1.out
     have := S3.out
     omega
   · exact bel_only (B1.out.trans (B3.out.mono B1.out.size)) o4 (B1.out.trans (B3.out.mono B1.out.size)).size (fun k hk => by omega)
 · obtain ⟨rfl, rfl⟩ := E3.out (by trivial) HP.out (by trivial)
   go_wp2_with (refine wpList_store_row rfl 31 (.tmp 4) (.tmp 25) rfl (w.heap.size + 1 + 1) (hdC ({ zeroH with pos := 1, cc := cc, ck := ck, cv := cv, key := ck }) none 0 0) rfl rfl 31 _ XR.out hand_size rfl (hdC_one _ _ _ _) ?_)
   refine bodyPost_ret (results_cell_row2 rfl _ _ (w.heap.size + 1 + 1) 31 (hdC ({ zeroH with pos := 1, cc := cc, ck := ck, cv := cv, key := ck }) none 0 0) (0, 0) _ rfl (setRow_heap _ _ _ _ _ _ XR.out) Try.underlying31 hand_size) rfl ?_
   have o4 := only_setRow wU (w.heap.size + 1 + 1) (hdC ({ zeroH with pos := 1, cc := cc, ck := ck, cv := cv, key := ck }) none 0 0)
   refine ⟨none, 0, fun _ => False, rfl, OwnS.nil _ _, fun k hk => absurd hk id, ?_⟩
   exact bel_only (B1.out.trans (BT.out.mono B1.out.size)) o4 (B1.out.trans (BT.out.mono B1.out.size)).size (fun k hk => by omega)

theorem iCalled_any (h : Hd) (A : Option Addr) (n c : Nat) (cc ck cv : Int) (w : World) (hR : RS w w.heap.size A n h.st) (hs : Small.sm h.st) (_hc : n ≤ c) (_hc2 : c ≤ 9223372036854775807) :
   Calls Try.prog 15 #[hdV h A n c, .agg #[jI jZ cc, jI jZ ck, jI jZ cv]] w (GivesHI w (calledH h cc ck cv) (calledC h cc ck cv)) :=
 iCalledW_any h A n c cc ck cv w hR (by have := hR.1; have : h.st.length ≤ 1048576 := hs; omega)

end Go.Proofs.Ytjookicpmjmdhaa
namespace Go.Proofs.Ytjookicpmjmdhaa
open Go.RowKit

theorem after_on {o : Oper} {D : Nat → Bool} (haf : ∀ e ∈ o.after, Region.binds .any e = true → D e.on = true) (q : Nat) (h : (o.after.toList.any fun e => e.on == q && Region.binds .any e) = true) : D q = true := by
 obtain ⟨e, he, h2⟩ := List.any_eq_true.1 h
 simp only [Bool.and_eq_true, beq_iff_eq] at h2
 have := haf e (by simpa using he) h2.2
 rwa [h2.1] at this
def guardsOk (l : List Oper) : Bool := l.all fun o => match o.guard with | none => true | some (j, _) => ((l[j]?).bind (·.dst)).isSome
theorem wp_region_evg {P : Program} {id : Nat} {Q : Exit → Act → World → Prop} {a0 : Act} {w : World} (hm : P.follows .mixedOrders = true) (l : List Oper) (hlt : afterLt l.toArray = true)
   (hun : guardsOk l = true) (n : Nat) (hn : a0.tmps.size = n) (hd : dstsOk n l = true) (I : (Nat → Bool) → (Nat → Value) → World → Prop)
   (h0 : ∀ D, (∀ i, i < l.length → D i = false) → I D (fun _ => undef) w.drew)
   (hs : ∀ (i : Nat) (o : Oper) (D : Nat → Bool) (V : Nat → Value) (w' : World) (a : Act), l[i]? = some o → I D V w' → D i = false → (∀ e ∈ o.after, Region.binds .any e = true → D e.on = true) → Evs l a0 D V a →
     (∀ j b, o.guard = some (j, b) → D j = true ∧ V j = .bool b) ∧ o.wp P a w' (fun a' w'' => ∃ v, a' = a.put o.dst v ∧ I (updB D i) (updW V i v) w'') Q)
   (he : ∀ V w', I (fun _ => true) V w' → Q .normal (putF V l 0 a0) w') : (Code.region id l.toArray true).wp P Q a0 w := by
 refine wp_region_inv (ops := l.toArray) hm hlt (fun L a w' => ∃ V, a = putD V (fun j => L.getD j true) l 0 a0 ∧ I (fun j => L.getD j true) V w') ?_ ?_ ?_
 · refine ⟨fun _ => undef, ?_, h0 _ (fun i hi => by simp [hi])⟩
   rw [putD_none]
   intro j hj
   simp [hj]
 · rintro L a w' i o hL ⟨V, rfl, hI⟩ ho hLi haf
   have ho' : l[i]? = some o := by simpa using ho
   have hi : i < L.size := by rw [hL]; exact (Array.getElem?_eq_some_iff.1 ho).1
   have hev : Evs l a0 (fun j => L.getD j true) V (putD V (fun j => L.getD j true) l 0 a0) := ⟨fun t ht => putD_other _ _ _ _ _ _ ht, fun j o' t hj hot hD => by
       have := putD_at V (fun j => L.getD j true) l n 0 a0 hn hd j o' t hj hot (by simpa using hD)
       simpa using this⟩
   obtain ⟨hgu, hwp⟩ := hs i o (fun j => L.getD j true) V w' _ ho' hI hLi (fun e he hb => by
     have := haf e he hb
     by_cases hes : e.on < L.size
     · simpa [hes] using this
     · simp [hes]) hev
   have hw : Region.wanted o (yielded l.toArray (putD V (fun j => L.getD j true) l 0 a0).tmps) = true := by
     unfold Region.wanted
     cases hg : o.guard with
     | none => rfl
     | some q =>
       obtain ⟨j, b⟩ := q
       obtain ⟨hD, hV⟩ := hgu j b hg
       have h1 := (List.all_eq_true.1 hun) o (List.mem_of_getElem? ho')
       rw [hg] at h1
       have h1 : ((l[j]?).bind (·.dst)).isSome = true := h1
       cases hj : l[j]? with
       | none => rw [hj] at h1; simp at h1
       | some o' =>
         cases ht : o'.dst with
         | none => rw [hj] at h1; simp [ht] at h1
         | some t =>
           have h2 := hev.new j o' t hj ht hD
           rw [hV] at h2
           generalize putD V (fun j => L.getD j true) l 0 a0 = a at h2 ⊢
           have h2 : a.tmps.getD t undef = .bool b := h2
           unfold yielded
           have h3 : a.tmps[t]? = some (.bool b) := by
             rw [Array.getD_eq_getD_getElem?] at h2
             cases hq : a.tmps[t]? with
             | none => rw [hq] at h2; cases h2
             | some v => rw [hq] at h2; exact congrArg some h2
           simp [hj, ht, h3]
   rw [if_pos hw]
   have hLD : (fun j => (L.setIfInBounds i true).getD j true) = updB (fun j => L.getD j true) i := by
     funext j
     unfold updB
     by_cases e : j = i
     · subst e; simp [hi]
     · rw [if_neg e]
       simp only [Array.getD_eq_getD_getElem?]
       rw [Array.getElem?_setIfInBounds_ne (by omega)]
   refine Oper.wp_mono (fun a' w'' h => ?_) hwp
   obtain ⟨v, rfl, hI'⟩ := h
   refine ⟨updW V i v, ?_, ?_⟩
   · rw [hLD]
     have := putD_step V (fun j => L.getD j true) l n 0 a0 hd i o ho' (by simpa using hLi) v
     simpa using this
   · rw [hLD]; exact hI'
 · rintro a w' ⟨V, rfl, hI⟩
   have e : (fun j => (Array.replicate l.toArray.size true).getD j true) = fun _ => true := by
     funext j
     by_cases hj : j < l.length <;> simp [hj]
   rw [e] at hI ⊢
   rw [putD_all]
   exact he V w' hI
section
variable {w : World} {o : Oper} {a : Act} {K : Act → World → Prop} {Q : Exit → Act → World → Prop}
theorem op_pick (c x y : Operand) (ho : o.op = .pick c x y) {q : Bool} (hc : a.eval c = .bool q) {v : Value} (hv : (if q = true then a.eval x else a.eval y) = v) (hK : K (a.put o.dst v) w) : o.wp Try.prog a w K Q := by
 refine op_val ?_ hK
 generalize a.eval = E at hc hv ⊢
 subst hv
 cases q <;> simp [execOp, ho, hc, asBool]
end
end Go.Proofs.Ytjookicpmjmdhaa
