/- The code's own Latched. -/
import Derived.Test.YtpffkhjegpddbaaGreatV51
import Derived.Ground.SlgmProg
import Derived.Shelf.SortM.Plain
import Derived.Shelf.SortM.SortNone
import Derived.Test.YtpffkhjegpddbaaGreatProg
open Go.Value renaming int → jI, slice → jS
open Go.IntKind renaming i64 → jZ
namespace Go.Proofs.YtpffkhjegpddbaaGreat
open Go.RowKit

theorem heldXs_same (xs : List Nd) : heldXs xs (ownTo xs xs.length) xs.length = xs := by
 apply List.ext_getElem (by simp [heldXs])
 intro i h1 h2
 simp only [heldXs, List.getElem_map, List.getElem_range, heldNd, ownTo]
 rw [if_pos (by omega), Int.toNat_natCast, ndAt_eq _ _ h2]
theorem heldXs_upd (xs : List Nd) (k : Nat) (q : Int) (hk : k < xs.length) : heldXs xs (upd (ownTo xs xs.length) k q) xs.length = xs.set k { ndAt xs k with ow := q } := by
 apply List.ext_getElem (by simp [heldXs])
 intro i h1 h2
 rw [List.length_set] at h2
 simp only [heldXs, List.getElem_map, List.getElem_range, heldNd, upd]
 by_cases e : i = k
 · subst e
   rw [if_pos rfl, List.getElem_set_self]
 · rw [if_neg (by omega), List.getElem_set_ne (by omega)]
   unfold ownTo
   rw [if_pos (by omega), Int.toNat_natCast, ndAt_eq _ _ h2]
theorem ow_small {r : Int} {xs : List Nd} (h : treeOk r xs = true) (i : Nat) (hi : i < xs.length) : 0 ≤ (ndAt xs i).ow ∧ (ndAt xs i).ow ≤ 6 := by
 have hR := right_of h
 have hg := (hR.good i (by have := hR.len; omega)).1
 unfold nodeOk at hg
 simp only [Bool.and_eq_true] at hg
 unfold inB at hg
 simp only [decide_eq_true_eq] at hg
 omega
theorem bel_grown {w a b : World} {B q : Nat} (h : Below B w a) (hg : a.grownBy b (some q)) (hB : B ≤ a.heap.size) (hq : B ≤ q) : Below B w b := h.grown hg hB (fun j hj => by cases hj; exact hq)
theorem box_grown {a b : World} {q p : Nat} {o : Obj} (hg : a.grownBy b (some q)) (hp : p ≠ q) (h : a.heap[p]? = some o) : b.heap[p]? = some o := by
 rw [hg.block p (Array.getElem?_eq_some_iff.1 h).1 (fun e => hp (Option.some.inj e))]; exact h

set_option maxRecDepth 100000 in
set_option maxHeartbeats 1000000 in
theorem iLatched_any (r : Int) (xs : List Nd) (A : Option Addr) (n c : Nat) (x task : Int) (w : World) (h : RS w w.heap.size A n xs) (hs : Small.sm xs) (_hc : n ≤ c) (_hc2 : c ≤ 9223372036854775807) (_hx : (Lit.int .i64 x).wf = true) :
   Calls Tryz.prog 6 #[.agg #[.int .i64 r, jS A n c], .int .i64 x, .int .i64 task] w fun e w' => ∃ A' c' F, e = .returned (.tuple #[.agg #[.int .i64 (latchedR r xs x task), jS A' (latchedX r xs x task).length c'], .bool (latchedB r xs x task)]) ∧ OwnS w' (jS A' (latchedX r xs x task).length c') (latchedX r xs x task) F ∧ Fresh F w w' ∧ Below w.heap.size w w' := by
 have hl := h.1
 have ok : ∀ w, RS w w.heap.size A n xs → Calls Tryz.prog 19 #[.agg #[.int .i64 r, jS A n c]] w fun e w' => e = .returned (.bool (treeOk r xs)) ∧ Below w.heap.size w w' := fun w h => itok_any r xs A n c w h hs
 have kk := itask_any task
 have htt : inB task 0 5 = true → 0 ≤ task ∧ task ≤ 5 := fun h => by unfold inB at h; simpa using h
 have e1 : latchedB r xs x task = (treeOk r xs && inB task 0 5 && (hasB n x && decide ((ndAt xs x.toNat).ow = 0))) := by unfold latchedB; rw [hl]
 have e2 : latchedX r xs x task = if treeOk r xs && inB task 0 5 then (if hasB n x && decide ((ndAt xs x.toNat).ow = 0) then xs.set x.toNat { ndAt xs x.toNat with ow := task + 1 } else xs) else [] := by unfold latchedX; rw [hl]
 have e3 : latchedR r xs x task = if treeOk r xs && inB task 0 5 then r else 0 := rfl
 rw [e1, e2, e3]
 clear e1 e2 e3
 have hgood : treeOk r xs = true → 1 ≤ n ∧ n ≤ 40 ∧ (∀ i, i < n → (ndAt xs i).ps.length ≤ 1048576) ∧ (∀ i, i < n → 0 ≤ (ndAt xs i).ow ∧ (ndAt xs i).ow ≤ 6) := fun h => by
   have hR := right_of h
   have h1 := hR.pos
   have h2 := hR.most
   exact ⟨by omega, by omega, by rw [← hl]; exact (sm_right hR).2, by rw [← hl]; exact ow_small h⟩
 have hxx : hasB n x = true → 0 ≤ x ∧ x < n := (hasB_iff n x).1
 have hyy : heldXs xs (ownTo xs n) n = xs := by rw [← hl]; exact heldXs_same xs
 have hup : hasB n x = true → heldXs xs (upd (ownTo xs n) x (task + 1)) n = xs.set x.toNat { ndAt xs x.toNat with ow := task + 1 } := fun h => by
   have := hxx h
   have e := heldXs_upd xs x.toNat (task + 1) (by omega)
   rwa [hl, show ((x.toNat : Nat) : Int) = x from by omega] at e
 have hin : hasB n x = true → decide (ownTo xs n x = 0) = decide ((ndAt xs x.toNat).ow = 0) := fun h => by rw [ownTo_in xs n x h]
 have hout : hasB n x = false → ownTo xs n x = 0 := ownTo_out xs n x
 have hln : (xs.set x.toNat { ndAt xs x.toNat with ow := task + 1 }).length = xs.length := List.length_set
 have hk : ∀ w, Calls Tryz.prog 22 #[.agg #[.int .i64 r, jS A n c], .int .i64 x] w fun e w' => n ≤ 1048576 → e = .returned (.bool (hasB n x)) ∧ Below w.heap.size w w' := fun w => by
   by_cases h : n ≤ 1048576
   · exact (iHas_any r A n c x w h).mono fun _ _ h2 _ => h2
   · have := hs.1
     omega
 generalize hqq : treeOk r xs = q at *
 clear hqq
 generalize inB task 0 5 = p at *
 generalize hmm : hasB n x = m at *
 generalize decide ((ndAt xs x.toNat).ow = 0) = z at *
 generalize xs.set x.toNat { ndAt xs x.toNat with ow := task + 1 } = Y at *
 obtain ⟨w1, hw1⟩ : ∃ w1, w1 = (w.alloc (.cells #[.int .i64 r, jS A n c] 26)).alloc (.cells #[.int .i64 0, jS none 0 0] 26) := ⟨_, rfl⟩
 have b1 : Below w.heap.size w w1 := by rw [hw1]; exact ((Below.refl _ _).alloc (Nat.le_refl _) _).alloc (by simp) _
 have x0 : w1.heap[w.heap.size]? = some (.cells #[.int .i64 r, jS A n c] 26 (0, 0)) := by
   rw [hw1, Below.heap_alloc _ _ _ (by simp)]; exact heap_alloc_new _ _
 have x1 : w1.heap[w.heap.size + 1]? = some (.cells #[.int .i64 0, jS none 0 0] 26 (0, 0)) := by
   have hz := heap_alloc_new (w.alloc (.cells #[.int .i64 r, jS A n c] 26)) (.cells #[.int .i64 0, jS none 0 0] 26)
   rw [hw1]
   rwa [show (w.alloc (.cells #[.int .i64 r, jS A n c] 26)).heap.size = w.heap.size + 1 from by simp] at hz
 have s1 : w1.heap.size = w.heap.size + 2 := by rw [hw1]; simp
 have HR0 := Lib.hid h
 have H1 := Lib.hid (h.on b1)
 have B1 := Lib.hid b1
 have S1 := Lib.hid s1
 have X0 := Lib.hid x0
 have X1 := Lib.hid x1
 have HW := Lib.hid hw1
 have OK := Lib.hid ok
 have KK := Lib.hid kk
 have HTT := Lib.hid htt
 have HG := Lib.hid hgood
 have HXX := Lib.hid hxx
 have HYY := Lib.hid hyy
 have HUP := Lib.hid hup
 have HIN := Lib.hid hin
 have HOUT := Lib.hid hout
 have HLN := Lib.hid hln
 have HK := Lib.hid hk
 have HMM := Lib.hid hmm
 clear h hl hs b1 x0 x1 s1 hw1 ok kk htt hgood hxx hyy hup hin hout hln hk hmm
 -- what the result's box holds while nothing was stored
 have fin0 : ∀ wx : World, wx.heap[w.heap.size + 1]? = some (.cells #[.int .i64 0, jS none 0 0] 26 (0, 0)) → (wx.cell? ⟨w.heap.size + 1, 0, none⟩ = some (.int .i64 0) ∧ wx.cell? ⟨w.heap.size + 1, 1, none⟩ = some (.slice none 0 0) ∧ ∀ i, wx.frozen? ⟨w.heap.size + 1, i, none⟩ = false) := fun wx hb =>
   ⟨by rw [cell_of_row _ _ 0 _ _ _ hb]; rfl, by rw [cell_of_row _ _ 1 _ _ _ hb]; rfl, fun i => frozen_of_row _ _ i _ _ hb⟩
 have FIN0 := Lib.hid fin0
 have arg0 : ∀ wx : World, wx.heap[w.heap.size]? = some (.cells #[.int .i64 r, jS A n c] 26 (0, 0)) → (wx.cell? ⟨w.heap.size, 0, none⟩ = some (.int .i64 r) ∧ wx.cell? ⟨w.heap.size, 1, none⟩ = some (.slice A n c)) := fun wx hb =>
   ⟨by rw [cell_of_row _ _ 0 _ _ _ hb]; rfl, by rw [cell_of_row _ _ 1 _ _ _ hb]; rfl⟩
 have ARG0 := Lib.hid arg0
 clear fin0 arg0
 go_enter Tryz.func6, Tryz.ntmps6
 go_wp2_with fail
 rw [← HW.out]
 refine (OK.out _ H1.out).mono ?_
 rintro e w2 ⟨rfl, b2⟩
 have B2 := Lib.hid (bel_on B1.out b2)
 have Y0 := Lib.hid (box_on b2 X0.out)
 have Y1 := Lib.hid (box_on b2 X1.out)
 have Z2 := Lib.hid b2.size
 clear b2
 obtain ⟨q0, q1, f1⟩ := FIN0.out _ Y1.out
 cases q
 · go_wp2
   refine bodyPost_ret (v := .tuple #[.agg #[.int .i64 0, jS none 0 0], .bool false]) (by simp [results, Tryz.results6, go_sem, q0, q1]) rfl ⟨none, 0, rfl, fun _ => False, OwnS.nil _ _, fun k hk => absurd hk id, ?_⟩
   exact (B2.out.setCell (by simp) _).setCell (by simp) _
 go_wp2_with fail
 refine (KK.out _).mono ?_
 rintro e w3 ⟨rfl, rfl⟩
 cases p
 · go_wp2
   refine bodyPost_ret (v := .tuple #[.agg #[.int .i64 0, jS none 0 0], .bool false]) (by simp [results, Tryz.results6, go_sem, q0, q1]) rfl ⟨none, 0, rfl, fun _ => False, OwnS.nil _ _, fun k hk => absurd hk id, ?_⟩
   exact (B2.out.setCell (by simp) _).setCell (by simp) _
 obtain ⟨ht0, ht5⟩ := HTT.out (by trivial)
 obtain ⟨hn1, hn40, hps, how⟩ := HG.out (by trivial)
 have R2 := Lib.hid ((HR0.out.below B2.out).more B2.out.size)
 have LA := Lib.hid (fun w h => ilatches_any r xs A n c w h (by omega) how)
 have HA := Lib.hid (fun bm nm o w h hm => iheldAs_any r xs A n c bm nm o w h hn1 hn40 hps hm)
 clear hps how q0 q1 f1
 obtain ⟨d0, d1⟩ := ARG0.out _ Y0.out
 go_wp2_with fail
 refine (LA.out _ R2.out).mono ?_
 rintro e w3 ⟨rfl, m3, b3⟩
 have M3 := Lib.hid m3
 have B3 := Lib.hid (bel_on B2.out b3)
 have U0 := Lib.hid (box_on b3 Y0.out)
 have U1 := Lib.hid (box_on b3 Y1.out)
 clear m3 b3 d0 d1
 have G2 : Hid (w.heap.size + 2 ≤ w2.heap.size) := Lib.hid (by have := S1.out; have := Z2.out; omega)
 -- the copy is stored, handed back
 have LAST : ∀ (w5 : World) (nm : Nat) (o : Int → Int) (ys : List Nd), Below w.heap.size w w5 → w5.heap[w.heap.size + 1]? = some (.cells #[.int .i64 0, jS none 0 0] 26 (0, 0)) → Held w5 (w2.heap.size + 1) nm o → heldXs xs o n = ys →
     Calls Tryz.prog 24 #[.agg #[.int .i64 r, jS A n c], .map (some (w2.heap.size + 1))] w5 fun e w6 => ∃ A' c' F, e = .returned (.agg #[.int .i64 r, jS A' ys.length c']) ∧ w6.cell? ⟨w.heap.size + 1, 0, none⟩ = some (.int .i64 0) ∧ w6.cell? ⟨w.heap.size + 1, 1, none⟩ = some (.slice none 0 0) ∧ (∀ i, w6.frozen? ⟨w.heap.size + 1, i, none⟩ = false) ∧
       Hid (OwnS ((w6.setCell ⟨w.heap.size + 1, 0, none⟩ (.int .i64 r)).setCell ⟨w.heap.size + 1, 1, none⟩ (jS A' ys.length c')) (jS A' ys.length c') ys F ∧ Fresh F w ((w6.setCell ⟨w.heap.size + 1, 0, none⟩ (.int .i64 r)).setCell ⟨w.heap.size + 1, 1, none⟩ (jS A' ys.length c')) ∧ Below w.heap.size w ((w6.setCell ⟨w.heap.size + 1, 0, none⟩ (.int .i64 r)).setCell ⟨w.heap.size + 1, 1, none⟩ (jS A' ys.length c'))) := fun w5 nm o ys b5 y5 m5 he => by
   refine (HA.out _ _ _ _ ((HR0.out.below b5).more b5.size) m5).mono ?_
   rintro e w6 ⟨v, F, rfl, o6, f6, b6⟩
   rw [he] at o6
   obtain ⟨A', c', rfl, _, _⟩ := o6.form
   obtain ⟨q0, q1, f1⟩ := FIN0.out _ (box_on b6 y5)
   have hlt5 : w.heap.size + 1 < w5.heap.size := (Array.getElem?_eq_some_iff.1 y5).1
   refine ⟨A', c', F, rfl, q0, q1, f1, Lib.hid ⟨o6.keep (fun q hq _ => ?_), fun q hq => ?_, ((bel_on b5 b6).setCell (by simp) _).setCell (by simp) _⟩⟩
   · have := (f6 q hq).1
     rw [Below.heap_setCell _ _ _ _ (by simp; omega), Below.heap_setCell _ _ _ _ (by simp; omega)]
   · have := f6 q hq
     simp only [World.setCell, Array.size_modify]
     omega
 have LST := Lib.hid LAST
 clear LAST
 obtain ⟨d0, d1⟩ := ARG0.out _ U0.out
 go_wp2_with fail
 refine (HK.out _).mono ?_
 rintro e w4 h4
 obtain ⟨rfl, b4⟩ := h4 (by omega)
 have M5 := Lib.hid (M3.out.on b4)
 have B5 := Lib.hid (bel_on B3.out b4)
 have V0 := Lib.hid (box_on b4 U0.out)
 have V1 := Lib.hid (box_on b4 U1.out)
 clear h4 b4 d0 d1 M3 B3 U0 U1
 cases m
 · clear R2 Y0 Y1
   obtain ⟨d0, d1⟩ := ARG0.out _ V0.out
   go_wp2_with fail
   refine (LST.out _ _ _ xs B5.out V1.out M5.out HYY.out).mono ?_
   rintro e w6 ⟨A6, c6, F6, rfl, q0, q1, f1, RES⟩
   clear d0 d1
   go_wp2
   refine bodyPost_ret (v := .tuple #[.agg #[.int .i64 r, jS A6 xs.length c6], .bool false]) (by simp [results, Tryz.results6, go_sem, q0, q1]) rfl ?_
   obtain ⟨h1, h2, h3⟩ := RES.out
   first | exact ⟨A6, c6, rfl, F6, h1, h2, h3⟩ | exact ⟨A6, c6, F6, rfl, h1, h2, h3⟩
 have TK := Lib.hid (take_any (w2.heap.size + 1) n (ownTo xs n) x (task + 1) w4 M5.out _hx (by omega) (by omega))
 have hzz := HIN.out (by trivial)
 generalize hoo : decide (ownTo xs n x = 0) = zo at *
 subst hzz
 have HOO := Lib.hid hoo
 clear hoo
 go_wp2_with fail
 refine TK.out.mono ?_
 rintro e w5 ⟨rfl, m5, g5⟩
 have B6 := Lib.hid (bel_grown B5.out g5 B5.out.size (by have := G2.out; omega))
 have W0 := Lib.hid (box_grown g5 (by have := G2.out; omega) V0.out)
 have W1 := Lib.hid (box_grown g5 (by have := G2.out; omega) V1.out)
 have M6 := Lib.hid m5
 clear m5 g5 V0 V1 M5 B5
 have V0 := W0
 have V1 := W1
 have B5 := B6
 cases zo
 · have M5 := Lib.hid (show Held w5 (w2.heap.size + 1) (n + 1) (ownTo xs n) from by have := M6.out; rwa [if_neg (by have := HOO.out; simpa using this)] at this)
   obtain ⟨d0, d1⟩ := ARG0.out _ V0.out
   go_wp2_with fail
   refine (LST.out _ _ _ xs B5.out V1.out M5.out HYY.out).mono ?_
   rintro e w6 ⟨A6, c6, F6, rfl, q0, q1, f1, RES⟩
   clear d0 d1
   go_wp2
   refine bodyPost_ret (v := .tuple #[.agg #[.int .i64 r, jS A6 xs.length c6], .bool false]) (by simp [results, Tryz.results6, go_sem, q0, q1]) rfl ?_
   obtain ⟨h1, h2, h3⟩ := RES.out
   first | exact ⟨A6, c6, rfl, F6, h1, h2, h3⟩ | exact ⟨A6, c6, F6, rfl, h1, h2, h3⟩
 · have M5 := Lib.hid (show Held w5 (w2.heap.size + 1) (n + 1) (upd (ownTo xs n) x (task + 1)) from by have := M6.out; rwa [if_pos (by have := HOO.out; simpa using this)] at this)
   obtain ⟨d0, d1⟩ := ARG0.out _ V0.out
   go_wp2_with fail
   refine (LST.out _ _ _ Y B5.out V1.out M5.out (HUP.out (by trivial))).mono ?_
   rintro e w6 ⟨A6, c6, F6, rfl, q0, q1, f1, RES⟩
   clear d0 d1
   go_wp2
   refine bodyPost_ret (v := .tuple #[.agg #[.int .i64 r, jS A6 Y.length c6], .bool true]) (by simp [results, Tryz.results6, go_sem, q0, q1]) rfl ?_
   obtain ⟨h1, h2, h3⟩ := RES.out
   first | exact ⟨A6, c6, rfl, F6, h1, h2, h3⟩ | exact ⟨A6, c6, F6, rfl, h1, h2, h3⟩
end Go.Proofs.YtpffkhjegpddbaaGreat
namespace Go.Proofs.YtpffkhjegpddbaaGreat
open Go.RowKit

set_option maxRecDepth 100000 in
set_option maxHeartbeats 1000000 in
theorem iFreed_any (r : Int) (xs : List Nd) (A : Option Addr) (n c : Nat) (x task : Int) (w : World) (h : RS w w.heap.size A n xs) (hs : Small.sm xs) (_hc : n ≤ c) (_hc2 : c ≤ 9223372036854775807) (hx : (Lit.int .i64 x).wf = true) :
   Calls Tryz.prog 9 #[.agg #[.int .i64 r, jS A n c], .int .i64 x, .int .i64 task] w fun e w' => ∃ A' c' F, e = .returned (.tuple #[.agg #[.int .i64 (freedR r xs x task), jS A' (freedX r xs x task).length c'], .bool (freedB r xs x task)]) ∧ OwnS w' (jS A' (freedX r xs x task).length c') (freedX r xs x task) F ∧ Fresh F w w' ∧ Below w.heap.size w w' := by
 have hl := h.1
 have ok : ∀ w, RS w w.heap.size A n xs → Calls Tryz.prog 19 #[.agg #[.int .i64 r, jS A n c]] w fun e w' => e = .returned (.bool (treeOk r xs)) ∧ Below w.heap.size w w' := fun w h => itok_any r xs A n c w h hs
 have kk := itask_any task
 have htt : inB task 0 5 = true → 0 ≤ task ∧ task ≤ 5 := fun h => by unfold inB at h; simpa using h
 have e1 : freedB r xs x task = (treeOk r xs && inB task 0 5 && (hasB n x && decide ((ndAt xs x.toNat).ow = task + 1))) := by unfold freedB; rw [hl]
 have e2 : freedX r xs x task = if treeOk r xs && inB task 0 5 then (if hasB n x && decide ((ndAt xs x.toNat).ow = task + 1) then xs.set x.toNat { ndAt xs x.toNat with ow := 0 } else xs) else [] := by unfold freedX; rw [hl]
 have e3 : freedR r xs x task = if treeOk r xs && inB task 0 5 then r else 0 := rfl
 rw [e1, e2, e3]
 clear e1 e2 e3
 have hgood : treeOk r xs = true → 1 ≤ n ∧ n ≤ 40 ∧ (∀ i, i < n → (ndAt xs i).ps.length ≤ 1048576) ∧ (∀ i, i < n → 0 ≤ (ndAt xs i).ow ∧ (ndAt xs i).ow ≤ 6) := fun h => by
   have hR := right_of h
   have h1 := hR.pos
   have h2 := hR.most
   exact ⟨by omega, by omega, by rw [← hl]; exact (sm_right hR).2, by rw [← hl]; exact ow_small h⟩
 have hxx : hasB n x = true → 0 ≤ x ∧ x < n := (hasB_iff n x).1
 have hyy : heldXs xs (ownTo xs n) n = xs := by rw [← hl]; exact heldXs_same xs
 have hup : hasB n x = true → heldXs xs (upd (ownTo xs n) x (0)) n = xs.set x.toNat { ndAt xs x.toNat with ow := 0 } := fun h => by
   have := hxx h
   have e := heldXs_upd xs x.toNat (0) (by omega)
   rwa [hl, show ((x.toNat : Nat) : Int) = x from by omega] at e
 have hin : hasB n x = true → decide (ownTo xs n x = task + 1) = decide ((ndAt xs x.toNat).ow = task + 1) := fun h => by rw [ownTo_in xs n x h]
 have hout : hasB n x = false → ownTo xs n x = 0 := ownTo_out xs n x
 have hln : (xs.set x.toNat { ndAt xs x.toNat with ow := 0 }).length = xs.length := List.length_set
 have hk : ∀ w, Calls Tryz.prog 22 #[.agg #[.int .i64 r, jS A n c], .int .i64 x] w fun e w' => n ≤ 1048576 → e = .returned (.bool (hasB n x)) ∧ Below w.heap.size w w' := fun w => by
   by_cases h : n ≤ 1048576
   · exact (iHas_any r A n c x w h).mono fun _ _ h2 _ => h2
   · have := hs.1
     omega
 have hfz : inB task 0 5 = true → decide (ownTo xs n x = task + 1) = (hasB n x && decide ((ndAt xs x.toNat).ow = task + 1)) := fun h => by
   have := htt h
   by_cases hb : hasB n x = true
   · rw [hin hb, hb]; rfl
   · simp only [Bool.not_eq_true] at hb
     rw [hout hb, hb]; simp; omega
 have hmz : (hasB n x && decide ((ndAt xs x.toNat).ow = task + 1)) = true → hasB n x = true := fun h => by simp at h; exact h.1
 generalize hqq : treeOk r xs = q at *
 clear hqq
 generalize inB task 0 5 = p at *
 generalize (hasB n x && decide ((ndAt xs x.toNat).ow = task + 1)) = zo at *
 generalize hmm : hasB n x = m at *
 generalize xs.set x.toNat { ndAt xs x.toNat with ow := 0 } = Y at *
 obtain ⟨w1, hw1⟩ : ∃ w1, w1 = (w.alloc (.cells #[.int .i64 r, jS A n c] 26)).alloc (.cells #[.int .i64 0, jS none 0 0] 26) := ⟨_, rfl⟩
 have b1 : Below w.heap.size w w1 := by rw [hw1]; exact ((Below.refl _ _).alloc (Nat.le_refl _) _).alloc (by simp) _
 have x0 : w1.heap[w.heap.size]? = some (.cells #[.int .i64 r, jS A n c] 26 (0, 0)) := by
   rw [hw1, Below.heap_alloc _ _ _ (by simp)]; exact heap_alloc_new _ _
 have x1 : w1.heap[w.heap.size + 1]? = some (.cells #[.int .i64 0, jS none 0 0] 26 (0, 0)) := by
   have hz := heap_alloc_new (w.alloc (.cells #[.int .i64 r, jS A n c] 26)) (.cells #[.int .i64 0, jS none 0 0] 26)
   rw [hw1]
   rwa [show (w.alloc (.cells #[.int .i64 r, jS A n c] 26)).heap.size = w.heap.size + 1 from by simp] at hz
 have s1 : w1.heap.size = w.heap.size + 2 := by rw [hw1]; simp
 have HR0 := Lib.hid h
 have H1 := Lib.hid (h.on b1)
 have B1 := Lib.hid b1
 have S1 := Lib.hid s1
 have X0 := Lib.hid x0
 have X1 := Lib.hid x1
 have HW := Lib.hid hw1
 have OK := Lib.hid ok
 have KK := Lib.hid kk
 have HTT := Lib.hid htt
 have HG := Lib.hid hgood
 have HXX := Lib.hid hxx
 have HYY := Lib.hid hyy
 have HUP := Lib.hid hup
 have HIN := Lib.hid hin
 have HOUT := Lib.hid hout
 have HLN := Lib.hid hln
 have HK := Lib.hid hk
 have HMM := Lib.hid hmm
 have HFZ := Lib.hid hfz
 have HMZ := Lib.hid hmz
 clear hfz hmz
 clear h hl hs b1 x0 x1 s1 hw1 ok kk htt hgood hxx hyy hup hin hout hln hk hmm
 -- what the result's box holds while nothing was stored
 have fin0 : ∀ wx : World, wx.heap[w.heap.size + 1]? = some (.cells #[.int .i64 0, jS none 0 0] 26 (0, 0)) → (wx.cell? ⟨w.heap.size + 1, 0, none⟩ = some (.int .i64 0) ∧ wx.cell? ⟨w.heap.size + 1, 1, none⟩ = some (.slice none 0 0) ∧ ∀ i, wx.frozen? ⟨w.heap.size + 1, i, none⟩ = false) := fun wx hb =>
   ⟨by rw [cell_of_row _ _ 0 _ _ _ hb]; rfl, by rw [cell_of_row _ _ 1 _ _ _ hb]; rfl, fun i => frozen_of_row _ _ i _ _ hb⟩
 have FIN0 := Lib.hid fin0
 have arg0 : ∀ wx : World, wx.heap[w.heap.size]? = some (.cells #[.int .i64 r, jS A n c] 26 (0, 0)) → (wx.cell? ⟨w.heap.size, 0, none⟩ = some (.int .i64 r) ∧ wx.cell? ⟨w.heap.size, 1, none⟩ = some (.slice A n c)) := fun wx hb =>
   ⟨by rw [cell_of_row _ _ 0 _ _ _ hb]; rfl, by rw [cell_of_row _ _ 1 _ _ _ hb]; rfl⟩
 have ARG0 := Lib.hid arg0
 clear fin0 arg0
 go_enter Tryz.func9, Tryz.ntmps9
 go_wp2_with fail
 rw [← HW.out]
 refine (OK.out _ H1.out).mono ?_
 rintro e w2 ⟨rfl, b2⟩
 have B2 := Lib.hid (bel_on B1.out b2)
 have Y0 := Lib.hid (box_on b2 X0.out)
 have Y1 := Lib.hid (box_on b2 X1.out)
 have Z2 := Lib.hid b2.size
 clear b2
 obtain ⟨q0, q1, f1⟩ := FIN0.out _ Y1.out
 cases q
 · go_wp2
   refine bodyPost_ret (v := .tuple #[.agg #[.int .i64 0, jS none 0 0], .bool false]) (by simp [results, Tryz.results9, go_sem, q0, q1]) rfl ⟨none, 0, rfl, fun _ => False, OwnS.nil _ _, fun k hk => absurd hk id, ?_⟩
   exact (B2.out.setCell (by simp) _).setCell (by simp) _
 go_wp2_with fail
 refine (KK.out _).mono ?_
 rintro e w3 ⟨rfl, rfl⟩
 cases p
 · go_wp2
   refine bodyPost_ret (v := .tuple #[.agg #[.int .i64 0, jS none 0 0], .bool false]) (by simp [results, Tryz.results9, go_sem, q0, q1]) rfl ⟨none, 0, rfl, fun _ => False, OwnS.nil _ _, fun k hk => absurd hk id, ?_⟩
   exact (B2.out.setCell (by simp) _).setCell (by simp) _
 obtain ⟨ht0, ht5⟩ := HTT.out (by trivial)
 obtain ⟨hn1, hn40, hps, how⟩ := HG.out (by trivial)
 have R2 := Lib.hid ((HR0.out.below B2.out).more B2.out.size)
 have LA := Lib.hid (fun w h => ilatches_any r xs A n c w h (by omega) how)
 have HA := Lib.hid (fun bm nm o w h hm => iheldAs_any r xs A n c bm nm o w h hn1 hn40 hps hm)
 clear hps how q0 q1 f1
 obtain ⟨d0, d1⟩ := ARG0.out _ Y0.out
 go_wp2_with fail
 refine (LA.out _ R2.out).mono ?_
 rintro e w3 ⟨rfl, m3, b3⟩
 have M3 := Lib.hid m3
 have B3 := Lib.hid (bel_on B2.out b3)
 have U0 := Lib.hid (box_on b3 Y0.out)
 have U1 := Lib.hid (box_on b3 Y1.out)
 clear m3 b3 d0 d1
 have G2 : Hid (w.heap.size + 2 ≤ w2.heap.size) := Lib.hid (by have := S1.out; have := Z2.out; omega)
 -- the copy is stored, handed back
 have LAST : ∀ (w5 : World) (nm : Nat) (o : Int → Int) (ys : List Nd), Below w.heap.size w w5 → w5.heap[w.heap.size + 1]? = some (.cells #[.int .i64 0, jS none 0 0] 26 (0, 0)) → Held w5 (w2.heap.size + 1) nm o → heldXs xs o n = ys →
     Calls Tryz.prog 24 #[.agg #[.int .i64 r, jS A n c], .map (some (w2.heap.size + 1))] w5 fun e w6 => ∃ A' c' F, e = .returned (.agg #[.int .i64 r, jS A' ys.length c']) ∧ w6.cell? ⟨w.heap.size + 1, 0, none⟩ = some (.int .i64 0) ∧ w6.cell? ⟨w.heap.size + 1, 1, none⟩ = some (.slice none 0 0) ∧ (∀ i, w6.frozen? ⟨w.heap.size + 1, i, none⟩ = false) ∧
       Hid (OwnS ((w6.setCell ⟨w.heap.size + 1, 0, none⟩ (.int .i64 r)).setCell ⟨w.heap.size + 1, 1, none⟩ (jS A' ys.length c')) (jS A' ys.length c') ys F ∧ Fresh F w ((w6.setCell ⟨w.heap.size + 1, 0, none⟩ (.int .i64 r)).setCell ⟨w.heap.size + 1, 1, none⟩ (jS A' ys.length c')) ∧ Below w.heap.size w ((w6.setCell ⟨w.heap.size + 1, 0, none⟩ (.int .i64 r)).setCell ⟨w.heap.size + 1, 1, none⟩ (jS A' ys.length c'))) := fun w5 nm o ys b5 y5 m5 he => by
   refine (HA.out _ _ _ _ ((HR0.out.below b5).more b5.size) m5).mono ?_
   rintro e w6 ⟨v, F, rfl, o6, f6, b6⟩
   rw [he] at o6
   obtain ⟨A', c', rfl, _, _⟩ := o6.form
   obtain ⟨q0, q1, f1⟩ := FIN0.out _ (box_on b6 y5)
   have hlt5 : w.heap.size + 1 < w5.heap.size := (Array.getElem?_eq_some_iff.1 y5).1
   refine ⟨A', c', F, rfl, q0, q1, f1, Lib.hid ⟨o6.keep (fun q hq _ => ?_), fun q hq => ?_, ((bel_on b5 b6).setCell (by simp) _).setCell (by simp) _⟩⟩
   · have := (f6 q hq).1
     rw [Below.heap_setCell _ _ _ _ (by simp; omega), Below.heap_setCell _ _ _ _ (by simp; omega)]
   · have := f6 q hq
     simp only [World.setCell, Array.size_modify]
     omega
 have LST := Lib.hid LAST
 clear LAST
 have TK := Lib.hid (release_any (w2.heap.size + 1) n (ownTo xs n) x (task + 1) w3 M3.out hx)
 have hzz := HFZ.out (by trivial)
 have HOO := Lib.hid hzz
 rw [hzz] at TK
 clear hzz
 go_wp2_with fail
 refine TK.out.mono ?_
 rintro e w5 ⟨rfl, m5, g5⟩
 have B5 := Lib.hid (bel_grown B3.out g5 B3.out.size (by have := G2.out; omega))
 have V0 := Lib.hid (box_grown g5 (by have := G2.out; omega) U0.out)
 have V1 := Lib.hid (box_grown g5 (by have := G2.out; omega) U1.out)
 have M6 := Lib.hid m5
 clear m5 g5
 cases zo
 · have M5 := Lib.hid (show Held w5 (w2.heap.size + 1) n (ownTo xs n) from by have := M6.out; rwa [if_neg (by have := HOO.out; simpa using this)] at this)
   obtain ⟨d0, d1⟩ := ARG0.out _ V0.out
   go_wp2_with fail
   refine (LST.out _ _ _ xs B5.out V1.out M5.out HYY.out).mono ?_
   rintro e w6 ⟨A6, c6, F6, rfl, q0, q1, f1, RES⟩
   clear d0 d1
   go_wp2
   refine bodyPost_ret (v := .tuple #[.agg #[.int .i64 r, jS A6 xs.length c6], .bool false]) (by simp [results, Tryz.results9, go_sem, q0, q1]) rfl ?_
   obtain ⟨h1, h2, h3⟩ := RES.out
   first | exact ⟨A6, c6, rfl, F6, h1, h2, h3⟩ | exact ⟨A6, c6, F6, rfl, h1, h2, h3⟩
 · have M5 := Lib.hid (show Held w5 (w2.heap.size + 1) n (upd (ownTo xs n) x 0) from by have := M6.out; rwa [if_pos (by have := HOO.out; simpa using this)] at this)
   obtain ⟨d0, d1⟩ := ARG0.out _ V0.out
   go_wp2_with fail
   refine (LST.out _ _ _ Y B5.out V1.out M5.out (HUP.out (HMZ.out (by trivial)))).mono ?_
   rintro e w6 ⟨A6, c6, F6, rfl, q0, q1, f1, RES⟩
   clear d0 d1
   go_wp2
   refine bodyPost_ret (v := .tuple #[.agg #[.int .i64 r, jS A6 Y.length c6], .bool true]) (by simp [results, Tryz.results9, go_sem, q0, q1]) rfl ?_
   obtain ⟨h1, h2, h3⟩ := RES.out
   first | exact ⟨A6, c6, rfl, F6, h1, h2, h3⟩ | exact ⟨A6, c6, F6, rfl, h1, h2, h3⟩
end Go.Proofs.YtpffkhjegpddbaaGreat
namespace Go.Proofs.YtpffkhjegpddbaaGreat
open Go.Shelf
def laysSort_ren : Go.Shelf.Ren := ⟨fun | 5 => 32 | 8 => 46 | 7 => 45 | 19 => 72 | 20 => 73 | 10 => 63 | 11 => 64 | 12 => 65 | 13 => 66 | 14 => 67 | 15 => 68 | 16 => 69 | 17 => 70 | 18 => 71 | 30 => 89 | 31 => 90 | 32 => 91 | 33 => 92 | 34 => 93 | 35 => 94 | 40 => 106 | n => n, fun | 23 => 35 | 25 => 2 | 3 => 3 | 32 => 78 | 22 => 35 | 0 => 0 | 44 => 105 | 46 => 107 | 4 => 4 | 36 => 98 | 35 => 97 | 41 => 102 | 5 => 5 | 9 => 9 | 53 => 117 | 57 => 121 | 63 => 134 | 64 => 135 | n => n, fun | n => n⟩
theorem laysSort : Go.Proofs.SlLaysM.n5 Tryz.prog laysSort_ren := {
 mixed := by kernel_rfl
 f5 := ⟨Tryz.f32.name, by decide, Tryz.func32.trans (congrArg some (by kernel_rfl))⟩
 f7 := ⟨Tryz.f45.name, by decide, Tryz.func45.trans (congrArg some (by kernel_rfl))⟩
 f8 := Tryz.func46.trans (congrArg some (by kernel_rfl))
 f10 := ⟨Tryz.f63.name, by decide, Tryz.func63.trans (congrArg some (by kernel_rfl))⟩
 f11 := ⟨Tryz.f64.name, by decide, Tryz.func64.trans (congrArg some (by kernel_rfl))⟩
 f12 := ⟨Tryz.f65.name, by decide, Tryz.func65.trans (congrArg some (by kernel_rfl))⟩
 f13 := ⟨Tryz.f66.name, by decide, Tryz.func66.trans (congrArg some (by kernel_rfl))⟩
 f14 := ⟨Tryz.f67.name, by decide, Tryz.func67.trans (congrArg some (by kernel_rfl))⟩
 f15 := ⟨Tryz.f68.name, by decide, Tryz.func68.trans (congrArg some (by kernel_rfl))⟩
 f16 := ⟨Tryz.f69.name, by decide, Tryz.func69.trans (congrArg some (by kernel_rfl))⟩
 f17 := ⟨Tryz.f70.name, by decide, Tryz.func70.trans (congrArg some (by kernel_rfl))⟩
 f18 := ⟨Tryz.f71.name, by decide, Tryz.func71.trans (congrArg some (by kernel_rfl))⟩
 f19 := Tryz.func72.trans (congrArg some (by kernel_rfl))
 f20 := Tryz.func73.trans (congrArg some (by kernel_rfl))
 f30 := ⟨Tryz.f89.name, by decide, Tryz.func89.trans (congrArg some (by kernel_rfl))⟩
 f31 := Tryz.func90.trans (congrArg some (by kernel_rfl))
 f32 := Tryz.func91.trans (congrArg some (by kernel_rfl))
 f33 := ⟨Tryz.f92.name, by decide, Tryz.func92.trans (congrArg some (by kernel_rfl))⟩
 f34 := ⟨Tryz.f93.name, by decide, Tryz.func93.trans (congrArg some (by kernel_rfl))⟩
 f35 := ⟨Tryz.f94.name, by decide, Tryz.func94.trans (congrArg some (by kernel_rfl))⟩
 f40 := ⟨Tryz.f106.name, by decide, Tryz.func106.trans (congrArg some (by kernel_rfl))⟩
 t0 := Tryz.underlying0
 a0 := Tryz.isAgg0
 z0 := Tryz.sizeOf0
 v0 := Tryz.zeroValue0
 t3 := Tryz.underlying3
 a3 := Tryz.isAgg3
 z3 := Tryz.sizeOf3
 v3 := Tryz.zeroValue3
 t4 := Tryz.underlying4
 a4 := Tryz.isAgg4
 z4 := Tryz.sizeOf4
 v4 := Tryz.zeroValue4
 t5 := Tryz.underlying5
 a5 := Tryz.isAgg5
 z5 := Tryz.sizeOf5
 v5 := Tryz.zeroValue5
 t9 := Tryz.underlying9
 a9 := Tryz.isAgg9
 z9 := Tryz.sizeOf9
 v9 := Tryz.zeroValue9
 t22 := Tryz.underlying35
 a22 := Tryz.isAgg35
 z22 := Tryz.sizeOf35
 v22 := Tryz.zeroValue35
 t23 := Tryz.underlying35
 a23 := Tryz.isAgg35
 z23 := Tryz.sizeOf35
 v23 := Tryz.zeroValue35
 t25 := Tryz.underlying2
 a25 := Tryz.isAgg2
 z25 := Tryz.sizeOf2
 v25 := Tryz.zeroValue2
 t32 := Tryz.underlying78
 a32 := Tryz.isAgg78
 z32 := Tryz.sizeOf78
 v32 := Tryz.zeroValue78
 t35 := Tryz.underlying97
 a35 := Tryz.isAgg97
 z35 := Tryz.sizeOf97
 v35 := Tryz.zeroValue97
 t36 := Tryz.underlying98
 a36 := Tryz.isAgg98
 z36 := Tryz.sizeOf98
 v36 := Tryz.zeroValue98
 t41 := Tryz.underlying102
 a41 := Tryz.isAgg102
 z41 := Tryz.sizeOf102
 v41 := Tryz.zeroValue102
 t44 := Tryz.underlying105
 a44 := Tryz.isAgg105
 z44 := Tryz.sizeOf105
 v44 := Tryz.zeroValue105
 t46 := Tryz.underlying107
 a46 := Tryz.isAgg107
 z46 := Tryz.sizeOf107
 v46 := Tryz.zeroValue107
 t53 := Tryz.underlying117
 a53 := Tryz.isAgg117
 z53 := Tryz.sizeOf117
 v53 := Tryz.zeroValue117
 t57 := Tryz.underlying121
 a57 := Tryz.isAgg121
 z57 := Tryz.sizeOf121
 v57 := Tryz.zeroValue121
 t63 := Tryz.underlying134
 a63 := Tryz.isAgg134
 z63 := Tryz.sizeOf134
 v63 := Tryz.zeroValue134
 t64 := Tryz.underlying135
 a64 := Tryz.isAgg135
 z64 := Tryz.sizeOf135
 v64 := Tryz.zeroValue135 }
open Go.Sort Go.RowKit in
theorem sort_any (blk off cap : Nat) (zs : List Int) (w : World) (hH : Holds (Value.int .i64) w blk off zs.toArray) (hblk : blk < w.heap.size) (hsz : zs.length < 4611686018427387904) :
   Calls Tryz.prog 32 #[jS (some ⟨blk, off, none⟩) zs.length cap] w fun e w' =>
     e = .returned (.tuple #[]) ∧ ∃ n os, w' = grow (putRow (Value.int .i64) (Sort.ahead w n) blk off (zs.mergeSort fun x y => decide (x ≤ y)).toArray) os := AnyM.slices_Sort_int laysSort blk off cap zs w hH hblk hsz
open Go.RowKit Go.Sort in
theorem sort_none (p : Option Addr) (cap : Nat) (w : World) :
   Calls Tryz.prog 32 #[jS p 0 cap] w fun e w' => e = .returned (.tuple #[]) ∧ w' = w := AnyM.slices_Sort_int_none laysSort p cap w
end Go.Proofs.YtpffkhjegpddbaaGreat
