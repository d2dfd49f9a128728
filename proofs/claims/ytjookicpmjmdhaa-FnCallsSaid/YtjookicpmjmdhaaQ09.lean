/- The walks of the model's Latched and Freed. (Made by genT9.py.) -/
import Derived.Test.YtjookicpmjmdhaaQ08
open Go.Value renaming int → jI, slice → jS
open Go.IntKind renaming i64 → jZ
namespace Go.Proofs.Ytjookicpmjmdhaa
open Go.RowKit

theorem sm_right {n : Nat} {r : Int} {xs : List Nd} (h : Right n r xs) : Small.sm xs := by
 refine ⟨by have := h.len; have := h.most; omega, fun i hi => ?_⟩
 have hg := (h.good i (by have := h.len; omega)).1
 unfold nodeOk at hg
 simp only [Bool.and_eq_true, decide_eq_true_eq] at hg
 have := hg.1.1.1.1.2
 omega

def latchedB (r : Int) (xs : List Nd) (x task : Int) : Bool := treeOk r xs && inB task 0 5 && (hasB xs.length x && decide ((ndAt xs x.toNat).ow = 0))
def latchedX (r : Int) (xs : List Nd) (x task : Int) : List Nd := if treeOk r xs && inB task 0 5 then (if hasB xs.length x && decide ((ndAt xs x.toNat).ow = 0) then xs.set x.toNat { ndAt xs x.toNat with ow := task + 1 } else xs) else []
def latchedR (r : Int) (xs : List Nd) (_x task : Int) : Int := if treeOk r xs && inB task 0 5 then r else 0

theorem latchedX_sm (r : Int) (xs : List Nd) (x task : Int) : Small.sm (latchedX r xs x task) := by
 unfold latchedX
 by_cases h : (treeOk r xs && inB task 0 5) = true
 · rw [if_pos h]
   simp only [Bool.and_eq_true] at h
   have hR := right_of h.1
   have h0 := sm_right hR
   by_cases h2 : (hasB xs.length x && decide ((ndAt xs x.toNat).ow = 0)) = true
   · rw [if_pos h2]
     simp only [Bool.and_eq_true] at h2
     have hx := (hasB_iff _ _).1 h2.1
     refine ⟨by rw [List.length_set]; exact h0.1, fun i hi => ?_⟩
     rw [List.length_set] at hi
     by_cases hi2 : i = x.toNat
     · subst hi2
       have e : ndAt (xs.set x.toNat { ndAt xs x.toNat with ow := task + 1 }) x.toNat = { ndAt xs x.toNat with ow := task + 1 } := by unfold ndAt; simp [hi]
       rw [e]
       exact h0.2 _ hi
     · have e : ndAt (xs.set x.toNat { ndAt xs x.toNat with ow := task + 1 }) i = ndAt xs i := by unfold ndAt; simp only [List.getD_eq_getElem?_getD]; rw [List.getElem?_set_ne (by omega)]
       rw [e]
       exact h0.2 _ hi
   · rw [if_neg h2]; exact h0
 · rw [if_neg h]; exact ⟨by simp, fun i hi => absurd hi (by simp)⟩

set_option maxRecDepth 100000 in
set_option maxHeartbeats 1000000 in
theorem sLatched_any (r : Int) (xs : List Nd) (A : Option Addr) (n c : Nat) (x task : Int) (w : World) (h : RS w w.heap.size A n xs) (hs : Small.sm xs) :
   Calls Try.prog 94 #[.agg #[jI jZ r, jS A n c], jI jZ x, jI jZ task] w fun e w' => ∃ A' c' F, e = .returned (.tuple #[.agg #[jI jZ (latchedR r xs x task), jS A' (latchedX r xs x task).length c'], .bool (latchedB r xs x task)]) ∧ OwnS w' (jS A' (latchedX r xs x task).length c') (latchedX r xs x task) F ∧ Fresh F w w' ∧ Below w.heap.size w w' := by
 have hl := h.1
 have tk : ∀ w, RS w w.heap.size A n xs → Calls Try.prog 79 #[.agg #[jI jZ r, jS A n c]] w fun e w' => e = .returned (.bool (treeOk r xs)) ∧ Below w.heap.size w w' := fun w h => sTreeOk_any r xs A n c w h hs
 have kk := task_is task
 have ck : ∀ w, RS w w.heap.size A n xs → Calls Try.prog 80 #[.agg #[jI jZ r, jS A n c]] w fun e w' => ∃ v F, e = .returned (.agg #[jI jZ r, v]) ∧ OwnS w' v xs F ∧ Fresh F w w' ∧ Below w.heap.size w w' := fun w h => copyT_any r xs A n c w h hs
 have hk : ∀ w, n ≤ 1048576 → Calls Try.prog 82 #[.agg #[jI jZ r, jS A n c], jI jZ x] w fun e w' => e = .returned (.bool (hasB n x)) ∧ Below w.heap.size w w' := fun w hn => has_any r A n c x w hn
 have htt : inB task 0 5 = true → 0 ≤ task ∧ task ≤ 5 := fun h => by unfold inB at h; simpa using h
 have hxx : hasB n x = true → 0 ≤ x ∧ x < n := (hasB_iff n x).1
 have hn40 : treeOk r xs = true → n ≤ 40 := fun h => hl ▸ ((treeOk_iff r xs).1 h).2.1
 have e1 : latchedB r xs x task = (treeOk r xs && inB task 0 5 && (hasB n x && decide ((ndAt xs x.toNat).ow = 0))) := by unfold latchedB; rw [hl]
 have e2 : latchedX r xs x task = if treeOk r xs && inB task 0 5 then (if hasB n x && decide ((ndAt xs x.toNat).ow = 0) then xs.set x.toNat { ndAt xs x.toNat with ow := task + 1 } else xs) else [] := by unfold latchedX; rw [hl]
 have e3 : latchedR r xs x task = if treeOk r xs && inB task 0 5 then r else 0 := rfl
 rw [e1, e2, e3]
 clear e1 e2 e3
 generalize treeOk r xs = q at *
 generalize inB task 0 5 = p at *
 generalize hasB n x = m at *
 obtain ⟨w0, hw0⟩ : ∃ w0, w0 = w.alloc (.cells #[jI jZ r, jS A n c] 77) := ⟨_, rfl⟩
 have b0 : Below w.heap.size w w0 := by rw [hw0]; exact (Below.refl _ _).alloc (Nat.le_refl _) _
 have x0 : w0.heap[w.heap.size]? = some (.cells #[jI jZ r, jS A n c] 77 (0, 0)) := by rw [hw0]; exact heap_alloc_new _ _
 have HH := Lib.hid (h.on b0)
 have B0 := Lib.hid b0
 have X0 := Lib.hid x0
 have HW := Lib.hid hw0
 have TK := Lib.hid tk
 have KK := Lib.hid kk
 have CK := Lib.hid ck
 have HK := Lib.hid hk
 have HTT := Lib.hid htt
 have HXX := Lib.hid hxx
 have HN40 := Lib.hid hn40
 have HL := Lib.hid hl
 clear h hw0 b0 x0 tk kk ck hk htt hxx hn40 hl
 obtain ⟨w1, hw1⟩ : ∃ w1, w1 = w0.alloc (.cells #[jI jZ 0, jS none 0 0] 77) := ⟨_, rfl⟩
 have hs0 : w0.heap.size = w.heap.size + 1 := by rw [HW.out]; simp
 have b1 : Below w0.heap.size w0 w1 := by rw [hw1]; exact (Below.refl _ _).alloc (Nat.le_refl _) _
 have x1 : w1.heap[w.heap.size + 1]? = some (.cells #[jI jZ 0, jS none 0 0] 77 (0, 0)) := by rw [hw1, ← hs0]; exact heap_alloc_new _ _
 have HH1 := Lib.hid (HH.out.on b1)
 have B1 := Lib.hid (bel_on B0.out b1)
 have Y1 := Lib.hid (box_on b1 X0.out)
 have X1 := Lib.hid x1
 have HW1 : Hid (w1 = (w.alloc (.cells #[jI jZ r, jS A n c] 77)).alloc (.cells #[jI jZ 0, jS none 0 0] 77)) := Lib.hid (by rw [hw1, HW.out])
 clear hw1 hs0 b1 x1 HH B0 X0
 -- what is handed back where nothing is done
 have fin0 : ∀ wx, Below w1.heap.size w1 wx → (wx.cell? ⟨w.heap.size + 1, 0, none⟩ = some (jI jZ 0) ∧ wx.cell? ⟨w.heap.size + 1, 1, none⟩ = some (.slice none 0 0) ∧ ∀ i, wx.frozen? ⟨w.heap.size + 1, i, none⟩ = false) := fun wx hb =>
   ⟨by rw [cell_of_row _ _ 0 _ _ _ (box_on hb X1.out)]; rfl, by rw [cell_of_row _ _ 1 _ _ _ (box_on hb X1.out)]; rfl, fun i => frozen_of_row _ _ i _ _ (box_on hb X1.out)⟩
 have FIN0 := Lib.hid fin0
 clear fin0
 go_enter Try.func94, Try.ntmps94
 go_wp2_with fail
 rw [← HW1.out]
 refine (TK.out _ HH1.out).mono ?_
 rintro e w2 ⟨rfl, b2⟩
 have B2 := Lib.hid (bel_on B1.out b2)
 have HH2 := Lib.hid (HH1.out.on b2)
 have Y2 := Lib.hid (box_on b2 Y1.out)
 have X2 := Lib.hid (box_on b2 X1.out)
 obtain ⟨q0, q1, f1⟩ := FIN0.out _ b2
 have E2 := Lib.hid b2
 clear b2
 cases q
 · go_wp2
   refine bodyPost_ret (v := .tuple #[.agg #[jI jZ 0, jS none 0 0], .bool false]) (by simp [results, Try.results94, go_sem, q0, q1]) rfl ⟨none, 0, rfl, fun _ => False, OwnS.nil _ _, fun k hk => absurd hk id, ?_⟩
   exact (B2.out.setCell (by simp) _).setCell (by simp) _
 go_wp2_with fail
 refine (KK.out _).mono ?_
 rintro e w3 ⟨rfl, rfl⟩
 cases p
 · go_wp2
   refine bodyPost_ret (v := .tuple #[.agg #[jI jZ 0, jS none 0 0], .bool false]) (by simp [results, Try.results94, go_sem, q0, q1]) rfl ⟨none, 0, rfl, fun _ => False, OwnS.nil _ _, fun k hk => absurd hk id, ?_⟩
   exact (B2.out.setCell (by simp) _).setCell (by simp) _
 obtain ⟨ht0, ht5⟩ := HTT.out (by trivial)
 have hn := HN40.out (by trivial)
 have d0 : w2.cell? ⟨w.heap.size, 0, none⟩ = some (jI jZ r) := by rw [cell_of_row _ _ 0 _ _ _ Y2.out]; rfl
 have d1 : w2.cell? ⟨w.heap.size, 1, none⟩ = some (.slice A n c) := by rw [cell_of_row _ _ 1 _ _ _ Y2.out]; rfl
 go_wp2_with fail
 refine (CK.out _ HH2.out).mono ?_
 rintro e w3 ⟨v, F, rfl, o3, f3, b3⟩
 obtain ⟨A3, c3, rfl, _, _⟩ := o3.form
 obtain ⟨w4, hw4⟩ : ∃ w4, w4 = w3.alloc (.cells #[jI jZ r, jS A3 xs.length c3] 77) := ⟨_, rfl⟩
 have b4 : Below w3.heap.size w3 w4 := by rw [hw4]; exact (Below.refl _ _).alloc (Nat.le_refl _) _
 have x4 : w4.heap[w3.heap.size]? = some (.cells #[jI jZ r, jS A3 xs.length c3] 77 (0, 0)) := by rw [hw4]; exact heap_alloc_new _ _
 have b24 := bel_on b3 b4
 have B4 := Lib.hid (bel_on B2.out b24)
 have Y4 := Lib.hid (box_on b24 Y2.out)
 have X4 := Lib.hid x4
 have HH4 := Lib.hid (HH2.out.on b24)
 have O4 := Lib.hid (o3.on b4)
 have E4 := Lib.hid (bel_on E2.out b24)
 have F3 := Lib.hid f3
 have HW4 := Lib.hid hw4
 have SZ4 : Hid (w.heap.size + 1 < w2.heap.size) := Lib.hid (Array.getElem?_eq_some_iff.1 X2.out).1
 clear d0 d1 q0 q1 f1 o3 f3 hw4 b4 x4 b3 b24
 have e0 : w4.cell? ⟨w.heap.size, 0, none⟩ = some (jI jZ r) := by rw [cell_of_row _ _ 0 _ _ _ Y4.out]; rfl
 have e1 : w4.cell? ⟨w.heap.size, 1, none⟩ = some (.slice A n c) := by rw [cell_of_row _ _ 1 _ _ _ Y4.out]; rfl
 have e0' : (w3.alloc (.cells #[jI jZ r, jS A3 xs.length c3] 77)).cell? ⟨w.heap.size, 0, none⟩ = some (jI jZ r) := by rw [← HW4.out]; exact e0
 have e1' : (w3.alloc (.cells #[jI jZ r, jS A3 xs.length c3] 77)).cell? ⟨w.heap.size, 1, none⟩ = some (.slice A n c) := by rw [← HW4.out]; exact e1
 go_wp2_with fail
 rw [← HW4.out]
 refine (HK.out _ (by omega)).mono ?_
 rintro e w5 ⟨rfl, b5⟩
 have B5 := Lib.hid (bel_on B4.out b5)
 have X5 := Lib.hid (box_on b5 X4.out)
 have Y5 := Lib.hid (box_on b5 Y4.out)
 have HH5 := Lib.hid (HH4.out.on b5)
 have O5 := Lib.hid (O4.out.on b5)
 have E5 := Lib.hid (bel_on E4.out b5)
 have S5 := Lib.hid b5.size
 obtain ⟨q0, q1, f1⟩ := FIN0.out _ E5.out
 clear e0 e1 e0' e1' b5
 have g0 : w5.cell? ⟨w3.heap.size, 0, none⟩ = some (jI jZ r) := by rw [cell_of_row _ _ 0 _ _ _ X5.out]; rfl
 have g1 : w5.cell? ⟨w3.heap.size, 1, none⟩ = some (.slice A3 xs.length c3) := by rw [cell_of_row _ _ 1 _ _ _ X5.out]; rfl
 have RES : Hid (OwnS ((w5.setCell ⟨w.heap.size + 1, 0, none⟩ (jI jZ r)).setCell ⟨w.heap.size + 1, 1, none⟩ (jS A3 xs.length c3)) (jS A3 xs.length c3) xs F ∧ Fresh F w ((w5.setCell ⟨w.heap.size + 1, 0, none⟩ (jI jZ r)).setCell ⟨w.heap.size + 1, 1, none⟩ (jS A3 xs.length c3)) ∧ Below w.heap.size w ((w5.setCell ⟨w.heap.size + 1, 0, none⟩ (jI jZ r)).setCell ⟨w.heap.size + 1, 1, none⟩ (jS A3 xs.length c3))) := Lib.hid (by
   refine ⟨O5.out.keep (fun k hk _ => ?_), fun k hk => ?_, (B5.out.setCell (by simp) _).setCell (by simp) _⟩
   · have := (F3.out k hk).1
     have := SZ4.out
     rw [Below.heap_setCell _ _ _ _ (by simp; omega), Below.heap_setCell _ _ _ _ (by simp; omega)]
   · have h1 := F3.out k hk
     have h2 := SZ4.out
     have h3 := S5.out
     have h4 : w3.heap.size < w4.heap.size := (Array.getElem?_eq_some_iff.1 X4.out).1
     simp only [World.setCell, Array.size_modify]
     omega)
 cases m
 · go_wp2
   refine bodyPost_ret (v := .tuple #[.agg #[jI jZ r, jS A3 xs.length c3], .bool false]) (by simp [results, Try.results94, go_sem, q0, q1]) rfl ?_
   obtain ⟨h1, h2, h3⟩ := RES.out
   first | exact ⟨A3, c3, rfl, F, h1, h2, h3⟩ | exact ⟨A3, c3, F, rfl, h1, h2, h3⟩
 obtain ⟨hx0, hxn⟩ := HXX.out (by trivial)
 obtain ⟨k, rfl⟩ : ∃ k : Nat, x = k := ⟨x.toNat, by omega⟩
 have hkn : k < n := by omega
 have d1 : w5.cell? ⟨w.heap.size, 1, none⟩ = some (.slice A n c) := by rw [cell_of_row _ _ 1 _ _ _ Y5.out]; rfl
 obtain ⟨b, off, rfl, hb, hc⟩ := HH5.out.nd (by omega)
 obtain ⟨_, _, _, _, _, _, _, c4, _, _⟩ := hc k hkn
 clear hc
 have hopen := O5.out.open k (by rw [HL.out]; exact hkn)
 have hdd : xs.getD k encNd.dflt = ndAt xs k := rfl
 rw [hdd] at hopen
 have HOP := Lib.hid hopen
 have hzd : (ndAt xs (k : Int).toNat) = ndAt xs k := by rw [Int.toNat_natCast]
 have HZD := Lib.hid hzd
 clear hopen hdd hzd
 by_cases hz : (ndAt xs k).ow = 0
 · have HZ := Lib.hid hz
   obtain ⟨g, cap, pre, cs, post, Fi, hv, hFg, hgl, hrow, hpre, hcl, hown, hFi, hclose⟩ := HOP.out
   obtain ⟨rfl, rfl⟩ : A3 = some ⟨g, 0, none⟩ ∧ c3 = cap := by simpa using hv
   obtain ⟨u1, hcs, hin, hF1⟩ := hown
   subst hcs
   have hrow5 : w5.ownsRow 0 101 5 (jS (some ⟨g, 0, none⟩) xs.length c3) xs.length (pre ++ [jI jZ (ndAt xs k).lv, u1, jI jZ (ndAt xs k).hi, jI jZ (ndAt xs k).ri, jI jZ (ndAt xs k).ow] ++ post) := hrow
   have hpre5 : pre.length = k * 5 := hpre
   have k4 : w5.cell? ⟨g, k * 5 + 4, none⟩ = some (jI jZ (ndAt xs k).ow) := by rw [hrow5.cellAt _ (by have := HL.out; omega), mid_get hpre5 (by simp)]; rfl
   have ff : w5.frozen? ⟨g, k * 5 + 4, none⟩ = false := hrow5.frozenAt _
   have hgF := F3.out g hFg
   have hgne : g ≠ w.heap.size + 1 := by have := SZ4.out; omega
   have hgne2 : g ≠ w3.heap.size := by omega
   have hgne3 : g ≠ w.heap.size := by have := SZ4.out; omega
   have hsn : (xs.set k { ndAt xs k with ow := task + 1 }).length = xs.length := List.length_set
   have hcell1 : w5.cell? ⟨w3.heap.size, 1, none⟩ = some (.slice (some ⟨g, 0, none⟩) xs.length c3) := g1
   have hkl : k < xs.length := by rw [HL.out]; exact hkn
   have DONE : Hid (OwnS (w5.setCell ⟨g, k * 5 + 4, none⟩ (jI jZ (task + 1))) (jS (some ⟨g, 0, none⟩) xs.length c3) (xs.set k { ndAt xs k with ow := task + 1 }) F) := Lib.hid (by
     have r4 := own_mid hrow5 hpre5 (j := 4) (by simp) (jI jZ (task + 1))
     have h5 := hclose (w5.setCell ⟨g, k * 5 + 4, none⟩ (jI jZ (task + 1))) _ ({ ndAt xs k with ow := task + 1 } : Nd) Fi r4 ⟨u1, rfl, own_same hin (fun q hq _ => Below.heap_setCell _ _ _ _ (hFi q (hF1 q hq)).2), hF1⟩
       (fun q _ h2 _ _ => Below.heap_setCell _ _ _ _ h2) (fun q hq => ⟨(hFi q hq).2, fun _ => hq⟩)
     exact h5.more (fun q hq => by rcases hq with h | h; exact h; exact (hFi q h).1))
   clear hrow hrow5 hpre hpre5 hcl hin hF1 hFi hclose hv
   rw [hz] at c4 k4
   have hkl2 : (k : Int) < (xs.length : Int) := by omega
   go_wp2
   have p0 : (w5.setCell ⟨g, k * 5 + 4, none⟩ (jI jZ (task + 1))).cell? ⟨w.heap.size + 1, 0, none⟩ = some (jI jZ 0) := (World.cell?_of_block (Below.heap_setCell _ _ _ _ (by simp; omega))).trans q0
   have p1 : (w5.setCell ⟨g, k * 5 + 4, none⟩ (jI jZ (task + 1))).cell? ⟨w.heap.size + 1, 1, none⟩ = some (.slice none 0 0) := (World.cell?_of_block (Below.heap_setCell _ _ _ _ (by simp; omega))).trans q1
   have B6 : Hid (Below w.heap.size w (w5.setCell ⟨g, k * 5 + 4, none⟩ (jI jZ (task + 1)))) := Lib.hid (B5.out.setCell (by simp; have := B2.out.size; omega) _)
   have S6 : Hid ((w5.setCell ⟨g, k * 5 + 4, none⟩ (jI jZ (task + 1))).heap.size = w5.heap.size) := Lib.hid (by simp [World.setCell])
   generalize w5.setCell ⟨g, k * 5 + 4, none⟩ (jI jZ (task + 1)) = w6 at *
   refine bodyPost_ret (v := .tuple #[.agg #[jI jZ r, jS (some ⟨g, 0, none⟩) xs.length c3], .bool true]) (by simp [results, Try.results94, go_sem, p0, p1]) rfl ?_
   have h1 : OwnS ((w6.setCell ⟨w.heap.size + 1, 0, none⟩ (jI jZ r)).setCell ⟨w.heap.size + 1, 1, none⟩ (jS (some ⟨g, 0, none⟩) xs.length c3)) (jS (some ⟨g, 0, none⟩) xs.length c3) (xs.set k { ndAt xs k with ow := task + 1 }) F := DONE.out.keep (fun q hq _ => by
     have := (F3.out q hq).1
     have := SZ4.out
     rw [Below.heap_setCell _ _ _ _ (by simp; omega), Below.heap_setCell _ _ _ _ (by simp; omega)])
   have h2 : Fresh F w ((w6.setCell ⟨w.heap.size + 1, 0, none⟩ (jI jZ r)).setCell ⟨w.heap.size + 1, 1, none⟩ (jS (some ⟨g, 0, none⟩) xs.length c3)) := fun q hq => by
     have h1 := F3.out q hq
     have h2 := SZ4.out
     have h3 := S5.out
     have h5 := S6.out
     have h4 : w3.heap.size < w4.heap.size := (Array.getElem?_eq_some_iff.1 X4.out).1
     simp only [World.setCell, Array.size_modify]
     omega
   have h3 : Below w.heap.size w ((w6.setCell ⟨w.heap.size + 1, 0, none⟩ (jI jZ r)).setCell ⟨w.heap.size + 1, 1, none⟩ (jS (some ⟨g, 0, none⟩) xs.length c3)) := (B6.out.setCell (by simp) _).setCell (by simp) _
   first | exact ⟨some ⟨g, 0, none⟩, c3, rfl, F, h1, h2, h3⟩ | exact ⟨some ⟨g, 0, none⟩, c3, F, rfl, h1, h2, h3⟩
 · have gz : ((ndAt xs k).ow != 0) = true := by simpa using hz
   go_wp2
   refine bodyPost_ret (v := .tuple #[.agg #[jI jZ r, jS A3 xs.length c3], .bool false]) (by simp [results, Try.results94, go_sem, q0, q1]) rfl ?_
   obtain ⟨h1, h2, h3⟩ := RES.out
   first | exact ⟨A3, c3, rfl, F, h1, h2, h3⟩ | exact ⟨A3, c3, F, rfl, h1, h2, h3⟩

def freedB (r : Int) (xs : List Nd) (x task : Int) : Bool := treeOk r xs && inB task 0 5 && (hasB xs.length x && decide ((ndAt xs x.toNat).ow = task + 1))
def freedX (r : Int) (xs : List Nd) (x task : Int) : List Nd := if treeOk r xs && inB task 0 5 then (if hasB xs.length x && decide ((ndAt xs x.toNat).ow = task + 1) then xs.set x.toNat { ndAt xs x.toNat with ow := 0 } else xs) else []
def freedR (r : Int) (xs : List Nd) (_x task : Int) : Int := if treeOk r xs && inB task 0 5 then r else 0

theorem freedX_sm (r : Int) (xs : List Nd) (x task : Int) : Small.sm (freedX r xs x task) := by
 unfold freedX
 by_cases h : (treeOk r xs && inB task 0 5) = true
 · rw [if_pos h]
   simp only [Bool.and_eq_true] at h
   have hR := right_of h.1
   have h0 := sm_right hR
   by_cases h2 : (hasB xs.length x && decide ((ndAt xs x.toNat).ow = task + 1)) = true
   · rw [if_pos h2]
     simp only [Bool.and_eq_true] at h2
     have hx := (hasB_iff _ _).1 h2.1
     refine ⟨by rw [List.length_set]; exact h0.1, fun i hi => ?_⟩
     rw [List.length_set] at hi
     by_cases hi2 : i = x.toNat
     · subst hi2
       have e : ndAt (xs.set x.toNat { ndAt xs x.toNat with ow := 0 }) x.toNat = { ndAt xs x.toNat with ow := 0 } := by unfold ndAt; simp [hi]
       rw [e]
       exact h0.2 _ hi
     · have e : ndAt (xs.set x.toNat { ndAt xs x.toNat with ow := 0 }) i = ndAt xs i := by unfold ndAt; simp only [List.getD_eq_getElem?_getD]; rw [List.getElem?_set_ne (by omega)]
       rw [e]
       exact h0.2 _ hi
   · rw [if_neg h2]; exact h0
 · rw [if_neg h]; exact ⟨by simp, fun i hi => absurd hi (by simp)⟩

set_option maxRecDepth 100000 in
set_option maxHeartbeats 1000000 in
theorem sFreed_any (r : Int) (xs : List Nd) (A : Option Addr) (n c : Nat) (x task : Int) (w : World) (h : RS w w.heap.size A n xs) (hs : Small.sm xs) :
   Calls Try.prog 101 #[.agg #[jI jZ r, jS A n c], jI jZ x, jI jZ task] w fun e w' => ∃ A' c' F, e = .returned (.tuple #[.agg #[jI jZ (freedR r xs x task), jS A' (freedX r xs x task).length c'], .bool (freedB r xs x task)]) ∧ OwnS w' (jS A' (freedX r xs x task).length c') (freedX r xs x task) F ∧ Fresh F w w' ∧ Below w.heap.size w w' := by
 have hl := h.1
 have tk : ∀ w, RS w w.heap.size A n xs → Calls Try.prog 79 #[.agg #[jI jZ r, jS A n c]] w fun e w' => e = .returned (.bool (treeOk r xs)) ∧ Below w.heap.size w w' := fun w h => sTreeOk_any r xs A n c w h hs
 have kk := task_is task
 have ck : ∀ w, RS w w.heap.size A n xs → Calls Try.prog 80 #[.agg #[jI jZ r, jS A n c]] w fun e w' => ∃ v F, e = .returned (.agg #[jI jZ r, v]) ∧ OwnS w' v xs F ∧ Fresh F w w' ∧ Below w.heap.size w w' := fun w h => copyT_any r xs A n c w h hs
 have hk : ∀ w, n ≤ 1048576 → Calls Try.prog 82 #[.agg #[jI jZ r, jS A n c], jI jZ x] w fun e w' => e = .returned (.bool (hasB n x)) ∧ Below w.heap.size w w' := fun w hn => has_any r A n c x w hn
 have htt : inB task 0 5 = true → 0 ≤ task ∧ task ≤ 5 := fun h => by unfold inB at h; simpa using h
 have hxx : hasB n x = true → 0 ≤ x ∧ x < n := (hasB_iff n x).1
 have hn40 : treeOk r xs = true → n ≤ 40 := fun h => hl ▸ ((treeOk_iff r xs).1 h).2.1
 have e1 : freedB r xs x task = (treeOk r xs && inB task 0 5 && (hasB n x && decide ((ndAt xs x.toNat).ow = task + 1))) := by unfold freedB; rw [hl]
 have e2 : freedX r xs x task = if treeOk r xs && inB task 0 5 then (if hasB n x && decide ((ndAt xs x.toNat).ow = task + 1) then xs.set x.toNat { ndAt xs x.toNat with ow := 0 } else xs) else [] := by unfold freedX; rw [hl]
 have e3 : freedR r xs x task = if treeOk r xs && inB task 0 5 then r else 0 := rfl
 rw [e1, e2, e3]
 clear e1 e2 e3
 generalize treeOk r xs = q at *
 generalize inB task 0 5 = p at *
 generalize hasB n x = m at *
 obtain ⟨w0, hw0⟩ : ∃ w0, w0 = w.alloc (.cells #[jI jZ r, jS A n c] 77) := ⟨_, rfl⟩
 have b0 : Below w.heap.size w w0 := by rw [hw0]; exact (Below.refl _ _).alloc (Nat.le_refl _) _
 have x0 : w0.heap[w.heap.size]? = some (.cells #[jI jZ r, jS A n c] 77 (0, 0)) := by rw [hw0]; exact heap_alloc_new _ _
 have HH := Lib.hid (h.on b0)
 have B0 := Lib.hid b0
 have X0 := Lib.hid x0
 have HW := Lib.hid hw0
 have TK := Lib.hid tk
 have KK := Lib.hid kk
 have CK := Lib.hid ck
 have HK := Lib.hid hk
 have HTT := Lib.hid htt
 have HXX := Lib.hid hxx
 have HN40 := Lib.hid hn40
 have HL := Lib.hid hl
 clear h hw0 b0 x0 tk kk ck hk htt hxx hn40 hl
 obtain ⟨w1, hw1⟩ : ∃ w1, w1 = w0.alloc (.cells #[jI jZ 0, jS none 0 0] 77) := ⟨_, rfl⟩
 have hs0 : w0.heap.size = w.heap.size + 1 := by rw [HW.out]; simp
 have b1 : Below w0.heap.size w0 w1 := by rw [hw1]; exact (Below.refl _ _).alloc (Nat.le_refl _) _
 have x1 : w1.heap[w.heap.size + 1]? = some (.cells #[jI jZ 0, jS none 0 0] 77 (0, 0)) := by rw [hw1, ← hs0]; exact heap_alloc_new _ _
 have HH1 := Lib.hid (HH.out.on b1)
 have B1 := Lib.hid (bel_on B0.out b1)
 have Y1 := Lib.hid (box_on b1 X0.out)
 have X1 := Lib.hid x1
 have HW1 : Hid (w1 = (w.alloc (.cells #[jI jZ r, jS A n c] 77)).alloc (.cells #[jI jZ 0, jS none 0 0] 77)) := Lib.hid (by rw [hw1, HW.out])
 clear hw1 hs0 b1 x1 HH B0 X0
 -- what is handed back where nothing is done
 have fin0 : ∀ wx, Below w1.heap.size w1 wx → (wx.cell? ⟨w.heap.size + 1, 0, none⟩ = some (jI jZ 0) ∧ wx.cell? ⟨w.heap.size + 1, 1, none⟩ = some (.slice none 0 0) ∧ ∀ i, wx.frozen? ⟨w.heap.size + 1, i, none⟩ = false) := fun wx hb =>
   ⟨by rw [cell_of_row _ _ 0 _ _ _ (box_on hb X1.out)]; rfl, by rw [cell_of_row _ _ 1 _ _ _ (box_on hb X1.out)]; rfl, fun i => frozen_of_row _ _ i _ _ (box_on hb X1.out)⟩
 have FIN0 := Lib.hid fin0
 clear fin0
 go_enter Try.func101, Try.ntmps101
 go_wp2_with fail
 rw [← HW1.out]
 refine (TK.out _ HH1.out).mono ?_
 rintro e w2 ⟨rfl, b2⟩
 have B2 := Lib.hid (bel_on B1.out b2)
 have HH2 := Lib.hid (HH1.out.on b2)
 have Y2 := Lib.hid (box_on b2 Y1.out)
 have X2 := Lib.hid (box_on b2 X1.out)
 obtain ⟨q0, q1, f1⟩ := FIN0.out _ b2
 have E2 := Lib.hid b2
 clear b2
 cases q
 · go_wp2
   refine bodyPost_ret (v := .tuple #[.agg #[jI jZ 0, jS none 0 0], .bool false]) (by simp [results, Try.results101, go_sem, q0, q1]) rfl ⟨none, 0, rfl, fun _ => False, OwnS.nil _ _, fun k hk => absurd hk id, ?_⟩
   exact (B2.out.setCell (by simp) _).setCell (by simp) _
 go_wp2_with fail
 refine (KK.out _).mono ?_
 rintro e w3 ⟨rfl, rfl⟩
 cases p
 · go_wp2
   refine bodyPost_ret (v := .tuple #[.agg #[jI jZ 0, jS none 0 0], .bool false]) (by simp [results, Try.results101, go_sem, q0, q1]) rfl ⟨none, 0, rfl, fun _ => False, OwnS.nil _ _, fun k hk => absurd hk id, ?_⟩
   exact (B2.out.setCell (by simp) _).setCell (by simp) _
 obtain ⟨ht0, ht5⟩ := HTT.out (by trivial)
 have hn := HN40.out (by trivial)
 have d0 : w2.cell? ⟨w.heap.size, 0, none⟩ = some (jI jZ r) := by rw [cell_of_row _ _ 0 _ _ _ Y2.out]; rfl
 have d1 : w2.cell? ⟨w.heap.size, 1, none⟩ = some (.slice A n c) := by rw [cell_of_row _ _ 1 _ _ _ Y2.out]; rfl
 go_wp2_with fail
 refine (CK.out _ HH2.out).mono ?_
 rintro e w3 ⟨v, F, rfl, o3, f3, b3⟩
 obtain ⟨A3, c3, rfl, _, _⟩ := o3.form
 obtain ⟨w4, hw4⟩ : ∃ w4, w4 = w3.alloc (.cells #[jI jZ r, jS A3 xs.length c3] 77) := ⟨_, rfl⟩
 have b4 : Below w3.heap.size w3 w4 := by rw [hw4]; exact (Below.refl _ _).alloc (Nat.le_refl _) _
 have x4 : w4.heap[w3.heap.size]? = some (.cells #[jI jZ r, jS A3 xs.length c3] 77 (0, 0)) := by rw [hw4]; exact heap_alloc_new _ _
 have b24 := bel_on b3 b4
 have B4 := Lib.hid (bel_on B2.out b24)
 have Y4 := Lib.hid (box_on b24 Y2.out)
 have X4 := Lib.hid x4
 have HH4 := Lib.hid (HH2.out.on b24)
 have O4 := Lib.hid (o3.on b4)
 have E4 := Lib.hid (bel_on E2.out b24)
 have F3 := Lib.hid f3
 have HW4 := Lib.hid hw4
 have SZ4 : Hid (w.heap.size + 1 < w2.heap.size) := Lib.hid (Array.getElem?_eq_some_iff.1 X2.out).1
 clear d0 d1 q0 q1 f1 o3 f3 hw4 b4 x4 b3 b24
 have e0 : w4.cell? ⟨w.heap.size, 0, none⟩ = some (jI jZ r) := by rw [cell_of_row _ _ 0 _ _ _ Y4.out]; rfl
 have e1 : w4.cell? ⟨w.heap.size, 1, none⟩ = some (.slice A n c) := by rw [cell_of_row _ _ 1 _ _ _ Y4.out]; rfl
 have e0' : (w3.alloc (.cells #[jI jZ r, jS A3 xs.length c3] 77)).cell? ⟨w.heap.size, 0, none⟩ = some (jI jZ r) := by rw [← HW4.out]; exact e0
 have e1' : (w3.alloc (.cells #[jI jZ r, jS A3 xs.length c3] 77)).cell? ⟨w.heap.size, 1, none⟩ = some (.slice A n c) := by rw [← HW4.out]; exact e1
 go_wp2_with fail
 rw [← HW4.out]
 refine (HK.out _ (by omega)).mono ?_
 rintro e w5 ⟨rfl, b5⟩
 have B5 := Lib.hid (bel_on B4.out b5)
 have X5 := Lib.hid (box_on b5 X4.out)
 have Y5 := Lib.hid (box_on b5 Y4.out)
 have HH5 := Lib.hid (HH4.out.on b5)
 have O5 := Lib.hid (O4.out.on b5)
 have E5 := Lib.hid (bel_on E4.out b5)
 have S5 := Lib.hid b5.size
 obtain ⟨q0, q1, f1⟩ := FIN0.out _ E5.out
 clear e0 e1 e0' e1' b5
 have g0 : w5.cell? ⟨w3.heap.size, 0, none⟩ = some (jI jZ r) := by rw [cell_of_row _ _ 0 _ _ _ X5.out]; rfl
 have g1 : w5.cell? ⟨w3.heap.size, 1, none⟩ = some (.slice A3 xs.length c3) := by rw [cell_of_row _ _ 1 _ _ _ X5.out]; rfl
 have RES : Hid (OwnS ((w5.setCell ⟨w.heap.size + 1, 0, none⟩ (jI jZ r)).setCell ⟨w.heap.size + 1, 1, none⟩ (jS A3 xs.length c3)) (jS A3 xs.length c3) xs F ∧ Fresh F w ((w5.setCell ⟨w.heap.size + 1, 0, none⟩ (jI jZ r)).setCell ⟨w.heap.size + 1, 1, none⟩ (jS A3 xs.length c3)) ∧ Below w.heap.size w ((w5.setCell ⟨w.heap.size + 1, 0, none⟩ (jI jZ r)).setCell ⟨w.heap.size + 1, 1, none⟩ (jS A3 xs.length c3))) := Lib.hid (by
   refine ⟨O5.out.keep (fun k hk _ => ?_), fun k hk => ?_, (B5.out.setCell (by simp) _).setCell (by simp) _⟩
   · have := (F3.out k hk).1
     have := SZ4.out
     rw [Below.heap_setCell _ _ _ _ (by simp; omega), Below.heap_setCell _ _ _ _ (by simp; omega)]
   · have h1 := F3.out k hk
     have h2 := SZ4.out
     have h3 := S5.out
     have h4 : w3.heap.size < w4.heap.size := (Array.getElem?_eq_some_iff.1 X4.out).1
     simp only [World.setCell, Array.size_modify]
     omega)
 cases m
 · go_wp2
   refine bodyPost_ret (v := .tuple #[.agg #[jI jZ r, jS A3 xs.length c3], .bool false]) (by simp [results, Try.results101, go_sem, q0, q1]) rfl ?_
   obtain ⟨h1, h2, h3⟩ := RES.out
   first | exact ⟨A3, c3, rfl, F, h1, h2, h3⟩ | exact ⟨A3, c3, F, rfl, h1, h2, h3⟩
 obtain ⟨hx0, hxn⟩ := HXX.out (by trivial)
 obtain ⟨k, rfl⟩ : ∃ k : Nat, x = k := ⟨x.toNat, by omega⟩
 have hkn : k < n := by omega
 have d1 : w5.cell? ⟨w.heap.size, 1, none⟩ = some (.slice A n c) := by rw [cell_of_row _ _ 1 _ _ _ Y5.out]; rfl
 obtain ⟨b, off, rfl, hb, hc⟩ := HH5.out.nd (by omega)
 obtain ⟨_, _, _, _, _, _, _, c4, _, _⟩ := hc k hkn
 clear hc
 have hopen := O5.out.open k (by rw [HL.out]; exact hkn)
 have hdd : xs.getD k encNd.dflt = ndAt xs k := rfl
 rw [hdd] at hopen
 have HOP := Lib.hid hopen
 have hzd : (ndAt xs (k : Int).toNat) = ndAt xs k := by rw [Int.toNat_natCast]
 have HZD := Lib.hid hzd
 clear hopen hdd hzd
 by_cases hz : (ndAt xs k).ow = task + 1
 · have HZ := Lib.hid hz
   obtain ⟨g, cap, pre, cs, post, Fi, hv, hFg, hgl, hrow, hpre, hcl, hown, hFi, hclose⟩ := HOP.out
   obtain ⟨rfl, rfl⟩ : A3 = some ⟨g, 0, none⟩ ∧ c3 = cap := by simpa using hv
   obtain ⟨u1, hcs, hin, hF1⟩ := hown
   subst hcs
   have hrow5 : w5.ownsRow 0 101 5 (jS (some ⟨g, 0, none⟩) xs.length c3) xs.length (pre ++ [jI jZ (ndAt xs k).lv, u1, jI jZ (ndAt xs k).hi, jI jZ (ndAt xs k).ri, jI jZ (ndAt xs k).ow] ++ post) := hrow
   have hpre5 : pre.length = k * 5 := hpre
   have k4 : w5.cell? ⟨g, k * 5 + 4, none⟩ = some (jI jZ (ndAt xs k).ow) := by rw [hrow5.cellAt _ (by have := HL.out; omega), mid_get hpre5 (by simp)]; rfl
   have ff : w5.frozen? ⟨g, k * 5 + 4, none⟩ = false := hrow5.frozenAt _
   have hgF := F3.out g hFg
   have hgne : g ≠ w.heap.size + 1 := by have := SZ4.out; omega
   have hgne2 : g ≠ w3.heap.size := by omega
   have hgne3 : g ≠ w.heap.size := by have := SZ4.out; omega
   have hsn : (xs.set k { ndAt xs k with ow := 0 }).length = xs.length := List.length_set
   have hcell1 : w5.cell? ⟨w3.heap.size, 1, none⟩ = some (.slice (some ⟨g, 0, none⟩) xs.length c3) := g1
   have hkl : k < xs.length := by rw [HL.out]; exact hkn
   have DONE : Hid (OwnS (w5.setCell ⟨g, k * 5 + 4, none⟩ (jI jZ (0))) (jS (some ⟨g, 0, none⟩) xs.length c3) (xs.set k { ndAt xs k with ow := 0 }) F) := Lib.hid (by
     have r4 := own_mid hrow5 hpre5 (j := 4) (by simp) (jI jZ (0))
     have h5 := hclose (w5.setCell ⟨g, k * 5 + 4, none⟩ (jI jZ (0))) _ ({ ndAt xs k with ow := 0 } : Nd) Fi r4 ⟨u1, rfl, own_same hin (fun q hq _ => Below.heap_setCell _ _ _ _ (hFi q (hF1 q hq)).2), hF1⟩
       (fun q _ h2 _ _ => Below.heap_setCell _ _ _ _ h2) (fun q hq => ⟨(hFi q hq).2, fun _ => hq⟩)
     exact h5.more (fun q hq => by rcases hq with h | h; exact h; exact (hFi q h).1))
   clear hrow hrow5 hpre hpre5 hcl hin hF1 hFi hclose hv
   rw [hz] at c4 k4
   have hkl2 : (k : Int) < (xs.length : Int) := by omega
   go_wp2
   have p0 : (w5.setCell ⟨g, k * 5 + 4, none⟩ (jI jZ (0))).cell? ⟨w.heap.size + 1, 0, none⟩ = some (jI jZ 0) := (World.cell?_of_block (Below.heap_setCell _ _ _ _ (by simp; omega))).trans q0
   have p1 : (w5.setCell ⟨g, k * 5 + 4, none⟩ (jI jZ (0))).cell? ⟨w.heap.size + 1, 1, none⟩ = some (.slice none 0 0) := (World.cell?_of_block (Below.heap_setCell _ _ _ _ (by simp; omega))).trans q1
   have B6 : Hid (Below w.heap.size w (w5.setCell ⟨g, k * 5 + 4, none⟩ (jI jZ (0)))) := Lib.hid (B5.out.setCell (by simp; have := B2.out.size; omega) _)
   have S6 : Hid ((w5.setCell ⟨g, k * 5 + 4, none⟩ (jI jZ (0))).heap.size = w5.heap.size) := Lib.hid (by simp [World.setCell])
   generalize w5.setCell ⟨g, k * 5 + 4, none⟩ (jI jZ (0)) = w6 at *
   refine bodyPost_ret (v := .tuple #[.agg #[jI jZ r, jS (some ⟨g, 0, none⟩) xs.length c3], .bool true]) (by simp [results, Try.results101, go_sem, p0, p1]) rfl ?_
   have h1 : OwnS ((w6.setCell ⟨w.heap.size + 1, 0, none⟩ (jI jZ r)).setCell ⟨w.heap.size + 1, 1, none⟩ (jS (some ⟨g, 0, none⟩) xs.length c3)) (jS (some ⟨g, 0, none⟩) xs.length c3) (xs.set k { ndAt xs k with ow := 0 }) F := DONE.out.keep (fun q hq _ => by
     have := (F3.out q hq).1
     have := SZ4.out
     rw [Below.heap_setCell _ _ _ _ (by simp; omega), Below.heap_setCell _ _ _ _ (by simp; omega)])
   have h2 : Fresh F w ((w6.setCell ⟨w.heap.size + 1, 0, none⟩ (jI jZ r)).setCell ⟨w.heap.size + 1, 1, none⟩ (jS (some ⟨g, 0, none⟩) xs.length c3)) := fun q hq => by
     have h1 := F3.out q hq
     have h2 := SZ4.out
     have h3 := S5.out
     have h5 := S6.out
     have h4 : w3.heap.size < w4.heap.size := (Array.getElem?_eq_some_iff.1 X4.out).1
     simp only [World.setCell, Array.size_modify]
     omega
   have h3 : Below w.heap.size w ((w6.setCell ⟨w.heap.size + 1, 0, none⟩ (jI jZ r)).setCell ⟨w.heap.size + 1, 1, none⟩ (jS (some ⟨g, 0, none⟩) xs.length c3)) := (B6.out.setCell (by simp) _).setCell (by simp) _
   first | exact ⟨some ⟨g, 0, none⟩, c3, rfl, F, h1, h2, h3⟩ | exact ⟨some ⟨g, 0, none⟩, c3, F, rfl, h1, h2, h3⟩
 · have gz : ((ndAt xs k).ow != task + 1) = true := by simpa using hz
   go_wp2
   refine bodyPost_ret (v := .tuple #[.agg #[jI jZ r, jS A3 xs.length c3], .bool false]) (by simp [results, Try.results101, go_sem, q0, q1]) rfl ?_
   obtain ⟨h1, h2, h3⟩ := RES.out
   first | exact ⟨A3, c3, rfl, F, h1, h2, h3⟩ | exact ⟨A3, c3, F, rfl, h1, h2, h3⟩
end Go.Proofs.Ytjookicpmjmdhaa
