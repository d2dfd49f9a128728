/- The walks of the model's ways: l5Next, NextOf, l5Leaf, LeafOf, Found. -/
import Derived.Test.YtpffkhjegpddbaaGreatV08
open Go.Value renaming int → jI, slice → jS
open Go.IntKind renaming i64 → jZ
namespace Go.Proofs.YtpffkhjegpddbaaGreat
open Go.RowKit

def nextP (xs : List Nd) (a : Nat) (key want : Int) : Int × Int :=
 if inside (ndAt xs a) key = true then (if want < lvAt xs a ∧ 0 < lvAt xs a then (vAt (ndAt xs a).ps (kidIx (ndAt xs a).ps key), 2) else if lvAt xs a = want then ((a : Int), 3) else (-1, 0)) else (riAt xs a, 1)
set_option maxRecDepth 100000 in
set_option maxHeartbeats 1000000 in
theorem next_any (r : Int) (xs : List Nd) (A : Option Addr) (n c : Nat) (a : Nat) (key want : Int) (w : World) (h : RS w w.heap.size A n xs) (hR : Right n r xs) (ha : a < n) :
   Calls Tryz.prog 127 #[.agg #[jI jZ r, jS A n c], jI jZ a, jI jZ key, jI jZ want] w fun e w' => e = .returned (.tuple #[jI jZ (nextP xs a key want).1, jI jZ (nextP xs a key want).2]) ∧ Below w.heap.size w w' := by
 have hn40 := hR.most
 obtain ⟨w0, hw0⟩ : ∃ w0, w0 = w.alloc (.cells #[jI jZ r, jS A n c] 26) := ⟨_, rfl⟩
 have b0 : Below w.heap.size w w0 := by rw [hw0]; exact (Below.refl _ _).alloc (Nat.le_refl _) _
 have x0 : w0.heap[w.heap.size]? = some (.cells #[jI jZ r, jS A n c] 26 (0, 0)) := by rw [hw0]; exact heap_alloc_new _ _
 obtain ⟨b, off, rfl, hb, hc⟩ := (h.on b0).nd (by omega)
 obtain ⟨A2, n2, c2, c0, c1, c2', c3, c4, hP, _⟩ := hc a ha
 have hlv := hR.lv a ha
 have hgood := (hR.good a ha).1
 have hkid := nodeOk_kids hgood
 have hn2 : n2 ≤ 1048576 := by
   have := hgood
   unfold nodeOk at this
   simp only [Bool.and_eq_true, decide_eq_true_eq] at this
   have h4 := this.1.1.1.1.2
   rw [hP.1] at h4
   omega
 have inW : ∀ wx, Calls Tryz.prog 130 #[ndV (ndAt xs a) A2 n2 c2, jI jZ key] wx fun e w' => e = .returned (.bool (inside (ndAt xs a) key)) ∧ Below wx.heap.size wx w' := fun wx => sInside_any (ndAt xs a) key A2 n2 c2 wx
 have kdW : 0 < lvAt xs a → ∀ wx, Below w0.heap.size w0 wx → Calls Tryz.prog 135 #[ndV (ndAt xs a) A2 n2 c2, jI jZ key] wx fun e w' => e = .returned (jI jZ (vAt (ndAt xs a).ps (kidIx (ndAt xs a).ps key))) ∧ Below wx.heap.size wx w' := fun hl wx hbx => sKid_any (ndAt xs a) key A2 n2 c2 wx (hP.on hbx) hn2 (by rw [← hP.1]; exact hkid hl)
 have hv : nextP xs a key want = if inside (ndAt xs a) key = true then (if want < lvAt xs a ∧ 0 < lvAt xs a then (vAt (ndAt xs a).ps (kidIx (ndAt xs a).ps key), 2) else if lvAt xs a = want then ((a : Int), 3) else (-1, 0)) else (riAt xs a, 1) := rfl
 rw [hv]
 clear hv hkid hgood
 unfold riAt
 unfold lvAt at *
 generalize vAt (ndAt xs a).ps (kidIx (ndAt xs a).ps key) = kv at *
 generalize inside (ndAt xs a) key = q at *
 unfold ndV at inW kdW
 obtain ⟨w1, hw1⟩ : ∃ w1, w1 = w0.alloc (.cells #[jI jZ (ndAt xs a).lv, jS A2 n2 c2, jI jZ (ndAt xs a).hi, jI jZ (ndAt xs a).ri, jI jZ (ndAt xs a).ow] 53) := ⟨_, rfl⟩
 have b1 : Below w0.heap.size w0 w1 := by rw [hw1]; exact (Below.refl _ _).alloc (Nat.le_refl _) _
 have x1 : w1.heap[w0.heap.size]? = some (.cells #[jI jZ (ndAt xs a).lv, jS A2 n2 c2, jI jZ (ndAt xs a).hi, jI jZ (ndAt xs a).ri, jI jZ (ndAt xs a).ow] 53 (0, 0)) := by rw [hw1]; exact heap_alloc_new _ _
 have d1 : w0.cell? ⟨w.heap.size, 1, none⟩ = some (.slice (some ⟨b, off, none⟩) n c) := by rw [cell_of_row _ _ 1 _ _ _ x0]; rfl
 have INW := Lib.hid inW
 have KDW := Lib.hid kdW
 have B0 := Lib.hid b0
 have B1 := Lib.hid b1
 have X1 := Lib.hid x1
 have HW := Lib.hid hw0
 have HW1 := Lib.hid hw1
 generalize (ndAt xs a).lv = lv at *
 generalize (ndAt xs a).hi = hi at *
 generalize (ndAt xs a).ri = ri at *
 generalize (ndAt xs a).ow = ow at *
 have hs0 : w0.heap.size = w.heap.size + 1 := by rw [hw0]; simp
 rw [hw0] at d1 c0 c1 c2' c3 c4
 clear inW kdW hw0 hw1 b0 x0 b1 x1 hc hP h hR
 go_enter Tryz.func127, Tryz.ntmps127
 go_wp2_with fail
 rw [← HW.out, ← HW1.out]
 refine (INW.out _).mono ?_
 rintro e w2 ⟨rfl, b2⟩
 have B2 := Lib.hid (bel_on B1.out b2)
 have x2 := box_on b2 X1.out
 rw [hs0] at x2
 have e0 : w2.cell? ⟨w.heap.size + 1, 0, none⟩ = some (jI jZ lv) := by rw [cell_of_row _ _ 0 _ _ _ x2]; rfl
 have e1 : w2.cell? ⟨w.heap.size + 1, 1, none⟩ = some (.slice A2 n2 c2) := by rw [cell_of_row _ _ 1 _ _ _ x2]; rfl
 have e2 : w2.cell? ⟨w.heap.size + 1, 2, none⟩ = some (jI jZ hi) := by rw [cell_of_row _ _ 2 _ _ _ x2]; rfl
 have e3 : w2.cell? ⟨w.heap.size + 1, 3, none⟩ = some (jI jZ ri) := by rw [cell_of_row _ _ 3 _ _ _ x2]; rfl
 have e4 : w2.cell? ⟨w.heap.size + 1, 4, none⟩ = some (jI jZ ow) := by rw [cell_of_row _ _ 4 _ _ _ x2]; rfl
 clear b2 x2 d1 c0 c1 c2' c3 c4
 cases q
 · go_wp2
   go_ret2
   exact ⟨rfl, B0.out.trans (B2.out.mono B0.out.size)⟩
 by_cases h1 : want < lv
 · have g1 : decide (want < lv) = true := by simpa using h1
   by_cases h2 : 0 < lv
   · have g2 : decide (0 < lv) = true := by simpa using h2
     have kd := KDW.out h2 _ B2.out
     go_wp2_with fail
     refine kd.mono ?_
     rintro e w3 ⟨rfl, b3⟩
     have B3 := Lib.hid (bel_on B2.out b3)
     clear b3 e0 e1 e2 e3 e4
     go_wp2
     go_ret2
     exact ⟨by simp, B0.out.trans (B3.out.mono B0.out.size)⟩
   · have g2 : decide (0 < lv) = false := by simpa using h2
     have hne : ¬ lv = want := by omega
     have g3 : (lv == want) = false := by simpa using hne
     go_wp2
     go_ret2
     exact ⟨by simp, B0.out.trans (B2.out.mono B0.out.size)⟩
 · have g1 : decide (want < lv) = false := by simpa using h1
   by_cases h3 : lv = want
   · subst h3
     clear h1 g1
     go_wp2
     all_goals (go_ret2; exact ⟨by simp, B0.out.trans (B2.out.mono B0.out.size)⟩)
   · have g3 : (lv == want) = false := by simpa using h3
     go_wp2
     go_ret2
     exact ⟨by simp, B0.out.trans (B2.out.mono B0.out.size)⟩

end Go.Proofs.YtpffkhjegpddbaaGreat
