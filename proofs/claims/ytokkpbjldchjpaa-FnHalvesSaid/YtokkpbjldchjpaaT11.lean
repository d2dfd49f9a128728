/- The walk of the model's LowerOf. -/
import Derived.Test.YtokkpbjldchjpaaG4
namespace Go.Proofs.Ytokkpbjldchjpaa
open Go.RowKit

def lowerB (x y : Nd) : Bool := nodeOk x && (nodeOk y && (decide (x.lv = y.lv) && (decide (0 ≤ x.hi) && (decide (y.ps.length = 0) || decide (x.hi ≤ kAt y.ps 0)))))

set_option maxRecDepth 100000 in
set_option maxHeartbeats 1000000 in
theorem sLowerOf_any (x y : Nd) (A B : Option Addr) (n c m d : Nat) (w : World) (h : RS w w.heap.size A n x.ps) (h' : RS w w.heap.size B m y.ps) (hs : Small.sm x.ps) (hs' : Small.sm y.ps) :
    Calls Try.prog 13 #[ndV x A n c, ndV y B m d] w fun e w' => e = .returned (.bool (lowerB x y)) ∧ Below w.heap.size w w' := by
  have hn : n ≤ 1048576 := by rw [← h.1]; exact hs
  have hm : m ≤ 1048576 := by rw [← h'.1]; exact hs'
  have xk : ∀ w, RP w w.heap.size A n x.ps → Calls Try.prog 32 #[ndV x A n c] w fun e w' => e = .returned (.bool (nodeOk x)) ∧ Below w.heap.size w w' := fun w hR => sNode_any x A n c w hR hn
  have yk : ∀ w, RP w w.heap.size B m y.ps → Calls Try.prog 32 #[ndV y B m d] w fun e w' => e = .returned (.bool (nodeOk y)) ∧ Below w.heap.size w w' := fun w hR => sNode_any y B m d w hR hm
  unfold lowerB
  generalize nodeOk x = q at *
  generalize nodeOk y = p at *
  obtain ⟨lv, zs, hi, ri, ow⟩ := x
  obtain ⟨lv', zs', hi', ri', ow'⟩ := y
  unfold ndV at *
  simp only at *
  obtain ⟨w0, hw0⟩ : ∃ w0, w0 = (w.alloc (.cells #[.int .i64 lv, .slice A n c, .int .i64 hi, .int .i64 ri, .int .i64 ow] 26)).alloc (.cells #[.int .i64 lv', .slice B m d, .int .i64 hi', .int .i64 ri', .int .i64 ow'] 26) := ⟨_, rfl⟩
  have b0 : Below w.heap.size w w0 := by rw [hw0]; exact ((Below.refl _ _).alloc (Nat.le_refl _) _).alloc (by simp) _
  have x0 : w0.heap[w.heap.size]? = some (.cells #[.int .i64 lv, .slice A n c, .int .i64 hi, .int .i64 ri, .int .i64 ow] 26 (0, 0)) := by
    rw [hw0, Below.heap_alloc _ _ _ (by simp)]; exact heap_alloc_new _ _
  have y0 : w0.heap[w.heap.size + 1]? = some (.cells #[.int .i64 lv', .slice B m d, .int .i64 hi', .int .i64 ri', .int .i64 ow'] 26 (0, 0)) := by
    rw [hw0]
    exact (by simpa using heap_alloc_new (w.alloc (.cells #[.int .i64 lv, .slice A n c, .int .i64 hi, .int .i64 ri, .int .i64 ow] 26)) (.cells #[.int .i64 lv', .slice B m d, .int .i64 hi', .int .i64 ri', .int .i64 ow'] 26))
  have D0 : Hid (∀ wx, Below w0.heap.size w0 wx → wx.cell? ⟨w.heap.size, 0, none⟩ = some (.int .i64 lv) ∧ wx.cell? ⟨w.heap.size, 2, none⟩ = some (.int .i64 hi) ∧ wx.cell? ⟨w.heap.size + 1, 0, none⟩ = some (.int .i64 lv') ∧ wx.cell? ⟨w.heap.size + 1, 1, none⟩ = some (.slice B m d) ∧ wx.cell? ⟨w.heap.size + 1, 2, none⟩ = some (.int .i64 hi') ∧ wx.cell? ⟨w.heap.size + 1, 3, none⟩ = some (.int .i64 ri') ∧ wx.cell? ⟨w.heap.size + 1, 4, none⟩ = some (.int .i64 ow')) := Lib.hid (fun wx hb =>
    ⟨by rw [cell_of_row _ _ 0 _ _ _ (box_on hb x0)]; rfl, by rw [cell_of_row _ _ 2 _ _ _ (box_on hb x0)]; rfl, by rw [cell_of_row _ _ 0 _ _ _ (box_on hb y0)]; rfl, by rw [cell_of_row _ _ 1 _ _ _ (box_on hb y0)]; rfl, by rw [cell_of_row _ _ 2 _ _ _ (box_on hb y0)]; rfl, by rw [cell_of_row _ _ 3 _ _ _ (box_on hb y0)]; rfl, by rw [cell_of_row _ _ 4 _ _ _ (box_on hb y0)]; rfl⟩)
  have HX := Lib.hid (h.on b0).pairs
  have HY := Lib.hid (h'.on b0).pairs
  have B0 := Lib.hid b0
  have HW := Lib.hid hw0
  have XK := Lib.hid xk
  have YK := Lib.hid yk
  have hl' : zs'.length = m := h'.1
  have g1 : (lv != lv') = !decide (lv = lv') := by rw [Bool.eq_iff_iff]; simp
  have g2 : decide (hi < 0) = !decide (0 ≤ hi) := by rw [Bool.eq_iff_iff]; simp
  have e4 : decide (zs'.length = 0) = decide (m = 0) := by rw [hl']
  rw [e4]
  clear e4
  generalize decide (lv = lv') = u1 at *
  generalize decide (0 ≤ hi) = u2 at *
  obtain ⟨u3, hu3⟩ : ∃ u, u = decide (m = 0) := ⟨_, rfl⟩
  rw [← hu3]
  have HZ := Lib.hid hu3
  clear h h' hs hs' hw0 b0 x0 y0 xk yk hl' hu3
  go_enter Try.func13, Try.ntmps13
  go_wp2_with fail
  rw [← HW.out]
  refine (XK.out _ HX.out).mono ?_
  rintro e w1 ⟨rfl, b1⟩
  have B1 := Lib.hid b1
  have HY1 := Lib.hid (HY.out.on b1)
  obtain ⟨d0, d2, f0, f1, f2, f3, f4⟩ := D0.out _ b1
  clear b1
  cases q
  · go_wp2
    go_ret
    exact ⟨rfl, B0.out.trans (B1.out.mono B0.out.size)⟩
  go_wp2_with fail
  refine (YK.out _ HY1.out).mono ?_
  rintro e w2 ⟨rfl, b2⟩
  have B2 := Lib.hid (bel_on B1.out b2)
  have HY2 := Lib.hid (HY1.out.on b2)
  clear b2 d0 d2 f0 f1 f2 f3 f4
  obtain ⟨d0, d2, f0, f1, f2, f3, f4⟩ := D0.out _ B2.out
  cases p
  · go_wp2
    go_ret
    exact ⟨rfl, B0.out.trans (B2.out.mono B0.out.size)⟩
  cases u1
  · go_wp2
    go_ret
    exact ⟨rfl, B0.out.trans (B2.out.mono B0.out.size)⟩
  cases u2
  · go_wp2
    go_ret
    exact ⟨rfl, B0.out.trans (B2.out.mono B0.out.size)⟩
  have z0 := Later.of_cell d2 (Below.refl _ _) (World.block_lt_of_cell? _ _ d2)
  have z1 := Later.of_cell f1 (Below.refl _ _) (World.block_lt_of_cell? _ _ f1)
  cases u3
  · have hm0 : m ≠ 0 := by have := HZ.out; simpa using this
    have hm1 : 0 < m := by omega
    obtain ⟨b, off, rfl, hb, hc⟩ := HY2.out.2 hm1
    have ck := (hc 0 hm1).1
    simp only [Nat.zero_mul, Nat.add_zero] at ck
    have z2 := Later.of_cell ck (Below.refl _ _) hb
    have g3 : ((m : Int) == 0) = false := by simpa using hm0
    clear hc
    go_wp2
    refine wp_region_later (by kernel_rfl) (by kernel_rfl) ?_
    repeat (go_big_quiet_step (fail))
    refine wpQuiet_nil ?_
    intro _ hw'
    obtain ⟨s6, rfl⟩ := hw'
    have B6 := Lib.hid (bel_on B2.out s6.2)
    go_wp2
    go_ret
    exact ⟨ret_bool (by simp), B0.out.trans (B6.out.mono B0.out.size)⟩
  · obtain rfl : m = 0 := by have := HZ.out; simpa using this
    go_wp2
    refine wp_region_later (by kernel_rfl) (by kernel_rfl) ?_
    repeat (go_big_quiet_step (fail))
    refine wpQuiet_nil ?_
    intro _ hw'
    obtain ⟨s6, rfl⟩ := hw'
    have B6 := Lib.hid (bel_on B2.out s6.2)
    go_wp2
    go_ret
    exact ⟨rfl, B0.out.trans (B6.out.mono B0.out.size)⟩
end Go.Proofs.Ytokkpbjldchjpaa
