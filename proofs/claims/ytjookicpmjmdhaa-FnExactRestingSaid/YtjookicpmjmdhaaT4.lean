/- The walks of the model's trees: l3Has, TreeOk. -/
import Derived.Test.YtjookicpmjmdhaaG4
namespace Go.Proofs.Ytjookicpmjmdhaa
open Go.RowKit

/-- Is it the number of one of n nodes? -/
def hasB (n : Nat) (x : Int) : Bool := inB x 0 ((n : Int) - 1)
/-- A node of a right tree of n nodes. -/
def ndGood (n : Nat) (x : Nd) : Bool := nodeOk x && decide (x.ri < (n : Int)) && (decide (x.lv ≤ 0) || (List.range x.ps.length).all (fun j => hasB n (vAt x.ps j)))
def treeOk (r : Int) (xs : List Nd) : Bool := decide (1 ≤ xs.length) && decide (xs.length ≤ 40) && hasB xs.length r && (List.range xs.length).all (fun i => ndGood xs.length (ndAt xs i))

theorem has_any (r : Int) (A : Option Addr) (n c : Nat) (x : Int) (w : World) (hn : n ≤ 1048576) :
    Calls Try.prog 82 #[.agg #[.int .i64 r, .slice A n c], .int .i64 x] w fun e w' => e = .returned (.bool (hasB n x)) ∧ Below w.heap.size w w' := by
  unfold hasB
  go_enter Try.func82, Try.ntmps82
  go_wp2_with (go_at_call 44; refine (in_any _ _ _ _).mono ?_; rintro e w' ⟨rfl, rfl⟩)
  go_ret
  exact ⟨rfl, (Below.refl _ _).alloc (Nat.le_refl _) _⟩

theorem ndGood_no {n : Nat} {x : Nd} (h : nodeOk x = false ∨ (n : Int) ≤ x.ri ∨ (0 < x.lv ∧ ∃ j, j < x.ps.length ∧ hasB n (vAt x.ps j) = false)) : ndGood n x = false := by
  unfold ndGood
  rcases h with h | h | ⟨h, j, hj, hv⟩
  · rw [h]; rfl
  · rw [decide_eq_false (by omega : ¬ x.ri < (n : Int))]; simp
  · have : (List.range x.ps.length).all (fun j => hasB n (vAt x.ps j)) = false := by
      rw [List.all_eq_false]
      exact ⟨j, List.mem_range.2 hj, by simp [hv]⟩
    rw [this, decide_eq_false (by omega : ¬ x.lv ≤ 0)]; simp
theorem ndGood_yes {n : Nat} {x : Nd} (h1 : nodeOk x = true) (h2 : x.ri < (n : Int)) (h3 : 0 < x.lv → ∀ j, j < x.ps.length → hasB n (vAt x.ps j) = true) : ndGood n x = true := by
  unfold ndGood
  rw [h1, decide_eq_true h2]
  by_cases h : 0 < x.lv
  · have : (List.range x.ps.length).all (fun j => hasB n (vAt x.ps j)) = true := by
      rw [List.all_eq_true]
      intro j hj
      exact h3 h j (List.mem_range.1 hj)
    rw [this]; simp
  · rw [decide_eq_true (by omega : x.lv ≤ 0)]; rfl
theorem treeOk_no {r : Int} {xs : List Nd} (h : xs.length < 1 ∨ 40 < xs.length ∨ hasB xs.length r = false ∨ ∃ i, i < xs.length ∧ ndGood xs.length (ndAt xs i) = false) : treeOk r xs = false := by
  unfold treeOk
  rcases h with h | h | h | ⟨i, hi, hv⟩
  · rw [decide_eq_false (by omega : ¬ 1 ≤ xs.length)]; rfl
  · rw [decide_eq_false (by omega : ¬ xs.length ≤ 40)]; simp
  · rw [h]; simp
  · have : (List.range xs.length).all (fun i => ndGood xs.length (ndAt xs i)) = false := by
      rw [List.all_eq_false]
      exact ⟨i, List.mem_range.2 hi, by simp [hv]⟩
    rw [this]; simp
theorem treeOk_iff (r : Int) (xs : List Nd) : treeOk r xs = true ↔ (1 ≤ xs.length ∧ xs.length ≤ 40 ∧ hasB xs.length r = true ∧ ∀ i, i < xs.length → ndGood xs.length (ndAt xs i) = true) := by
  unfold treeOk
  simp only [Bool.and_eq_true, decide_eq_true_eq, List.all_eq_true, List.mem_range]
  exact ⟨fun ⟨⟨⟨a, b⟩, c⟩, d⟩ => ⟨a, b, c, d⟩, fun ⟨a, b, c, d⟩ => ⟨⟨⟨a, b⟩, c⟩, d⟩⟩

set_option maxRecDepth 100000 in
set_option maxHeartbeats 1000000 in
theorem sTreeOk_any (r : Int) (xs : List Nd) (A : Option Addr) (n c : Nat) (w : World) (h : RS w w.heap.size A n xs) (hs : Small.sm xs) :
    Calls Try.prog 79 #[.agg #[.int .i64 r, .slice A n c]] w fun e w' => e = .returned (.bool (treeOk r xs)) ∧ Below w.heap.size w w' := by
  have hl := h.1
  have HL := Lib.hid hl
  have HS := Lib.hid hs
  have hn : n ≤ 1048576 := by rw [← hl]; exact hs.1
  obtain ⟨w0, hw0⟩ : ∃ w0, w0 = w.alloc (.cells #[.int .i64 r, .slice A n c] 77) := ⟨_, rfl⟩
  have b0 : Below w.heap.size w w0 := by rw [hw0]; exact (Below.refl _ _).alloc (Nat.le_refl _) _
  have x0 : w0.heap[w.heap.size]? = some (.cells #[.int .i64 r, .slice A n c] 77 (0, 0)) := by rw [hw0]; exact heap_alloc_new _ _
  have HH := Lib.hid (h.on b0)
  have B0 := Lib.hid b0
  have X0 := Lib.hid x0
  have HW := Lib.hid hw0
  clear h hl hs hw0 b0 x0
  -- too few, too many
  by_cases h1 : n < 1
  · have e1 : treeOk r xs = false := treeOk_no (.inl (by rw [HL.out]; exact h1))
    rw [e1]
    have g1 : decide (n < 1) = true := by simpa using h1
    obtain rfl : n = 0 := by omega
    clear e1 h1 g1
    go_enter Try.func79, Try.ntmps79
    go_wp2
    go_ret
    exact ⟨rfl, by rw [← HW.out]; exact B0.out⟩
  by_cases h2 : 40 < n
  · have e1 : treeOk r xs = false := treeOk_no (.inr (.inl (by rw [HL.out]; exact h2)))
    rw [e1]
    have g1 : decide (n < 1) = false := by simp; omega
    have g2 : decide (40 < n) = true := by simpa using h2
    clear e1
    go_enter Try.func79, Try.ntmps79
    go_wp2
    go_ret
    exact ⟨rfl, by rw [← HW.out]; exact B0.out⟩
  have g1 : decide (n < 1) = false := by simp; omega
  have g2 : decide (40 < n) = false := by simp; omega
  have hr : ∀ w, Calls Try.prog 82 #[.agg #[.int .i64 r, .slice A n c], .int .i64 r] w fun e w' => e = .returned (.bool (hasB n r)) ∧ Below w.heap.size w w' := fun w => has_any r A n c r w hn
  generalize hq : hasB n r = q at hr
  have HQ := Lib.hid hq
  have HR := Lib.hid hr
  clear hq hr
  have d0 : ∀ wx, Below w0.heap.size w0 wx → wx.cell? ⟨w.heap.size, 0, none⟩ = some (.int .i64 r) ∧ wx.cell? ⟨w.heap.size, 1, none⟩ = some (.slice A n c) := fun wx hb => ⟨by rw [cell_of_row _ _ 0 _ _ _ (box_on hb X0.out)]; rfl, by rw [cell_of_row _ _ 1 _ _ _ (box_on hb X0.out)]; rfl⟩
  have D0 := Lib.hid d0
  clear d0
  go_enter Try.func79, Try.ntmps79
  go_wp2_with fail
  rw [← HW.out]
  refine (HR.out _).mono ?_
  rintro e w1 ⟨rfl, b1⟩
  have B1 := Lib.hid b1
  obtain ⟨d0, d1⟩ := D0.out _ b1
  clear b1
  cases q
  · go_wp2
    go_ret
    exact ⟨ret_bool (treeOk_no (.inr (.inr (.inl (by rw [HL.out]; exact HQ.out))))).symm, B0.out.trans (B1.out.mono B0.out.size)⟩
  clear d0 d1
  obtain ⟨d0, d1⟩ := D0.out _ B1.out
  go_wp2
  go_loopw [3] (fun i wr => ∃ k : Nat, i = .int .i64 k ∧ k ≤ n ∧ Hid (∀ j, j < k → ndGood n (ndAt xs j) = true) ∧ Hid (Below w0.heap.size w0 wr)) (fun i _ => n - (intOf i).toNat)
  case atStart => exact ⟨0, rfl, by omega, Lib.hid (by intro j hj; omega), B1⟩
  case round =>
    obtain ⟨k, rfl, hk, ho, hbw⟩ := hrel
    clear d0 d1
    obtain ⟨d0, d1⟩ := D0.out _ hbw.out
    by_cases hlt : k < n
    · have NO : Hid (ndGood n (ndAt xs k) = false → treeOk r xs = false) := Lib.hid (fun h => treeOk_no (.inr (.inr (.inr ⟨k, by rw [HL.out]; exact hlt, by rw [HL.out]; exact h⟩))))
      have YES : Hid (ndGood n (ndAt xs k) = true → ∀ j, j < k + 1 → ndGood n (ndAt xs j) = true) := Lib.hid (fun h j hj => by
        rcases Nat.lt_or_ge j k with h' | h'
        · exact ho.out j h'
        · obtain rfl : j = k := by omega
          exact h)
      obtain ⟨b, off, rfl, hb, hc⟩ := HH.out.nd (by omega)
      obtain ⟨A2, n2, c2, c0, c1, c2', c3, c4, hR, _⟩ := (hc k hlt).keep (w' := wr) hb (fun p hp => hbw.out.cell hp)
      have hR1 : RP wr wr.heap.size A2 n2 (ndAt xs k).ps := hR.more hbw.out.size
      have hn2 : n2 ≤ 1048576 := by rw [← hR.1]; exact HS.out.2 k (by rw [HL.out]; exact hlt)
      generalize ndAt xs k = y at *
      clear hc hR
      have hN : ∀ w, RP w w.heap.size A2 n2 y.ps → Calls Try.prog 83 #[ndV y A2 n2 c2] w fun e w' => e = .returned (.bool (nodeOk y)) ∧ Below w.heap.size w w' := fun w hR => sNode_any y A2 n2 c2 w hR hn2
      generalize hq : nodeOk y = q at hN
      have HQ2 := Lib.hid hq
      unfold ndV at hN
      have HN := Lib.hid hN
      obtain ⟨w3, hw3⟩ : ∃ w3, w3 = wr.alloc (.cells #[.int .i64 y.lv, .slice A2 n2 c2, .int .i64 y.hi, .int .i64 y.ri, .int .i64 y.ow] 101) := ⟨_, rfl⟩
      have b3 : Below wr.heap.size wr w3 := by rw [hw3]; exact (Below.refl _ _).alloc (Nat.le_refl _) _
      have x3 : w3.heap[wr.heap.size]? = some (.cells #[.int .i64 y.lv, .slice A2 n2 c2, .int .i64 y.hi, .int .i64 y.ri, .int .i64 y.ow] 101 (0, 0)) := by rw [hw3]; exact heap_alloc_new _ _
      have D3 : Hid (∀ wx, Below w3.heap.size w3 wx → wx.cell? ⟨wr.heap.size, 0, none⟩ = some (.int .i64 y.lv) ∧ wx.cell? ⟨wr.heap.size, 1, none⟩ = some (.slice A2 n2 c2) ∧ wx.cell? ⟨wr.heap.size, 3, none⟩ = some (.int .i64 y.ri)) := Lib.hid (fun wx hb => ⟨by rw [cell_of_row _ _ 0 _ _ _ (box_on hb x3)]; rfl, by rw [cell_of_row _ _ 1 _ _ _ (box_on hb x3)]; rfl, by rw [cell_of_row _ _ 3 _ _ _ (box_on hb x3)]; rfl⟩)
      have R3 := Lib.hid (hR1.on b3)
      have B3 := Lib.hid (bel_on hbw.out b3)
      have HW3 := Lib.hid hw3
      clear hq hN hw3 b3 x3 hR1
      obtain ⟨lv, zs, hi, ri, ow⟩ := y
      simp only at *
      go_wp2_with fail
      rw [← HW3.out]
      refine (HN.out _ R3.out).mono ?_
      rintro e w4 ⟨rfl, b4⟩
      have B4 := Lib.hid (bel_on B3.out b4)
      have R4 := Lib.hid (R3.out.on b4)
      have K4 := Lib.hid b4
      obtain ⟨f0, f1, f3⟩ := D3.out _ b4
      clear d0 d1 c0 c1 c2' c3 c4 b4
      obtain ⟨d0, d1⟩ := D0.out _ B4.out
      cases q
      · go_wp2
        go_ret
        exact ⟨ret_bool (NO.out (ndGood_no (.inl HQ2.out))).symm, B0.out.trans (B4.out.mono B0.out.size)⟩
      by_cases hri : (n : Int) ≤ ri
      · have gri : decide ((n : Int) ≤ ri) = true := by simpa using hri
        go_wp2
        go_ret
        exact ⟨ret_bool (NO.out (ndGood_no (.inr (.inl hri)))).symm, B0.out.trans (B4.out.mono B0.out.size)⟩
      have gri : decide ((n : Int) ≤ ri) = false := by simpa using hri
      have HRI : Hid (ri < (n : Int)) := Lib.hid (by omega)
      clear hri
      go_wp2
      clear gri f3
      go_loopw [5] (fun i wx => ∃ k2 : Nat, i = .int .i64 k2 ∧ k2 ≤ n2 ∧ Hid (0 < lv → ∀ j, j < k2 → hasB n (vAt zs j) = true) ∧ Hid (Below w4.heap.size w4 wx)) (fun i _ => n2 - (intOf i).toNat)
      case atStart => exact ⟨0, rfl, by omega, Lib.hid (by intro _ j hj; omega), Lib.hid (Below.refl _ _)⟩
      case round =>
        obtain ⟨k2, rfl, hk2, ho2, hbw2⟩ := hrel
        clear d0 d1 f0 f1
        obtain ⟨d0, d1⟩ := D0.out _ (bel_on B4.out hbw2.out)
        obtain ⟨f0, f1, _⟩ := D3.out _ (bel_on K4.out hbw2.out)
        have q0 := Later.of_cell d0 (Below.refl _ _) (World.block_lt_of_cell? _ _ d0)
        have q1 := Later.of_cell d1 (Below.refl _ _) (World.block_lt_of_cell? _ _ d1)
        have q2 := Later.of_cell f0 (Below.refl _ _) (World.block_lt_of_cell? _ _ f0)
        have q3 := Later.of_cell f1 (Below.refl _ _) (World.block_lt_of_cell? _ _ f1)
        by_cases h2 : k2 < n2
        · by_cases hlv : 0 < lv
          · have glv : decide (0 < lv) = true := by simpa using hlv
            obtain ⟨b2, off2, rfl, hb2, hc2⟩ := R4.out.2 (by omega)
            have cv := (hbw2.out.cell (p := ⟨b2, off2 + k2 * 2 + 1, none⟩) hb2).trans (hc2 k2 h2).2
            have q4 := Later.of_cell cv (Below.refl _ _) (World.block_lt_of_cell? _ _ cv)
            clear hc2 cv
            have hH : ∀ w, Calls Try.prog 82 #[.agg #[.int .i64 r, .slice (some ⟨b, off, none⟩) n c], .int .i64 (vAt zs k2)] w fun e w' => e = .returned (.bool (hasB n (vAt zs k2))) ∧ Below w.heap.size w w' := fun w => has_any r _ n c _ w hn
            generalize hv : hasB n (vAt zs k2) = v at hH
            have HV := Lib.hid hv
            have HHas := Lib.hid hH
            clear hv hH
            go_wp2
            refine wp_region_later (by kernel_rfl) (by kernel_rfl) ?_
            repeat (go_big_quiet_step ((go_at_call 82; exact Calls.later (HHas.out _))))
            refine wpQuiet_nil ?_
            intro _ hw'
            obtain ⟨s6, rfl⟩ := hw'
            have B6 := Lib.hid (bel_on hbw2.out s6.2)
            cases v
            · go_wp2
              go_ret
              exact ⟨ret_bool (NO.out (ndGood_no (.inr (.inr ⟨hlv, k2, by have := R4.out.1; simp only; omega, HV.out⟩)))).symm, B0.out.trans ((bel_on B4.out B6.out).mono B0.out.size)⟩
            · go_wp2
              go_roundw
              case rel => exact ⟨k2 + 1, by go_num, by omega, Lib.hid (fun h j hj => by
                rcases Nat.lt_or_ge j k2 with h' | h'
                · exact ho2.out h j h'
                · obtain rfl : j = k2 := by omega
                  exact HV.out), B6⟩
              case measure => simp [intOf]; omega
          · have glv : decide (0 < lv) = false := by simpa using hlv
            go_wp2
            refine wp_region_later (by kernel_rfl) (by kernel_rfl) ?_
            repeat (go_big_quiet_step (fail))
            refine wpQuiet_nil ?_
            intro _ hw'
            obtain ⟨s6, rfl⟩ := hw'
            have B6 := Lib.hid (bel_on hbw2.out s6.2)
            go_wp2
            go_roundw
            case rel => exact ⟨k2 + 1, by go_num, by omega, Lib.hid (fun h => absurd h (by omega)), B6⟩
            case measure => simp [intOf]; omega
        · obtain rfl : k2 = n2 := by omega
          go_wp2
          go_roundw
          case rel => exact ⟨k + 1, by go_num, by omega, Lib.hid (YES.out (ndGood_yes HQ2.out HRI.out (fun h j hj => ho2.out h j (by have := R4.out.1; simp only at hj; omega)))), Lib.hid (bel_on B4.out hbw2.out)⟩
          case measure => simp [intOf]; omega
    · obtain rfl : k = n := by omega
      go_wp2
      go_ret
      exact ⟨ret_bool ((treeOk_iff r xs).2 ⟨by rw [HL.out]; omega, by rw [HL.out]; omega, by rw [HL.out]; exact HQ.out, fun i hi => by rw [HL.out] at hi ⊢; exact ho.out i hi⟩).symm, B0.out.trans (hbw.out.mono B0.out.size)⟩
end Go.Proofs.Ytjookicpmjmdhaa
