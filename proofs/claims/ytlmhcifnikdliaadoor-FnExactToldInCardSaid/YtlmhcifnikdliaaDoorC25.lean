/- The walk of the code's flaws of a node. -/
import Derived.Test.YtlmhcifnikdliaaDoorC24
namespace Go.Proofs.YtlmhcifnikdliaaDoor
open Go.RowKit

set_option maxRecDepth 100000 in
theorem starts7_any (x : Nd) (A : Option Addr) (n c : Nat) (k : Int) (w : World) (hP : RP w w.heap.size A n x.ps) (hn : n ≤ 1048576) :
    Calls Tryd.prog 74 #[ndV x A n c, .int .i64 k] w fun e w' => e = .returned (.bool (decide (x.ps.length = 0) || decide (k ≤ kAt x.ps 0))) ∧ Below w.heap.size w w' := by
  have HP := Lib.hid hP
  rw [hP.1]
  obtain ⟨w0, hw0⟩ : ∃ w0, w0 = w.alloc (.cells #[.int .i64 x.lv, .slice A n c, .int .i64 x.hi, .int .i64 x.ri, .int .i64 x.ow] 40) := ⟨_, rfl⟩
  have b0 : Below w.heap.size w w0 := by rw [hw0]; exact (Below.refl _ _).alloc (Nat.le_refl _) _
  have B0 := Lib.hid b0
  have HW := Lib.hid hw0
  unfold ndV at *
  by_cases h0 : n = 0
  · have g0 : ((n : Int) == 0) = true := by simp [h0]
    have H0 := Lib.hid h0
    clear h0 hP hw0 b0
    go_enter Tryd.func74, Tryd.ntmps74
    go_wp2
    go_ret
    exact ⟨ret_bool (by simp [H0.out]), by rw [← HW.out]; exact B0.out⟩
  · have g0 : ((n : Int) == 0) = false := by simp; omega
    obtain ⟨b, off, rfl, hb, hc⟩ := HP.out.2 (by omega)
    have ck := (b0.cell (p := ⟨b, off, none⟩) hb).trans (by simpa using (hc 0 (by omega)).1)
    have H0 := Lib.hid h0
    have h00 : 0 < n := by omega
    rw [hw0] at ck
    clear h0 hc hb hP hw0 b0
    go_enter Tryd.func74, Tryd.ntmps74
    go_wp2
    go_ret
    exact ⟨ret_bool (by simp [H0.out]), by rw [← HW.out]; exact B0.out⟩

set_option maxRecDepth 100000 in
set_option maxHeartbeats 4000000 in
theorem nflaw_any (x : Nd) (A : Option Addr) (n c : Nat) (lev low : Int) (b m kk : Nat) (f : Int → Option Int) (a : Addr) (w : World) (hP : RP w w.heap.size A n x.ps) (hn : n ≤ 1048576) (hL : Lows w b m f kk)
    (hwf : 0 < lev → x.lv = lev → 0 < n ∧ ∀ j, j < n → (Lit.int .i64 (vAt x.ps j)).wf = true) (hg : w.cell? ⟨0, 0, none⟩ = some (.iface 128 (.pointer (some a)))) :
    Calls Tryd.prog 63 #[ndV x A n c, .int .i64 lev, .int .i64 low, .map (some b)] w fun e w' => e = .returned (errN a x lev low f) ∧ Below w.heap.size w w' := by
  have hl := hP.1
  have SK := Lib.hid (fun w h => starts7_any x A n c low w h hn)
  have CK : Hid (∀ w', Below w.heap.size w w' → (∀ j, j < n → (Lit.int .i64 (vAt x.ps j)).wf = true) → Calls Tryd.prog 72 #[.slice A n c, .func (.func 75) #[.map (some b)] #[]] w' fun e w'' => e = .returned (.bool (x.ps.any (lacksF f))) ∧ Below w'.heap.size w' w'') :=
    Lib.hid (fun w' hb hw => contL_any b m kk f A n c x.ps w' (hP.on hb) hn (hL.on hb) hw)
  have hgb : (0 : Nat) < w.heap.size := Nat.lt_of_le_of_lt (Nat.zero_le _) hL.lt
  have US : Hid (∀ (s : ByteArray) (w' : World), Below w.heap.size w w' → Calls Tryd.prog 43 #[.string s] w' fun e w'' => e = .returned (flawV s a) ∧ w'' = w') :=
    Lib.hid (fun s w' hb => unsound_any s a w' (by rw [hb.cell hgb]; exact hg))
  have HP := Lib.hid hP
  have WF := Lib.hid hwf
  obtain ⟨w0, hw0⟩ : ∃ w0, w0 = w.alloc (.cells #[.int .i64 x.lv, .slice A n c, .int .i64 x.hi, .int .i64 x.ri, .int .i64 x.ow] 40) := ⟨_, rfl⟩
  have b0 : Below w.heap.size w w0 := by rw [hw0]; exact (Below.refl _ _).alloc (Nat.le_refl _) _
  have x0 : w0.heap[w.heap.size]? = some (.cells #[.int .i64 x.lv, .slice A n c, .int .i64 x.hi, .int .i64 x.ri, .int .i64 x.ow] 40 (0, 0)) := by rw [hw0]; exact heap_alloc_new _ _
  have D0 : Hid (∀ wx, Below w0.heap.size w0 wx → wx.cell? ⟨w.heap.size, 0, none⟩ = some (.int .i64 x.lv) ∧ wx.cell? ⟨w.heap.size, 1, none⟩ = some (.slice A n c) ∧ wx.cell? ⟨w.heap.size, 2, none⟩ = some (.int .i64 x.hi) ∧ wx.cell? ⟨w.heap.size, 3, none⟩ = some (.int .i64 x.ri) ∧ wx.cell? ⟨w.heap.size, 4, none⟩ = some (.int .i64 x.ow)) :=
    Lib.hid (fun wx hb => ⟨by rw [cell_of_row _ _ 0 _ _ _ (box_on hb x0)]; rfl, by rw [cell_of_row _ _ 1 _ _ _ (box_on hb x0)]; rfl, by rw [cell_of_row _ _ 2 _ _ _ (box_on hb x0)]; rfl, by rw [cell_of_row _ _ 3 _ _ _ (box_on hb x0)]; rfl, by rw [cell_of_row _ _ 4 _ _ _ (box_on hb x0)]; rfl⟩)
  have B0 := Lib.hid b0
  have HW := Lib.hid hw0
  unfold errN
  rw [hl]
  clear hP hL hwf hg hw0 b0 x0 hgb hl
  unfold ndV at *
  generalize x.ps.any (lacksF f) = q5 at *
  obtain ⟨lv, zs, hi, ri, ow⟩ := x
  simp only at *
  by_cases h1 : lv = lev
  rotate_left
  · have gz : (lv != lev) = true := by simpa using h1
    rw [if_pos h1]
    clear h1
    go_enter Tryd.func63, Tryd.ntmps63
    go_wp2_with fail
    rw [← HW.out]
    refine (US.out _ _ B0.out).mono ?_
    rintro e w2 ⟨rfl, rfl⟩
    go_wp2
    go_ret
    exact ⟨rfl, B0.out⟩
  have gz : (lv != lev) = false := by simpa using h1
  rw [if_neg (fun h => h h1)]
  have H1 := Lib.hid h1
  clear h1
  obtain hB | hA : (hi = -1 ∨ (hi ≠ -1 ∧ low < hi)) ∨ (hi ≠ -1 ∧ hi ≤ low) := by omega
  rotate_left
  · have gz2 : (hi != -1) = true := by simpa using hA.1
    have gz3 : decide (hi ≤ low) = true := by simpa using hA.2
    rw [if_pos hA]
    clear hA
    go_enter Tryd.func63, Tryd.ntmps63
    go_wp2_with fail
    rw [← HW.out]
    refine (US.out _ _ B0.out).mono ?_
    rintro e w2 ⟨rfl, rfl⟩
    go_wp2
    go_ret
    exact ⟨rfl, B0.out⟩
  rw [if_neg (by omega)]
  -- the walk to startsAt, both ways
  have main : ∀ (q2 q3 : Bool), (hi != -1) = q2 → decide (hi ≤ low) = q3 → (q2 = true → q3 = false) →
      Calls Tryd.prog 63 #[.agg #[.int .i64 lv, .slice A n c, .int .i64 hi, .int .i64 ri, .int .i64 ow], .int .i64 lev, .int .i64 low, .map (some b)] w fun e w' =>
        e = .returned (if ¬ (n = 0 ∨ low ≤ kAt zs 0) then flawV mLow a else if 0 < lev ∧ kAt zs 0 ≠ low then flawV mFst a else if 0 < lev ∧ q5 = true then flawV mPr a else .nilIface) ∧ Below w.heap.size w w' := by
    intro q2 q3 gz2 gz3 hq
    have tail : ∀ (q4 : Bool), (decide (n = 0) || decide (low ≤ kAt zs 0)) = q4 →
      Calls Tryd.prog 63 #[.agg #[.int .i64 lv, .slice A n c, .int .i64 hi, .int .i64 ri, .int .i64 ow], .int .i64 lev, .int .i64 low, .map (some b)] w fun e w' =>
        e = .returned (if q4 = false then flawV mLow a else if 0 < lev ∧ kAt zs 0 ≠ low then flawV mFst a else if 0 < lev ∧ q5 = true then flawV mPr a else .nilIface) ∧ Below w.heap.size w w' := by
      intro q4 hq4
      have SK4 : Hid (∀ w', RP w' w'.heap.size A n zs → Calls Tryd.prog 74 #[.agg #[.int .i64 lv, .slice A n c, .int .i64 hi, .int .i64 ri, .int .i64 ow], .int .i64 low] w' fun e w'' => e = .returned (.bool q4) ∧ Below w'.heap.size w' w'') := Lib.hid (fun w' h => by
        have := SK.out w' h
        rw [HP.out.1, hq4] at this
        exact this)
      clear SK hq4
      cases q4
      · rw [if_pos rfl]
        cases q2
        all_goals (
          (first | (obtain rfl := hq rfl) | skip)
          clear hq
          go_enter Tryd.func63, Tryd.ntmps63
          go_wp2_with fail
          rw [← HW.out]
          refine (SK4.out _ (HP.out.on B0.out)).mono ?_
          rintro e w1 ⟨rfl, b1⟩
          have B1 := Lib.hid (B0.out.trans (b1.mono B0.out.size))
          clear b1
          go_wp2_with fail
          refine (US.out _ _ B1.out).mono ?_
          rintro e w2 ⟨rfl, rfl⟩
          go_wp2
          go_ret
          exact ⟨rfl, B1.out⟩)
      · rw [if_neg (by simp)]
        by_cases h4 : 0 < lev
        rotate_left
        · have g4 : decide (0 < lev) = false := by simpa using h4
          rw [if_neg (fun h => h4 h.1), if_neg (fun h => h4 h.1)]
          clear h4
          cases q2
          all_goals (
            (first | (obtain rfl := hq rfl) | skip)
            clear hq
            go_enter Tryd.func63, Tryd.ntmps63
            go_wp2_with fail
            rw [← HW.out]
            refine (SK4.out _ (HP.out.on B0.out)).mono ?_
            rintro e w1 ⟨rfl, b1⟩
            have B1 := Lib.hid (B0.out.trans (b1.mono B0.out.size))
            clear b1
            go_wp2
            go_ret
            exact ⟨rfl, B1.out⟩)
        have g4 : decide (0 < lev) = true := by simpa using h4
        obtain ⟨hn0, hwf⟩ := WF.out h4 H1.out
        obtain ⟨b5, off5, rfl, hb5, hc5⟩ := HP.out.2 hn0
        have K0 : Hid (∀ w', Below w.heap.size w w' → w'.cell? ⟨b5, off5, none⟩ = some (.int .i64 (kAt zs 0))) := Lib.hid (fun w' hb => (hb.cell (p := ⟨b5, off5, none⟩) hb5).trans (by simpa using (hc5 0 hn0).1))
        have HWF := Lib.hid hwf
        have H4 := Lib.hid h4
        clear hwf hc5 hb5 h4
        by_cases h5 : kAt zs 0 = low
        rotate_left
        · rw [if_pos ⟨H4.out, h5⟩]
          generalize kAt zs 0 = k0 at *
          have gk : (k0 != low) = true := by simpa using h5
          clear h5
          cases q2
          all_goals (
            (first | (obtain rfl := hq rfl) | skip)
            clear hq
            go_enter Tryd.func63, Tryd.ntmps63
            go_wp2_with fail
            rw [← HW.out]
            refine (SK4.out _ (HP.out.on B0.out)).mono ?_
            rintro e w1 ⟨rfl, b1⟩
            have B1 := Lib.hid (B0.out.trans (b1.mono B0.out.size))
            have k0' := K0.out _ B1.out
            obtain ⟨d0, d1, d2, d3, d4⟩ := D0.out _ b1
            clear b1
            go_wp2_with fail
            refine (US.out _ _ B1.out).mono ?_
            rintro e w2 ⟨rfl, rfl⟩
            go_wp2
            go_ret
            exact ⟨rfl, B1.out⟩)
        · rw [if_neg (fun h => h.2 h5)]
          have V1 : Hid (q5 = true → (if 0 < lev ∧ q5 = true then flawV mPr a else Value.nilIface) = flawV mPr a) := Lib.hid (fun h => if_pos ⟨H4.out, h⟩)
          have V2 : Hid (q5 = false → (if 0 < lev ∧ q5 = true then flawV mPr a else Value.nilIface) = Value.nilIface) := Lib.hid (fun h => if_neg (by rw [h]; simp))
          generalize (if 0 < lev ∧ q5 = true then flawV mPr a else Value.nilIface) = vv at *
          generalize kAt zs 0 = k0 at *
          have gk : (k0 != low) = false := by simpa using h5
          clear h5
          cases q2
          all_goals (
            (first | (obtain rfl := hq rfl) | skip)
            clear hq
            go_enter Tryd.func63, Tryd.ntmps63
            go_wp2_with fail
            rw [← HW.out]
            refine (SK4.out _ (HP.out.on B0.out)).mono ?_
            rintro e w1 ⟨rfl, b1⟩
            have B1 := Lib.hid (B0.out.trans (b1.mono B0.out.size))
            have k0' := K0.out _ B1.out
            obtain ⟨d0, d1, d2, d3, d4⟩ := D0.out _ b1
            clear b1
            go_wp2_with fail
            refine (CK.out _ B1.out HWF.out).mono ?_
            rintro e w3 ⟨rfl, b3⟩
            have B3 := Lib.hid (B1.out.trans (b3.mono B1.out.size))
            clear b3 d0 d1 d2 d3 d4 k0'
            cases q5
            · go_wp2
              go_ret
              exact ⟨(show Ending.returned Value.nilIface = _ from by rw [V2.out (by trivial)]), B3.out⟩
            · go_wp2_with fail
              refine (US.out _ _ B3.out).mono ?_
              rintro e w2 ⟨rfl, rfl⟩
              go_wp2
              go_ret
              exact ⟨(show Ending.returned (flawV mPr a) = _ from by rw [V1.out (by trivial)]), B3.out⟩)
    refine (tail _ rfl).mono ?_
    rintro e w' ⟨rfl, hb⟩
    refine ⟨?_, hb⟩
    have ed : (decide (n = 0) || decide (low ≤ kAt zs 0)) = decide (n = 0 ∨ low ≤ kAt zs 0) := by simp [Bool.decide_or]
    rw [ed]
    by_cases h0 : n = 0 ∨ low ≤ kAt zs 0
    · rw [decide_eq_true h0, if_neg (by simp : ¬ true = false), if_neg (fun hn : ¬ (n = 0 ∨ low ≤ kAt zs 0) => hn h0)]
    · rw [decide_eq_false h0, if_pos (rfl : false = false), if_pos h0]
  exact main _ _ rfl rfl (fun h => by
    have : hi ≠ -1 := by simpa using h
    simp
    omega)
end Go.Proofs.YtlmhcifnikdliaaDoor
