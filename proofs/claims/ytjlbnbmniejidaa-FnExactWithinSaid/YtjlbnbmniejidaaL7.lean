/- The laws on NodeOk, Within and KidFor, walked: they return true, and nothing that was there is turned, if the code's own function answers as the model's. -/
import Derived.Test.YtjlbnbmniejidaaN3
import Derived.Deep.RegionHeld3
namespace Go.Proofs.Ytjlbnbmniejidaa
open Go.RowKit

theorem RP.own0 {w : World} {base : Nat} {e : TypeId} {A : Option Addr} {n c : Nat} {zs : List Pr} (h : w.ownsRow base e 2 (.slice A n c) n (PL zs)) : RP w w.heap.size A n zs := by
  obtain ⟨A', c', e, r⟩ := RP.of_own h; cases e; exact r

set_option maxRecDepth 100000 in
set_option maxHeartbeats 1000000 in
theorem lawNodeOk_walk (x : Nd) (A : Option Addr) (n c : Nat)  (w : World) (h : RP w w.heap.size A n x.ps) (hm : n ≤ 9223372036854775807)
    (hI : ∀ (A : Option Addr) (c : Nat) (w : World), n ≤ 1048576 → n ≤ c → c ≤ 9223372036854775807 → RP w w.heap.size A n x.ps → Calls Try.prog 30 #[ndV x A n c] w fun e w' => e = .returned (.bool (nodeOk x)) ∧ Below w.heap.size w w') :
    Calls Try.prog 9 #[ndV x A n c] w fun e w' => e = .returned (.bool true) ∧ Below w.heap.size w w' := by
  have HH := Lib.hid h
  clear h
  have szn := fun w hn => szNode_no x A n c w hn hm
  have szy := fun w hn => szNode_yes x A n c w hn
  have toN : n ≤ 1048576 → ∀ w, RP w w.heap.size A n x.ps → Calls Try.prog 40 #[ndV x A n c] w (GivesNd w x n) := fun hn w hR => toNode_any x A n c w hR hn
  have eqN : n ≤ 1048576 → ∀ (A' B : Option Addr) w, RP w w.heap.size A' n x.ps → RP w w.heap.size B n x.ps → Calls Try.prog 41 #[ndV x A' n n, ndV x B n n] w fun e w' => e = .returned (.bool true) ∧ Below w.heap.size w w' := fun hn A' B w h1 h2 => eqNode_yes x A' B n n n w h1 h2 hn
  have sC : n ≤ 1048576 → ∀ (A : Option Addr) w, RP w w.heap.size A n x.ps → Calls Try.prog 31 #[ndV x A n n] w fun e w' => e = .returned (.bool (nodeOk x)) ∧ Below w.heap.size w w' := fun hn A w hR => sNode_any x A n n w hR hn
  have iC : n ≤ 1048576 → ∀ (A : Option Addr) w, RP w w.heap.size A n x.ps → Calls Try.prog 30 #[ndV x A n n] w fun e w' => e = .returned (.bool (nodeOk x)) ∧ Below w.heap.size w w' := fun hn A w hR => hI A n w hn (Nat.le_refl _) hm hR
  generalize nodeOk x = R at *
  obtain ⟨lv, zs, hi, ri, ow⟩ := x
  unfold GivesNd at *
  unfold ndV at *
  simp only at *
  clear hI
  have SZN := Lib.hid szn
  have SZY := Lib.hid szy
  have TON := Lib.hid toN
  have EQN := Lib.hid eqN
  have SC := Lib.hid sC
  have IC := Lib.hid iC
  clear szn szy toN eqN sC iC
  obtain ⟨w0, hw0⟩ : ∃ w0, w0 = w.alloc (.cells #[.int .i64 lv, .slice A n c, .int .i64 hi, .int .i64 ri, .int .i64 ow] 57) := ⟨_, rfl⟩
  have B0 : Hid (Below w.heap.size w w0) := Lib.hid (by rw [hw0]; exact (Below.refl _ _).alloc (Nat.le_refl _) _)
  have s0 : w.heap.size < w0.heap.size := by rw [hw0]; simp
  have K : Hid (∀ wx, Below w0.heap.size w0 wx → wx.cell? ⟨w.heap.size, 0, none⟩ = some (.int .i64 lv) ∧ wx.cell? ⟨w.heap.size, 1, none⟩ = some (.slice A n c) ∧ wx.cell? ⟨w.heap.size, 2, none⟩ = some (.int .i64 hi) ∧ wx.cell? ⟨w.heap.size, 3, none⟩ = some (.int .i64 ri) ∧ wx.cell? ⟨w.heap.size, 4, none⟩ = some (.int .i64 ow)) := Lib.hid (fun wx hb => by
    refine ⟨(hb.cell s0).trans ?_, (hb.cell s0).trans ?_, (hb.cell s0).trans ?_, (hb.cell s0).trans ?_, (hb.cell s0).trans ?_⟩ <;> (rw [hw0]; simp))
  have HW := Lib.hid hw0
  clear hw0
  go_enter Try.func9, Try.ntmps9
  go_wp2_with fail
  rw [← HW.out]
  by_cases hn : 1048576 < n
  · refine (SZN.out _ hn).mono ?_
    rintro e w1 ⟨rfl, b1⟩
    have B1 := Lib.hid (B0.out.trans (b1.mono B0.out.size))
    clear b1
    go_wp2_with fail
    go_ret
    exact ⟨rfl, B1.out⟩
  have hn : n ≤ 1048576 := by omega
  refine (SZY.out _ hn).mono ?_
  rintro e w1 ⟨rfl, b1⟩
  have B1 := Lib.hid b1
  obtain ⟨d0, d1, d2, d3, d4⟩ := K.out _ B1.out
  clear b1
  go_wp2_with fail
  refine (TON.out hn _ (HH.out.on (B0.out.trans (B1.out.mono B0.out.size)))).mono ?_
  rintro e w2 ⟨g2, rfl, o2, b2⟩
  have B2 := Lib.hid (bel_on B1.out b2)
  have X2 := Lib.hid (RP.own0 o2)
  clear o2 b2 B1 d0 d1 d2 d3 d4
  go_wp2_with fail
  refine (SC.out hn _ _ X2.out).mono ?_
  rintro e w3 ⟨rfl, b3⟩
  have B3 := Lib.hid (bel_on B2.out b3)
  obtain ⟨d0, d1, d2, d3, d4⟩ := K.out _ B3.out
  clear b3 B2 X2
  go_wp2_with fail
  refine (TON.out hn _ (HH.out.on (B0.out.trans (B3.out.mono B0.out.size)))).mono ?_
  rintro e w4 ⟨g4, rfl, o4, b4⟩
  have B4 := Lib.hid (bel_on B3.out b4)
  have X4 := Lib.hid (RP.own0 o4)
  clear o4 b4 B3 d0 d1 d2 d3 d4
  go_wp2_with fail
  obtain ⟨w5, hw5⟩ : ∃ w5, w5 = w4.alloc (.cells #[.int .i64 lv, .slice (some ⟨g4, 0, none⟩) n n, .int .i64 hi, .int .i64 ri, .int .i64 ow] 40) := ⟨_, rfl⟩
  have b5 : Below w4.heap.size w4 w5 := by rw [hw5]; exact (Below.refl _ _).alloc (Nat.le_refl _) _
  have s5 : w4.heap.size < w5.heap.size := by rw [hw5]; simp
  have K5 : Hid (∀ wx, Below w5.heap.size w5 wx → wx.cell? ⟨w4.heap.size, 0, none⟩ = some (.int .i64 lv) ∧ wx.cell? ⟨w4.heap.size, 1, none⟩ = some (.slice (some ⟨g4, 0, none⟩) n n) ∧ wx.cell? ⟨w4.heap.size, 2, none⟩ = some (.int .i64 hi) ∧ wx.cell? ⟨w4.heap.size, 3, none⟩ = some (.int .i64 ri) ∧ wx.cell? ⟨w4.heap.size, 4, none⟩ = some (.int .i64 ow)) := Lib.hid (fun wx hb => by
    refine ⟨(hb.cell s5).trans ?_, (hb.cell s5).trans ?_, (hb.cell s5).trans ?_, (hb.cell s5).trans ?_, (hb.cell s5).trans ?_⟩ <;> (rw [hw5]; simp))
  have B5 := Lib.hid (bel_on B4.out b5)
  have X5 := Lib.hid (X4.out.on b5)
  rw [← hw5]
  clear hw5 b5 B4 X4
  refine (IC.out hn _ _ X5.out).mono ?_
  rintro e w6 ⟨rfl, b6⟩
  have B6 := Lib.hid (bel_on B5.out b6)
  have X6 := Lib.hid (X5.out.on b6)
  have K6 := Lib.hid b6
  have KK : Hid (∀ wx, Below w0.heap.size w0 wx → Below w5.heap.size w5 wx → wx.cell? ⟨w.heap.size, 0, none⟩ = some (.int .i64 lv) ∧ wx.cell? ⟨w.heap.size, 1, none⟩ = some (.slice A n c) ∧ wx.cell? ⟨w.heap.size, 2, none⟩ = some (.int .i64 hi) ∧ wx.cell? ⟨w.heap.size, 3, none⟩ = some (.int .i64 ri) ∧ wx.cell? ⟨w.heap.size, 4, none⟩ = some (.int .i64 ow) ∧ wx.cell? ⟨w4.heap.size, 0, none⟩ = some (.int .i64 lv) ∧ wx.cell? ⟨w4.heap.size, 1, none⟩ = some (.slice (some ⟨g4, 0, none⟩) n n) ∧ wx.cell? ⟨w4.heap.size, 2, none⟩ = some (.int .i64 hi) ∧ wx.cell? ⟨w4.heap.size, 3, none⟩ = some (.int .i64 ri) ∧ wx.cell? ⟨w4.heap.size, 4, none⟩ = some (.int .i64 ow)) := Lib.hid (fun wx h1 h2 => by
    obtain ⟨k0, k1, k2, k3, k4⟩ := K.out wx h1
    exact ⟨k0, k1, k2, k3, k4, K5.out wx h2⟩)
  have hN := HH.out.on (B0.out.trans (B6.out.mono B0.out.size))
  have HN := Lib.hid hN
  obtain ⟨d0, d1, d2, d3, d4⟩ := K.out _ B6.out
  obtain ⟨f0, f1, f2, f3, f4⟩ := K5.out _ b6
  clear b6 B5 X5 hN
  go_wp2_with fail
  go_region_held3 (fun w' => w'.cell? ⟨w.heap.size, 0, none⟩ = some (.int .i64 lv) ∧ w'.cell? ⟨w.heap.size, 1, none⟩ = some (.slice A n c) ∧ w'.cell? ⟨w.heap.size, 2, none⟩ = some (.int .i64 hi) ∧ w'.cell? ⟨w.heap.size, 3, none⟩ = some (.int .i64 ri) ∧ w'.cell? ⟨w.heap.size, 4, none⟩ = some (.int .i64 ow) ∧ w'.cell? ⟨w4.heap.size, 0, none⟩ = some (.int .i64 lv) ∧ w'.cell? ⟨w4.heap.size, 1, none⟩ = some (.slice (some ⟨g4, 0, none⟩) n n) ∧ w'.cell? ⟨w4.heap.size, 2, none⟩ = some (.int .i64 hi) ∧ w'.cell? ⟨w4.heap.size, 3, none⟩ = some (.int .i64 ri) ∧ w'.cell? ⟨w4.heap.size, 4, none⟩ = some (.int .i64 ow))
    (first
      | exact ⟨d0, d1, d2, d3, d4, f0, f1, f2, f3, f4⟩
      | exact KK.out _ (bel_on B6.out (bel_on (bel_drew b7) b8)) (bel_on K6.out (bel_on (bel_drew b7) b8))
      | exact KK.out _ (bel_on B6.out (bel_drew b7)) (bel_on K6.out (bel_drew b7)))
    (first
      | (go_at_call 40; refine (TON.out hn _ ?_).mono ?_; exact HN.out.on (Below.refl _ _).drew; rintro e w7 ⟨g7, rfl, o7, b7⟩)
      | (go_at_call 41; refine (EQN.out hn _ _ _ ?_ ?_).mono ?_; exact X6.out.on (bel_drew b7); exact RP.own0 o7; rintro e w8 ⟨rfl, b8⟩))
  have B8 := Lib.hid (bel_on B6.out (bel_on (bel_drew b7) b8))
  clear o7 b7 b8
  go_wp2_with fail
  go_ret
  exact ⟨rfl, B0.out.trans (B8.out.mono B0.out.size)⟩

set_option maxRecDepth 100000 in
set_option maxHeartbeats 1000000 in
theorem lawWithin_walk (x : Nd) (A : Option Addr) (n c : Nat) (key : Int) (w : World) (h : RP w w.heap.size A n x.ps) (hm : n ≤ 9223372036854775807)
    (hI : ∀ (A : Option Addr) (c : Nat) (w : World), n ≤ 1048576 → n ≤ c → c ≤ 9223372036854775807 → RP w w.heap.size A n x.ps → Calls Try.prog 27 #[ndV x A n c, .int .i64 key] w fun e w' => e = .returned (.bool (nodeOk x && inside x key)) ∧ Below w.heap.size w w') :
    Calls Try.prog 10 #[ndV x A n c, .int .i64 key] w fun e w' => e = .returned (.bool true) ∧ Below w.heap.size w w' := by
  have HH := Lib.hid h
  clear h
  have szn := fun w hn => szNode_no x A n c w hn hm
  have szy := fun w hn => szNode_yes x A n c w hn
  have toN : n ≤ 1048576 → ∀ w, RP w w.heap.size A n x.ps → Calls Try.prog 40 #[ndV x A n c] w (GivesNd w x n) := fun hn w hR => toNode_any x A n c w hR hn
  have eqN : n ≤ 1048576 → ∀ (A' B : Option Addr) w, RP w w.heap.size A' n x.ps → RP w w.heap.size B n x.ps → Calls Try.prog 41 #[ndV x A' n n, ndV x B n n] w fun e w' => e = .returned (.bool true) ∧ Below w.heap.size w w' := fun hn A' B w h1 h2 => eqNode_yes x A' B n n n w h1 h2 hn
  have sC : n ≤ 1048576 → ∀ (A : Option Addr) w, RP w w.heap.size A n x.ps → Calls Try.prog 29 #[ndV x A n n, .int .i64 key] w fun e w' => e = .returned (.bool (nodeOk x && inside x key)) ∧ Below w.heap.size w w' := fun hn A w hR => sWithin_any x key A n n w hR hn
  have iC : n ≤ 1048576 → ∀ (A : Option Addr) w, RP w w.heap.size A n x.ps → Calls Try.prog 27 #[ndV x A n n, .int .i64 key] w fun e w' => e = .returned (.bool (nodeOk x && inside x key)) ∧ Below w.heap.size w w' := fun hn A w hR => hI A n w hn (Nat.le_refl _) hm hR
  generalize (nodeOk x && inside x key) = R at *
  obtain ⟨lv, zs, hi, ri, ow⟩ := x
  unfold GivesNd at *
  unfold ndV at *
  simp only at *
  clear hI
  have SZN := Lib.hid szn
  have SZY := Lib.hid szy
  have TON := Lib.hid toN
  have EQN := Lib.hid eqN
  have SC := Lib.hid sC
  have IC := Lib.hid iC
  clear szn szy toN eqN sC iC
  obtain ⟨w0, hw0⟩ : ∃ w0, w0 = w.alloc (.cells #[.int .i64 lv, .slice A n c, .int .i64 hi, .int .i64 ri, .int .i64 ow] 57) := ⟨_, rfl⟩
  have B0 : Hid (Below w.heap.size w w0) := Lib.hid (by rw [hw0]; exact (Below.refl _ _).alloc (Nat.le_refl _) _)
  have s0 : w.heap.size < w0.heap.size := by rw [hw0]; simp
  have K : Hid (∀ wx, Below w0.heap.size w0 wx → wx.cell? ⟨w.heap.size, 0, none⟩ = some (.int .i64 lv) ∧ wx.cell? ⟨w.heap.size, 1, none⟩ = some (.slice A n c) ∧ wx.cell? ⟨w.heap.size, 2, none⟩ = some (.int .i64 hi) ∧ wx.cell? ⟨w.heap.size, 3, none⟩ = some (.int .i64 ri) ∧ wx.cell? ⟨w.heap.size, 4, none⟩ = some (.int .i64 ow)) := Lib.hid (fun wx hb => by
    refine ⟨(hb.cell s0).trans ?_, (hb.cell s0).trans ?_, (hb.cell s0).trans ?_, (hb.cell s0).trans ?_, (hb.cell s0).trans ?_⟩ <;> (rw [hw0]; simp))
  have HW := Lib.hid hw0
  clear hw0
  go_enter Try.func10, Try.ntmps10
  go_wp2_with fail
  rw [← HW.out]
  by_cases hn : 1048576 < n
  · refine (SZN.out _ hn).mono ?_
    rintro e w1 ⟨rfl, b1⟩
    have B1 := Lib.hid (B0.out.trans (b1.mono B0.out.size))
    clear b1
    go_wp2_with fail
    go_ret
    exact ⟨rfl, B1.out⟩
  have hn : n ≤ 1048576 := by omega
  refine (SZY.out _ hn).mono ?_
  rintro e w1 ⟨rfl, b1⟩
  have B1 := Lib.hid b1
  obtain ⟨d0, d1, d2, d3, d4⟩ := K.out _ B1.out
  clear b1
  go_wp2_with fail
  refine (TON.out hn _ (HH.out.on (B0.out.trans (B1.out.mono B0.out.size)))).mono ?_
  rintro e w2 ⟨g2, rfl, o2, b2⟩
  have B2 := Lib.hid (bel_on B1.out b2)
  have X2 := Lib.hid (RP.own0 o2)
  clear o2 b2 B1 d0 d1 d2 d3 d4
  go_wp2_with fail
  refine (SC.out hn _ _ X2.out).mono ?_
  rintro e w3 ⟨rfl, b3⟩
  have B3 := Lib.hid (bel_on B2.out b3)
  obtain ⟨d0, d1, d2, d3, d4⟩ := K.out _ B3.out
  clear b3 B2 X2
  go_wp2_with fail
  refine (TON.out hn _ (HH.out.on (B0.out.trans (B3.out.mono B0.out.size)))).mono ?_
  rintro e w4 ⟨g4, rfl, o4, b4⟩
  have B4 := Lib.hid (bel_on B3.out b4)
  have X4 := Lib.hid (RP.own0 o4)
  clear o4 b4 B3 d0 d1 d2 d3 d4
  go_wp2_with fail
  obtain ⟨w5, hw5⟩ : ∃ w5, w5 = w4.alloc (.cells #[.int .i64 lv, .slice (some ⟨g4, 0, none⟩) n n, .int .i64 hi, .int .i64 ri, .int .i64 ow] 40) := ⟨_, rfl⟩
  have b5 : Below w4.heap.size w4 w5 := by rw [hw5]; exact (Below.refl _ _).alloc (Nat.le_refl _) _
  have s5 : w4.heap.size < w5.heap.size := by rw [hw5]; simp
  have K5 : Hid (∀ wx, Below w5.heap.size w5 wx → wx.cell? ⟨w4.heap.size, 0, none⟩ = some (.int .i64 lv) ∧ wx.cell? ⟨w4.heap.size, 1, none⟩ = some (.slice (some ⟨g4, 0, none⟩) n n) ∧ wx.cell? ⟨w4.heap.size, 2, none⟩ = some (.int .i64 hi) ∧ wx.cell? ⟨w4.heap.size, 3, none⟩ = some (.int .i64 ri) ∧ wx.cell? ⟨w4.heap.size, 4, none⟩ = some (.int .i64 ow)) := Lib.hid (fun wx hb => by
    refine ⟨(hb.cell s5).trans ?_, (hb.cell s5).trans ?_, (hb.cell s5).trans ?_, (hb.cell s5).trans ?_, (hb.cell s5).trans ?_⟩ <;> (rw [hw5]; simp))
  have B5 := Lib.hid (bel_on B4.out b5)
  have X5 := Lib.hid (X4.out.on b5)
  rw [← hw5]
  clear hw5 b5 B4 X4
  refine (IC.out hn _ _ X5.out).mono ?_
  rintro e w6 ⟨rfl, b6⟩
  have B6 := Lib.hid (bel_on B5.out b6)
  have X6 := Lib.hid (X5.out.on b6)
  have K6 := Lib.hid b6
  have KK : Hid (∀ wx, Below w0.heap.size w0 wx → Below w5.heap.size w5 wx → wx.cell? ⟨w.heap.size, 0, none⟩ = some (.int .i64 lv) ∧ wx.cell? ⟨w.heap.size, 1, none⟩ = some (.slice A n c) ∧ wx.cell? ⟨w.heap.size, 2, none⟩ = some (.int .i64 hi) ∧ wx.cell? ⟨w.heap.size, 3, none⟩ = some (.int .i64 ri) ∧ wx.cell? ⟨w.heap.size, 4, none⟩ = some (.int .i64 ow) ∧ wx.cell? ⟨w4.heap.size, 0, none⟩ = some (.int .i64 lv) ∧ wx.cell? ⟨w4.heap.size, 1, none⟩ = some (.slice (some ⟨g4, 0, none⟩) n n) ∧ wx.cell? ⟨w4.heap.size, 2, none⟩ = some (.int .i64 hi) ∧ wx.cell? ⟨w4.heap.size, 3, none⟩ = some (.int .i64 ri) ∧ wx.cell? ⟨w4.heap.size, 4, none⟩ = some (.int .i64 ow)) := Lib.hid (fun wx h1 h2 => by
    obtain ⟨k0, k1, k2, k3, k4⟩ := K.out wx h1
    exact ⟨k0, k1, k2, k3, k4, K5.out wx h2⟩)
  have hN := HH.out.on (B0.out.trans (B6.out.mono B0.out.size))
  have HN := Lib.hid hN
  obtain ⟨d0, d1, d2, d3, d4⟩ := K.out _ B6.out
  obtain ⟨f0, f1, f2, f3, f4⟩ := K5.out _ b6
  clear b6 B5 X5 hN
  go_wp2_with fail
  go_region_held3 (fun w' => w'.cell? ⟨w.heap.size, 0, none⟩ = some (.int .i64 lv) ∧ w'.cell? ⟨w.heap.size, 1, none⟩ = some (.slice A n c) ∧ w'.cell? ⟨w.heap.size, 2, none⟩ = some (.int .i64 hi) ∧ w'.cell? ⟨w.heap.size, 3, none⟩ = some (.int .i64 ri) ∧ w'.cell? ⟨w.heap.size, 4, none⟩ = some (.int .i64 ow) ∧ w'.cell? ⟨w4.heap.size, 0, none⟩ = some (.int .i64 lv) ∧ w'.cell? ⟨w4.heap.size, 1, none⟩ = some (.slice (some ⟨g4, 0, none⟩) n n) ∧ w'.cell? ⟨w4.heap.size, 2, none⟩ = some (.int .i64 hi) ∧ w'.cell? ⟨w4.heap.size, 3, none⟩ = some (.int .i64 ri) ∧ w'.cell? ⟨w4.heap.size, 4, none⟩ = some (.int .i64 ow))
    (first
      | exact ⟨d0, d1, d2, d3, d4, f0, f1, f2, f3, f4⟩
      | exact KK.out _ (bel_on B6.out (bel_on (bel_drew b7) b8)) (bel_on K6.out (bel_on (bel_drew b7) b8))
      | exact KK.out _ (bel_on B6.out (bel_drew b7)) (bel_on K6.out (bel_drew b7)))
    (first
      | (go_at_call 40; refine (TON.out hn _ ?_).mono ?_; exact HN.out.on (Below.refl _ _).drew; rintro e w7 ⟨g7, rfl, o7, b7⟩)
      | (go_at_call 41; refine (EQN.out hn _ _ _ ?_ ?_).mono ?_; exact X6.out.on (bel_drew b7); exact RP.own0 o7; rintro e w8 ⟨rfl, b8⟩))
  have B8 := Lib.hid (bel_on B6.out (bel_on (bel_drew b7) b8))
  clear o7 b7 b8
  go_wp2_with fail
  go_ret
  exact ⟨rfl, B0.out.trans (B8.out.mono B0.out.size)⟩

set_option maxRecDepth 100000 in
set_option maxHeartbeats 1000000 in
theorem lawKidFor_walk (x : Nd) (A : Option Addr) (n c : Nat) (key : Int) (w : World) (h : RP w w.heap.size A n x.ps) (hm : n ≤ 9223372036854775807)
    (hI : ∀ (A : Option Addr) (c : Nat) (w : World), n ≤ 1048576 → n ≤ c → c ≤ 9223372036854775807 → RP w w.heap.size A n x.ps → Calls Try.prog 28 #[ndV x A n c, .int .i64 key] w fun e w' => e = .returned (.int .i64 (kidN x key)) ∧ Below w.heap.size w w') :
    Calls Try.prog 11 #[ndV x A n c, .int .i64 key] w fun e w' => e = .returned (.bool true) ∧ Below w.heap.size w w' := by
  have HH := Lib.hid h
  clear h
  have szn := fun w hn => szNode_no x A n c w hn hm
  have szy := fun w hn => szNode_yes x A n c w hn
  have toN : n ≤ 1048576 → ∀ w, RP w w.heap.size A n x.ps → Calls Try.prog 40 #[ndV x A n c] w (GivesNd w x n) := fun hn w hR => toNode_any x A n c w hR hn
  have eqN : n ≤ 1048576 → ∀ (A' B : Option Addr) w, RP w w.heap.size A' n x.ps → RP w w.heap.size B n x.ps → Calls Try.prog 41 #[ndV x A' n n, ndV x B n n] w fun e w' => e = .returned (.bool true) ∧ Below w.heap.size w w' := fun hn A' B w h1 h2 => eqNode_yes x A' B n n n w h1 h2 hn
  have sC : n ≤ 1048576 → ∀ (A : Option Addr) w, RP w w.heap.size A n x.ps → Calls Try.prog 32 #[ndV x A n n, .int .i64 key] w fun e w' => e = .returned (.int .i64 (kidN x key)) ∧ Below w.heap.size w w' := fun hn A w hR => sKidFor_any x key A n n w hR hn
  have iC : n ≤ 1048576 → ∀ (A : Option Addr) w, RP w w.heap.size A n x.ps → Calls Try.prog 28 #[ndV x A n n, .int .i64 key] w fun e w' => e = .returned (.int .i64 (kidN x key)) ∧ Below w.heap.size w w' := fun hn A w hR => hI A n w hn (Nat.le_refl _) hm hR
  generalize kidN x key = R at *
  obtain ⟨lv, zs, hi, ri, ow⟩ := x
  unfold GivesNd at *
  unfold ndV at *
  simp only at *
  clear hI
  have SZN := Lib.hid szn
  have SZY := Lib.hid szy
  have TON := Lib.hid toN
  have EQN := Lib.hid eqN
  have SC := Lib.hid sC
  have IC := Lib.hid iC
  clear szn szy toN eqN sC iC
  obtain ⟨w0, hw0⟩ : ∃ w0, w0 = w.alloc (.cells #[.int .i64 lv, .slice A n c, .int .i64 hi, .int .i64 ri, .int .i64 ow] 57) := ⟨_, rfl⟩
  have B0 : Hid (Below w.heap.size w w0) := Lib.hid (by rw [hw0]; exact (Below.refl _ _).alloc (Nat.le_refl _) _)
  have s0 : w.heap.size < w0.heap.size := by rw [hw0]; simp
  have K : Hid (∀ wx, Below w0.heap.size w0 wx → wx.cell? ⟨w.heap.size, 0, none⟩ = some (.int .i64 lv) ∧ wx.cell? ⟨w.heap.size, 1, none⟩ = some (.slice A n c) ∧ wx.cell? ⟨w.heap.size, 2, none⟩ = some (.int .i64 hi) ∧ wx.cell? ⟨w.heap.size, 3, none⟩ = some (.int .i64 ri) ∧ wx.cell? ⟨w.heap.size, 4, none⟩ = some (.int .i64 ow)) := Lib.hid (fun wx hb => by
    refine ⟨(hb.cell s0).trans ?_, (hb.cell s0).trans ?_, (hb.cell s0).trans ?_, (hb.cell s0).trans ?_, (hb.cell s0).trans ?_⟩ <;> (rw [hw0]; simp))
  have HW := Lib.hid hw0
  clear hw0
  go_enter Try.func11, Try.ntmps11
  go_wp2_with fail
  rw [← HW.out]
  by_cases hn : 1048576 < n
  · refine (SZN.out _ hn).mono ?_
    rintro e w1 ⟨rfl, b1⟩
    have B1 := Lib.hid (B0.out.trans (b1.mono B0.out.size))
    clear b1
    go_wp2_with fail
    go_ret
    exact ⟨rfl, B1.out⟩
  have hn : n ≤ 1048576 := by omega
  refine (SZY.out _ hn).mono ?_
  rintro e w1 ⟨rfl, b1⟩
  have B1 := Lib.hid b1
  obtain ⟨d0, d1, d2, d3, d4⟩ := K.out _ B1.out
  clear b1
  go_wp2_with fail
  refine (TON.out hn _ (HH.out.on (B0.out.trans (B1.out.mono B0.out.size)))).mono ?_
  rintro e w2 ⟨g2, rfl, o2, b2⟩
  have B2 := Lib.hid (bel_on B1.out b2)
  have X2 := Lib.hid (RP.own0 o2)
  clear o2 b2 B1 d0 d1 d2 d3 d4
  go_wp2_with fail
  refine (SC.out hn _ _ X2.out).mono ?_
  rintro e w3 ⟨rfl, b3⟩
  have B3 := Lib.hid (bel_on B2.out b3)
  obtain ⟨d0, d1, d2, d3, d4⟩ := K.out _ B3.out
  clear b3 B2 X2
  go_wp2_with fail
  refine (TON.out hn _ (HH.out.on (B0.out.trans (B3.out.mono B0.out.size)))).mono ?_
  rintro e w4 ⟨g4, rfl, o4, b4⟩
  have B4 := Lib.hid (bel_on B3.out b4)
  have X4 := Lib.hid (RP.own0 o4)
  clear o4 b4 B3 d0 d1 d2 d3 d4
  go_wp2_with fail
  obtain ⟨w5, hw5⟩ : ∃ w5, w5 = w4.alloc (.cells #[.int .i64 lv, .slice (some ⟨g4, 0, none⟩) n n, .int .i64 hi, .int .i64 ri, .int .i64 ow] 40) := ⟨_, rfl⟩
  have b5 : Below w4.heap.size w4 w5 := by rw [hw5]; exact (Below.refl _ _).alloc (Nat.le_refl _) _
  have s5 : w4.heap.size < w5.heap.size := by rw [hw5]; simp
  have K5 : Hid (∀ wx, Below w5.heap.size w5 wx → wx.cell? ⟨w4.heap.size, 0, none⟩ = some (.int .i64 lv) ∧ wx.cell? ⟨w4.heap.size, 1, none⟩ = some (.slice (some ⟨g4, 0, none⟩) n n) ∧ wx.cell? ⟨w4.heap.size, 2, none⟩ = some (.int .i64 hi) ∧ wx.cell? ⟨w4.heap.size, 3, none⟩ = some (.int .i64 ri) ∧ wx.cell? ⟨w4.heap.size, 4, none⟩ = some (.int .i64 ow)) := Lib.hid (fun wx hb => by
    refine ⟨(hb.cell s5).trans ?_, (hb.cell s5).trans ?_, (hb.cell s5).trans ?_, (hb.cell s5).trans ?_, (hb.cell s5).trans ?_⟩ <;> (rw [hw5]; simp))
  have B5 := Lib.hid (bel_on B4.out b5)
  have X5 := Lib.hid (X4.out.on b5)
  rw [← hw5]
  clear hw5 b5 B4 X4
  refine (IC.out hn _ _ X5.out).mono ?_
  rintro e w6 ⟨rfl, b6⟩
  have B6 := Lib.hid (bel_on B5.out b6)
  have X6 := Lib.hid (X5.out.on b6)
  have K6 := Lib.hid b6
  have KK : Hid (∀ wx, Below w0.heap.size w0 wx → Below w5.heap.size w5 wx → wx.cell? ⟨w.heap.size, 0, none⟩ = some (.int .i64 lv) ∧ wx.cell? ⟨w.heap.size, 1, none⟩ = some (.slice A n c) ∧ wx.cell? ⟨w.heap.size, 2, none⟩ = some (.int .i64 hi) ∧ wx.cell? ⟨w.heap.size, 3, none⟩ = some (.int .i64 ri) ∧ wx.cell? ⟨w.heap.size, 4, none⟩ = some (.int .i64 ow) ∧ wx.cell? ⟨w4.heap.size, 0, none⟩ = some (.int .i64 lv) ∧ wx.cell? ⟨w4.heap.size, 1, none⟩ = some (.slice (some ⟨g4, 0, none⟩) n n) ∧ wx.cell? ⟨w4.heap.size, 2, none⟩ = some (.int .i64 hi) ∧ wx.cell? ⟨w4.heap.size, 3, none⟩ = some (.int .i64 ri) ∧ wx.cell? ⟨w4.heap.size, 4, none⟩ = some (.int .i64 ow)) := Lib.hid (fun wx h1 h2 => by
    obtain ⟨k0, k1, k2, k3, k4⟩ := K.out wx h1
    exact ⟨k0, k1, k2, k3, k4, K5.out wx h2⟩)
  have hN := HH.out.on (B0.out.trans (B6.out.mono B0.out.size))
  have HN := Lib.hid hN
  obtain ⟨d0, d1, d2, d3, d4⟩ := K.out _ B6.out
  obtain ⟨f0, f1, f2, f3, f4⟩ := K5.out _ b6
  clear b6 B5 X5 hN
  go_wp2_with fail
  go_region_held3 (fun w' => w'.cell? ⟨w.heap.size, 0, none⟩ = some (.int .i64 lv) ∧ w'.cell? ⟨w.heap.size, 1, none⟩ = some (.slice A n c) ∧ w'.cell? ⟨w.heap.size, 2, none⟩ = some (.int .i64 hi) ∧ w'.cell? ⟨w.heap.size, 3, none⟩ = some (.int .i64 ri) ∧ w'.cell? ⟨w.heap.size, 4, none⟩ = some (.int .i64 ow) ∧ w'.cell? ⟨w4.heap.size, 0, none⟩ = some (.int .i64 lv) ∧ w'.cell? ⟨w4.heap.size, 1, none⟩ = some (.slice (some ⟨g4, 0, none⟩) n n) ∧ w'.cell? ⟨w4.heap.size, 2, none⟩ = some (.int .i64 hi) ∧ w'.cell? ⟨w4.heap.size, 3, none⟩ = some (.int .i64 ri) ∧ w'.cell? ⟨w4.heap.size, 4, none⟩ = some (.int .i64 ow))
    (first
      | exact ⟨d0, d1, d2, d3, d4, f0, f1, f2, f3, f4⟩
      | exact KK.out _ (bel_on B6.out (bel_on (bel_drew b7) b8)) (bel_on K6.out (bel_on (bel_drew b7) b8))
      | exact KK.out _ (bel_on B6.out (bel_drew b7)) (bel_on K6.out (bel_drew b7)))
    (first
      | (go_at_call 40; refine (TON.out hn _ ?_).mono ?_; exact HN.out.on (Below.refl _ _).drew; rintro e w7 ⟨g7, rfl, o7, b7⟩)
      | (go_at_call 41; refine (EQN.out hn _ _ _ ?_ ?_).mono ?_; exact X6.out.on (bel_drew b7); exact RP.own0 o7; rintro e w8 ⟨rfl, b8⟩))
  have B8 := Lib.hid (bel_on B6.out (bel_on (bel_drew b7) b8))
  clear o7 b7 b8
  go_wp2_with fail
  go_ret
  exact ⟨rfl, B0.out.trans (B8.out.mono B0.out.size)⟩
end Go.Proofs.Ytjlbnbmniejidaa
