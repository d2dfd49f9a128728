/- The exact laws of chapters 6, walked: they return true, and nothing that was there is turned, if the model and the code answer alike. (Made by genLaw.py.) -/
import Derived.Test.YtokkpbjldchjpaaG4
import Derived.Deep.RegionHeld3
import Derived.Deep.QuietTactic
namespace Go.Proofs.Ytokkpbjldchjpaa
open Go.RowKit

set_option maxRecDepth 100000 in
set_option maxHeartbeats 1000000 in
theorem lawLowerOf_walk (lv_a hi_a ri_a ow_a : Int) (xs_a : List Pr) (A_a : Option Addr) (n_a c_a : Nat) (lv_b hi_b ri_b ow_b : Int) (xs_b : List Pr) (A_b : Option Addr) (n_b c_b : Nat) (bo0 : Bool) (w : World)
    (h_a : RS w w.heap.size A_a n_a xs_a) (hm_a : n_a ≤ 9223372036854775807)
    (h_b : RS w w.heap.size A_b n_b xs_b) (hm_b : n_b ≤ 9223372036854775807)
    (hS : ∀ (A0 : Option Addr) (c0 : Nat) (A1 : Option Addr) (c1 : Nat) (w : World), Small.sm xs_a → n_a ≤ c0 → c0 ≤ 9223372036854775807 → RS w w.heap.size A0 n_a xs_a → Small.sm xs_b → n_b ≤ c1 → c1 ≤ 9223372036854775807 → RS w w.heap.size A1 n_b xs_b → Calls Try.prog 13 #[.agg #[.int .i64 lv_a, .slice A0 n_a c0, .int .i64 hi_a, .int .i64 ri_a, .int .i64 ow_a], .agg #[.int .i64 lv_b, .slice A1 n_b c1, .int .i64 hi_b, .int .i64 ri_b, .int .i64 ow_b]] w fun e w' => e = .returned (.bool bo0) ∧ Below w.heap.size w w')
    (hI : ∀ (A0 : Option Addr) (c0 : Nat) (A1 : Option Addr) (c1 : Nat) (w : World), Small.sm xs_a → n_a ≤ c0 → c0 ≤ 9223372036854775807 → RS w w.heap.size A0 n_a xs_a → Small.sm xs_b → n_b ≤ c1 → c1 ≤ 9223372036854775807 → RS w w.heap.size A1 n_b xs_b → Calls Try.prog 12 #[.agg #[.int .i64 lv_a, .slice A0 n_a c0, .int .i64 hi_a, .int .i64 ri_a, .int .i64 ow_a], .agg #[.int .i64 lv_b, .slice A1 n_b c1, .int .i64 hi_b, .int .i64 ri_b, .int .i64 ow_b]] w fun e w' => e = .returned (.bool bo0) ∧ Below w.heap.size w w') :
    Calls Try.prog 5 #[.agg #[.int .i64 lv_a, .slice A_a n_a c_a, .int .i64 hi_a, .int .i64 ri_a, .int .i64 ow_a], .agg #[.int .i64 lv_b, .slice A_b n_b c_b, .int .i64 hi_b, .int .i64 ri_b, .int .i64 ow_b]] w fun e w' => e = .returned (.bool true) ∧ Below w.heap.size w w' := by
  have HH_a := Lib.hid h_a
  have HH_b := Lib.hid h_b
  have HS := Lib.hid hS
  have HI := Lib.hid hI
  clear hS hI h_a h_b
  obtain ⟨w0, hw0⟩ : ∃ w0, w0 = ((w.alloc (.cells #[.int .i64 lv_a, .slice A_a n_a c_a, .int .i64 hi_a, .int .i64 ri_a, .int .i64 ow_a] 41)).alloc (.cells #[.int .i64 lv_b, .slice A_b n_b c_b, .int .i64 hi_b, .int .i64 ri_b, .int .i64 ow_b] 41)) := ⟨_, rfl⟩
  have B0 : Hid (Below w.heap.size w w0) := Lib.hid (by rw [hw0]; exact ((Below.refl _ _).alloc (Nat.le_refl _) _).alloc (by simp) _)
  have X_a : Hid (w0.heap[w.heap.size]? = some (.cells #[.int .i64 lv_a, .slice A_a n_a c_a, .int .i64 hi_a, .int .i64 ri_a, .int .i64 ow_a] 41 (0, 0))) := Lib.hid (by rw [hw0]; rw [Below.heap_alloc _ _ _ (by simp; try omega)]; exact heap_alloc_new _ _)
  have X_b : Hid (w0.heap[w.heap.size + 1]? = some (.cells #[.int .i64 lv_b, .slice A_b n_b c_b, .int .i64 hi_b, .int .i64 ri_b, .int .i64 ow_b] 41 (0, 0))) := Lib.hid (by rw [hw0]; have hz := heap_alloc_new (w.alloc (.cells #[.int .i64 lv_a, .slice A_a n_a c_a, .int .i64 hi_a, .int .i64 ri_a, .int .i64 ow_a] 41)) (.cells #[.int .i64 lv_b, .slice A_b n_b c_b, .int .i64 hi_b, .int .i64 ri_b, .int .i64 ow_b] 41); rwa [show (w.alloc (.cells #[.int .i64 lv_a, .slice A_a n_a c_a, .int .i64 hi_a, .int .i64 ri_a, .int .i64 ow_a] 41)).heap.size = w.heap.size + 1 from by simp; try omega] at hz)
  have Z_0 : Hid (w.heap.size + 2 = w0.heap.size) := Lib.hid (by rw [hw0]; simp)
  have HW := Lib.hid hw0
  clear hw0
  have EV : Hid (Below w0.heap.size w0 w0) := Lib.hid (Below.refl _ _)
  go_enter Try.func5, Try.ntmps5
  go_wp2_with fail
  rw [← HW.out]
  have sz := szN1 lv_a hi_a ri_a ow_a xs_a A_a n_a c_a 1048576 (by omega) hm_a w0 (HH_a.out.ev B0.out EV.out)
  rcases left_cases 1048576 (xs_a.length) with ⟨hq, hlt⟩ | ⟨hq, hle⟩
  · rw [hq] at sz
    refine sz.mono ?_
    rintro e w1 ⟨rfl, b1⟩
    have EV2 := Lib.hid (bel_on EV.out b1)
    clear b1 sz hq
    go_wp2_with fail
    go_ret
    exact ⟨rfl, B0.out.trans (EV2.out.mono B0.out.size)⟩
  rw [hq] at sz
  have HSM_a : Hid (Small.sm xs_a) := Lib.hid (by show xs_a.length ≤ 1048576; omega)
  obtain ⟨L0, hL0⟩ : ∃ L0 : Nat, L0 = 1048576 - xs_a.length := ⟨_, rfl⟩
  rw [← hL0] at sz
  have hLb0 : L0 ≤ 1048576 := by omega
  refine sz.mono ?_
  rintro e w1 ⟨rfl, b1⟩
  clear sz hq hle hL0
  replace EV := Lib.hid (bel_on EV.out b1)
  replace X_a := Lib.hid (box_on b1 X_a.out)
  replace X_b := Lib.hid (box_on b1 X_b.out)
  have Z_w1 : Hid (w0.heap.size ≤ w1.heap.size) := Lib.hid b1.size
  clear b1
  have d_b_0 : w1.cell? ⟨w.heap.size + 1, 0, none⟩ = some (.int .i64 lv_b) := by rw [cell_of_row _ _ 0 _ _ _ X_b.out]; rfl
  have d_b_1 : w1.cell? ⟨w.heap.size + 1, 1, none⟩ = some (.slice A_b n_b c_b) := by rw [cell_of_row _ _ 1 _ _ _ X_b.out]; rfl
  have d_b_2 : w1.cell? ⟨w.heap.size + 1, 2, none⟩ = some (.int .i64 hi_b) := by rw [cell_of_row _ _ 2 _ _ _ X_b.out]; rfl
  have d_b_3 : w1.cell? ⟨w.heap.size + 1, 3, none⟩ = some (.int .i64 ri_b) := by rw [cell_of_row _ _ 3 _ _ _ X_b.out]; rfl
  have d_b_4 : w1.cell? ⟨w.heap.size + 1, 4, none⟩ = some (.int .i64 ow_b) := by rw [cell_of_row _ _ 4 _ _ _ X_b.out]; rfl
  go_wp2_with fail
  have sz := szN1 lv_b hi_b ri_b ow_b xs_b A_b n_b c_b L0 (by omega) hm_b w1 (HH_b.out.ev B0.out EV.out)
  rcases left_cases L0 (xs_b.length) with ⟨hq, hlt⟩ | ⟨hq, hle⟩
  · rw [hq] at sz
    refine sz.mono ?_
    rintro e w2 ⟨rfl, b1⟩
    have EV2 := Lib.hid (bel_on EV.out b1)
    clear b1 sz hq
    go_wp2_with fail
    go_ret
    exact ⟨rfl, B0.out.trans (EV2.out.mono B0.out.size)⟩
  rw [hq] at sz
  have HSM_b : Hid (Small.sm xs_b) := Lib.hid (by show xs_b.length ≤ 1048576; omega)
  obtain ⟨L1, hL1⟩ : ∃ L1 : Nat, L1 = L0 - xs_b.length := ⟨_, rfl⟩
  rw [← hL1] at sz
  have hLb1 : L1 ≤ 1048576 := by omega
  refine sz.mono ?_
  rintro e w2 ⟨rfl, b1⟩
  clear sz hq hle hL1 d_b_0 d_b_1 d_b_2 d_b_3 d_b_4
  replace EV := Lib.hid (bel_on EV.out b1)
  replace X_a := Lib.hid (box_on b1 X_a.out)
  replace X_b := Lib.hid (box_on b1 X_b.out)
  have Z_w2 : Hid (w1.heap.size ≤ w2.heap.size) := Lib.hid b1.size
  clear b1
  have d_a_0 : w2.cell? ⟨w.heap.size, 0, none⟩ = some (.int .i64 lv_a) := by rw [cell_of_row _ _ 0 _ _ _ X_a.out]; rfl
  have d_a_1 : w2.cell? ⟨w.heap.size, 1, none⟩ = some (.slice A_a n_a c_a) := by rw [cell_of_row _ _ 1 _ _ _ X_a.out]; rfl
  have d_a_2 : w2.cell? ⟨w.heap.size, 2, none⟩ = some (.int .i64 hi_a) := by rw [cell_of_row _ _ 2 _ _ _ X_a.out]; rfl
  have d_a_3 : w2.cell? ⟨w.heap.size, 3, none⟩ = some (.int .i64 ri_a) := by rw [cell_of_row _ _ 3 _ _ _ X_a.out]; rfl
  have d_a_4 : w2.cell? ⟨w.heap.size, 4, none⟩ = some (.int .i64 ow_a) := by rw [cell_of_row _ _ 4 _ _ _ X_a.out]; rfl
  have d_b_0 : w2.cell? ⟨w.heap.size + 1, 0, none⟩ = some (.int .i64 lv_b) := by rw [cell_of_row _ _ 0 _ _ _ X_b.out]; rfl
  have d_b_1 : w2.cell? ⟨w.heap.size + 1, 1, none⟩ = some (.slice A_b n_b c_b) := by rw [cell_of_row _ _ 1 _ _ _ X_b.out]; rfl
  have d_b_2 : w2.cell? ⟨w.heap.size + 1, 2, none⟩ = some (.int .i64 hi_b) := by rw [cell_of_row _ _ 2 _ _ _ X_b.out]; rfl
  have d_b_3 : w2.cell? ⟨w.heap.size + 1, 3, none⟩ = some (.int .i64 ri_b) := by rw [cell_of_row _ _ 3 _ _ _ X_b.out]; rfl
  have d_b_4 : w2.cell? ⟨w.heap.size + 1, 4, none⟩ = some (.int .i64 ow_b) := by rw [cell_of_row _ _ 4 _ _ _ X_b.out]; rfl
  have KR : Hid (∀ wx, Below w2.heap.size w2 wx → wx.cell? ⟨w.heap.size, 0, none⟩ = some (.int .i64 lv_a) ∧ wx.cell? ⟨w.heap.size, 1, none⟩ = some (.slice A_a n_a c_a) ∧ wx.cell? ⟨w.heap.size, 2, none⟩ = some (.int .i64 hi_a) ∧ wx.cell? ⟨w.heap.size, 3, none⟩ = some (.int .i64 ri_a) ∧ wx.cell? ⟨w.heap.size, 4, none⟩ = some (.int .i64 ow_a) ∧ wx.cell? ⟨w.heap.size + 1, 0, none⟩ = some (.int .i64 lv_b) ∧ wx.cell? ⟨w.heap.size + 1, 1, none⟩ = some (.slice A_b n_b c_b) ∧ wx.cell? ⟨w.heap.size + 1, 2, none⟩ = some (.int .i64 hi_b) ∧ wx.cell? ⟨w.heap.size + 1, 3, none⟩ = some (.int .i64 ri_b) ∧ wx.cell? ⟨w.heap.size + 1, 4, none⟩ = some (.int .i64 ow_b)) := Lib.hid (fun wx hb => ⟨by rw [cell_of_row _ _ 0 _ _ _ (box_on hb X_a.out)]; rfl, by rw [cell_of_row _ _ 1 _ _ _ (box_on hb X_a.out)]; rfl, by rw [cell_of_row _ _ 2 _ _ _ (box_on hb X_a.out)]; rfl, by rw [cell_of_row _ _ 3 _ _ _ (box_on hb X_a.out)]; rfl, by rw [cell_of_row _ _ 4 _ _ _ (box_on hb X_a.out)]; rfl, by rw [cell_of_row _ _ 0 _ _ _ (box_on hb X_b.out)]; rfl, by rw [cell_of_row _ _ 1 _ _ _ (box_on hb X_b.out)]; rfl, by rw [cell_of_row _ _ 2 _ _ _ (box_on hb X_b.out)]; rfl, by rw [cell_of_row _ _ 3 _ _ _ (box_on hb X_b.out)]; rfl, by rw [cell_of_row _ _ 4 _ _ _ (box_on hb X_b.out)]; rfl⟩)
  have HN_a := Lib.hid (HH_a.out.ev B0.out EV.out)
  have HN_b := Lib.hid (HH_b.out.ev B0.out EV.out)
  go_wp2_with fail
  go_region_held3 (fun w' => w'.cell? ⟨w.heap.size, 0, none⟩ = some (.int .i64 lv_a) ∧ w'.cell? ⟨w.heap.size, 1, none⟩ = some (.slice A_a n_a c_a) ∧ w'.cell? ⟨w.heap.size, 2, none⟩ = some (.int .i64 hi_a) ∧ w'.cell? ⟨w.heap.size, 3, none⟩ = some (.int .i64 ri_a) ∧ w'.cell? ⟨w.heap.size, 4, none⟩ = some (.int .i64 ow_a) ∧ w'.cell? ⟨w.heap.size + 1, 0, none⟩ = some (.int .i64 lv_b) ∧ w'.cell? ⟨w.heap.size + 1, 1, none⟩ = some (.slice A_b n_b c_b) ∧ w'.cell? ⟨w.heap.size + 1, 2, none⟩ = some (.int .i64 hi_b) ∧ w'.cell? ⟨w.heap.size + 1, 3, none⟩ = some (.int .i64 ri_b) ∧ w'.cell? ⟨w.heap.size + 1, 4, none⟩ = some (.int .i64 ow_b))
    (first | exact KR.out _ (Below.refl _ _) | exact KR.out _ (Below.refl _ _).drew | exact KR.out _ (bel_on (bel_on (bel_drew bR1) bR2) bRF) | exact KR.out _ (bel_on (bel_drew bR1) bR2) | exact KR.out _ (bel_drew bR1))
    (first
      | (go_at_call_of 17 (Value.agg #[.int .i64 lv_a, .slice A_a n_a c_a, .int .i64 hi_a, .int .i64 ri_a, .int .i64 ow_a]); refine (toN1 lv_a hi_a ri_a ow_a xs_a A_a n_a c_a _ (HN_a.out.on (Below.refl _ _).drew) HSM_a.out).mono ?_; rintro e wR1 ⟨AR1, cR1, FR1, rfl, oR1, fR1, bR1⟩)
      | (go_at_call_of 17 (Value.agg #[.int .i64 lv_b, .slice A_b n_b c_b, .int .i64 hi_b, .int .i64 ri_b, .int .i64 ow_b]); refine (toN1 lv_b hi_b ri_b ow_b xs_b A_b n_b c_b _ (HN_b.out.on (bel_drew bR1)) HSM_b.out).mono ?_; rintro e wR2 ⟨AR2, cR2, FR2, rfl, oR2, fR2, bR2⟩)
      | (go_at_call 13; refine (HS.out AR1 cR1 AR2 cR2 _ HSM_a.out (oR1.on bR2).cap.1 (oR1.on bR2).cap.2 (oR1.on bR2).rd HSM_b.out oR2.cap.1 oR2.cap.2 oR2.rd).mono ?_; rintro e w3 ⟨rfl, bRF⟩; have hzz : w2.heap.size ≤ w3.heap.size := (bel_on (bel_on (bel_drew bR1) bR2) bRF).size))
  have bb := (bel_on (bel_on (bel_drew bR1) bR2) bRF)
  clear hzz bRF KR bR1 bR2 oR1 fR1 oR2 fR2 HN_a HN_b d_a_0 d_a_1 d_a_2 d_a_3 d_a_4 d_b_0 d_b_1 d_b_2 d_b_3 d_b_4
  replace EV := Lib.hid (bel_on EV.out bb)
  replace X_a := Lib.hid (box_on bb X_a.out)
  replace X_b := Lib.hid (box_on bb X_b.out)
  have Z_w3 : Hid (w2.heap.size ≤ w3.heap.size) := Lib.hid bb.size
  clear bb
  have d_a_0 : w3.cell? ⟨w.heap.size, 0, none⟩ = some (.int .i64 lv_a) := by rw [cell_of_row _ _ 0 _ _ _ X_a.out]; rfl
  have d_a_1 : w3.cell? ⟨w.heap.size, 1, none⟩ = some (.slice A_a n_a c_a) := by rw [cell_of_row _ _ 1 _ _ _ X_a.out]; rfl
  have d_a_2 : w3.cell? ⟨w.heap.size, 2, none⟩ = some (.int .i64 hi_a) := by rw [cell_of_row _ _ 2 _ _ _ X_a.out]; rfl
  have d_a_3 : w3.cell? ⟨w.heap.size, 3, none⟩ = some (.int .i64 ri_a) := by rw [cell_of_row _ _ 3 _ _ _ X_a.out]; rfl
  have d_a_4 : w3.cell? ⟨w.heap.size, 4, none⟩ = some (.int .i64 ow_a) := by rw [cell_of_row _ _ 4 _ _ _ X_a.out]; rfl
  go_wp2_with fail
  refine (toN1 lv_a hi_a ri_a ow_a xs_a A_a n_a c_a w3 (HH_a.out.ev B0.out EV.out) HSM_a.out).mono ?_
  rintro e w4 ⟨Axa, cxa, Fxa, rfl, o1, f1, b1⟩
  clear d_a_0 d_a_1 d_a_2 d_a_3 d_a_4
  replace EV := Lib.hid (bel_on EV.out b1)
  replace X_a := Lib.hid (box_on b1 X_a.out)
  replace X_b := Lib.hid (box_on b1 X_b.out)
  have Z_w4 : Hid (w3.heap.size ≤ w4.heap.size) := Lib.hid b1.size
  have O_xa := Lib.hid o1
  have R_xa := Lib.hid f1
  clear o1 f1 b1
  obtain ⟨w5, hw5⟩ : ∃ w5, w5 = w4.alloc (.cells #[.int .i64 lv_a, .slice Axa n_a cxa, .int .i64 hi_a, .int .i64 ri_a, .int .i64 ow_a] 26) := ⟨_, rfl⟩
  have bw5 : Below w4.heap.size w4 w5 := by rw [hw5]; exact (Below.refl _ _).alloc (Nat.le_refl _) _
  have qw5 : w5.heap[w4.heap.size]? = some (.cells #[.int .i64 lv_a, .slice Axa n_a cxa, .int .i64 hi_a, .int .i64 ri_a, .int .i64 ow_a] 26 (0, 0)) := by rw [hw5]; exact heap_alloc_new _ _
  have zb_w5 : w4.heap.size + 1 = w5.heap.size := by rw [hw5]; simp
  replace EV := Lib.hid (bel_on EV.out bw5)
  replace X_a := Lib.hid (box_on bw5 X_a.out)
  replace X_b := Lib.hid (box_on bw5 X_b.out)
  replace O_xa := Lib.hid (O_xa.out.on bw5)
  have Z_w5 : Hid (w4.heap.size ≤ w5.heap.size) := Lib.hid bw5.size
  have ZB_w5 := Lib.hid zb_w5
  have X_xa := Lib.hid qw5
  have Hw5 := Lib.hid hw5
  clear hw5 bw5 qw5 zb_w5
  have d_b_0 : (w4.alloc (.cells #[.int .i64 lv_a, .slice Axa n_a cxa, .int .i64 hi_a, .int .i64 ri_a, .int .i64 ow_a] 26)).cell? ⟨w.heap.size + 1, 0, none⟩ = some (.int .i64 lv_b) := by rw [← Hw5.out]; rw [cell_of_row _ _ 0 _ _ _ X_b.out]; rfl
  have d_b_1 : (w4.alloc (.cells #[.int .i64 lv_a, .slice Axa n_a cxa, .int .i64 hi_a, .int .i64 ri_a, .int .i64 ow_a] 26)).cell? ⟨w.heap.size + 1, 1, none⟩ = some (.slice A_b n_b c_b) := by rw [← Hw5.out]; rw [cell_of_row _ _ 1 _ _ _ X_b.out]; rfl
  have d_b_2 : (w4.alloc (.cells #[.int .i64 lv_a, .slice Axa n_a cxa, .int .i64 hi_a, .int .i64 ri_a, .int .i64 ow_a] 26)).cell? ⟨w.heap.size + 1, 2, none⟩ = some (.int .i64 hi_b) := by rw [← Hw5.out]; rw [cell_of_row _ _ 2 _ _ _ X_b.out]; rfl
  have d_b_3 : (w4.alloc (.cells #[.int .i64 lv_a, .slice Axa n_a cxa, .int .i64 hi_a, .int .i64 ri_a, .int .i64 ow_a] 26)).cell? ⟨w.heap.size + 1, 3, none⟩ = some (.int .i64 ri_b) := by rw [← Hw5.out]; rw [cell_of_row _ _ 3 _ _ _ X_b.out]; rfl
  have d_b_4 : (w4.alloc (.cells #[.int .i64 lv_a, .slice Axa n_a cxa, .int .i64 hi_a, .int .i64 ri_a, .int .i64 ow_a] 26)).cell? ⟨w.heap.size + 1, 4, none⟩ = some (.int .i64 ow_b) := by rw [← Hw5.out]; rw [cell_of_row _ _ 4 _ _ _ X_b.out]; rfl
  go_wp2_with fail
  rw [← Hw5.out]
  refine (toN1 lv_b hi_b ri_b ow_b xs_b A_b n_b c_b w5 (HH_b.out.ev B0.out EV.out) HSM_b.out).mono ?_
  rintro e w6 ⟨Axb, cxb, Fxb, rfl, o1, f1, b1⟩
  clear d_b_0 d_b_1 d_b_2 d_b_3 d_b_4
  replace EV := Lib.hid (bel_on EV.out b1)
  replace X_a := Lib.hid (box_on b1 X_a.out)
  replace X_b := Lib.hid (box_on b1 X_b.out)
  replace X_xa := Lib.hid (box_on b1 X_xa.out)
  replace O_xa := Lib.hid (O_xa.out.on b1)
  have Z_w6 : Hid (w5.heap.size ≤ w6.heap.size) := Lib.hid b1.size
  have O_xb := Lib.hid o1
  have R_xb := Lib.hid f1
  clear o1 f1 b1
  obtain ⟨w7, hw7⟩ : ∃ w7, w7 = w6.alloc (.cells #[.int .i64 lv_b, .slice Axb n_b cxb, .int .i64 hi_b, .int .i64 ri_b, .int .i64 ow_b] 26) := ⟨_, rfl⟩
  have bw7 : Below w6.heap.size w6 w7 := by rw [hw7]; exact (Below.refl _ _).alloc (Nat.le_refl _) _
  have qw7 : w7.heap[w6.heap.size]? = some (.cells #[.int .i64 lv_b, .slice Axb n_b cxb, .int .i64 hi_b, .int .i64 ri_b, .int .i64 ow_b] 26 (0, 0)) := by rw [hw7]; exact heap_alloc_new _ _
  have zb_w7 : w6.heap.size + 1 = w7.heap.size := by rw [hw7]; simp
  replace EV := Lib.hid (bel_on EV.out bw7)
  replace X_a := Lib.hid (box_on bw7 X_a.out)
  replace X_b := Lib.hid (box_on bw7 X_b.out)
  replace X_xa := Lib.hid (box_on bw7 X_xa.out)
  replace O_xa := Lib.hid (O_xa.out.on bw7)
  replace O_xb := Lib.hid (O_xb.out.on bw7)
  have Z_w7 : Hid (w6.heap.size ≤ w7.heap.size) := Lib.hid bw7.size
  have ZB_w7 := Lib.hid zb_w7
  have X_xb := Lib.hid qw7
  have Hw7 := Lib.hid hw7
  clear hw7 bw7 qw7 zb_w7
  have d_xa_0 : (w6.alloc (.cells #[.int .i64 lv_b, .slice Axb n_b cxb, .int .i64 hi_b, .int .i64 ri_b, .int .i64 ow_b] 26)).cell? ⟨w4.heap.size, 0, none⟩ = some (.int .i64 lv_a) := by rw [← Hw7.out]; rw [cell_of_row _ _ 0 _ _ _ X_xa.out]; rfl
  have d_xa_1 : (w6.alloc (.cells #[.int .i64 lv_b, .slice Axb n_b cxb, .int .i64 hi_b, .int .i64 ri_b, .int .i64 ow_b] 26)).cell? ⟨w4.heap.size, 1, none⟩ = some (.slice Axa n_a cxa) := by rw [← Hw7.out]; rw [cell_of_row _ _ 1 _ _ _ X_xa.out]; rfl
  have d_xa_2 : (w6.alloc (.cells #[.int .i64 lv_b, .slice Axb n_b cxb, .int .i64 hi_b, .int .i64 ri_b, .int .i64 ow_b] 26)).cell? ⟨w4.heap.size, 2, none⟩ = some (.int .i64 hi_a) := by rw [← Hw7.out]; rw [cell_of_row _ _ 2 _ _ _ X_xa.out]; rfl
  have d_xa_3 : (w6.alloc (.cells #[.int .i64 lv_b, .slice Axb n_b cxb, .int .i64 hi_b, .int .i64 ri_b, .int .i64 ow_b] 26)).cell? ⟨w4.heap.size, 3, none⟩ = some (.int .i64 ri_a) := by rw [← Hw7.out]; rw [cell_of_row _ _ 3 _ _ _ X_xa.out]; rfl
  have d_xa_4 : (w6.alloc (.cells #[.int .i64 lv_b, .slice Axb n_b cxb, .int .i64 hi_b, .int .i64 ri_b, .int .i64 ow_b] 26)).cell? ⟨w4.heap.size, 4, none⟩ = some (.int .i64 ow_a) := by rw [← Hw7.out]; rw [cell_of_row _ _ 4 _ _ _ X_xa.out]; rfl
  have d_xb_0 : (w6.alloc (.cells #[.int .i64 lv_b, .slice Axb n_b cxb, .int .i64 hi_b, .int .i64 ri_b, .int .i64 ow_b] 26)).cell? ⟨w6.heap.size, 0, none⟩ = some (.int .i64 lv_b) := by rw [← Hw7.out]; rw [cell_of_row _ _ 0 _ _ _ X_xb.out]; rfl
  have d_xb_1 : (w6.alloc (.cells #[.int .i64 lv_b, .slice Axb n_b cxb, .int .i64 hi_b, .int .i64 ri_b, .int .i64 ow_b] 26)).cell? ⟨w6.heap.size, 1, none⟩ = some (.slice Axb n_b cxb) := by rw [← Hw7.out]; rw [cell_of_row _ _ 1 _ _ _ X_xb.out]; rfl
  have d_xb_2 : (w6.alloc (.cells #[.int .i64 lv_b, .slice Axb n_b cxb, .int .i64 hi_b, .int .i64 ri_b, .int .i64 ow_b] 26)).cell? ⟨w6.heap.size, 2, none⟩ = some (.int .i64 hi_b) := by rw [← Hw7.out]; rw [cell_of_row _ _ 2 _ _ _ X_xb.out]; rfl
  have d_xb_3 : (w6.alloc (.cells #[.int .i64 lv_b, .slice Axb n_b cxb, .int .i64 hi_b, .int .i64 ri_b, .int .i64 ow_b] 26)).cell? ⟨w6.heap.size, 3, none⟩ = some (.int .i64 ri_b) := by rw [← Hw7.out]; rw [cell_of_row _ _ 3 _ _ _ X_xb.out]; rfl
  have d_xb_4 : (w6.alloc (.cells #[.int .i64 lv_b, .slice Axb n_b cxb, .int .i64 hi_b, .int .i64 ri_b, .int .i64 ow_b] 26)).cell? ⟨w6.heap.size, 4, none⟩ = some (.int .i64 ow_b) := by rw [← Hw7.out]; rw [cell_of_row _ _ 4 _ _ _ X_xb.out]; rfl
  go_wp2_with fail
  rw [← Hw7.out]
  refine (HI.out Axa cxa Axb cxb _ HSM_a.out O_xa.out.cap.1 O_xa.out.cap.2 O_xa.out.rd HSM_b.out O_xb.out.cap.1 O_xb.out.cap.2 O_xb.out.rd).mono ?_
  rintro e w8 ⟨rfl, b1⟩
  clear d_xa_0 d_xa_1 d_xa_2 d_xa_3 d_xa_4 d_xb_0 d_xb_1 d_xb_2 d_xb_3 d_xb_4
  replace EV := Lib.hid (bel_on EV.out b1)
  replace X_a := Lib.hid (box_on b1 X_a.out)
  replace X_b := Lib.hid (box_on b1 X_b.out)
  replace X_xa := Lib.hid (box_on b1 X_xa.out)
  replace X_xb := Lib.hid (box_on b1 X_xb.out)
  replace O_xa := Lib.hid (O_xa.out.on b1)
  replace O_xb := Lib.hid (O_xb.out.on b1)
  have Z_w8 : Hid (w7.heap.size ≤ w8.heap.size) := Lib.hid b1.size
  clear b1
  have d_xa_0 : w8.cell? ⟨w4.heap.size, 0, none⟩ = some (.int .i64 lv_a) := by rw [cell_of_row _ _ 0 _ _ _ X_xa.out]; rfl
  have d_xa_1 : w8.cell? ⟨w4.heap.size, 1, none⟩ = some (.slice Axa n_a cxa) := by rw [cell_of_row _ _ 1 _ _ _ X_xa.out]; rfl
  have d_xa_2 : w8.cell? ⟨w4.heap.size, 2, none⟩ = some (.int .i64 hi_a) := by rw [cell_of_row _ _ 2 _ _ _ X_xa.out]; rfl
  have d_xa_3 : w8.cell? ⟨w4.heap.size, 3, none⟩ = some (.int .i64 ri_a) := by rw [cell_of_row _ _ 3 _ _ _ X_xa.out]; rfl
  have d_xa_4 : w8.cell? ⟨w4.heap.size, 4, none⟩ = some (.int .i64 ow_a) := by rw [cell_of_row _ _ 4 _ _ _ X_xa.out]; rfl
  have d_a_0 : w8.cell? ⟨w.heap.size, 0, none⟩ = some (.int .i64 lv_a) := by rw [cell_of_row _ _ 0 _ _ _ X_a.out]; rfl
  have d_a_1 : w8.cell? ⟨w.heap.size, 1, none⟩ = some (.slice A_a n_a c_a) := by rw [cell_of_row _ _ 1 _ _ _ X_a.out]; rfl
  have d_a_2 : w8.cell? ⟨w.heap.size, 2, none⟩ = some (.int .i64 hi_a) := by rw [cell_of_row _ _ 2 _ _ _ X_a.out]; rfl
  have d_a_3 : w8.cell? ⟨w.heap.size, 3, none⟩ = some (.int .i64 ri_a) := by rw [cell_of_row _ _ 3 _ _ _ X_a.out]; rfl
  have d_a_4 : w8.cell? ⟨w.heap.size, 4, none⟩ = some (.int .i64 ow_a) := by rw [cell_of_row _ _ 4 _ _ _ X_a.out]; rfl
  have KR : Hid (∀ wx, Below w8.heap.size w8 wx → wx.cell? ⟨w4.heap.size, 0, none⟩ = some (.int .i64 lv_a) ∧ wx.cell? ⟨w4.heap.size, 1, none⟩ = some (.slice Axa n_a cxa) ∧ wx.cell? ⟨w4.heap.size, 2, none⟩ = some (.int .i64 hi_a) ∧ wx.cell? ⟨w4.heap.size, 3, none⟩ = some (.int .i64 ri_a) ∧ wx.cell? ⟨w4.heap.size, 4, none⟩ = some (.int .i64 ow_a) ∧ wx.cell? ⟨w.heap.size, 0, none⟩ = some (.int .i64 lv_a) ∧ wx.cell? ⟨w.heap.size, 1, none⟩ = some (.slice A_a n_a c_a) ∧ wx.cell? ⟨w.heap.size, 2, none⟩ = some (.int .i64 hi_a) ∧ wx.cell? ⟨w.heap.size, 3, none⟩ = some (.int .i64 ri_a) ∧ wx.cell? ⟨w.heap.size, 4, none⟩ = some (.int .i64 ow_a)) := Lib.hid (fun wx hb => ⟨by rw [cell_of_row _ _ 0 _ _ _ (box_on hb X_xa.out)]; rfl, by rw [cell_of_row _ _ 1 _ _ _ (box_on hb X_xa.out)]; rfl, by rw [cell_of_row _ _ 2 _ _ _ (box_on hb X_xa.out)]; rfl, by rw [cell_of_row _ _ 3 _ _ _ (box_on hb X_xa.out)]; rfl, by rw [cell_of_row _ _ 4 _ _ _ (box_on hb X_xa.out)]; rfl, by rw [cell_of_row _ _ 0 _ _ _ (box_on hb X_a.out)]; rfl, by rw [cell_of_row _ _ 1 _ _ _ (box_on hb X_a.out)]; rfl, by rw [cell_of_row _ _ 2 _ _ _ (box_on hb X_a.out)]; rfl, by rw [cell_of_row _ _ 3 _ _ _ (box_on hb X_a.out)]; rfl, by rw [cell_of_row _ _ 4 _ _ _ (box_on hb X_a.out)]; rfl⟩)
  have HN := Lib.hid (HH_a.out.ev B0.out EV.out)
  go_wp2_with fail
  go_region_held3 (fun w' => w'.cell? ⟨w4.heap.size, 0, none⟩ = some (.int .i64 lv_a) ∧ w'.cell? ⟨w4.heap.size, 1, none⟩ = some (.slice Axa n_a cxa) ∧ w'.cell? ⟨w4.heap.size, 2, none⟩ = some (.int .i64 hi_a) ∧ w'.cell? ⟨w4.heap.size, 3, none⟩ = some (.int .i64 ri_a) ∧ w'.cell? ⟨w4.heap.size, 4, none⟩ = some (.int .i64 ow_a) ∧ w'.cell? ⟨w.heap.size, 0, none⟩ = some (.int .i64 lv_a) ∧ w'.cell? ⟨w.heap.size, 1, none⟩ = some (.slice A_a n_a c_a) ∧ w'.cell? ⟨w.heap.size, 2, none⟩ = some (.int .i64 hi_a) ∧ w'.cell? ⟨w.heap.size, 3, none⟩ = some (.int .i64 ri_a) ∧ w'.cell? ⟨w.heap.size, 4, none⟩ = some (.int .i64 ow_a))
    (first | exact KR.out _ (Below.refl _ _) | exact KR.out _ (Below.refl _ _).drew | exact KR.out _ (bel_on (bel_drew bR1) bR2) | exact KR.out _ (bel_drew bR1))
    (first
      | (go_at_call 17; refine (toN1 lv_a hi_a ri_a ow_a xs_a A_a n_a c_a _ (HN.out.on (Below.refl _ _).drew) HSM_a.out).mono ?_; rintro e wR1 ⟨AR, cR, FR, rfl, oR, fR, bR1⟩)
      | (go_at_call 19; refine (eqN1 lv_a hi_a ri_a ow_a xs_a Axa AR n_a cxa cR _ ((O_xa.out.on (bel_drew bR1)).rd) oR.rd HSM_a.out).mono ?_; rintro e wR2 ⟨rfl, bR2⟩))
  obtain ⟨w9, hw9⟩ : ∃ w9, w9 = wR2 := ⟨_, rfl⟩
  rw [← hw9] at bR2 ⊢
  have bb := bel_on (bel_drew bR1) bR2
  clear hw9 oR fR bR1 bR2 KR HN d_xa_0 d_xa_1 d_xa_2 d_xa_3 d_xa_4 d_a_0 d_a_1 d_a_2 d_a_3 d_a_4
  replace EV := Lib.hid (bel_on EV.out bb)
  replace X_a := Lib.hid (box_on bb X_a.out)
  replace X_b := Lib.hid (box_on bb X_b.out)
  replace X_xa := Lib.hid (box_on bb X_xa.out)
  replace X_xb := Lib.hid (box_on bb X_xb.out)
  replace O_xa := Lib.hid (O_xa.out.on bb)
  replace O_xb := Lib.hid (O_xb.out.on bb)
  have Z_w9 : Hid (w8.heap.size ≤ w9.heap.size) := Lib.hid bb.size
  clear bb
  have d_xb_0 : w9.cell? ⟨w6.heap.size, 0, none⟩ = some (.int .i64 lv_b) := by rw [cell_of_row _ _ 0 _ _ _ X_xb.out]; rfl
  have d_xb_1 : w9.cell? ⟨w6.heap.size, 1, none⟩ = some (.slice Axb n_b cxb) := by rw [cell_of_row _ _ 1 _ _ _ X_xb.out]; rfl
  have d_xb_2 : w9.cell? ⟨w6.heap.size, 2, none⟩ = some (.int .i64 hi_b) := by rw [cell_of_row _ _ 2 _ _ _ X_xb.out]; rfl
  have d_xb_3 : w9.cell? ⟨w6.heap.size, 3, none⟩ = some (.int .i64 ri_b) := by rw [cell_of_row _ _ 3 _ _ _ X_xb.out]; rfl
  have d_xb_4 : w9.cell? ⟨w6.heap.size, 4, none⟩ = some (.int .i64 ow_b) := by rw [cell_of_row _ _ 4 _ _ _ X_xb.out]; rfl
  have d_b_0 : w9.cell? ⟨w.heap.size + 1, 0, none⟩ = some (.int .i64 lv_b) := by rw [cell_of_row _ _ 0 _ _ _ X_b.out]; rfl
  have d_b_1 : w9.cell? ⟨w.heap.size + 1, 1, none⟩ = some (.slice A_b n_b c_b) := by rw [cell_of_row _ _ 1 _ _ _ X_b.out]; rfl
  have d_b_2 : w9.cell? ⟨w.heap.size + 1, 2, none⟩ = some (.int .i64 hi_b) := by rw [cell_of_row _ _ 2 _ _ _ X_b.out]; rfl
  have d_b_3 : w9.cell? ⟨w.heap.size + 1, 3, none⟩ = some (.int .i64 ri_b) := by rw [cell_of_row _ _ 3 _ _ _ X_b.out]; rfl
  have d_b_4 : w9.cell? ⟨w.heap.size + 1, 4, none⟩ = some (.int .i64 ow_b) := by rw [cell_of_row _ _ 4 _ _ _ X_b.out]; rfl
  have KR : Hid (∀ wx, Below w9.heap.size w9 wx → wx.cell? ⟨w6.heap.size, 0, none⟩ = some (.int .i64 lv_b) ∧ wx.cell? ⟨w6.heap.size, 1, none⟩ = some (.slice Axb n_b cxb) ∧ wx.cell? ⟨w6.heap.size, 2, none⟩ = some (.int .i64 hi_b) ∧ wx.cell? ⟨w6.heap.size, 3, none⟩ = some (.int .i64 ri_b) ∧ wx.cell? ⟨w6.heap.size, 4, none⟩ = some (.int .i64 ow_b) ∧ wx.cell? ⟨w.heap.size + 1, 0, none⟩ = some (.int .i64 lv_b) ∧ wx.cell? ⟨w.heap.size + 1, 1, none⟩ = some (.slice A_b n_b c_b) ∧ wx.cell? ⟨w.heap.size + 1, 2, none⟩ = some (.int .i64 hi_b) ∧ wx.cell? ⟨w.heap.size + 1, 3, none⟩ = some (.int .i64 ri_b) ∧ wx.cell? ⟨w.heap.size + 1, 4, none⟩ = some (.int .i64 ow_b)) := Lib.hid (fun wx hb => ⟨by rw [cell_of_row _ _ 0 _ _ _ (box_on hb X_xb.out)]; rfl, by rw [cell_of_row _ _ 1 _ _ _ (box_on hb X_xb.out)]; rfl, by rw [cell_of_row _ _ 2 _ _ _ (box_on hb X_xb.out)]; rfl, by rw [cell_of_row _ _ 3 _ _ _ (box_on hb X_xb.out)]; rfl, by rw [cell_of_row _ _ 4 _ _ _ (box_on hb X_xb.out)]; rfl, by rw [cell_of_row _ _ 0 _ _ _ (box_on hb X_b.out)]; rfl, by rw [cell_of_row _ _ 1 _ _ _ (box_on hb X_b.out)]; rfl, by rw [cell_of_row _ _ 2 _ _ _ (box_on hb X_b.out)]; rfl, by rw [cell_of_row _ _ 3 _ _ _ (box_on hb X_b.out)]; rfl, by rw [cell_of_row _ _ 4 _ _ _ (box_on hb X_b.out)]; rfl⟩)
  have HN := Lib.hid (HH_b.out.ev B0.out EV.out)
  go_wp2_with fail
  go_region_held3 (fun w' => w'.cell? ⟨w6.heap.size, 0, none⟩ = some (.int .i64 lv_b) ∧ w'.cell? ⟨w6.heap.size, 1, none⟩ = some (.slice Axb n_b cxb) ∧ w'.cell? ⟨w6.heap.size, 2, none⟩ = some (.int .i64 hi_b) ∧ w'.cell? ⟨w6.heap.size, 3, none⟩ = some (.int .i64 ri_b) ∧ w'.cell? ⟨w6.heap.size, 4, none⟩ = some (.int .i64 ow_b) ∧ w'.cell? ⟨w.heap.size + 1, 0, none⟩ = some (.int .i64 lv_b) ∧ w'.cell? ⟨w.heap.size + 1, 1, none⟩ = some (.slice A_b n_b c_b) ∧ w'.cell? ⟨w.heap.size + 1, 2, none⟩ = some (.int .i64 hi_b) ∧ w'.cell? ⟨w.heap.size + 1, 3, none⟩ = some (.int .i64 ri_b) ∧ w'.cell? ⟨w.heap.size + 1, 4, none⟩ = some (.int .i64 ow_b))
    (first | exact KR.out _ (Below.refl _ _) | exact KR.out _ (Below.refl _ _).drew | exact KR.out _ (bel_on (bel_drew bR1) bR2) | exact KR.out _ (bel_drew bR1))
    (first
      | (go_at_call 17; refine (toN1 lv_b hi_b ri_b ow_b xs_b A_b n_b c_b _ (HN.out.on (Below.refl _ _).drew) HSM_b.out).mono ?_; rintro e wR1 ⟨AR, cR, FR, rfl, oR, fR, bR1⟩)
      | (go_at_call 19; refine (eqN1 lv_b hi_b ri_b ow_b xs_b Axb AR n_b cxb cR _ ((O_xb.out.on (bel_drew bR1)).rd) oR.rd HSM_b.out).mono ?_; rintro e wR2 ⟨rfl, bR2⟩))
  obtain ⟨w10, hw10⟩ : ∃ w10, w10 = wR2 := ⟨_, rfl⟩
  rw [← hw10] at bR2 ⊢
  have bb := bel_on (bel_drew bR1) bR2
  clear hw10 oR fR bR1 bR2 KR HN d_xb_0 d_xb_1 d_xb_2 d_xb_3 d_xb_4 d_b_0 d_b_1 d_b_2 d_b_3 d_b_4
  replace EV := Lib.hid (bel_on EV.out bb)
  replace X_a := Lib.hid (box_on bb X_a.out)
  replace X_b := Lib.hid (box_on bb X_b.out)
  replace X_xa := Lib.hid (box_on bb X_xa.out)
  replace X_xb := Lib.hid (box_on bb X_xb.out)
  replace O_xa := Lib.hid (O_xa.out.on bb)
  replace O_xb := Lib.hid (O_xb.out.on bb)
  have Z_w10 : Hid (w9.heap.size ≤ w10.heap.size) := Lib.hid bb.size
  clear bb
  go_wp2_with fail
  go_ret
  exact ⟨rfl, B0.out.trans (EV.out.mono B0.out.size)⟩
end Go.Proofs.Ytokkpbjldchjpaa
