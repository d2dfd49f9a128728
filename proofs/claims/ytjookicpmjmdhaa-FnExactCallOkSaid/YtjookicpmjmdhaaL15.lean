/- The exact laws of chapters 8, walked: they return true, and nothing that was there is turned, if the model and the code answer alike. (Made by genLaw.py.) -/
import Derived.Test.YtjookicpmjmdhaaG6
import Derived.Deep.RegionHeld3
import Derived.Deep.QuietTactic
namespace Go.Proofs.Ytjookicpmjmdhaa
open Go.RowKit

set_option maxRecDepth 100000 in
set_option maxHeartbeats 1000000 in
theorem lawCallOk_walk (cc_k ck_k cv_k : Int) (bo0 : Bool) (w : World)
    (hS : ∀ (w : World), Calls Try.prog 20 #[.agg #[.int .i64 cc_k, .int .i64 ck_k, .int .i64 cv_k]] w fun e w' => e = .returned (.bool bo0) ∧ Below w.heap.size w w')
    (hI : ∀ (w : World), Calls Try.prog 19 #[.agg #[.int .i64 cc_k, .int .i64 ck_k, .int .i64 cv_k]] w fun e w' => e = .returned (.bool bo0) ∧ Below w.heap.size w w') :
    Calls Try.prog 4 #[.agg #[.int .i64 cc_k, .int .i64 ck_k, .int .i64 cv_k]] w fun e w' => e = .returned (.bool true) ∧ Below w.heap.size w w' := by
  have HS := Lib.hid hS
  have HI := Lib.hid hI
  clear hS hI
  obtain ⟨w0, hw0⟩ : ∃ w0, w0 = (w.alloc (.cells #[.int .i64 cc_k, .int .i64 ck_k, .int .i64 cv_k] 44)) := ⟨_, rfl⟩
  have B0 : Hid (Below w.heap.size w w0) := Lib.hid (by rw [hw0]; exact (Below.refl _ _).alloc (Nat.le_refl _) _)
  have X_k : Hid (w0.heap[w.heap.size]? = some (.cells #[.int .i64 cc_k, .int .i64 ck_k, .int .i64 cv_k] 44 (0, 0))) := Lib.hid (by rw [hw0]; exact heap_alloc_new _ _)
  have Z_0 : Hid (w.heap.size + 1 = w0.heap.size) := Lib.hid (by rw [hw0]; simp)
  have HW := Lib.hid hw0
  clear hw0
  have EV : Hid (Below w0.heap.size w0 w0) := Lib.hid (Below.refl _ _)
  go_enter Try.func4, Try.ntmps4
  go_wp2_with fail
  rw [← HW.out]
  have d_k_0 : w0.cell? ⟨w.heap.size, 0, none⟩ = some (.int .i64 cc_k) := by rw [cell_of_row _ _ 0 _ _ _ X_k.out]; rfl
  have d_k_1 : w0.cell? ⟨w.heap.size, 1, none⟩ = some (.int .i64 ck_k) := by rw [cell_of_row _ _ 1 _ _ _ X_k.out]; rfl
  have d_k_2 : w0.cell? ⟨w.heap.size, 2, none⟩ = some (.int .i64 cv_k) := by rw [cell_of_row _ _ 2 _ _ _ X_k.out]; rfl
  go_wp2_with fail
  refine (toC_any cc_k ck_k cv_k _).mono ?_
  rintro e w1 ⟨rfl, b1⟩
  clear d_k_0 d_k_1 d_k_2
  replace EV := Lib.hid (bel_on EV.out b1)
  replace X_k := Lib.hid (box_on b1 X_k.out)
  have Z_w1 : Hid (w0.heap.size ≤ w1.heap.size) := Lib.hid b1.size
  clear b1
  go_wp2_with fail
  refine (HS.out  _ ).mono ?_
  rintro e w2 ⟨rfl, b1⟩
  replace EV := Lib.hid (bel_on EV.out b1)
  replace X_k := Lib.hid (box_on b1 X_k.out)
  have Z_w2 : Hid (w1.heap.size ≤ w2.heap.size) := Lib.hid b1.size
  clear b1
  have d_k_0 : w2.cell? ⟨w.heap.size, 0, none⟩ = some (.int .i64 cc_k) := by rw [cell_of_row _ _ 0 _ _ _ X_k.out]; rfl
  have d_k_1 : w2.cell? ⟨w.heap.size, 1, none⟩ = some (.int .i64 ck_k) := by rw [cell_of_row _ _ 1 _ _ _ X_k.out]; rfl
  have d_k_2 : w2.cell? ⟨w.heap.size, 2, none⟩ = some (.int .i64 cv_k) := by rw [cell_of_row _ _ 2 _ _ _ X_k.out]; rfl
  go_wp2_with fail
  refine (toC_any cc_k ck_k cv_k _).mono ?_
  rintro e w3 ⟨rfl, b1⟩
  clear d_k_0 d_k_1 d_k_2
  replace EV := Lib.hid (bel_on EV.out b1)
  replace X_k := Lib.hid (box_on b1 X_k.out)
  have Z_w3 : Hid (w2.heap.size ≤ w3.heap.size) := Lib.hid b1.size
  clear b1
  go_wp2_with fail
  refine (HI.out  _ ).mono ?_
  rintro e w4 ⟨rfl, b1⟩
  replace EV := Lib.hid (bel_on EV.out b1)
  replace X_k := Lib.hid (box_on b1 X_k.out)
  have Z_w4 : Hid (w3.heap.size ≤ w4.heap.size) := Lib.hid b1.size
  clear b1
  go_wp2_with fail
  go_ret
  exact ⟨rfl, B0.out.trans (EV.out.mono B0.out.size)⟩

set_option maxRecDepth 100000 in
set_option maxHeartbeats 1000000 in
theorem lawReplyOk_walk (cc_k ck_k cv_k : Int) (reply : Int) (bo0 : Bool) (w : World)
    (hS : ∀ (w : World), Calls Try.prog 18 #[.agg #[.int .i64 cc_k, .int .i64 ck_k, .int .i64 cv_k], .int .i64 reply] w fun e w' => e = .returned (.bool bo0) ∧ Below w.heap.size w w')
    (hI : ∀ (w : World), Calls Try.prog 17 #[.agg #[.int .i64 cc_k, .int .i64 ck_k, .int .i64 cv_k], .int .i64 reply] w fun e w' => e = .returned (.bool bo0) ∧ Below w.heap.size w w') :
    Calls Try.prog 5 #[.agg #[.int .i64 cc_k, .int .i64 ck_k, .int .i64 cv_k], .int .i64 reply] w fun e w' => e = .returned (.bool true) ∧ Below w.heap.size w w' := by
  have HS := Lib.hid hS
  have HI := Lib.hid hI
  clear hS hI
  obtain ⟨w0, hw0⟩ : ∃ w0, w0 = (w.alloc (.cells #[.int .i64 cc_k, .int .i64 ck_k, .int .i64 cv_k] 44)) := ⟨_, rfl⟩
  have B0 : Hid (Below w.heap.size w w0) := Lib.hid (by rw [hw0]; exact (Below.refl _ _).alloc (Nat.le_refl _) _)
  have X_k : Hid (w0.heap[w.heap.size]? = some (.cells #[.int .i64 cc_k, .int .i64 ck_k, .int .i64 cv_k] 44 (0, 0))) := Lib.hid (by rw [hw0]; exact heap_alloc_new _ _)
  have Z_0 : Hid (w.heap.size + 1 = w0.heap.size) := Lib.hid (by rw [hw0]; simp)
  have HW := Lib.hid hw0
  clear hw0
  have EV : Hid (Below w0.heap.size w0 w0) := Lib.hid (Below.refl _ _)
  go_enter Try.func5, Try.ntmps5
  go_wp2_with fail
  rw [← HW.out]
  have d_k_0 : w0.cell? ⟨w.heap.size, 0, none⟩ = some (.int .i64 cc_k) := by rw [cell_of_row _ _ 0 _ _ _ X_k.out]; rfl
  have d_k_1 : w0.cell? ⟨w.heap.size, 1, none⟩ = some (.int .i64 ck_k) := by rw [cell_of_row _ _ 1 _ _ _ X_k.out]; rfl
  have d_k_2 : w0.cell? ⟨w.heap.size, 2, none⟩ = some (.int .i64 cv_k) := by rw [cell_of_row _ _ 2 _ _ _ X_k.out]; rfl
  go_wp2_with fail
  refine (toC_any cc_k ck_k cv_k _).mono ?_
  rintro e w1 ⟨rfl, b1⟩
  clear d_k_0 d_k_1 d_k_2
  replace EV := Lib.hid (bel_on EV.out b1)
  replace X_k := Lib.hid (box_on b1 X_k.out)
  have Z_w1 : Hid (w0.heap.size ≤ w1.heap.size) := Lib.hid b1.size
  clear b1
  go_wp2_with fail
  refine (HS.out  _ ).mono ?_
  rintro e w2 ⟨rfl, b1⟩
  replace EV := Lib.hid (bel_on EV.out b1)
  replace X_k := Lib.hid (box_on b1 X_k.out)
  have Z_w2 : Hid (w1.heap.size ≤ w2.heap.size) := Lib.hid b1.size
  clear b1
  have d_k_0 : w2.cell? ⟨w.heap.size, 0, none⟩ = some (.int .i64 cc_k) := by rw [cell_of_row _ _ 0 _ _ _ X_k.out]; rfl
  have d_k_1 : w2.cell? ⟨w.heap.size, 1, none⟩ = some (.int .i64 ck_k) := by rw [cell_of_row _ _ 1 _ _ _ X_k.out]; rfl
  have d_k_2 : w2.cell? ⟨w.heap.size, 2, none⟩ = some (.int .i64 cv_k) := by rw [cell_of_row _ _ 2 _ _ _ X_k.out]; rfl
  go_wp2_with fail
  refine (toC_any cc_k ck_k cv_k _).mono ?_
  rintro e w3 ⟨rfl, b1⟩
  clear d_k_0 d_k_1 d_k_2
  replace EV := Lib.hid (bel_on EV.out b1)
  replace X_k := Lib.hid (box_on b1 X_k.out)
  have Z_w3 : Hid (w2.heap.size ≤ w3.heap.size) := Lib.hid b1.size
  clear b1
  go_wp2_with fail
  refine (HI.out  _ ).mono ?_
  rintro e w4 ⟨rfl, b1⟩
  replace EV := Lib.hid (bel_on EV.out b1)
  replace X_k := Lib.hid (box_on b1 X_k.out)
  have Z_w4 : Hid (w3.heap.size ≤ w4.heap.size) := Lib.hid b1.size
  clear b1
  go_wp2_with fail
  go_ret
  exact ⟨rfl, B0.out.trans (EV.out.mono B0.out.size)⟩

set_option maxRecDepth 100000 in
set_option maxHeartbeats 1000000 in
theorem lawHandOk_walk (pos_h cc_h ck_h cv_h cur_h want_h key_h kid_h old_h next_h new_h thn_h beg_h rep_h out_h : Int) (xs_h : List Int) (A_h : Option Addr) (n_h c_h : Nat) (bo0 : Bool) (w : World)
    (h_h : RS w w.heap.size A_h n_h xs_h) (hm_h : n_h ≤ 9223372036854775807)
    (hS : ∀ (A : Option Addr) (c : Nat) (w : World), Small.sm xs_h → n_h ≤ c → c ≤ 9223372036854775807 → RS w w.heap.size A n_h xs_h → Calls Try.prog 22 #[.agg #[.int .i64 pos_h, .int .i64 cc_h, .int .i64 ck_h, .int .i64 cv_h, .int .i64 cur_h, .int .i64 want_h, .int .i64 key_h, .int .i64 kid_h, .int .i64 old_h, .int .i64 next_h, .int .i64 new_h, .slice A n_h c, .int .i64 thn_h, .int .i64 beg_h, .int .i64 rep_h, .int .i64 out_h]] w fun e w' => e = .returned (.bool bo0) ∧ Below w.heap.size w w')
    (hI : ∀ (A : Option Addr) (c : Nat) (w : World), Small.sm xs_h → n_h ≤ c → c ≤ 9223372036854775807 → RS w w.heap.size A n_h xs_h → Calls Try.prog 21 #[.agg #[.int .i64 pos_h, .int .i64 cc_h, .int .i64 ck_h, .int .i64 cv_h, .int .i64 cur_h, .int .i64 want_h, .int .i64 key_h, .int .i64 kid_h, .int .i64 old_h, .int .i64 next_h, .int .i64 new_h, .slice A n_h c, .int .i64 thn_h, .int .i64 beg_h, .int .i64 rep_h, .int .i64 out_h]] w fun e w' => e = .returned (.bool bo0) ∧ Below w.heap.size w w') :
    Calls Try.prog 6 #[.agg #[.int .i64 pos_h, .int .i64 cc_h, .int .i64 ck_h, .int .i64 cv_h, .int .i64 cur_h, .int .i64 want_h, .int .i64 key_h, .int .i64 kid_h, .int .i64 old_h, .int .i64 next_h, .int .i64 new_h, .slice A_h n_h c_h, .int .i64 thn_h, .int .i64 beg_h, .int .i64 rep_h, .int .i64 out_h]] w fun e w' => e = .returned (.bool true) ∧ Below w.heap.size w w' := by
  have HH_h := Lib.hid h_h
  have HS := Lib.hid hS
  have HI := Lib.hid hI
  clear hS hI h_h
  obtain ⟨w0, hw0⟩ : ∃ w0, w0 = (w.alloc (.cells #[.int .i64 pos_h, .int .i64 cc_h, .int .i64 ck_h, .int .i64 cv_h, .int .i64 cur_h, .int .i64 want_h, .int .i64 key_h, .int .i64 kid_h, .int .i64 old_h, .int .i64 next_h, .int .i64 new_h, .slice A_h n_h c_h, .int .i64 thn_h, .int .i64 beg_h, .int .i64 rep_h, .int .i64 out_h] 49)) := ⟨_, rfl⟩
  have B0 : Hid (Below w.heap.size w w0) := Lib.hid (by rw [hw0]; exact (Below.refl _ _).alloc (Nat.le_refl _) _)
  have X_h : Hid (w0.heap[w.heap.size]? = some (.cells #[.int .i64 pos_h, .int .i64 cc_h, .int .i64 ck_h, .int .i64 cv_h, .int .i64 cur_h, .int .i64 want_h, .int .i64 key_h, .int .i64 kid_h, .int .i64 old_h, .int .i64 next_h, .int .i64 new_h, .slice A_h n_h c_h, .int .i64 thn_h, .int .i64 beg_h, .int .i64 rep_h, .int .i64 out_h] 49 (0, 0))) := Lib.hid (by rw [hw0]; exact heap_alloc_new _ _)
  have Z_0 : Hid (w.heap.size + 1 = w0.heap.size) := Lib.hid (by rw [hw0]; simp)
  have HW := Lib.hid hw0
  clear hw0
  have EV : Hid (Below w0.heap.size w0 w0) := Lib.hid (Below.refl _ _)
  go_enter Try.func6, Try.ntmps6
  go_wp2_with fail
  rw [← HW.out]
  have sz := szH1 pos_h cc_h ck_h cv_h cur_h want_h key_h kid_h old_h next_h new_h thn_h beg_h rep_h out_h xs_h A_h n_h c_h 1048576 (by omega) hm_h w0 (HH_h.out.ev B0.out EV.out)
  rcases left_cases 1048576 (xs_h.length) with ⟨hq, hlt⟩ | ⟨hq, hle⟩
  · rw [hq] at sz
    refine sz.mono ?_
    rintro e w1 ⟨rfl, b1⟩
    have EV2 := Lib.hid (bel_on EV.out b1)
    clear b1 sz hq
    go_wp2_with fail
    go_ret
    exact ⟨rfl, B0.out.trans (EV2.out.mono B0.out.size)⟩
  rw [hq] at sz
  have HSM_h : Hid (Small.sm xs_h) := Lib.hid (by show xs_h.length ≤ 1048576; omega)
  obtain ⟨L0, hL0⟩ : ∃ L0 : Nat, L0 = 1048576 - xs_h.length := ⟨_, rfl⟩
  rw [← hL0] at sz
  have hLb0 : L0 ≤ 1048576 := by omega
  refine sz.mono ?_
  rintro e w1 ⟨rfl, b1⟩
  clear sz hq hle hL0
  replace EV := Lib.hid (bel_on EV.out b1)
  replace X_h := Lib.hid (box_on b1 X_h.out)
  have Z_w1 : Hid (w0.heap.size ≤ w1.heap.size) := Lib.hid b1.size
  clear b1
  have Y_h : w1.heap[w.heap.size]? = some (.cells #[.int .i64 pos_h, .int .i64 cc_h, .int .i64 ck_h, .int .i64 cv_h, .int .i64 cur_h, .int .i64 want_h, .int .i64 key_h, .int .i64 kid_h, .int .i64 old_h, .int .i64 next_h, .int .i64 new_h, .slice A_h n_h c_h, .int .i64 thn_h, .int .i64 beg_h, .int .i64 rep_h, .int .i64 out_h] 49 (0, 0)) := by exact X_h.out
  go_wp2_with (first | (refine wpList_load_row rfl 49 _ rfl (w.heap.size) rfl 49 #[.int .i64 pos_h, .int .i64 cc_h, .int .i64 ck_h, .int .i64 cv_h, .int .i64 cur_h, .int .i64 want_h, .int .i64 key_h, .int .i64 kid_h, .int .i64 old_h, .int .i64 next_h, .int .i64 new_h, .slice A_h n_h c_h, .int .i64 thn_h, .int .i64 beg_h, .int .i64 rep_h, .int .i64 out_h] (0, 0) _ Y_h Try.underlying49 rfl lhand_size ?_))
  refine (toH1 pos_h cc_h ck_h cv_h cur_h want_h key_h kid_h old_h next_h new_h thn_h beg_h rep_h out_h xs_h A_h n_h c_h w1 (HH_h.out.ev B0.out EV.out) HSM_h.out).mono ?_
  rintro e w2 ⟨Aah, cah, Fah, rfl, o1, f1, b1⟩
  clear Y_h
  replace EV := Lib.hid (bel_on EV.out b1)
  replace X_h := Lib.hid (box_on b1 X_h.out)
  have Z_w2 : Hid (w1.heap.size ≤ w2.heap.size) := Lib.hid b1.size
  have O_ah := Lib.hid o1
  have R_ah := Lib.hid f1
  clear o1 f1 b1
  go_wp2_with fail
  refine (HS.out Aah cah _ HSM_h.out O_ah.out.cap.1 O_ah.out.cap.2 O_ah.out.rd).mono ?_
  rintro e w3 ⟨rfl, b1⟩
  replace EV := Lib.hid (bel_on EV.out b1)
  replace X_h := Lib.hid (box_on b1 X_h.out)
  replace O_ah := Lib.hid (O_ah.out.on b1)
  have Z_w3 : Hid (w2.heap.size ≤ w3.heap.size) := Lib.hid b1.size
  clear b1
  have Y_h : w3.heap[w.heap.size]? = some (.cells #[.int .i64 pos_h, .int .i64 cc_h, .int .i64 ck_h, .int .i64 cv_h, .int .i64 cur_h, .int .i64 want_h, .int .i64 key_h, .int .i64 kid_h, .int .i64 old_h, .int .i64 next_h, .int .i64 new_h, .slice A_h n_h c_h, .int .i64 thn_h, .int .i64 beg_h, .int .i64 rep_h, .int .i64 out_h] 49 (0, 0)) := by exact X_h.out
  go_wp2_with (first | (refine wpList_load_row rfl 49 _ rfl (w.heap.size) rfl 49 #[.int .i64 pos_h, .int .i64 cc_h, .int .i64 ck_h, .int .i64 cv_h, .int .i64 cur_h, .int .i64 want_h, .int .i64 key_h, .int .i64 kid_h, .int .i64 old_h, .int .i64 next_h, .int .i64 new_h, .slice A_h n_h c_h, .int .i64 thn_h, .int .i64 beg_h, .int .i64 rep_h, .int .i64 out_h] (0, 0) _ Y_h Try.underlying49 rfl lhand_size ?_))
  refine (toH1 pos_h cc_h ck_h cv_h cur_h want_h key_h kid_h old_h next_h new_h thn_h beg_h rep_h out_h xs_h A_h n_h c_h w3 (HH_h.out.ev B0.out EV.out) HSM_h.out).mono ?_
  rintro e w4 ⟨Axh, cxh, Fxh, rfl, o1, f1, b1⟩
  clear Y_h
  replace EV := Lib.hid (bel_on EV.out b1)
  replace X_h := Lib.hid (box_on b1 X_h.out)
  have Z_w4 : Hid (w3.heap.size ≤ w4.heap.size) := Lib.hid b1.size
  have O_xh := Lib.hid o1
  have R_xh := Lib.hid f1
  clear o1 f1 b1
  obtain ⟨w5, hw5⟩ : ∃ w5, w5 = w4.alloc (.cells #[.int .i64 pos_h, .int .i64 cc_h, .int .i64 ck_h, .int .i64 cv_h, .int .i64 cur_h, .int .i64 want_h, .int .i64 key_h, .int .i64 kid_h, .int .i64 old_h, .int .i64 next_h, .int .i64 new_h, .slice Axh n_h cxh, .int .i64 thn_h, .int .i64 beg_h, .int .i64 rep_h, .int .i64 out_h] 31) := ⟨_, rfl⟩
  have bw5 : Below w4.heap.size w4 w5 := by rw [hw5]; exact (Below.refl _ _).alloc (Nat.le_refl _) _
  have qw5 : w5.heap[w4.heap.size]? = some (.cells #[.int .i64 pos_h, .int .i64 cc_h, .int .i64 ck_h, .int .i64 cv_h, .int .i64 cur_h, .int .i64 want_h, .int .i64 key_h, .int .i64 kid_h, .int .i64 old_h, .int .i64 next_h, .int .i64 new_h, .slice Axh n_h cxh, .int .i64 thn_h, .int .i64 beg_h, .int .i64 rep_h, .int .i64 out_h] 31 (0, 0)) := by rw [hw5]; exact heap_alloc_new _ _
  have zb_w5 : w4.heap.size + 1 = w5.heap.size := by rw [hw5]; simp
  replace EV := Lib.hid (bel_on EV.out bw5)
  replace X_h := Lib.hid (box_on bw5 X_h.out)
  replace O_xh := Lib.hid (O_xh.out.on bw5)
  have Z_w5 : Hid (w4.heap.size ≤ w5.heap.size) := Lib.hid bw5.size
  have ZB_w5 := Lib.hid zb_w5
  have X_xh := Lib.hid qw5
  have Hw5 := Lib.hid hw5
  clear hw5 bw5 qw5 zb_w5
  have Y_xh : (w4.alloc (.cells #[.int .i64 pos_h, .int .i64 cc_h, .int .i64 ck_h, .int .i64 cv_h, .int .i64 cur_h, .int .i64 want_h, .int .i64 key_h, .int .i64 kid_h, .int .i64 old_h, .int .i64 next_h, .int .i64 new_h, .slice Axh n_h cxh, .int .i64 thn_h, .int .i64 beg_h, .int .i64 rep_h, .int .i64 out_h] 31)).heap[w4.heap.size]? = some (.cells #[.int .i64 pos_h, .int .i64 cc_h, .int .i64 ck_h, .int .i64 cv_h, .int .i64 cur_h, .int .i64 want_h, .int .i64 key_h, .int .i64 kid_h, .int .i64 old_h, .int .i64 next_h, .int .i64 new_h, .slice Axh n_h cxh, .int .i64 thn_h, .int .i64 beg_h, .int .i64 rep_h, .int .i64 out_h] 31 (0, 0)) := by rw [← Hw5.out]; exact X_xh.out
  go_wp2_with (first | (refine wpList_store_row rfl 31 _ _ rfl (w4.heap.size) #[.int .i64 pos_h, .int .i64 cc_h, .int .i64 ck_h, .int .i64 cv_h, .int .i64 cur_h, .int .i64 want_h, .int .i64 key_h, .int .i64 kid_h, .int .i64 old_h, .int .i64 next_h, .int .i64 new_h, .slice Axh n_h cxh, .int .i64 thn_h, .int .i64 beg_h, .int .i64 rep_h, .int .i64 out_h] rfl rfl 31 #[Value.int .i64 0, Value.int .i64 0, Value.int .i64 0, Value.int .i64 0, Value.int .i64 0, Value.int .i64 0, Value.int .i64 0, Value.int .i64 0, Value.int .i64 0, Value.int .i64 0, Value.int .i64 0, Value.slice none 0 0, Value.int .i64 0, Value.int .i64 0, Value.int .i64 0, Value.int .i64 0] (heap_alloc_new w4 _) hand_size rfl (hC_one pos_h cc_h ck_h cv_h cur_h want_h key_h kid_h old_h next_h new_h thn_h beg_h rep_h out_h Axh n_h cxh) ?_; rw [show World.setRow _ _ _ = _ from World.setRow_alloc_new w4 #[Value.int .i64 0, Value.int .i64 0, Value.int .i64 0, Value.int .i64 0, Value.int .i64 0, Value.int .i64 0, Value.int .i64 0, Value.int .i64 0, Value.int .i64 0, Value.int .i64 0, Value.int .i64 0, Value.slice none 0 0, Value.int .i64 0, Value.int .i64 0, Value.int .i64 0, Value.int .i64 0] #[.int .i64 pos_h, .int .i64 cc_h, .int .i64 ck_h, .int .i64 cv_h, .int .i64 cur_h, .int .i64 want_h, .int .i64 key_h, .int .i64 kid_h, .int .i64 old_h, .int .i64 next_h, .int .i64 new_h, .slice Axh n_h cxh, .int .i64 thn_h, .int .i64 beg_h, .int .i64 rep_h, .int .i64 out_h] 31]) | (refine wpList_load_row rfl 31 _ rfl (w4.heap.size) rfl 31 #[.int .i64 pos_h, .int .i64 cc_h, .int .i64 ck_h, .int .i64 cv_h, .int .i64 cur_h, .int .i64 want_h, .int .i64 key_h, .int .i64 kid_h, .int .i64 old_h, .int .i64 next_h, .int .i64 new_h, .slice Axh n_h cxh, .int .i64 thn_h, .int .i64 beg_h, .int .i64 rep_h, .int .i64 out_h] (0, 0) _ Y_xh Try.underlying31 rfl hand_size ?_))
  rw [← Hw5.out]
  refine (HI.out Axh cxh _ HSM_h.out O_xh.out.cap.1 O_xh.out.cap.2 O_xh.out.rd).mono ?_
  rintro e w6 ⟨rfl, b1⟩
  clear Y_xh
  replace EV := Lib.hid (bel_on EV.out b1)
  replace X_h := Lib.hid (box_on b1 X_h.out)
  replace X_xh := Lib.hid (box_on b1 X_xh.out)
  replace O_xh := Lib.hid (O_xh.out.on b1)
  have Z_w6 : Hid (w5.heap.size ≤ w6.heap.size) := Lib.hid b1.size
  clear b1
  have Y_xh : w6.heap[w4.heap.size]? = some (.cells #[.int .i64 pos_h, .int .i64 cc_h, .int .i64 ck_h, .int .i64 cv_h, .int .i64 cur_h, .int .i64 want_h, .int .i64 key_h, .int .i64 kid_h, .int .i64 old_h, .int .i64 next_h, .int .i64 new_h, .slice Axh n_h cxh, .int .i64 thn_h, .int .i64 beg_h, .int .i64 rep_h, .int .i64 out_h] 31 (0, 0)) := by exact X_xh.out
  have Y_h : w6.heap[w.heap.size]? = some (.cells #[.int .i64 pos_h, .int .i64 cc_h, .int .i64 ck_h, .int .i64 cv_h, .int .i64 cur_h, .int .i64 want_h, .int .i64 key_h, .int .i64 kid_h, .int .i64 old_h, .int .i64 next_h, .int .i64 new_h, .slice A_h n_h c_h, .int .i64 thn_h, .int .i64 beg_h, .int .i64 rep_h, .int .i64 out_h] 49 (0, 0)) := by exact X_h.out
  have KR : Hid (∀ wx, Below w6.heap.size w6 wx → wx.cell? ⟨w4.heap.size, 0, none⟩ = some (.int .i64 pos_h) ∧ wx.cell? ⟨w4.heap.size, 1, none⟩ = some (.int .i64 cc_h) ∧ wx.cell? ⟨w4.heap.size, 2, none⟩ = some (.int .i64 ck_h) ∧ wx.cell? ⟨w4.heap.size, 3, none⟩ = some (.int .i64 cv_h) ∧ wx.cell? ⟨w4.heap.size, 4, none⟩ = some (.int .i64 cur_h) ∧ wx.cell? ⟨w4.heap.size, 5, none⟩ = some (.int .i64 want_h) ∧ wx.cell? ⟨w4.heap.size, 6, none⟩ = some (.int .i64 key_h) ∧ wx.cell? ⟨w4.heap.size, 7, none⟩ = some (.int .i64 kid_h) ∧ wx.cell? ⟨w4.heap.size, 8, none⟩ = some (.int .i64 old_h) ∧ wx.cell? ⟨w4.heap.size, 9, none⟩ = some (.int .i64 next_h) ∧ wx.cell? ⟨w4.heap.size, 10, none⟩ = some (.int .i64 new_h) ∧ wx.cell? ⟨w4.heap.size, 11, none⟩ = some (.slice Axh n_h cxh) ∧ wx.cell? ⟨w4.heap.size, 12, none⟩ = some (.int .i64 thn_h) ∧ wx.cell? ⟨w4.heap.size, 13, none⟩ = some (.int .i64 beg_h) ∧ wx.cell? ⟨w4.heap.size, 14, none⟩ = some (.int .i64 rep_h) ∧ wx.cell? ⟨w4.heap.size, 15, none⟩ = some (.int .i64 out_h) ∧ wx.cell? ⟨w.heap.size, 0, none⟩ = some (.int .i64 pos_h) ∧ wx.cell? ⟨w.heap.size, 1, none⟩ = some (.int .i64 cc_h) ∧ wx.cell? ⟨w.heap.size, 2, none⟩ = some (.int .i64 ck_h) ∧ wx.cell? ⟨w.heap.size, 3, none⟩ = some (.int .i64 cv_h) ∧ wx.cell? ⟨w.heap.size, 4, none⟩ = some (.int .i64 cur_h) ∧ wx.cell? ⟨w.heap.size, 5, none⟩ = some (.int .i64 want_h) ∧ wx.cell? ⟨w.heap.size, 6, none⟩ = some (.int .i64 key_h) ∧ wx.cell? ⟨w.heap.size, 7, none⟩ = some (.int .i64 kid_h) ∧ wx.cell? ⟨w.heap.size, 8, none⟩ = some (.int .i64 old_h) ∧ wx.cell? ⟨w.heap.size, 9, none⟩ = some (.int .i64 next_h) ∧ wx.cell? ⟨w.heap.size, 10, none⟩ = some (.int .i64 new_h) ∧ wx.cell? ⟨w.heap.size, 11, none⟩ = some (.slice A_h n_h c_h) ∧ wx.cell? ⟨w.heap.size, 12, none⟩ = some (.int .i64 thn_h) ∧ wx.cell? ⟨w.heap.size, 13, none⟩ = some (.int .i64 beg_h) ∧ wx.cell? ⟨w.heap.size, 14, none⟩ = some (.int .i64 rep_h) ∧ wx.cell? ⟨w.heap.size, 15, none⟩ = some (.int .i64 out_h)) := Lib.hid (fun wx hb => ⟨by rw [cell_of_row _ _ 0 _ _ _ (box_on hb X_xh.out)]; rfl, by rw [cell_of_row _ _ 1 _ _ _ (box_on hb X_xh.out)]; rfl, by rw [cell_of_row _ _ 2 _ _ _ (box_on hb X_xh.out)]; rfl, by rw [cell_of_row _ _ 3 _ _ _ (box_on hb X_xh.out)]; rfl, by rw [cell_of_row _ _ 4 _ _ _ (box_on hb X_xh.out)]; rfl, by rw [cell_of_row _ _ 5 _ _ _ (box_on hb X_xh.out)]; rfl, by rw [cell_of_row _ _ 6 _ _ _ (box_on hb X_xh.out)]; rfl, by rw [cell_of_row _ _ 7 _ _ _ (box_on hb X_xh.out)]; rfl, by rw [cell_of_row _ _ 8 _ _ _ (box_on hb X_xh.out)]; rfl, by rw [cell_of_row _ _ 9 _ _ _ (box_on hb X_xh.out)]; rfl, by rw [cell_of_row _ _ 10 _ _ _ (box_on hb X_xh.out)]; rfl, by rw [cell_of_row _ _ 11 _ _ _ (box_on hb X_xh.out)]; rfl, by rw [cell_of_row _ _ 12 _ _ _ (box_on hb X_xh.out)]; rfl, by rw [cell_of_row _ _ 13 _ _ _ (box_on hb X_xh.out)]; rfl, by rw [cell_of_row _ _ 14 _ _ _ (box_on hb X_xh.out)]; rfl, by rw [cell_of_row _ _ 15 _ _ _ (box_on hb X_xh.out)]; rfl, by rw [cell_of_row _ _ 0 _ _ _ (box_on hb X_h.out)]; rfl, by rw [cell_of_row _ _ 1 _ _ _ (box_on hb X_h.out)]; rfl, by rw [cell_of_row _ _ 2 _ _ _ (box_on hb X_h.out)]; rfl, by rw [cell_of_row _ _ 3 _ _ _ (box_on hb X_h.out)]; rfl, by rw [cell_of_row _ _ 4 _ _ _ (box_on hb X_h.out)]; rfl, by rw [cell_of_row _ _ 5 _ _ _ (box_on hb X_h.out)]; rfl, by rw [cell_of_row _ _ 6 _ _ _ (box_on hb X_h.out)]; rfl, by rw [cell_of_row _ _ 7 _ _ _ (box_on hb X_h.out)]; rfl, by rw [cell_of_row _ _ 8 _ _ _ (box_on hb X_h.out)]; rfl, by rw [cell_of_row _ _ 9 _ _ _ (box_on hb X_h.out)]; rfl, by rw [cell_of_row _ _ 10 _ _ _ (box_on hb X_h.out)]; rfl, by rw [cell_of_row _ _ 11 _ _ _ (box_on hb X_h.out)]; rfl, by rw [cell_of_row _ _ 12 _ _ _ (box_on hb X_h.out)]; rfl, by rw [cell_of_row _ _ 13 _ _ _ (box_on hb X_h.out)]; rfl, by rw [cell_of_row _ _ 14 _ _ _ (box_on hb X_h.out)]; rfl, by rw [cell_of_row _ _ 15 _ _ _ (box_on hb X_h.out)]; rfl⟩)
  have HN := Lib.hid (HH_h.out.ev B0.out EV.out)
  go_wp2_with (first | (refine wpList_load_row rfl 31 _ rfl (w4.heap.size) rfl 31 #[.int .i64 pos_h, .int .i64 cc_h, .int .i64 ck_h, .int .i64 cv_h, .int .i64 cur_h, .int .i64 want_h, .int .i64 key_h, .int .i64 kid_h, .int .i64 old_h, .int .i64 next_h, .int .i64 new_h, .slice Axh n_h cxh, .int .i64 thn_h, .int .i64 beg_h, .int .i64 rep_h, .int .i64 out_h] (0, 0) _ Y_xh Try.underlying31 rfl hand_size ?_) | (refine wpList_load_row rfl 49 _ rfl (w.heap.size) rfl 49 #[.int .i64 pos_h, .int .i64 cc_h, .int .i64 ck_h, .int .i64 cv_h, .int .i64 cur_h, .int .i64 want_h, .int .i64 key_h, .int .i64 kid_h, .int .i64 old_h, .int .i64 next_h, .int .i64 new_h, .slice A_h n_h c_h, .int .i64 thn_h, .int .i64 beg_h, .int .i64 rep_h, .int .i64 out_h] (0, 0) _ Y_h Try.underlying49 rfl lhand_size ?_))
  go_region_held3 (fun w' => w'.cell? ⟨w4.heap.size, 0, none⟩ = some (.int .i64 pos_h) ∧ w'.cell? ⟨w4.heap.size, 1, none⟩ = some (.int .i64 cc_h) ∧ w'.cell? ⟨w4.heap.size, 2, none⟩ = some (.int .i64 ck_h) ∧ w'.cell? ⟨w4.heap.size, 3, none⟩ = some (.int .i64 cv_h) ∧ w'.cell? ⟨w4.heap.size, 4, none⟩ = some (.int .i64 cur_h) ∧ w'.cell? ⟨w4.heap.size, 5, none⟩ = some (.int .i64 want_h) ∧ w'.cell? ⟨w4.heap.size, 6, none⟩ = some (.int .i64 key_h) ∧ w'.cell? ⟨w4.heap.size, 7, none⟩ = some (.int .i64 kid_h) ∧ w'.cell? ⟨w4.heap.size, 8, none⟩ = some (.int .i64 old_h) ∧ w'.cell? ⟨w4.heap.size, 9, none⟩ = some (.int .i64 next_h) ∧ w'.cell? ⟨w4.heap.size, 10, none⟩ = some (.int .i64 new_h) ∧ w'.cell? ⟨w4.heap.size, 11, none⟩ = some (.slice Axh n_h cxh) ∧ w'.cell? ⟨w4.heap.size, 12, none⟩ = some (.int .i64 thn_h) ∧ w'.cell? ⟨w4.heap.size, 13, none⟩ = some (.int .i64 beg_h) ∧ w'.cell? ⟨w4.heap.size, 14, none⟩ = some (.int .i64 rep_h) ∧ w'.cell? ⟨w4.heap.size, 15, none⟩ = some (.int .i64 out_h) ∧ w'.cell? ⟨w.heap.size, 0, none⟩ = some (.int .i64 pos_h) ∧ w'.cell? ⟨w.heap.size, 1, none⟩ = some (.int .i64 cc_h) ∧ w'.cell? ⟨w.heap.size, 2, none⟩ = some (.int .i64 ck_h) ∧ w'.cell? ⟨w.heap.size, 3, none⟩ = some (.int .i64 cv_h) ∧ w'.cell? ⟨w.heap.size, 4, none⟩ = some (.int .i64 cur_h) ∧ w'.cell? ⟨w.heap.size, 5, none⟩ = some (.int .i64 want_h) ∧ w'.cell? ⟨w.heap.size, 6, none⟩ = some (.int .i64 key_h) ∧ w'.cell? ⟨w.heap.size, 7, none⟩ = some (.int .i64 kid_h) ∧ w'.cell? ⟨w.heap.size, 8, none⟩ = some (.int .i64 old_h) ∧ w'.cell? ⟨w.heap.size, 9, none⟩ = some (.int .i64 next_h) ∧ w'.cell? ⟨w.heap.size, 10, none⟩ = some (.int .i64 new_h) ∧ w'.cell? ⟨w.heap.size, 11, none⟩ = some (.slice A_h n_h c_h) ∧ w'.cell? ⟨w.heap.size, 12, none⟩ = some (.int .i64 thn_h) ∧ w'.cell? ⟨w.heap.size, 13, none⟩ = some (.int .i64 beg_h) ∧ w'.cell? ⟨w.heap.size, 14, none⟩ = some (.int .i64 rep_h) ∧ w'.cell? ⟨w.heap.size, 15, none⟩ = some (.int .i64 out_h))
    (first | exact KR.out _ (Below.refl _ _) | exact KR.out _ (Below.refl _ _).drew | exact KR.out _ (bel_on (bel_drew bR1) bR2) | exact KR.out _ (bel_drew bR1))
    (first
      | (go_at_call 28; refine (toH1 pos_h cc_h ck_h cv_h cur_h want_h key_h kid_h old_h next_h new_h thn_h beg_h rep_h out_h xs_h A_h n_h c_h _ (HN.out.on (Below.refl _ _).drew) HSM_h.out).mono ?_; rintro e wR1 ⟨AR, cR, FR, rfl, oR, fR, bR1⟩)
      | (go_at_call 29; refine (eqH1 pos_h cc_h ck_h cv_h cur_h want_h key_h kid_h old_h next_h new_h thn_h beg_h rep_h out_h xs_h Axh AR n_h cxh cR _ ((O_xh.out.on (bel_drew bR1)).rd) oR.rd HSM_h.out).mono ?_; rintro e wR2 ⟨rfl, bR2⟩))
  obtain ⟨w7, hw7⟩ : ∃ w7, w7 = wR2 := ⟨_, rfl⟩
  rw [← hw7] at bR2 ⊢
  have bb := bel_on (bel_drew bR1) bR2
  clear hw7 oR fR bR1 bR2 KR HN Y_xh Y_h
  replace EV := Lib.hid (bel_on EV.out bb)
  replace X_h := Lib.hid (box_on bb X_h.out)
  replace X_xh := Lib.hid (box_on bb X_xh.out)
  replace O_xh := Lib.hid (O_xh.out.on bb)
  have Z_w7 : Hid (w6.heap.size ≤ w7.heap.size) := Lib.hid bb.size
  clear bb
  go_wp2_with fail
  go_ret
  exact ⟨rfl, B0.out.trans (EV.out.mono B0.out.size)⟩

set_option maxRecDepth 100000 in
set_option maxHeartbeats 1000000 in
theorem lawResting_walk (rp : Int) (ot : Int) (pos_o0 cc_o0 ck_o0 cv_o0 cur_o0 want_o0 key_o0 kid_o0 old_o0 next_o0 new_o0 thn_o0 beg_o0 rep_o0 out_o0 : Int) (ys0 : List Int) (w : World)
    (hS : ∀ (w : World), Calls Try.prog 25 #[.int .i64 rp, .int .i64 ot] w fun e w' => ∃ Az0 cz0 Fz0, e = .returned (.agg #[.int .i64 pos_o0, .int .i64 cc_o0, .int .i64 ck_o0, .int .i64 cv_o0, .int .i64 cur_o0, .int .i64 want_o0, .int .i64 key_o0, .int .i64 kid_o0, .int .i64 old_o0, .int .i64 next_o0, .int .i64 new_o0, .slice Az0 ys0.length cz0, .int .i64 thn_o0, .int .i64 beg_o0, .int .i64 rep_o0, .int .i64 out_o0]) ∧ OwnS w' (.slice Az0 ys0.length cz0) ys0 Fz0 ∧ Fresh Fz0 w w' ∧ Below w.heap.size w w')
    (hI : ∀ (w : World), Calls Try.prog 24 #[.int .i64 rp, .int .i64 ot] w fun e w' => ∃ Az0 cz0 Fz0, e = .returned (.agg #[.int .i64 pos_o0, .int .i64 cc_o0, .int .i64 ck_o0, .int .i64 cv_o0, .int .i64 cur_o0, .int .i64 want_o0, .int .i64 key_o0, .int .i64 kid_o0, .int .i64 old_o0, .int .i64 next_o0, .int .i64 new_o0, .slice Az0 ys0.length cz0, .int .i64 thn_o0, .int .i64 beg_o0, .int .i64 rep_o0, .int .i64 out_o0]) ∧ OwnS w' (.slice Az0 ys0.length cz0) ys0 Fz0 ∧ Fresh Fz0 w w' ∧ Below w.heap.size w w') (hr0 : Small.sm ys0) :
    Calls Try.prog 7 #[.int .i64 rp, .int .i64 ot] w fun e w' => e = .returned (.bool true) ∧ Below w.heap.size w w' := by
  have HS := Lib.hid hS
  have HI := Lib.hid hI
  have HR0 := Lib.hid hr0
  clear hS hI hr0
  obtain ⟨w0, hw0⟩ : ∃ w0, w0 = w := ⟨_, rfl⟩
  have B0 : Hid (Below w.heap.size w w0) := Lib.hid (by rw [hw0]; exact Below.refl _ _)
  have HW := Lib.hid hw0
  clear hw0
  have EV : Hid (Below w0.heap.size w0 w0) := Lib.hid (Below.refl _ _)
  go_enter Try.func7, Try.ntmps7
  go_wp2_with fail
  have hw0 : w0 = w := HW.out
  clear HW
  subst hw0
  go_wp2_with fail
  refine (HS.out  _ ).mono ?_
  rintro e w1 ⟨As0, cs0, Fs0, rfl, o0, f0, b1⟩
  replace EV := Lib.hid (bel_on EV.out b1)
  have Z_w1 : Hid (w0.heap.size ≤ w1.heap.size) := Lib.hid b1.size
  have O_s0 := Lib.hid o0
  have R_s0 := Lib.hid f0
  clear b1 o0 f0
  obtain ⟨w2, hw2⟩ : ∃ w2, w2 = w1.alloc (.cells #[.int .i64 pos_o0, .int .i64 cc_o0, .int .i64 ck_o0, .int .i64 cv_o0, .int .i64 cur_o0, .int .i64 want_o0, .int .i64 key_o0, .int .i64 kid_o0, .int .i64 old_o0, .int .i64 next_o0, .int .i64 new_o0, .slice As0 ys0.length cs0, .int .i64 thn_o0, .int .i64 beg_o0, .int .i64 rep_o0, .int .i64 out_o0] 31) := ⟨_, rfl⟩
  have bw2 : Below w1.heap.size w1 w2 := by rw [hw2]; exact (Below.refl _ _).alloc (Nat.le_refl _) _
  have qw2 : w2.heap[w1.heap.size]? = some (.cells #[.int .i64 pos_o0, .int .i64 cc_o0, .int .i64 ck_o0, .int .i64 cv_o0, .int .i64 cur_o0, .int .i64 want_o0, .int .i64 key_o0, .int .i64 kid_o0, .int .i64 old_o0, .int .i64 next_o0, .int .i64 new_o0, .slice As0 ys0.length cs0, .int .i64 thn_o0, .int .i64 beg_o0, .int .i64 rep_o0, .int .i64 out_o0] 31 (0, 0)) := by rw [hw2]; exact heap_alloc_new _ _
  have zb_w2 : w1.heap.size + 1 = w2.heap.size := by rw [hw2]; simp
  replace EV := Lib.hid (bel_on EV.out bw2)
  replace O_s0 := Lib.hid (O_s0.out.on bw2)
  have Z_w2 : Hid (w1.heap.size ≤ w2.heap.size) := Lib.hid bw2.size
  have ZB_w2 := Lib.hid zb_w2
  have X_s0 := Lib.hid qw2
  have Hw2 := Lib.hid hw2
  clear hw2 bw2 qw2 zb_w2
  go_wp2_with (first | (refine wpList_store_row rfl 31 _ _ rfl (w1.heap.size) #[.int .i64 pos_o0, .int .i64 cc_o0, .int .i64 ck_o0, .int .i64 cv_o0, .int .i64 cur_o0, .int .i64 want_o0, .int .i64 key_o0, .int .i64 kid_o0, .int .i64 old_o0, .int .i64 next_o0, .int .i64 new_o0, .slice As0 ys0.length cs0, .int .i64 thn_o0, .int .i64 beg_o0, .int .i64 rep_o0, .int .i64 out_o0] rfl rfl 31 #[Value.int .i64 0, Value.int .i64 0, Value.int .i64 0, Value.int .i64 0, Value.int .i64 0, Value.int .i64 0, Value.int .i64 0, Value.int .i64 0, Value.int .i64 0, Value.int .i64 0, Value.int .i64 0, Value.slice none 0 0, Value.int .i64 0, Value.int .i64 0, Value.int .i64 0, Value.int .i64 0] (heap_alloc_new w1 _) hand_size rfl (hC_one pos_o0 cc_o0 ck_o0 cv_o0 cur_o0 want_o0 key_o0 kid_o0 old_o0 next_o0 new_o0 thn_o0 beg_o0 rep_o0 out_o0 As0 ys0.length cs0) ?_; rw [show World.setRow _ _ _ = _ from World.setRow_alloc_new w1 #[Value.int .i64 0, Value.int .i64 0, Value.int .i64 0, Value.int .i64 0, Value.int .i64 0, Value.int .i64 0, Value.int .i64 0, Value.int .i64 0, Value.int .i64 0, Value.int .i64 0, Value.int .i64 0, Value.slice none 0 0, Value.int .i64 0, Value.int .i64 0, Value.int .i64 0, Value.int .i64 0] #[.int .i64 pos_o0, .int .i64 cc_o0, .int .i64 ck_o0, .int .i64 cv_o0, .int .i64 cur_o0, .int .i64 want_o0, .int .i64 key_o0, .int .i64 kid_o0, .int .i64 old_o0, .int .i64 next_o0, .int .i64 new_o0, .slice As0 ys0.length cs0, .int .i64 thn_o0, .int .i64 beg_o0, .int .i64 rep_o0, .int .i64 out_o0] 31]))
  rw [← Hw2.out]
  refine (HI.out  _ ).mono ?_
  rintro e w3 ⟨Ag0, cg0, Fg0, rfl, o0, f0, b1⟩
  replace EV := Lib.hid (bel_on EV.out b1)
  replace X_s0 := Lib.hid (box_on b1 X_s0.out)
  replace O_s0 := Lib.hid (O_s0.out.on b1)
  have Z_w3 : Hid (w2.heap.size ≤ w3.heap.size) := Lib.hid b1.size
  have O_g0 := Lib.hid o0
  have R_g0 := Lib.hid f0
  clear b1 o0 f0
  obtain ⟨w4, hw4⟩ : ∃ w4, w4 = w3.alloc (.cells #[.int .i64 pos_o0, .int .i64 cc_o0, .int .i64 ck_o0, .int .i64 cv_o0, .int .i64 cur_o0, .int .i64 want_o0, .int .i64 key_o0, .int .i64 kid_o0, .int .i64 old_o0, .int .i64 next_o0, .int .i64 new_o0, .slice Ag0 ys0.length cg0, .int .i64 thn_o0, .int .i64 beg_o0, .int .i64 rep_o0, .int .i64 out_o0] 31) := ⟨_, rfl⟩
  have bw4 : Below w3.heap.size w3 w4 := by rw [hw4]; exact (Below.refl _ _).alloc (Nat.le_refl _) _
  have qw4 : w4.heap[w3.heap.size]? = some (.cells #[.int .i64 pos_o0, .int .i64 cc_o0, .int .i64 ck_o0, .int .i64 cv_o0, .int .i64 cur_o0, .int .i64 want_o0, .int .i64 key_o0, .int .i64 kid_o0, .int .i64 old_o0, .int .i64 next_o0, .int .i64 new_o0, .slice Ag0 ys0.length cg0, .int .i64 thn_o0, .int .i64 beg_o0, .int .i64 rep_o0, .int .i64 out_o0] 31 (0, 0)) := by rw [hw4]; exact heap_alloc_new _ _
  have zb_w4 : w3.heap.size + 1 = w4.heap.size := by rw [hw4]; simp
  replace EV := Lib.hid (bel_on EV.out bw4)
  replace X_s0 := Lib.hid (box_on bw4 X_s0.out)
  replace O_s0 := Lib.hid (O_s0.out.on bw4)
  replace O_g0 := Lib.hid (O_g0.out.on bw4)
  have Z_w4 : Hid (w3.heap.size ≤ w4.heap.size) := Lib.hid bw4.size
  have ZB_w4 := Lib.hid zb_w4
  have X_g0 := Lib.hid qw4
  have Hw4 := Lib.hid hw4
  clear hw4 bw4 qw4 zb_w4
  have Y_g0 : (w3.alloc (.cells #[.int .i64 pos_o0, .int .i64 cc_o0, .int .i64 ck_o0, .int .i64 cv_o0, .int .i64 cur_o0, .int .i64 want_o0, .int .i64 key_o0, .int .i64 kid_o0, .int .i64 old_o0, .int .i64 next_o0, .int .i64 new_o0, .slice Ag0 ys0.length cg0, .int .i64 thn_o0, .int .i64 beg_o0, .int .i64 rep_o0, .int .i64 out_o0] 31)).heap[w3.heap.size]? = some (.cells #[.int .i64 pos_o0, .int .i64 cc_o0, .int .i64 ck_o0, .int .i64 cv_o0, .int .i64 cur_o0, .int .i64 want_o0, .int .i64 key_o0, .int .i64 kid_o0, .int .i64 old_o0, .int .i64 next_o0, .int .i64 new_o0, .slice Ag0 ys0.length cg0, .int .i64 thn_o0, .int .i64 beg_o0, .int .i64 rep_o0, .int .i64 out_o0] 31 (0, 0)) := by rw [← Hw4.out]; exact X_g0.out
  have Y_s0 : (w3.alloc (.cells #[.int .i64 pos_o0, .int .i64 cc_o0, .int .i64 ck_o0, .int .i64 cv_o0, .int .i64 cur_o0, .int .i64 want_o0, .int .i64 key_o0, .int .i64 kid_o0, .int .i64 old_o0, .int .i64 next_o0, .int .i64 new_o0, .slice Ag0 ys0.length cg0, .int .i64 thn_o0, .int .i64 beg_o0, .int .i64 rep_o0, .int .i64 out_o0] 31)).heap[w1.heap.size]? = some (.cells #[.int .i64 pos_o0, .int .i64 cc_o0, .int .i64 ck_o0, .int .i64 cv_o0, .int .i64 cur_o0, .int .i64 want_o0, .int .i64 key_o0, .int .i64 kid_o0, .int .i64 old_o0, .int .i64 next_o0, .int .i64 new_o0, .slice As0 ys0.length cs0, .int .i64 thn_o0, .int .i64 beg_o0, .int .i64 rep_o0, .int .i64 out_o0] 31 (0, 0)) := by rw [← Hw4.out]; exact X_s0.out
  go_wp2_with (first | (refine wpList_store_row rfl 31 _ _ rfl (w3.heap.size) #[.int .i64 pos_o0, .int .i64 cc_o0, .int .i64 ck_o0, .int .i64 cv_o0, .int .i64 cur_o0, .int .i64 want_o0, .int .i64 key_o0, .int .i64 kid_o0, .int .i64 old_o0, .int .i64 next_o0, .int .i64 new_o0, .slice Ag0 ys0.length cg0, .int .i64 thn_o0, .int .i64 beg_o0, .int .i64 rep_o0, .int .i64 out_o0] rfl rfl 31 #[Value.int .i64 0, Value.int .i64 0, Value.int .i64 0, Value.int .i64 0, Value.int .i64 0, Value.int .i64 0, Value.int .i64 0, Value.int .i64 0, Value.int .i64 0, Value.int .i64 0, Value.int .i64 0, Value.slice none 0 0, Value.int .i64 0, Value.int .i64 0, Value.int .i64 0, Value.int .i64 0] (heap_alloc_new w3 _) hand_size rfl (hC_one pos_o0 cc_o0 ck_o0 cv_o0 cur_o0 want_o0 key_o0 kid_o0 old_o0 next_o0 new_o0 thn_o0 beg_o0 rep_o0 out_o0 Ag0 ys0.length cg0) ?_; rw [show World.setRow _ _ _ = _ from World.setRow_alloc_new w3 #[Value.int .i64 0, Value.int .i64 0, Value.int .i64 0, Value.int .i64 0, Value.int .i64 0, Value.int .i64 0, Value.int .i64 0, Value.int .i64 0, Value.int .i64 0, Value.int .i64 0, Value.int .i64 0, Value.slice none 0 0, Value.int .i64 0, Value.int .i64 0, Value.int .i64 0, Value.int .i64 0] #[.int .i64 pos_o0, .int .i64 cc_o0, .int .i64 ck_o0, .int .i64 cv_o0, .int .i64 cur_o0, .int .i64 want_o0, .int .i64 key_o0, .int .i64 kid_o0, .int .i64 old_o0, .int .i64 next_o0, .int .i64 new_o0, .slice Ag0 ys0.length cg0, .int .i64 thn_o0, .int .i64 beg_o0, .int .i64 rep_o0, .int .i64 out_o0] 31]) | (refine wpList_load_row rfl 31 _ rfl (w3.heap.size) rfl 31 #[.int .i64 pos_o0, .int .i64 cc_o0, .int .i64 ck_o0, .int .i64 cv_o0, .int .i64 cur_o0, .int .i64 want_o0, .int .i64 key_o0, .int .i64 kid_o0, .int .i64 old_o0, .int .i64 next_o0, .int .i64 new_o0, .slice Ag0 ys0.length cg0, .int .i64 thn_o0, .int .i64 beg_o0, .int .i64 rep_o0, .int .i64 out_o0] (0, 0) _ Y_g0 Try.underlying31 rfl hand_size ?_) | (refine wpList_load_row rfl 31 _ rfl (w1.heap.size) rfl 31 #[.int .i64 pos_o0, .int .i64 cc_o0, .int .i64 ck_o0, .int .i64 cv_o0, .int .i64 cur_o0, .int .i64 want_o0, .int .i64 key_o0, .int .i64 kid_o0, .int .i64 old_o0, .int .i64 next_o0, .int .i64 new_o0, .slice As0 ys0.length cs0, .int .i64 thn_o0, .int .i64 beg_o0, .int .i64 rep_o0, .int .i64 out_o0] (0, 0) _ Y_s0 Try.underlying31 rfl hand_size ?_))
  rw [← Hw4.out]
  refine (eqH1 pos_o0 cc_o0 ck_o0 cv_o0 cur_o0 want_o0 key_o0 kid_o0 old_o0 next_o0 new_o0 thn_o0 beg_o0 rep_o0 out_o0 ys0 Ag0 As0 ys0.length cg0 cs0 _ O_g0.out.rd O_s0.out.rd HR0.out).mono ?_
  rintro e w5 ⟨rfl, b1⟩
  clear Y_g0 Y_s0
  replace EV := Lib.hid (bel_on EV.out b1)
  replace X_s0 := Lib.hid (box_on b1 X_s0.out)
  replace X_g0 := Lib.hid (box_on b1 X_g0.out)
  replace O_s0 := Lib.hid (O_s0.out.on b1)
  replace O_g0 := Lib.hid (O_g0.out.on b1)
  have Z_w5 : Hid (w4.heap.size ≤ w5.heap.size) := Lib.hid b1.size
  clear b1
  have Y_g0 : w5.heap[w3.heap.size]? = some (.cells #[.int .i64 pos_o0, .int .i64 cc_o0, .int .i64 ck_o0, .int .i64 cv_o0, .int .i64 cur_o0, .int .i64 want_o0, .int .i64 key_o0, .int .i64 kid_o0, .int .i64 old_o0, .int .i64 next_o0, .int .i64 new_o0, .slice Ag0 ys0.length cg0, .int .i64 thn_o0, .int .i64 beg_o0, .int .i64 rep_o0, .int .i64 out_o0] 31 (0, 0)) := by exact X_g0.out
  go_wp2_with (first | (refine wpList_load_row rfl 31 _ rfl (w3.heap.size) rfl 31 #[.int .i64 pos_o0, .int .i64 cc_o0, .int .i64 ck_o0, .int .i64 cv_o0, .int .i64 cur_o0, .int .i64 want_o0, .int .i64 key_o0, .int .i64 kid_o0, .int .i64 old_o0, .int .i64 next_o0, .int .i64 new_o0, .slice Ag0 ys0.length cg0, .int .i64 thn_o0, .int .i64 beg_o0, .int .i64 rep_o0, .int .i64 out_o0] (0, 0) _ Y_g0 Try.underlying31 rfl hand_size ?_))
  refine (mkH1 pos_o0 cc_o0 ck_o0 cv_o0 cur_o0 want_o0 key_o0 kid_o0 old_o0 next_o0 new_o0 thn_o0 beg_o0 rep_o0 out_o0 ys0 Ag0 ys0.length cg0 1 Fg0 w5 O_g0.out O_g0.out.len HR0.out (by omega)).mono ?_
  rintro e w6 ⟨rfl, o1, g1⟩
  clear Y_g0
  have hF_ : ∀ k, Fg0 k → w0.heap.size ≤ k ∧ w2.heap.size ≤ k ∧ k < w3.heap.size := fun k hk => by have := R_g0.out k hk; have := Z_w1.out; have := Z_w2.out; have := ZB_w2.out; have := Z_w3.out; have := Z_w4.out; have := ZB_w4.out; have := Z_w5.out; omega
  replace EV := Lib.hid (bel_only EV.out g1 EV.out.size (fun k hk => (hF_ k hk).1))
  replace X_s0 := Lib.hid (box_off g1 X_s0.out (fun hk => by have := hF_ _ hk; have := Z_w1.out; have := Z_w2.out; have := ZB_w2.out; have := Z_w3.out; have := Z_w4.out; have := ZB_w4.out; have := Z_w5.out; omega))
  replace X_g0 := Lib.hid (box_off g1 X_g0.out (fun hk => by have := hF_ _ hk; have := Z_w1.out; have := Z_w2.out; have := ZB_w2.out; have := Z_w3.out; have := Z_w4.out; have := ZB_w4.out; have := Z_w5.out; omega))
  replace O_s0 := Lib.hid (O_s0.out.off g1 (fun k h1 h2 => by have := hF_ k h2; have := R_s0.out k h1; have := Z_w1.out; have := Z_w2.out; have := ZB_w2.out; have := Z_w3.out; have := Z_w4.out; have := ZB_w4.out; have := Z_w5.out; omega))
  have Z_w6 : Hid (w5.heap.size ≤ w6.heap.size) := Lib.hid g1.size
  clear hF_
  replace O_g0 := Lib.hid o1
  clear o1 g1
  obtain ⟨m1, hm1⟩ : ∃ k : Nat, k = 1 + cntS ys0 := ⟨_, rfl⟩
  rw [← hm1]
  have hmb1 : m1 ≤ 17592186044417 := by have := Small.cnt_le HR0.out; omega
  have HM1 := Lib.hid hm1
  clear hm1
  have Y_g0 : w6.heap[w3.heap.size]? = some (.cells #[.int .i64 pos_o0, .int .i64 cc_o0, .int .i64 ck_o0, .int .i64 cv_o0, .int .i64 cur_o0, .int .i64 want_o0, .int .i64 key_o0, .int .i64 kid_o0, .int .i64 old_o0, .int .i64 next_o0, .int .i64 new_o0, .slice Ag0 ys0.length cg0, .int .i64 thn_o0, .int .i64 beg_o0, .int .i64 rep_o0, .int .i64 out_o0] 31 (0, 0)) := by exact X_g0.out
  go_wp2_with (first | (refine wpList_load_row rfl 31 _ rfl (w3.heap.size) rfl 31 #[.int .i64 pos_o0, .int .i64 cc_o0, .int .i64 ck_o0, .int .i64 cv_o0, .int .i64 cur_o0, .int .i64 want_o0, .int .i64 key_o0, .int .i64 kid_o0, .int .i64 old_o0, .int .i64 next_o0, .int .i64 new_o0, .slice Ag0 ys0.length cg0, .int .i64 thn_o0, .int .i64 beg_o0, .int .i64 rep_o0, .int .i64 out_o0] (0, 0) _ Y_g0 Try.underlying31 rfl hand_size ?_))
  refine (hdH1 pos_o0 cc_o0 ck_o0 cv_o0 cur_o0 want_o0 key_o0 kid_o0 old_o0 next_o0 new_o0 thn_o0 beg_o0 rep_o0 out_o0 ys0 Ag0 ys0.length cg0 1 w6 O_g0.out.rd HR0.out (by omega)).mono ?_
  rintro e w7 ⟨rfl, b1⟩
  rw [← HM1.out]
  clear Y_g0
  replace EV := Lib.hid (bel_on EV.out b1)
  replace X_s0 := Lib.hid (box_on b1 X_s0.out)
  replace X_g0 := Lib.hid (box_on b1 X_g0.out)
  replace O_s0 := Lib.hid (O_s0.out.on b1)
  replace O_g0 := Lib.hid (O_g0.out.on b1)
  have Z_w7 : Hid (w6.heap.size ≤ w7.heap.size) := Lib.hid b1.size
  clear b1
  go_wp2_with fail
  refine (HI.out  _ ).mono ?_
  rintro e w8 ⟨Ah0, ch0, Fh0, rfl, o0, f0, b1⟩
  replace EV := Lib.hid (bel_on EV.out b1)
  replace X_s0 := Lib.hid (box_on b1 X_s0.out)
  replace X_g0 := Lib.hid (box_on b1 X_g0.out)
  replace O_s0 := Lib.hid (O_s0.out.on b1)
  replace O_g0 := Lib.hid (O_g0.out.on b1)
  have Z_w8 : Hid (w7.heap.size ≤ w8.heap.size) := Lib.hid b1.size
  have O_h0 := Lib.hid o0
  have R_h0 := Lib.hid f0
  clear b1 o0 f0
  obtain ⟨w9, hw9⟩ : ∃ w9, w9 = w8.alloc (.cells #[.int .i64 pos_o0, .int .i64 cc_o0, .int .i64 ck_o0, .int .i64 cv_o0, .int .i64 cur_o0, .int .i64 want_o0, .int .i64 key_o0, .int .i64 kid_o0, .int .i64 old_o0, .int .i64 next_o0, .int .i64 new_o0, .slice Ah0 ys0.length ch0, .int .i64 thn_o0, .int .i64 beg_o0, .int .i64 rep_o0, .int .i64 out_o0] 31) := ⟨_, rfl⟩
  have bw9 : Below w8.heap.size w8 w9 := by rw [hw9]; exact (Below.refl _ _).alloc (Nat.le_refl _) _
  have qw9 : w9.heap[w8.heap.size]? = some (.cells #[.int .i64 pos_o0, .int .i64 cc_o0, .int .i64 ck_o0, .int .i64 cv_o0, .int .i64 cur_o0, .int .i64 want_o0, .int .i64 key_o0, .int .i64 kid_o0, .int .i64 old_o0, .int .i64 next_o0, .int .i64 new_o0, .slice Ah0 ys0.length ch0, .int .i64 thn_o0, .int .i64 beg_o0, .int .i64 rep_o0, .int .i64 out_o0] 31 (0, 0)) := by rw [hw9]; exact heap_alloc_new _ _
  have zb_w9 : w8.heap.size + 1 = w9.heap.size := by rw [hw9]; simp
  replace EV := Lib.hid (bel_on EV.out bw9)
  replace X_s0 := Lib.hid (box_on bw9 X_s0.out)
  replace X_g0 := Lib.hid (box_on bw9 X_g0.out)
  replace O_s0 := Lib.hid (O_s0.out.on bw9)
  replace O_g0 := Lib.hid (O_g0.out.on bw9)
  replace O_h0 := Lib.hid (O_h0.out.on bw9)
  have Z_w9 : Hid (w8.heap.size ≤ w9.heap.size) := Lib.hid bw9.size
  have ZB_w9 := Lib.hid zb_w9
  have X_h0 := Lib.hid qw9
  have Hw9 := Lib.hid hw9
  clear hw9 bw9 qw9 zb_w9
  have Y_h0 : (w8.alloc (.cells #[.int .i64 pos_o0, .int .i64 cc_o0, .int .i64 ck_o0, .int .i64 cv_o0, .int .i64 cur_o0, .int .i64 want_o0, .int .i64 key_o0, .int .i64 kid_o0, .int .i64 old_o0, .int .i64 next_o0, .int .i64 new_o0, .slice Ah0 ys0.length ch0, .int .i64 thn_o0, .int .i64 beg_o0, .int .i64 rep_o0, .int .i64 out_o0] 31)).heap[w8.heap.size]? = some (.cells #[.int .i64 pos_o0, .int .i64 cc_o0, .int .i64 ck_o0, .int .i64 cv_o0, .int .i64 cur_o0, .int .i64 want_o0, .int .i64 key_o0, .int .i64 kid_o0, .int .i64 old_o0, .int .i64 next_o0, .int .i64 new_o0, .slice Ah0 ys0.length ch0, .int .i64 thn_o0, .int .i64 beg_o0, .int .i64 rep_o0, .int .i64 out_o0] 31 (0, 0)) := by rw [← Hw9.out]; exact X_h0.out
  have Y_s0 : (w8.alloc (.cells #[.int .i64 pos_o0, .int .i64 cc_o0, .int .i64 ck_o0, .int .i64 cv_o0, .int .i64 cur_o0, .int .i64 want_o0, .int .i64 key_o0, .int .i64 kid_o0, .int .i64 old_o0, .int .i64 next_o0, .int .i64 new_o0, .slice Ah0 ys0.length ch0, .int .i64 thn_o0, .int .i64 beg_o0, .int .i64 rep_o0, .int .i64 out_o0] 31)).heap[w1.heap.size]? = some (.cells #[.int .i64 pos_o0, .int .i64 cc_o0, .int .i64 ck_o0, .int .i64 cv_o0, .int .i64 cur_o0, .int .i64 want_o0, .int .i64 key_o0, .int .i64 kid_o0, .int .i64 old_o0, .int .i64 next_o0, .int .i64 new_o0, .slice As0 ys0.length cs0, .int .i64 thn_o0, .int .i64 beg_o0, .int .i64 rep_o0, .int .i64 out_o0] 31 (0, 0)) := by rw [← Hw9.out]; exact X_s0.out
  go_wp2_with (first | (refine wpList_store_row rfl 31 _ _ rfl (w8.heap.size) #[.int .i64 pos_o0, .int .i64 cc_o0, .int .i64 ck_o0, .int .i64 cv_o0, .int .i64 cur_o0, .int .i64 want_o0, .int .i64 key_o0, .int .i64 kid_o0, .int .i64 old_o0, .int .i64 next_o0, .int .i64 new_o0, .slice Ah0 ys0.length ch0, .int .i64 thn_o0, .int .i64 beg_o0, .int .i64 rep_o0, .int .i64 out_o0] rfl rfl 31 #[Value.int .i64 0, Value.int .i64 0, Value.int .i64 0, Value.int .i64 0, Value.int .i64 0, Value.int .i64 0, Value.int .i64 0, Value.int .i64 0, Value.int .i64 0, Value.int .i64 0, Value.int .i64 0, Value.slice none 0 0, Value.int .i64 0, Value.int .i64 0, Value.int .i64 0, Value.int .i64 0] (heap_alloc_new w8 _) hand_size rfl (hC_one pos_o0 cc_o0 ck_o0 cv_o0 cur_o0 want_o0 key_o0 kid_o0 old_o0 next_o0 new_o0 thn_o0 beg_o0 rep_o0 out_o0 Ah0 ys0.length ch0) ?_; rw [show World.setRow _ _ _ = _ from World.setRow_alloc_new w8 #[Value.int .i64 0, Value.int .i64 0, Value.int .i64 0, Value.int .i64 0, Value.int .i64 0, Value.int .i64 0, Value.int .i64 0, Value.int .i64 0, Value.int .i64 0, Value.int .i64 0, Value.int .i64 0, Value.slice none 0 0, Value.int .i64 0, Value.int .i64 0, Value.int .i64 0, Value.int .i64 0] #[.int .i64 pos_o0, .int .i64 cc_o0, .int .i64 ck_o0, .int .i64 cv_o0, .int .i64 cur_o0, .int .i64 want_o0, .int .i64 key_o0, .int .i64 kid_o0, .int .i64 old_o0, .int .i64 next_o0, .int .i64 new_o0, .slice Ah0 ys0.length ch0, .int .i64 thn_o0, .int .i64 beg_o0, .int .i64 rep_o0, .int .i64 out_o0] 31]) | (refine wpList_load_row rfl 31 _ rfl (w8.heap.size) rfl 31 #[.int .i64 pos_o0, .int .i64 cc_o0, .int .i64 ck_o0, .int .i64 cv_o0, .int .i64 cur_o0, .int .i64 want_o0, .int .i64 key_o0, .int .i64 kid_o0, .int .i64 old_o0, .int .i64 next_o0, .int .i64 new_o0, .slice Ah0 ys0.length ch0, .int .i64 thn_o0, .int .i64 beg_o0, .int .i64 rep_o0, .int .i64 out_o0] (0, 0) _ Y_h0 Try.underlying31 rfl hand_size ?_) | (refine wpList_load_row rfl 31 _ rfl (w1.heap.size) rfl 31 #[.int .i64 pos_o0, .int .i64 cc_o0, .int .i64 ck_o0, .int .i64 cv_o0, .int .i64 cur_o0, .int .i64 want_o0, .int .i64 key_o0, .int .i64 kid_o0, .int .i64 old_o0, .int .i64 next_o0, .int .i64 new_o0, .slice As0 ys0.length cs0, .int .i64 thn_o0, .int .i64 beg_o0, .int .i64 rep_o0, .int .i64 out_o0] (0, 0) _ Y_s0 Try.underlying31 rfl hand_size ?_))
  rw [← Hw9.out]
  refine (eqH1 pos_o0 cc_o0 ck_o0 cv_o0 cur_o0 want_o0 key_o0 kid_o0 old_o0 next_o0 new_o0 thn_o0 beg_o0 rep_o0 out_o0 ys0 Ah0 As0 ys0.length ch0 cs0 _ O_h0.out.rd O_s0.out.rd HR0.out).mono ?_
  rintro e w10 ⟨rfl, b1⟩
  clear Y_h0 Y_s0
  replace EV := Lib.hid (bel_on EV.out b1)
  replace X_s0 := Lib.hid (box_on b1 X_s0.out)
  replace X_g0 := Lib.hid (box_on b1 X_g0.out)
  replace X_h0 := Lib.hid (box_on b1 X_h0.out)
  replace O_s0 := Lib.hid (O_s0.out.on b1)
  replace O_g0 := Lib.hid (O_g0.out.on b1)
  replace O_h0 := Lib.hid (O_h0.out.on b1)
  have Z_w10 : Hid (w9.heap.size ≤ w10.heap.size) := Lib.hid b1.size
  clear b1
  have Y_g0 : w10.heap[w3.heap.size]? = some (.cells #[.int .i64 pos_o0, .int .i64 cc_o0, .int .i64 ck_o0, .int .i64 cv_o0, .int .i64 cur_o0, .int .i64 want_o0, .int .i64 key_o0, .int .i64 kid_o0, .int .i64 old_o0, .int .i64 next_o0, .int .i64 new_o0, .slice Ag0 ys0.length cg0, .int .i64 thn_o0, .int .i64 beg_o0, .int .i64 rep_o0, .int .i64 out_o0] 31 (0, 0)) := by exact X_g0.out
  go_wp2_with (first | (refine wpList_load_row rfl 31 _ rfl (w3.heap.size) rfl 31 #[.int .i64 pos_o0, .int .i64 cc_o0, .int .i64 ck_o0, .int .i64 cv_o0, .int .i64 cur_o0, .int .i64 want_o0, .int .i64 key_o0, .int .i64 kid_o0, .int .i64 old_o0, .int .i64 next_o0, .int .i64 new_o0, .slice Ag0 ys0.length cg0, .int .i64 thn_o0, .int .i64 beg_o0, .int .i64 rep_o0, .int .i64 out_o0] (0, 0) _ Y_g0 Try.underlying31 rfl hand_size ?_))
  refine (hdH1 pos_o0 cc_o0 ck_o0 cv_o0 cur_o0 want_o0 key_o0 kid_o0 old_o0 next_o0 new_o0 thn_o0 beg_o0 rep_o0 out_o0 ys0 Ag0 ys0.length cg0 1 w10 O_g0.out.rd HR0.out (by omega)).mono ?_
  rintro e w11 ⟨rfl, b1⟩
  rw [← HM1.out]
  clear Y_g0
  replace EV := Lib.hid (bel_on EV.out b1)
  replace X_s0 := Lib.hid (box_on b1 X_s0.out)
  replace X_g0 := Lib.hid (box_on b1 X_g0.out)
  replace X_h0 := Lib.hid (box_on b1 X_h0.out)
  replace O_s0 := Lib.hid (O_s0.out.on b1)
  replace O_g0 := Lib.hid (O_g0.out.on b1)
  replace O_h0 := Lib.hid (O_h0.out.on b1)
  have Z_w11 : Hid (w10.heap.size ≤ w11.heap.size) := Lib.hid b1.size
  clear b1
  go_wp2_with fail
  go_ret
  exact ⟨rfl, B0.out.trans (EV.out.mono B0.out.size)⟩
end Go.Proofs.Ytjookicpmjmdhaa
