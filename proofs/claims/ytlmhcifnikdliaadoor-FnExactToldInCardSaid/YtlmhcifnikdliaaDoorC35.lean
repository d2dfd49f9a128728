/- The exact laws of chapters 7, walked: they return true, and nothing that was there is turned, if the model and the code answer alike. (Made by genLaw.py.) -/
import Derived.Test.YtlmhcifnikdliaaDoorC09
import Derived.Deep.RegionHeld3
import Derived.Deep.QuietTactic
namespace Go.Proofs.YtlmhcifnikdliaaDoor
open Go.RowKit

set_option maxRecDepth 100000 in
set_option maxHeartbeats 1000000 in
theorem lawToldIn_walk (r_t : Int) (xs_t : List Nd) (A_t : Option Addr) (n_t c_t : Nat) (bo0 : Bool) (w : World)
    (h_t : RS w w.heap.size A_t n_t xs_t) (hm_t : n_t ≤ 9223372036854775807) (hp_t : ∀ i, i < n_t → (ndAt xs_t i).ps.length ≤ 9223372036854775807)
    (hS : ∀ (A : Option Addr) (c : Nat) (w : World), Small.sm xs_t → n_t ≤ c → c ≤ 9223372036854775807 → RS w w.heap.size A n_t xs_t → Calls Tryd.prog 17 #[.agg #[.int .i64 r_t, .slice A n_t c]] w fun e w' => e = .returned (.bool bo0) ∧ Below w.heap.size w w')
    (GP : World → Prop) (hGP : ∀ w', Below w.heap.size w w' → GP w') (hI : ∀ (A : Option Addr) (c : Nat) (w : World), GP w → Small.sm xs_t → n_t ≤ c → c ≤ 9223372036854775807 → RS w w.heap.size A n_t xs_t → Calls Tryd.prog 18 #[.agg #[.int .i64 r_t, .slice A n_t c]] w fun e w' => e = .returned (.bool bo0) ∧ Below w.heap.size w w') :
    Calls Tryd.prog 5 #[.agg #[.int .i64 r_t, .slice A_t n_t c_t]] w fun e w' => e = .returned (.bool true) ∧ Below w.heap.size w w' := by
  have HH_t := Lib.hid h_t
  have HP_t := Lib.hid hp_t
  have HS := Lib.hid hS
  have HI := Lib.hid hI
  have HGP := Lib.hid hGP
  clear hS hI hGP h_t hp_t
  obtain ⟨w0, hw0⟩ : ∃ w0, w0 = (w.alloc (.cells #[.int .i64 r_t, .slice A_t n_t c_t] 24)) := ⟨_, rfl⟩
  have B0 : Hid (Below w.heap.size w w0) := Lib.hid (by rw [hw0]; exact (Below.refl _ _).alloc (Nat.le_refl _) _)
  have X_t : Hid (w0.heap[w.heap.size]? = some (.cells #[.int .i64 r_t, .slice A_t n_t c_t] 24 (0, 0))) := Lib.hid (by rw [hw0]; exact heap_alloc_new _ _)
  have Z_0 : Hid (w.heap.size + 1 = w0.heap.size) := Lib.hid (by rw [hw0]; simp)
  have HW := Lib.hid hw0
  clear hw0
  have EV : Hid (Below w0.heap.size w0 w0) := Lib.hid (Below.refl _ _)
  go_enter Tryd.func5, Tryd.ntmps5
  go_wp2_with fail
  rw [← HW.out]
  have sz := szT1 r_t xs_t A_t n_t c_t hm_t HP_t.out w0 (HH_t.out.ev B0.out EV.out)
  rcases left_cases 1048576 (szs xs_t) with ⟨hq, hlt⟩ | ⟨hq, hle⟩
  · rw [hq] at sz
    refine sz.mono ?_
    rintro e w1 ⟨rfl, b1⟩
    have EV2 := Lib.hid (bel_on EV.out b1)
    clear b1 sz hq
    go_wp2_with fail
    go_ret
    exact ⟨rfl, B0.out.trans (EV2.out.mono B0.out.size)⟩
  rw [hq] at sz
  have HSM_t : Hid (Small.sm xs_t) := Lib.hid (by exact sm_of_szs hle)
  obtain ⟨L0, hL0⟩ : ∃ L0 : Nat, L0 = 1048576 - szs xs_t := ⟨_, rfl⟩
  rw [← hL0] at sz
  have hLb0 : L0 ≤ 1048576 := by omega
  refine sz.mono ?_
  rintro e w1 ⟨rfl, b1⟩
  clear sz hq hle hL0
  replace EV := Lib.hid (bel_on EV.out b1)
  replace X_t := Lib.hid (box_on b1 X_t.out)
  have Z_w1 : Hid (w0.heap.size ≤ w1.heap.size) := Lib.hid b1.size
  clear b1
  have d_t_0 : w1.cell? ⟨w.heap.size, 0, none⟩ = some (.int .i64 r_t) := by rw [cell_of_row _ _ 0 _ _ _ X_t.out]; rfl
  have d_t_1 : w1.cell? ⟨w.heap.size, 1, none⟩ = some (.slice A_t n_t c_t) := by rw [cell_of_row _ _ 1 _ _ _ X_t.out]; rfl
  go_wp2_with fail
  refine (toT1 r_t xs_t A_t n_t c_t w1 (HH_t.out.ev B0.out EV.out) HSM_t.out).mono ?_
  rintro e w2 ⟨Aat, cat, Fat, rfl, o1, f1, b1⟩
  clear d_t_0 d_t_1
  replace EV := Lib.hid (bel_on EV.out b1)
  replace X_t := Lib.hid (box_on b1 X_t.out)
  have Z_w2 : Hid (w1.heap.size ≤ w2.heap.size) := Lib.hid b1.size
  have O_at := Lib.hid o1
  have R_at := Lib.hid f1
  clear o1 f1 b1
  go_wp2_with fail
  refine (HS.out Aat cat _ HSM_t.out O_at.out.cap.1 O_at.out.cap.2 O_at.out.rd).mono ?_
  rintro e w3 ⟨rfl, b1⟩
  replace EV := Lib.hid (bel_on EV.out b1)
  replace X_t := Lib.hid (box_on b1 X_t.out)
  replace O_at := Lib.hid (O_at.out.on b1)
  have Z_w3 : Hid (w2.heap.size ≤ w3.heap.size) := Lib.hid b1.size
  clear b1
  have d_t_0 : w3.cell? ⟨w.heap.size, 0, none⟩ = some (.int .i64 r_t) := by rw [cell_of_row _ _ 0 _ _ _ X_t.out]; rfl
  have d_t_1 : w3.cell? ⟨w.heap.size, 1, none⟩ = some (.slice A_t n_t c_t) := by rw [cell_of_row _ _ 1 _ _ _ X_t.out]; rfl
  go_wp2_with fail
  refine (toT1 r_t xs_t A_t n_t c_t w3 (HH_t.out.ev B0.out EV.out) HSM_t.out).mono ?_
  rintro e w4 ⟨Axt, cxt, Fxt, rfl, o1, f1, b1⟩
  clear d_t_0 d_t_1
  replace EV := Lib.hid (bel_on EV.out b1)
  replace X_t := Lib.hid (box_on b1 X_t.out)
  have Z_w4 : Hid (w3.heap.size ≤ w4.heap.size) := Lib.hid b1.size
  have O_xt := Lib.hid o1
  have R_xt := Lib.hid f1
  clear o1 f1 b1
  obtain ⟨w5, hw5⟩ : ∃ w5, w5 = w4.alloc (.cells #[.int .i64 r_t, .slice Axt n_t cxt] 29) := ⟨_, rfl⟩
  have bw5 : Below w4.heap.size w4 w5 := by rw [hw5]; exact (Below.refl _ _).alloc (Nat.le_refl _) _
  have qw5 : w5.heap[w4.heap.size]? = some (.cells #[.int .i64 r_t, .slice Axt n_t cxt] 29 (0, 0)) := by rw [hw5]; exact heap_alloc_new _ _
  have zb_w5 : w4.heap.size + 1 = w5.heap.size := by rw [hw5]; simp
  replace EV := Lib.hid (bel_on EV.out bw5)
  replace X_t := Lib.hid (box_on bw5 X_t.out)
  replace O_xt := Lib.hid (O_xt.out.on bw5)
  have Z_w5 : Hid (w4.heap.size ≤ w5.heap.size) := Lib.hid bw5.size
  have ZB_w5 := Lib.hid zb_w5
  have X_xt := Lib.hid qw5
  have Hw5 := Lib.hid hw5
  clear hw5 bw5 qw5 zb_w5
  have d_xt_0 : (w4.alloc (.cells #[.int .i64 r_t, .slice Axt n_t cxt] 29)).cell? ⟨w4.heap.size, 0, none⟩ = some (.int .i64 r_t) := by rw [← Hw5.out]; rw [cell_of_row _ _ 0 _ _ _ X_xt.out]; rfl
  have d_xt_1 : (w4.alloc (.cells #[.int .i64 r_t, .slice Axt n_t cxt] 29)).cell? ⟨w4.heap.size, 1, none⟩ = some (.slice Axt n_t cxt) := by rw [← Hw5.out]; rw [cell_of_row _ _ 1 _ _ _ X_xt.out]; rfl
  go_wp2_with fail
  rw [← Hw5.out]
  refine (HI.out Axt cxt _ (HGP.out _ (B0.out.trans (EV.out.mono B0.out.size))) HSM_t.out O_xt.out.cap.1 O_xt.out.cap.2 O_xt.out.rd).mono ?_
  rintro e w6 ⟨rfl, b1⟩
  clear d_xt_0 d_xt_1
  replace EV := Lib.hid (bel_on EV.out b1)
  replace X_t := Lib.hid (box_on b1 X_t.out)
  replace X_xt := Lib.hid (box_on b1 X_xt.out)
  replace O_xt := Lib.hid (O_xt.out.on b1)
  have Z_w6 : Hid (w5.heap.size ≤ w6.heap.size) := Lib.hid b1.size
  clear b1
  have d_xt_0 : w6.cell? ⟨w4.heap.size, 0, none⟩ = some (.int .i64 r_t) := by rw [cell_of_row _ _ 0 _ _ _ X_xt.out]; rfl
  have d_xt_1 : w6.cell? ⟨w4.heap.size, 1, none⟩ = some (.slice Axt n_t cxt) := by rw [cell_of_row _ _ 1 _ _ _ X_xt.out]; rfl
  have d_t_0 : w6.cell? ⟨w.heap.size, 0, none⟩ = some (.int .i64 r_t) := by rw [cell_of_row _ _ 0 _ _ _ X_t.out]; rfl
  have d_t_1 : w6.cell? ⟨w.heap.size, 1, none⟩ = some (.slice A_t n_t c_t) := by rw [cell_of_row _ _ 1 _ _ _ X_t.out]; rfl
  have KR : Hid (∀ wx, Below w6.heap.size w6 wx → wx.cell? ⟨w4.heap.size, 0, none⟩ = some (.int .i64 r_t) ∧ wx.cell? ⟨w4.heap.size, 1, none⟩ = some (.slice Axt n_t cxt) ∧ wx.cell? ⟨w.heap.size, 0, none⟩ = some (.int .i64 r_t) ∧ wx.cell? ⟨w.heap.size, 1, none⟩ = some (.slice A_t n_t c_t)) := Lib.hid (fun wx hb => ⟨by rw [cell_of_row _ _ 0 _ _ _ (box_on hb X_xt.out)]; rfl, by rw [cell_of_row _ _ 1 _ _ _ (box_on hb X_xt.out)]; rfl, by rw [cell_of_row _ _ 0 _ _ _ (box_on hb X_t.out)]; rfl, by rw [cell_of_row _ _ 1 _ _ _ (box_on hb X_t.out)]; rfl⟩)
  have HN := Lib.hid (HH_t.out.ev B0.out EV.out)
  go_wp2_with fail
  go_region_held3 (fun w' => w'.cell? ⟨w4.heap.size, 0, none⟩ = some (.int .i64 r_t) ∧ w'.cell? ⟨w4.heap.size, 1, none⟩ = some (.slice Axt n_t cxt) ∧ w'.cell? ⟨w.heap.size, 0, none⟩ = some (.int .i64 r_t) ∧ w'.cell? ⟨w.heap.size, 1, none⟩ = some (.slice A_t n_t c_t))
    (first | exact KR.out _ (Below.refl _ _) | exact KR.out _ (Below.refl _ _).drew | exact KR.out _ (bel_on (bel_drew bR1) bR2) | exact KR.out _ (bel_drew bR1))
    (first
      | (go_at_call 8; refine (toT1 r_t xs_t A_t n_t c_t _ (HN.out.on (Below.refl _ _).drew) HSM_t.out).mono ?_; rintro e wR1 ⟨AR, cR, FR, rfl, oR, fR, bR1⟩)
      | (go_at_call 10; refine (eqT1 r_t xs_t Axt AR n_t cxt cR _ ((O_xt.out.on (bel_drew bR1)).rd) oR.rd HSM_t.out).mono ?_; rintro e wR2 ⟨rfl, bR2⟩))
  obtain ⟨w7, hw7⟩ : ∃ w7, w7 = wR2 := ⟨_, rfl⟩
  rw [← hw7] at bR2 ⊢
  have bb := bel_on (bel_drew bR1) bR2
  clear hw7 oR fR bR1 bR2 KR HN d_xt_0 d_xt_1 d_t_0 d_t_1
  replace EV := Lib.hid (bel_on EV.out bb)
  replace X_t := Lib.hid (box_on bb X_t.out)
  replace X_xt := Lib.hid (box_on bb X_xt.out)
  replace O_xt := Lib.hid (O_xt.out.on bb)
  have Z_w7 : Hid (w6.heap.size ≤ w7.heap.size) := Lib.hid bb.size
  clear bb
  go_wp2_with fail
  go_ret
  exact ⟨rfl, B0.out.trans (EV.out.mono B0.out.size)⟩
end Go.Proofs.YtlmhcifnikdliaaDoor
