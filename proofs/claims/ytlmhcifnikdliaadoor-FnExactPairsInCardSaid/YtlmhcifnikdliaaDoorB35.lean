/- The exact laws of chapters 7, walked: they return true, and nothing that was there is turned, if the model and the code answer alike. (Made by genLaw.py.) -/
import Derived.Test.YtlmhcifnikdliaaDoorB34
import Derived.Deep.RegionHeld3
import Derived.Deep.QuietTactic
namespace Go.Proofs.YtlmhcifnikdliaaDoor
open Go.RowKit

set_option maxRecDepth 100000 in
set_option maxHeartbeats 1000000 in
theorem lawPairsIn_walk (r_t : Int) (xs_t : List Nd) (A_t : Option Addr) (n_t c_t : Nat) (ys0 : List Pr) (w : World)
    (h_t : RS w w.heap.size A_t n_t xs_t) (hm_t : n_t ≤ 9223372036854775807) (hp_t : ∀ i, i < n_t → (ndAt xs_t i).ps.length ≤ 9223372036854775807)
    (hS : ∀ (A : Option Addr) (c : Nat) (w : World), Small.sm xs_t → n_t ≤ c → c ≤ 9223372036854775807 → RS w w.heap.size A n_t xs_t → Calls Tryd.prog 11 #[.agg #[.int .i64 r_t, .slice A n_t c]] w fun e w' => ∃ Az0 cz0 Fz0, e = .returned ((.slice Az0 ys0.length cz0)) ∧ OwnS w' (.slice Az0 ys0.length cz0) ys0 Fz0 ∧ Fresh Fz0 w w' ∧ Below w.heap.size w w')
    (GP : World → Prop) (hGP : ∀ w', Below w.heap.size w w' → GP w') (hI : ∀ (A : Option Addr) (c : Nat) (w : World), GP w → Small.sm xs_t → n_t ≤ c → c ≤ 9223372036854775807 → RS w w.heap.size A n_t xs_t → Calls Tryd.prog 12 #[.agg #[.int .i64 r_t, .slice A n_t c]] w fun e w' => ∃ Az0 cz0 Fz0, e = .returned ((.slice Az0 ys0.length cz0)) ∧ OwnS w' (.slice Az0 ys0.length cz0) ys0 Fz0 ∧ Fresh Fz0 w w' ∧ Below w.heap.size w w') (hr0 : Small.sm ys0) :
    Calls Tryd.prog 4 #[.agg #[.int .i64 r_t, .slice A_t n_t c_t]] w fun e w' => e = .returned (.bool true) ∧ Below w.heap.size w w' := by
  have HH_t := Lib.hid h_t
  have HP_t := Lib.hid hp_t
  have HS := Lib.hid hS
  have HI := Lib.hid hI
  have HGP := Lib.hid hGP
  have HR0 := Lib.hid hr0
  clear hS hI hGP h_t hp_t hr0
  obtain ⟨w0, hw0⟩ : ∃ w0, w0 = (w.alloc (.cells #[.int .i64 r_t, .slice A_t n_t c_t] 24)) := ⟨_, rfl⟩
  have B0 : Hid (Below w.heap.size w w0) := Lib.hid (by rw [hw0]; exact (Below.refl _ _).alloc (Nat.le_refl _) _)
  have X_t : Hid (w0.heap[w.heap.size]? = some (.cells #[.int .i64 r_t, .slice A_t n_t c_t] 24 (0, 0))) := Lib.hid (by rw [hw0]; exact heap_alloc_new _ _)
  have Z_0 : Hid (w.heap.size + 1 = w0.heap.size) := Lib.hid (by rw [hw0]; simp)
  have HW := Lib.hid hw0
  clear hw0
  have EV : Hid (Below w0.heap.size w0 w0) := Lib.hid (Below.refl _ _)
  go_enter Tryd.func4, Tryd.ntmps4
  go_wp2_with fail
  rw [← HW.out]
  have sz := szT1 r_t xs_t A_t n_t c_t hm_t HP_t.out w0 (HH_t.out.ev B0.out EV.out)
  rcases left_cases 1048576 (szs xs_t) with ⟨hq, hlt⟩ | ⟨hq, hle⟩
  · rw [hq] at sz
    refine sz.mono ?_
    rintro e w1 ⟨rfl, b1⟩
    have EV2 := Lib.hid (bel_on EV.out b1)
    clear b1 sz hq
    go_wp2_with fail
    go_ret
    exact ⟨rfl, B0.out.trans (EV2.out.mono B0.out.size)⟩
  rw [hq] at sz
  have HSM_t : Hid (Small.sm xs_t) := Lib.hid (by exact sm_of_szs hle)
  obtain ⟨L0, hL0⟩ : ∃ L0 : Nat, L0 = 1048576 - szs xs_t := ⟨_, rfl⟩
  rw [← hL0] at sz
  have hLb0 : L0 ≤ 1048576 := by omega
  refine sz.mono ?_
  rintro e w1 ⟨rfl, b1⟩
  clear sz hq hle hL0
  replace EV := Lib.hid (bel_on EV.out b1)
  replace X_t := Lib.hid (box_on b1 X_t.out)
  have Z_w1 : Hid (w0.heap.size ≤ w1.heap.size) := Lib.hid b1.size
  clear b1
  have d_t_0 : w1.cell? ⟨w.heap.size, 0, none⟩ = some (.int .i64 r_t) := by rw [cell_of_row _ _ 0 _ _ _ X_t.out]; rfl
  have d_t_1 : w1.cell? ⟨w.heap.size, 1, none⟩ = some (.slice A_t n_t c_t) := by rw [cell_of_row _ _ 1 _ _ _ X_t.out]; rfl
  go_wp2_with fail
  refine (toT1 r_t xs_t A_t n_t c_t w1 (HH_t.out.ev B0.out EV.out) HSM_t.out).mono ?_
  rintro e w2 ⟨Aat, cat, Fat, rfl, o1, f1, b1⟩
  clear d_t_0 d_t_1
  replace EV := Lib.hid (bel_on EV.out b1)
  replace X_t := Lib.hid (box_on b1 X_t.out)
  have Z_w2 : Hid (w1.heap.size ≤ w2.heap.size) := Lib.hid b1.size
  have O_at := Lib.hid o1
  have R_at := Lib.hid f1
  clear o1 f1 b1
  go_wp2_with fail
  refine (HS.out Aat cat _ HSM_t.out O_at.out.cap.1 O_at.out.cap.2 O_at.out.rd).mono ?_
  rintro e w3 ⟨As0, cs0, Fs0, rfl, o0, f0, b1⟩
  replace EV := Lib.hid (bel_on EV.out b1)
  replace X_t := Lib.hid (box_on b1 X_t.out)
  replace O_at := Lib.hid (O_at.out.on b1)
  have Z_w3 : Hid (w2.heap.size ≤ w3.heap.size) := Lib.hid b1.size
  have O_s0 := Lib.hid o0
  have R_s0 := Lib.hid f0
  clear b1 o0 f0
  have d_t_0 : w3.cell? ⟨w.heap.size, 0, none⟩ = some (.int .i64 r_t) := by rw [cell_of_row _ _ 0 _ _ _ X_t.out]; rfl
  have d_t_1 : w3.cell? ⟨w.heap.size, 1, none⟩ = some (.slice A_t n_t c_t) := by rw [cell_of_row _ _ 1 _ _ _ X_t.out]; rfl
  go_wp2_with fail
  refine (toT1 r_t xs_t A_t n_t c_t w3 (HH_t.out.ev B0.out EV.out) HSM_t.out).mono ?_
  rintro e w4 ⟨Axt, cxt, Fxt, rfl, o1, f1, b1⟩
  clear d_t_0 d_t_1
  replace EV := Lib.hid (bel_on EV.out b1)
  replace X_t := Lib.hid (box_on b1 X_t.out)
  replace O_s0 := Lib.hid (O_s0.out.on b1)
  have Z_w4 : Hid (w3.heap.size ≤ w4.heap.size) := Lib.hid b1.size
  have O_xt := Lib.hid o1
  have R_xt := Lib.hid f1
  clear o1 f1 b1
  obtain ⟨w5, hw5⟩ : ∃ w5, w5 = w4.alloc (.cells #[.int .i64 r_t, .slice Axt n_t cxt] 29) := ⟨_, rfl⟩
  have bw5 : Below w4.heap.size w4 w5 := by rw [hw5]; exact (Below.refl _ _).alloc (Nat.le_refl _) _
  have qw5 : w5.heap[w4.heap.size]? = some (.cells #[.int .i64 r_t, .slice Axt n_t cxt] 29 (0, 0)) := by rw [hw5]; exact heap_alloc_new _ _
  have zb_w5 : w4.heap.size + 1 = w5.heap.size := by rw [hw5]; simp
  replace EV := Lib.hid (bel_on EV.out bw5)
  replace X_t := Lib.hid (box_on bw5 X_t.out)
  replace O_s0 := Lib.hid (O_s0.out.on bw5)
  replace O_xt := Lib.hid (O_xt.out.on bw5)
  have Z_w5 : Hid (w4.heap.size ≤ w5.heap.size) := Lib.hid bw5.size
  have ZB_w5 := Lib.hid zb_w5
  have X_xt := Lib.hid qw5
  have Hw5 := Lib.hid hw5
  clear hw5 bw5 qw5 zb_w5
  have d_xt_0 : (w4.alloc (.cells #[.int .i64 r_t, .slice Axt n_t cxt] 29)).cell? ⟨w4.heap.size, 0, none⟩ = some (.int .i64 r_t) := by rw [← Hw5.out]; rw [cell_of_row _ _ 0 _ _ _ X_xt.out]; rfl
  have d_xt_1 : (w4.alloc (.cells #[.int .i64 r_t, .slice Axt n_t cxt] 29)).cell? ⟨w4.heap.size, 1, none⟩ = some (.slice Axt n_t cxt) := by rw [← Hw5.out]; rw [cell_of_row _ _ 1 _ _ _ X_xt.out]; rfl
  go_wp2_with fail
  rw [← Hw5.out]
  refine (HI.out Axt cxt _ (HGP.out _ (B0.out.trans (EV.out.mono B0.out.size))) HSM_t.out O_xt.out.cap.1 O_xt.out.cap.2 O_xt.out.rd).mono ?_
  rintro e w6 ⟨Ag0, cg0, Fg0, rfl, o0, f0, b1⟩
  clear d_xt_0 d_xt_1
  replace EV := Lib.hid (bel_on EV.out b1)
  replace X_t := Lib.hid (box_on b1 X_t.out)
  replace X_xt := Lib.hid (box_on b1 X_xt.out)
  replace O_s0 := Lib.hid (O_s0.out.on b1)
  replace O_xt := Lib.hid (O_xt.out.on b1)
  have Z_w6 : Hid (w5.heap.size ≤ w6.heap.size) := Lib.hid b1.size
  have O_g0 := Lib.hid o0
  have R_g0 := Lib.hid f0
  clear b1 o0 f0
  go_wp2_with fail
  refine (eqP1  ys0 Ag0 As0 ys0.length cg0 cs0 _ O_g0.out.rd O_s0.out.rd HR0.out).mono ?_
  rintro e w7 ⟨rfl, b1⟩
  replace EV := Lib.hid (bel_on EV.out b1)
  replace X_t := Lib.hid (box_on b1 X_t.out)
  replace X_xt := Lib.hid (box_on b1 X_xt.out)
  replace O_s0 := Lib.hid (O_s0.out.on b1)
  replace O_xt := Lib.hid (O_xt.out.on b1)
  replace O_g0 := Lib.hid (O_g0.out.on b1)
  have Z_w7 : Hid (w6.heap.size ≤ w7.heap.size) := Lib.hid b1.size
  clear b1
  have d_xt_0 : w7.cell? ⟨w4.heap.size, 0, none⟩ = some (.int .i64 r_t) := by rw [cell_of_row _ _ 0 _ _ _ X_xt.out]; rfl
  have d_xt_1 : w7.cell? ⟨w4.heap.size, 1, none⟩ = some (.slice Axt n_t cxt) := by rw [cell_of_row _ _ 1 _ _ _ X_xt.out]; rfl
  have d_t_0 : w7.cell? ⟨w.heap.size, 0, none⟩ = some (.int .i64 r_t) := by rw [cell_of_row _ _ 0 _ _ _ X_t.out]; rfl
  have d_t_1 : w7.cell? ⟨w.heap.size, 1, none⟩ = some (.slice A_t n_t c_t) := by rw [cell_of_row _ _ 1 _ _ _ X_t.out]; rfl
  have KR : Hid (∀ wx, Below w7.heap.size w7 wx → wx.cell? ⟨w4.heap.size, 0, none⟩ = some (.int .i64 r_t) ∧ wx.cell? ⟨w4.heap.size, 1, none⟩ = some (.slice Axt n_t cxt) ∧ wx.cell? ⟨w.heap.size, 0, none⟩ = some (.int .i64 r_t) ∧ wx.cell? ⟨w.heap.size, 1, none⟩ = some (.slice A_t n_t c_t)) := Lib.hid (fun wx hb => ⟨by rw [cell_of_row _ _ 0 _ _ _ (box_on hb X_xt.out)]; rfl, by rw [cell_of_row _ _ 1 _ _ _ (box_on hb X_xt.out)]; rfl, by rw [cell_of_row _ _ 0 _ _ _ (box_on hb X_t.out)]; rfl, by rw [cell_of_row _ _ 1 _ _ _ (box_on hb X_t.out)]; rfl⟩)
  have HN := Lib.hid (HH_t.out.ev B0.out EV.out)
  go_wp2_with fail
  go_region_held3 (fun w' => w'.cell? ⟨w4.heap.size, 0, none⟩ = some (.int .i64 r_t) ∧ w'.cell? ⟨w4.heap.size, 1, none⟩ = some (.slice Axt n_t cxt) ∧ w'.cell? ⟨w.heap.size, 0, none⟩ = some (.int .i64 r_t) ∧ w'.cell? ⟨w.heap.size, 1, none⟩ = some (.slice A_t n_t c_t))
    (first | exact KR.out _ (Below.refl _ _) | exact KR.out _ (Below.refl _ _).drew | exact KR.out _ (bel_on (bel_drew bR1) bR2) | exact KR.out _ (bel_drew bR1))
    (first
      | (go_at_call 8; refine (toT1 r_t xs_t A_t n_t c_t _ (HN.out.on (Below.refl _ _).drew) HSM_t.out).mono ?_; rintro e wR1 ⟨AR, cR, FR, rfl, oR, fR, bR1⟩)
      | (go_at_call 10; refine (eqT1 r_t xs_t Axt AR n_t cxt cR _ ((O_xt.out.on (bel_drew bR1)).rd) oR.rd HSM_t.out).mono ?_; rintro e wR2 ⟨rfl, bR2⟩))
  obtain ⟨w8, hw8⟩ : ∃ w8, w8 = wR2 := ⟨_, rfl⟩
  rw [← hw8] at bR2 ⊢
  have bb := bel_on (bel_drew bR1) bR2
  clear hw8 oR fR bR1 bR2 KR HN d_xt_0 d_xt_1 d_t_0 d_t_1
  replace EV := Lib.hid (bel_on EV.out bb)
  replace X_t := Lib.hid (box_on bb X_t.out)
  replace X_xt := Lib.hid (box_on bb X_xt.out)
  replace O_s0 := Lib.hid (O_s0.out.on bb)
  replace O_xt := Lib.hid (O_xt.out.on bb)
  replace O_g0 := Lib.hid (O_g0.out.on bb)
  have Z_w8 : Hid (w7.heap.size ≤ w8.heap.size) := Lib.hid bb.size
  clear bb
  have d_xt_0 : w8.cell? ⟨w4.heap.size, 0, none⟩ = some (.int .i64 r_t) := by rw [cell_of_row _ _ 0 _ _ _ X_xt.out]; rfl
  have d_xt_1 : w8.cell? ⟨w4.heap.size, 1, none⟩ = some (.slice Axt n_t cxt) := by rw [cell_of_row _ _ 1 _ _ _ X_xt.out]; rfl
  go_wp2_with fail
  refine (mkT1 r_t xs_t Axt n_t cxt 1 Fxt w8 O_xt.out O_xt.out.len HSM_t.out (by omega)).mono ?_
  rintro e w9 ⟨rfl, o1, g1⟩
  clear d_xt_0 d_xt_1
  have hF_ : ∀ k, Fxt k → w0.heap.size ≤ k ∧ w3.heap.size ≤ k ∧ k < w4.heap.size := fun k hk => by have := R_xt.out k hk; have := Z_0.out; have := Z_w1.out; have := Z_w2.out; have := Z_w3.out; have := Z_w4.out; have := Z_w5.out; have := ZB_w5.out; have := Z_w6.out; have := Z_w7.out; have := Z_w8.out; omega
  replace EV := Lib.hid (bel_only EV.out g1 EV.out.size (fun k hk => (hF_ k hk).1))
  replace X_t := Lib.hid (box_off g1 X_t.out (fun hk => by have := hF_ _ hk; have := Z_0.out; have := Z_w1.out; have := Z_w2.out; have := Z_w3.out; have := Z_w4.out; have := Z_w5.out; have := ZB_w5.out; have := Z_w6.out; have := Z_w7.out; have := Z_w8.out; omega))
  replace X_xt := Lib.hid (box_off g1 X_xt.out (fun hk => by have := hF_ _ hk; have := Z_0.out; have := Z_w1.out; have := Z_w2.out; have := Z_w3.out; have := Z_w4.out; have := Z_w5.out; have := ZB_w5.out; have := Z_w6.out; have := Z_w7.out; have := Z_w8.out; omega))
  replace O_s0 := Lib.hid (O_s0.out.off g1 (fun k h1 h2 => by have := hF_ k h2; have := R_s0.out k h1; have := Z_0.out; have := Z_w1.out; have := Z_w2.out; have := Z_w3.out; have := Z_w4.out; have := Z_w5.out; have := ZB_w5.out; have := Z_w6.out; have := Z_w7.out; have := Z_w8.out; omega))
  replace O_g0 := Lib.hid (O_g0.out.off g1 (fun k h1 h2 => by have := hF_ k h2; have := R_g0.out k h1; have := Z_0.out; have := Z_w1.out; have := Z_w2.out; have := Z_w3.out; have := Z_w4.out; have := Z_w5.out; have := ZB_w5.out; have := Z_w6.out; have := Z_w7.out; have := Z_w8.out; omega))
  have Z_w9 : Hid (w8.heap.size ≤ w9.heap.size) := Lib.hid g1.size
  clear hF_
  clear O_xt
  clear o1 g1
  obtain ⟨k1, hk1⟩ : ∃ k : Nat, k = 1 + cntS xs_t := ⟨_, rfl⟩
  rw [← hk1]
  have hkb1 : k1 ≤ 17592186044417 := by have := Small.cnt_le HSM_t.out; omega
  clear hk1
  go_wp2_with fail
  refine (eqP1  ys0 Ag0 As0 ys0.length cg0 cs0 _ O_g0.out.rd O_s0.out.rd HR0.out).mono ?_
  rintro e w10 ⟨rfl, b1⟩
  replace EV := Lib.hid (bel_on EV.out b1)
  replace X_t := Lib.hid (box_on b1 X_t.out)
  replace X_xt := Lib.hid (box_on b1 X_xt.out)
  replace O_s0 := Lib.hid (O_s0.out.on b1)
  replace O_g0 := Lib.hid (O_g0.out.on b1)
  have Z_w10 : Hid (w9.heap.size ≤ w10.heap.size) := Lib.hid b1.size
  clear b1
  go_wp2_with fail
  refine (mkP1  ys0 Ag0 ys0.length cg0 1 Fg0 w10 O_g0.out O_g0.out.len HR0.out (by omega)).mono ?_
  rintro e w11 ⟨rfl, o1, g1⟩
  have hF_ : ∀ k, Fg0 k → w0.heap.size ≤ k ∧ w5.heap.size ≤ k ∧ k < w6.heap.size := fun k hk => by have := R_g0.out k hk; have := Z_0.out; have := Z_w1.out; have := Z_w2.out; have := Z_w3.out; have := Z_w4.out; have := Z_w5.out; have := ZB_w5.out; have := Z_w6.out; have := Z_w7.out; have := Z_w8.out; have := Z_w9.out; have := Z_w10.out; omega
  replace EV := Lib.hid (bel_only EV.out g1 EV.out.size (fun k hk => (hF_ k hk).1))
  replace X_t := Lib.hid (box_off g1 X_t.out (fun hk => by have := hF_ _ hk; have := Z_0.out; have := Z_w1.out; have := Z_w2.out; have := Z_w3.out; have := Z_w4.out; have := Z_w5.out; have := ZB_w5.out; have := Z_w6.out; have := Z_w7.out; have := Z_w8.out; have := Z_w9.out; have := Z_w10.out; omega))
  replace X_xt := Lib.hid (box_off g1 X_xt.out (fun hk => by have := hF_ _ hk; have := Z_0.out; have := Z_w1.out; have := Z_w2.out; have := Z_w3.out; have := Z_w4.out; have := Z_w5.out; have := ZB_w5.out; have := Z_w6.out; have := Z_w7.out; have := Z_w8.out; have := Z_w9.out; have := Z_w10.out; omega))
  replace O_s0 := Lib.hid (O_s0.out.off g1 (fun k h1 h2 => by have := hF_ k h2; have := R_s0.out k h1; have := Z_0.out; have := Z_w1.out; have := Z_w2.out; have := Z_w3.out; have := Z_w4.out; have := Z_w5.out; have := ZB_w5.out; have := Z_w6.out; have := Z_w7.out; have := Z_w8.out; have := Z_w9.out; have := Z_w10.out; omega))
  have Z_w11 : Hid (w10.heap.size ≤ w11.heap.size) := Lib.hid g1.size
  clear hF_
  replace O_g0 := Lib.hid o1
  clear o1 g1
  obtain ⟨m1, hm1⟩ : ∃ k : Nat, k = 1 + cntS ys0 := ⟨_, rfl⟩
  rw [← hm1]
  have hmb1 : m1 ≤ 17592186044417 := by have := Small.cnt_le HR0.out; omega
  have HM1 := Lib.hid hm1
  clear hm1
  go_wp2_with fail
  refine (hdP1  ys0 Ag0 ys0.length cg0 1 w11 O_g0.out.rd HR0.out (by omega)).mono ?_
  rintro e w12 ⟨rfl, b1⟩
  rw [← HM1.out]
  replace EV := Lib.hid (bel_on EV.out b1)
  replace X_t := Lib.hid (box_on b1 X_t.out)
  replace X_xt := Lib.hid (box_on b1 X_xt.out)
  replace O_s0 := Lib.hid (O_s0.out.on b1)
  replace O_g0 := Lib.hid (O_g0.out.on b1)
  have Z_w12 : Hid (w11.heap.size ≤ w12.heap.size) := Lib.hid b1.size
  clear b1
  have d_t_0 : w12.cell? ⟨w.heap.size, 0, none⟩ = some (.int .i64 r_t) := by rw [cell_of_row _ _ 0 _ _ _ X_t.out]; rfl
  have d_t_1 : w12.cell? ⟨w.heap.size, 1, none⟩ = some (.slice A_t n_t c_t) := by rw [cell_of_row _ _ 1 _ _ _ X_t.out]; rfl
  go_wp2_with fail
  refine (toT1 r_t xs_t A_t n_t c_t w12 (HH_t.out.ev B0.out EV.out) HSM_t.out).mono ?_
  rintro e w13 ⟨Abt, cbt, Fbt, rfl, o1, f1, b1⟩
  clear d_t_0 d_t_1
  replace EV := Lib.hid (bel_on EV.out b1)
  replace X_t := Lib.hid (box_on b1 X_t.out)
  replace X_xt := Lib.hid (box_on b1 X_xt.out)
  replace O_s0 := Lib.hid (O_s0.out.on b1)
  replace O_g0 := Lib.hid (O_g0.out.on b1)
  have Z_w13 : Hid (w12.heap.size ≤ w13.heap.size) := Lib.hid b1.size
  have O_bt := Lib.hid o1
  have R_bt := Lib.hid f1
  clear o1 f1 b1
  go_wp2_with fail
  refine (HI.out Abt cbt _ (HGP.out _ (B0.out.trans (EV.out.mono B0.out.size))) HSM_t.out O_bt.out.cap.1 O_bt.out.cap.2 O_bt.out.rd).mono ?_
  rintro e w14 ⟨Ah0, ch0, Fh0, rfl, o0, f0, b1⟩
  replace EV := Lib.hid (bel_on EV.out b1)
  replace X_t := Lib.hid (box_on b1 X_t.out)
  replace X_xt := Lib.hid (box_on b1 X_xt.out)
  replace O_s0 := Lib.hid (O_s0.out.on b1)
  replace O_g0 := Lib.hid (O_g0.out.on b1)
  replace O_bt := Lib.hid (O_bt.out.on b1)
  have Z_w14 : Hid (w13.heap.size ≤ w14.heap.size) := Lib.hid b1.size
  have O_h0 := Lib.hid o0
  have R_h0 := Lib.hid f0
  clear b1 o0 f0
  go_wp2_with fail
  refine (eqP1  ys0 Ah0 As0 ys0.length ch0 cs0 _ O_h0.out.rd O_s0.out.rd HR0.out).mono ?_
  rintro e w15 ⟨rfl, b1⟩
  replace EV := Lib.hid (bel_on EV.out b1)
  replace X_t := Lib.hid (box_on b1 X_t.out)
  replace X_xt := Lib.hid (box_on b1 X_xt.out)
  replace O_s0 := Lib.hid (O_s0.out.on b1)
  replace O_g0 := Lib.hid (O_g0.out.on b1)
  replace O_h0 := Lib.hid (O_h0.out.on b1)
  have Z_w15 : Hid (w14.heap.size ≤ w15.heap.size) := Lib.hid b1.size
  clear b1
  go_wp2_with fail
  refine (hdP1  ys0 Ag0 ys0.length cg0 1 w15 O_g0.out.rd HR0.out (by omega)).mono ?_
  rintro e w16 ⟨rfl, b1⟩
  rw [← HM1.out]
  replace EV := Lib.hid (bel_on EV.out b1)
  replace X_t := Lib.hid (box_on b1 X_t.out)
  replace X_xt := Lib.hid (box_on b1 X_xt.out)
  replace O_s0 := Lib.hid (O_s0.out.on b1)
  replace O_g0 := Lib.hid (O_g0.out.on b1)
  replace O_h0 := Lib.hid (O_h0.out.on b1)
  have Z_w16 : Hid (w15.heap.size ≤ w16.heap.size) := Lib.hid b1.size
  clear b1
  go_wp2_with fail
  go_ret
  exact ⟨rfl, B0.out.trans (EV.out.mono B0.out.size)⟩

end Go.Proofs.YtlmhcifnikdliaaDoor
