/- The law FnPairs, walked: it returns true, and nothing that was there is turned. -/
import Derived.Test.YtjlbnbmniejidaaL5
namespace Go.Proofs.Ytjlbnbmniejidaa
open Go.RowKit

set_option maxRecDepth 100000 in
set_option maxHeartbeats 4000000 in
theorem lawPairs_walk (A : Option Addr) (n c : Nat) (w : World) (h : Bys w w.heap.size A n) (hm : n ≤ 9223372036854775807) :
    Calls Try.prog 3 #[.slice A n c] w fun e w' => e = .returned (.bool true) ∧ Below w.heap.size w w' := by
  have HH := Lib.hid h
  clear h
  by_cases hn : 4096 < n
  · have hd : ∀ w, Calls Try.prog 12 #[.slice A n c] w fun e w' => e = .returned (.bool true) ∧ w = w' := fun w => by
      have := big_any A n c w hm; rwa [decide_eq_true hn] at this
    go_enter Try.func3, Try.ntmps3
    go_wp2_with (go_at_call 12; refine (hd _).mono ?_; rintro e w1 ⟨rfl, rfl⟩)
    go_ret
    exact ⟨rfl, Below.refl _ _⟩
  have hd : ∀ w, Calls Try.prog 12 #[.slice A n c] w fun e w' => e = .returned (.bool false) ∧ w = w' := fun w => by
    have := big_any A n c w hm; rwa [decide_eq_false hn] at this
  have hn : n ≤ 4096 := by omega
  have HD := Lib.hid hd
  clear hd
  have HB : Hid (∀ wx, Below w.heap.size w wx → Bys wx wx.heap.size A n) := Lib.hid (fun wx hb h0 => by
    obtain ⟨b, off, e, hbl, hc⟩ := HH.out h0
    refine ⟨b, off, e, Nat.lt_of_lt_of_le hbl hb.size, fun i hi => ?_⟩
    obtain ⟨x, hx, h1, h2⟩ := hc i hi
    exact ⟨x, (hb.cell hbl).trans hx, h1, h2⟩)
  go_enter Try.func3, Try.ntmps3
  go_wp2_with (go_at_call 12; refine (HD.out _).mono ?_; rintro e w1 ⟨rfl, rfl⟩)
  -- l, p
  refine (dPut_any A n c _ HH.out hn).mono ?_
  rintro e w0 ⟨AL, cL, zs, k, v, rfl, oL, hz, b0⟩
  have hpb := put_back zs k v
  have hx40 := putL_le zs k v
  have spC : ∀ (A : Option Addr) (c : Nat) (w : World), RP w w.heap.size A zs.length zs → zs.length ≤ c → c ≤ 9223372036854775807 → Calls Try.prog 15 #[.slice A zs.length c, .agg #[.int .i64 k, .int .i64 v]] w (Gives2 w (putL zs k v) (putB zs k v)) := fun A c w hR h1 h2 => spPut_any A _ c zs k v w hR (by omega) h1 h2
  have imC : ∀ (A : Option Addr) (c : Nat) (w : World), RP w w.heap.size A zs.length zs → zs.length ≤ c → c ≤ 9223372036854775807 → Calls Try.prog 14 #[.slice A zs.length c, .agg #[.int .i64 k, .int .i64 v]] w (Gives2 w (putL zs k v) (putB zs k v)) := fun A c w hR h1 h2 => iPut_any A _ c zs k v w hR (by omega) h1 h2
  generalize putL zs k v = X at *
  generalize putB zs k v = Bo at *
  have PB := Lib.hid hpb
  have SPC := Lib.hid spC
  have IMC := Lib.hid imC
  have capL := own_cap oL
  clear hpb spC imC
  have hx63 : X.length ≤ 1048576 := by omega
  have hz63 : zs.length ≤ 1048576 := by omega
  obtain ⟨capL1, capL2⟩ := capL
  generalize hll : zs.length = ll at *
  have HLL := Lib.hid hll
  have L_0 := Lib.hid oL
  have B_0 := Lib.hid b0
  clear hll oL b0
  go_wp2_with fail
  obtain ⟨wp, hwp⟩ : ∃ wp, wp = w0.alloc (.cells #[.int .i64 k, .int .i64 v] 26) := ⟨_, rfl⟩
  have bp : Below w0.heap.size w0 wp := by rw [hwp]; exact (Below.refl _ _).alloc (Nat.le_refl _) _
  have pd : wp.cell? ⟨w0.heap.size, 0, none⟩ = some (.int .i64 k) := by rw [hwp]; simp
  have pe : wp.cell? ⟨w0.heap.size, 1, none⟩ = some (.int .i64 v) := by rw [hwp]; simp
  have ps : w0.heap.size < wp.heap.size := by rw [hwp]; simp
  rw [← hwp]
  clear hwp
  have Q_0 : Hid (Below wp.heap.size wp wp) := Lib.hid (Below.refl _ _)
  have L_1 := Lib.hid (own_on L_0.out bp)
  have B_1 := Lib.hid (bel_on B_0.out bp)
  clear bp L_0 B_0 
  have PD := Lib.hid pd
  have PE := Lib.hid pe
  have pd1 := (Q_0.out.cell (p := ⟨w0.heap.size, 0, none⟩) ps).trans pd
  have pe1 := (Q_0.out.cell (p := ⟨w0.heap.size, 1, none⟩) ps).trans pe
  go_wp2_with fail
  refine (IMC.out _ _ _ (RP.own L_1.out) capL1 capL2).mono ?_
  intro e w1 hG1
  obtain ⟨AX, cX, rfl, o1, b1⟩ := form2 hG1
  have L_2 := Lib.hid (own_on L_1.out b1)
  have B_2 := Lib.hid (bel_on B_1.out b1)
  have Q_2 := Lib.hid (bel_on Q_0.out b1)
  clear b1 L_1 B_1 Q_0 hG1 pd1 pe1
  have X_2 := Lib.hid o1
  clear o1
  have pd2 := (Q_2.out.cell (p := ⟨w0.heap.size, 0, none⟩) ps).trans pd
  have pe2 := (Q_2.out.cell (p := ⟨w0.heap.size, 1, none⟩) ps).trans pe
  go_wp2_with fail
  refine (SPC.out _ _ _ (RP.own L_2.out) capL1 capL2).mono ?_
  intro e w2 hG2
  obtain ⟨AY, cY, rfl, o2, b2⟩ := form2 hG2
  have L_3 := Lib.hid (own_on L_2.out b2)
  have B_3 := Lib.hid (bel_on B_2.out b2)
  have Q_3 := Lib.hid (bel_on Q_2.out b2)
  have X_3 := Lib.hid (own_on X_2.out b2)
  clear b2 L_2 B_2 Q_2 X_2 hG2 pd2 pe2
  have Y_3 := Lib.hid o2
  clear o2
  go_wp2_with fail
  refine (dCut_any A n c _ (HB.out _ B_3.out) hn).mono ?_
  rintro e w3 ⟨AM, cM, ms, key, rfl, oM, hms, b3⟩
  have csC : ∀ (A : Option Addr) (c : Nat) (w : World), RP w w.heap.size A ms.length ms → Calls Try.prog 18 #[.slice A ms.length c, .int .i64 key] w (Gives2 w (cutL ms key) (cutB ms key)) := fun A c w hR => spCut_any A _ c ms key w hR (by omega)
  have ciC : ∀ (A : Option Addr) (c : Nat) (w : World), RP w w.heap.size A ms.length ms → ms.length ≤ c → c ≤ 9223372036854775807 → Calls Try.prog 17 #[.slice A ms.length c, .int .i64 key] w (Gives2 w (cutL ms key) (cutB ms key)) := fun A c w hR h1 h2 => iCut_any A _ c ms key w hR (by omega) h1 h2
  have vsC : ∀ (A : Option Addr) (c : Nat) (w : World), RP w w.heap.size A ms.length ms → Calls Try.prog 20 #[.slice A ms.length c, .int .i64 key] w fun e w' => e = .returned (.tuple #[.int .i64 (valN ms key), .bool (cutB ms key)]) ∧ Below w.heap.size w w' := fun A c w hR => sVal_any A _ c ms key w hR (by omega)
  have viC : ∀ (A : Option Addr) (c : Nat) (w : World), RP w w.heap.size A ms.length ms → Calls Try.prog 19 #[.slice A ms.length c, .int .i64 key] w fun e w' => e = .returned (.tuple #[.int .i64 (valN ms key), .bool (cutB ms key)]) ∧ Below w.heap.size w w' := fun A c w hR => iVal_any A _ c ms key w hR (by omega)
  have hu40 := cutL_le ms key
  generalize cutL ms key = U at *
  generalize cutB ms key = Bc at *
  generalize valN ms key = va at *
  have hu63 : U.length ≤ 1048576 := by omega
  have CSC := Lib.hid csC
  have CIC := Lib.hid ciC
  have VSC := Lib.hid vsC
  have VIC := Lib.hid viC
  obtain ⟨capM1, capM2⟩ := own_cap oM
  clear csC ciC vsC viC
  generalize ms.length = lm at *
  have L_4 := Lib.hid (own_on L_3.out b3)
  have B_4 := Lib.hid (bel_on B_3.out b3)
  have Q_4 := Lib.hid (bel_on Q_3.out b3)
  have X_4 := Lib.hid (own_on X_3.out b3)
  have Y_4 := Lib.hid (own_on Y_3.out b3)
  clear b3 L_3 B_3 Q_3 X_3 Y_3 
  have M_4 := Lib.hid oM
  clear oM
  go_wp2_with fail
  refine (CIC.out _ _ _ (RP.own M_4.out) capM1 capM2).mono ?_
  intro e w4 hG4
  obtain ⟨AU, cU, rfl, o4, b4⟩ := form2 hG4
  have L_5 := Lib.hid (own_on L_4.out b4)
  have B_5 := Lib.hid (bel_on B_4.out b4)
  have Q_5 := Lib.hid (bel_on Q_4.out b4)
  have X_5 := Lib.hid (own_on X_4.out b4)
  have Y_5 := Lib.hid (own_on Y_4.out b4)
  have M_5 := Lib.hid (own_on M_4.out b4)
  clear b4 L_4 B_4 Q_4 X_4 Y_4 M_4 hG4
  have U_5 := Lib.hid o4
  clear o4
  go_wp2_with fail
  refine (CSC.out _ _ _ (RP.own M_5.out)).mono ?_
  intro e w5 hG5
  obtain ⟨AV, cV, rfl, o5, b5⟩ := form2 hG5
  have L_6 := Lib.hid (own_on L_5.out b5)
  have B_6 := Lib.hid (bel_on B_5.out b5)
  have Q_6 := Lib.hid (bel_on Q_5.out b5)
  have X_6 := Lib.hid (own_on X_5.out b5)
  have Y_6 := Lib.hid (own_on Y_5.out b5)
  have M_6 := Lib.hid (own_on M_5.out b5)
  have U_6 := Lib.hid (own_on U_5.out b5)
  clear b5 L_5 B_5 Q_5 X_5 Y_5 M_5 U_5 hG5
  have V_6 := Lib.hid o5
  clear o5
  go_wp2_with fail
  refine (VIC.out _ _ _ (RP.own M_6.out)).mono ?_
  rintro e w6 ⟨rfl, b6⟩
  have L_7 := Lib.hid (own_on L_6.out b6)
  have B_7 := Lib.hid (bel_on B_6.out b6)
  have Q_7 := Lib.hid (bel_on Q_6.out b6)
  have X_7 := Lib.hid (own_on X_6.out b6)
  have Y_7 := Lib.hid (own_on Y_6.out b6)
  have M_7 := Lib.hid (own_on M_6.out b6)
  have U_7 := Lib.hid (own_on U_6.out b6)
  have V_7 := Lib.hid (own_on V_6.out b6)
  clear b6 L_6 B_6 Q_6 X_6 Y_6 M_6 U_6 V_6 
  go_wp2_with fail
  refine (VSC.out _ _ _ (RP.own M_7.out)).mono ?_
  rintro e w7 ⟨rfl, b7⟩
  have L_8 := Lib.hid (own_on L_7.out b7)
  have B_8 := Lib.hid (bel_on B_7.out b7)
  have Q_8 := Lib.hid (bel_on Q_7.out b7)
  have X_8 := Lib.hid (own_on X_7.out b7)
  have Y_8 := Lib.hid (own_on Y_7.out b7)
  have M_8 := Lib.hid (own_on M_7.out b7)
  have U_8 := Lib.hid (own_on U_7.out b7)
  have V_8 := Lib.hid (own_on V_7.out b7)
  clear b7 L_7 B_7 Q_7 X_7 Y_7 M_7 U_7 V_7 
  go_wp2_with fail
  refine (dOk_any A n c _ (HB.out _ B_8.out) hn).mono ?_
  rintro e w8 ⟨AK, cK, ks, rfl, oK, hks, b8⟩
  have psC : ∀ (A : Option Addr) (c : Nat) (w : World), RP w w.heap.size A ks.length ks → Calls Try.prog 24 #[.slice A ks.length c] w fun e w' => e = .returned (.bool (pOk ks)) ∧ Below w.heap.size w w' := fun A c w hR => spOk_any A _ c ks w hR (by omega)
  have piC : ∀ (A : Option Addr) (c : Nat) (w : World), RP w w.heap.size A ks.length ks → Calls Try.prog 23 #[.slice A ks.length c] w fun e w' => e = .returned (.bool (pOk ks)) ∧ Below w.heap.size w w' := fun A c w hR => iOk_any A _ c ks w hR (by omega)
  generalize pOk ks = Bk at *
  have PSC := Lib.hid psC
  have PIC := Lib.hid piC
  clear psC piC
  generalize ks.length = lk at *
  have L_9 := Lib.hid (own_on L_8.out b8)
  have B_9 := Lib.hid (bel_on B_8.out b8)
  have Q_9 := Lib.hid (bel_on Q_8.out b8)
  have X_9 := Lib.hid (own_on X_8.out b8)
  have Y_9 := Lib.hid (own_on Y_8.out b8)
  have M_9 := Lib.hid (own_on M_8.out b8)
  have U_9 := Lib.hid (own_on U_8.out b8)
  have V_9 := Lib.hid (own_on V_8.out b8)
  clear b8 L_8 B_8 Q_8 X_8 Y_8 M_8 U_8 V_8 
  have K_9 := Lib.hid oK
  clear oK
  go_wp2_with fail
  refine (like_yes _ _ _ _ _ X _ (RP.own X_9.out) (RP.own Y_9.out) hx63).mono ?_
  rintro e w9 ⟨rfl, b9⟩
  have L_10 := Lib.hid (own_on L_9.out b9)
  have B_10 := Lib.hid (bel_on B_9.out b9)
  have Q_10 := Lib.hid (bel_on Q_9.out b9)
  have X_10 := Lib.hid (own_on X_9.out b9)
  have Y_10 := Lib.hid (own_on Y_9.out b9)
  have M_10 := Lib.hid (own_on M_9.out b9)
  have U_10 := Lib.hid (own_on U_9.out b9)
  have V_10 := Lib.hid (own_on V_9.out b9)
  have K_10 := Lib.hid (own_on K_9.out b9)
  clear b9 L_9 B_9 Q_9 X_9 Y_9 M_9 U_9 V_9 K_9 
  go_wp2_with fail
  refine (like_yes _ _ _ _ _ U _ (RP.own U_10.out) (RP.own V_10.out) hu63).mono ?_
  rintro e w10 ⟨rfl, b10⟩
  have L_11 := Lib.hid (own_on L_10.out b10)
  have B_11 := Lib.hid (bel_on B_10.out b10)
  have Q_11 := Lib.hid (bel_on Q_10.out b10)
  have X_11 := Lib.hid (own_on X_10.out b10)
  have M_11 := Lib.hid (own_on M_10.out b10)
  have U_11 := Lib.hid (own_on U_10.out b10)
  have V_11 := Lib.hid (own_on V_10.out b10)
  have K_11 := Lib.hid (own_on K_10.out b10)
  clear b10 L_10 B_10 Q_10 X_10 M_10 U_10 V_10 K_10 
  go_wp2_with fail
  refine (PIC.out _ _ _ (RP.own K_11.out)).mono ?_
  rintro e w11 ⟨rfl, b11⟩
  have L_12 := Lib.hid (own_on L_11.out b11)
  have B_12 := Lib.hid (bel_on B_11.out b11)
  have Q_12 := Lib.hid (bel_on Q_11.out b11)
  have X_12 := Lib.hid (own_on X_11.out b11)
  have K_12 := Lib.hid (own_on K_11.out b11)
  clear b11 L_11 B_11 Q_11 X_11 K_11 
  go_wp2_with fail
  refine (PSC.out _ _ _ (RP.own K_12.out)).mono ?_
  rintro e w12 ⟨rfl, b12⟩
  have L_13 := Lib.hid (own_on L_12.out b12)
  have B_13 := Lib.hid (bel_on B_12.out b12)
  have Q_13 := Lib.hid (bel_on Q_12.out b12)
  have X_13 := Lib.hid (own_on X_12.out b12)
  have K_13 := Lib.hid (own_on K_12.out b12)
  clear b12 L_12 B_12 Q_12 X_12 K_12 
  rcases Bool.eq_false_or_eq_true Bo with hBo | hBo
  · subst hBo
    obtain ⟨hX, hN, hV, hC, hCB⟩ := PB.out rfl
    have viX : ∀ (A : Option Addr) (c : Nat) (w : World), RP w w.heap.size A X.length X → Calls Try.prog 19 #[.slice A X.length c, .int .i64 k] w fun e w' => e = .returned (.tuple #[.int .i64 v, .bool true]) ∧ Below w.heap.size w w' := fun A c w hR => by
      have := iVal_any A _ c X k w hR hx63; rwa [hN, hV] at this
    have ciX : ∀ (A : Option Addr) (c : Nat) (w : World), RP w w.heap.size A X.length X → X.length ≤ c → c ≤ 9223372036854775807 → Calls Try.prog 17 #[.slice A X.length c, .int .i64 k] w (Gives2 w zs true) := fun A c w hR h1 h2 => by
      have := iCut_any A _ c X k w hR hx63 h1 h2; rwa [hC, hCB] at this
    have piX : ∀ (A : Option Addr) (c : Nat) (w : World), RP w w.heap.size A X.length X → Calls Try.prog 23 #[.slice A X.length c] w fun e w' => e = .returned (.bool true) ∧ Below w.heap.size w w' := fun A c w hR => by
      have := iOk_any A _ c X w hR hx63; rwa [hX] at this
    have VIX := Lib.hid viX
    have CIX := Lib.hid ciX
    have PIX := Lib.hid piX
    clear viX ciX piX hX hN hV hC hCB
    obtain ⟨capX1, capX2⟩ := own_cap X_13.out
    generalize X.length = lx at *
    have pd13 := (Q_13.out.cell (p := ⟨w0.heap.size, 0, none⟩) ps).trans PD.out
    have pe13 := (Q_13.out.cell (p := ⟨w0.heap.size, 1, none⟩) ps).trans PE.out
    go_wp2_with fail
    refine (VIX.out _ _ _ (RP.own X_13.out)).mono ?_
    rintro e w13 ⟨rfl, b13⟩
    have L_14 := Lib.hid (own_on L_13.out b13)
    have B_14 := Lib.hid (bel_on B_13.out b13)
    have Q_14 := Lib.hid (bel_on Q_13.out b13)
    have X_14 := Lib.hid (own_on X_13.out b13)
    clear b13 L_13 B_13 Q_13 X_13 
    clear pd13 pe13
    have pd14 := (Q_14.out.cell (p := ⟨w0.heap.size, 0, none⟩) ps).trans PD.out
    have pe14 := (Q_14.out.cell (p := ⟨w0.heap.size, 1, none⟩) ps).trans PE.out
    go_wp2_with fail
    refine (CIX.out _ _ _ (RP.own X_14.out) capX1 capX2).mono ?_
    intro e w14 hG14
    obtain ⟨AZ, cZ, rfl, o14, b14⟩ := form2 hG14
    have L_15 := Lib.hid (own_on L_14.out b14)
    have B_15 := Lib.hid (bel_on B_14.out b14)
    have Q_15 := Lib.hid (bel_on Q_14.out b14)
    have X_15 := Lib.hid (own_on X_14.out b14)
    clear b14 L_14 B_14 Q_14 X_14 hG14
    rw [HLL.out] at o14 ⊢
    have Z_15 := Lib.hid o14
    clear o14
    clear pd14 pe14
    have pd15 := (Q_15.out.cell (p := ⟨w0.heap.size, 0, none⟩) ps).trans PD.out
    have pe15 := (Q_15.out.cell (p := ⟨w0.heap.size, 1, none⟩) ps).trans PE.out
    go_wp2_with fail
    refine (like_yes _ _ _ _ _ zs _ (RP.own Z_15.out) (RP.own L_15.out) hz63).mono ?_
    rintro e w15 ⟨rfl, b15⟩
    have L_16 := Lib.hid (own_on L_15.out b15)
    have B_16 := Lib.hid (bel_on B_15.out b15)
    have Q_16 := Lib.hid (bel_on Q_15.out b15)
    have X_16 := Lib.hid (own_on X_15.out b15)
    have Z_16 := Lib.hid (own_on Z_15.out b15)
    clear b15 L_15 B_15 Q_15 X_15 Z_15 
    go_wp2_with fail
    refine (PIX.out _ _ _ (RP.own X_16.out)).mono ?_
    rintro e w16 ⟨rfl, b16⟩
    have L_17 := Lib.hid (own_on L_16.out b16)
    have B_17 := Lib.hid (bel_on B_16.out b16)
    have Q_17 := Lib.hid (bel_on Q_16.out b16)
    have X_17 := Lib.hid (own_on X_16.out b16)
    have Z_17 := Lib.hid (own_on Z_16.out b16)
    clear b16 L_16 B_16 Q_16 X_16 Z_16 
    go_wp2_with fail
    go_ret
    exact ⟨rfl, B_17.out⟩
  · subst hBo
    go_wp2_with fail
    go_ret
    exact ⟨rfl, B_13.out⟩
end Go.Proofs.Ytjlbnbmniejidaa
