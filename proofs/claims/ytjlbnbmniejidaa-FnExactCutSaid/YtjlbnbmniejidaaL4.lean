/- The law on Cut, walked: it returns true, and nothing that was there is turned. -/
import Derived.Test.YtjlbnbmniejidaaLaw
namespace Go.Proofs.Ytjlbnbmniejidaa
open Go.RowKit

set_option maxRecDepth 100000 in
set_option maxHeartbeats 1000000 in
theorem lawCut_walk (A : Option Addr) (n c : Nat) (zs : List Pr) (k : Int) (w : World) (h : RP w w.heap.size A n zs) (hm : n ≤ 9223372036854775807) :
    Calls Try.prog 8 #[.slice A n c, .int .i64 k] w fun e w' => e = .returned (.bool true) ∧ Below w.heap.size w w' := by
  have HH := Lib.hid h
  clear h
  by_cases hn : 1048576 < n
  · go_enter Try.func8, Try.ntmps8
    go_wp2_with (go_at_call 33; refine (sz_no _ _ _ _ hn hm).mono ?_; rintro e w1 ⟨rfl, rfl⟩)
    go_ret
    exact ⟨rfl, Below.refl _ _⟩
  have hn : n ≤ 1048576 := by omega
  have hL := cutL_le zs k
  have spC : ∀ (A : Option Addr) (w : World), RP w w.heap.size A n zs → Calls Try.prog 18 #[.slice A n n, .int .i64 k] w (Gives2 w (cutL zs k) (cutB zs k)) := fun A w hR => spCut_any A n n zs k w hR hn
  have imC : ∀ (A : Option Addr) (w : World), RP w w.heap.size A n zs → Calls Try.prog 17 #[.slice A n n, .int .i64 k] w (Gives2 w (cutL zs k) (cutB zs k)) := fun A w hR => iCut_any A n n zs k w hR hn (Nat.le_refl _) (by omega)
  generalize cutL zs k = L at *
  generalize cutB zs k = Bo at *
  have SPC := Lib.hid spC
  have IMC := Lib.hid imC
  clear spC imC
  go_enter Try.func8, Try.ntmps8
  go_wp2_with (go_at_call 33; refine (sz_yes _ _ _ _ hn).mono ?_; rintro e w1 ⟨rfl, rfl⟩)
  refine (toS_any _ _ _ zs _ HH.out hn).mono ?_
  rintro e wS ⟨rfl, oS, bS⟩
  go_wp2_with fail
  refine (SPC.out _ _ (RP.own oS) ).mono ?_
  intro e wQ hQ
  obtain ⟨AQ, cQ, rfl, oQ, bQ⟩ := form2 hQ
  have W6 := Lib.hid oQ
  have BB : Hid (Below w.heap.size w wQ) := Lib.hid (bel_on bS bQ)
  clear oS bS oQ bQ hQ
  have hL63 : L.length ≤ 1048576 := by omega
  go_wp2_with fail
  -- x0
  refine (toS_any _ _ _ zs _ (HH.out.on (BB.out)) hn).mono ?_
  rintro e wX ⟨rfl, oX, bX⟩
  have W6X := Lib.hid (own_on W6.out bX)
  have lW := Lib.hid (W6.out.lt)
  have OX := Lib.hid oX
  have BX := Lib.hid (bel_on BB.out bX)
  have sQ : w.heap.size ≤ wQ.heap.size := BB.out.size
  have sX : wQ.heap.size < wX.heap.size := (oX.lt wQ.heap.size rfl).2
  clear oX bX BB W6
  obtain ⟨wT, hwT⟩ : ∃ wT, wT = wX := ⟨_, rfl⟩
  subst hwT
  have OT := OX
  have WT := W6X
  have BT := BX
  have sT := sX
  clear OX W6X BX sX
  go_wp2_with fail
  -- g0, g1
  refine (IMC.out _ _ (RP.own OT.out) ).mono ?_
  intro e wG hG
  obtain ⟨AG, cG, rfl, oG, bG⟩ := form2 hG
  skip
  have lG := Lib.hid oG.lt
  have OG := Lib.hid (own_on OT.out bG)
  have WG := Lib.hid (own_on WT.out bG)
  have GG := Lib.hid oG
  have BG := Lib.hid (bel_on BT.out bG)
  clear oG bG hG OT WT BT
  go_wp2_with fail
  refine (eqS_yes _ _ _ _ _ L _ (RP.own GG.out) (RP.own WG.out) hL63).mono ?_
  rintro e w3 ⟨rfl, b3⟩
  have O3 := Lib.hid (own_on OG.out b3)
  have W3 := Lib.hid (own_on WG.out b3)
  have G3 := Lib.hid (own_on GG.out b3)
  have B3 := Lib.hid (bel_on BG.out b3)
  clear b3 OG WG GG BG
  go_wp2_with fail
  refine (toS_any _ _ _ zs _ (HH.out.on (B3.out)) hn).mono ?_
  rintro e w4 ⟨rfl, o4, b4⟩
  have O4 := Lib.hid (own_on O3.out b4)
  have W4 := Lib.hid (own_on W3.out b4)
  have G4 := Lib.hid (own_on G3.out b4)
  have B4 := Lib.hid (bel_on B3.out b4)
  have Y4 := Lib.hid o4
  clear o4 b4 O3 W3 G3 B3
  go_wp2_with fail
  refine (eqS_yes _ _ _ _ _ zs _ (RP.own O4.out) (RP.own Y4.out) hn).mono ?_
  rintro e w5 ⟨rfl, b5⟩
  have O5 := Lib.hid (own_on O4.out b5)
  have W5 := Lib.hid (own_on W4.out b5)
  have G5 := Lib.hid (own_on G4.out b5)
  have B5 := Lib.hid (bel_on B4.out b5)
  clear b5 O4 W4 G4 B4 Y4
  go_wp2_with fail
  -- x0 is marked
  refine (mark_any _ _ _ _ 1 zs _ O5.out hn (by omega)).mono ?_
  rintro e w6 ⟨rfl, o6, g6⟩
  have W7 := Lib.hid (own_far W5.out g6 (fun b e => by have h1 := (lW.out b e).2; intro h; simp [Value.ownBlock] at h; omega))
  have G7 := Lib.hid (own_far G5.out g6 (fun b e => by have h1 := (lG.out b e).1; intro h; simp [Value.ownBlock] at h; omega))
  have B7 := Lib.hid (B5.out.grown g6 B5.out.size (fun b e => by simp [Value.ownBlock] at e; omega))
  clear o6 g6 W5 G5 B5 O5
  go_wp2_with fail
  refine (eqS_yes _ _ _ _ _ L _ (RP.own G7.out) (RP.own W7.out) hL63).mono ?_
  rintro e w8 ⟨rfl, b8⟩
  have W8 := Lib.hid (own_on W7.out b8)
  have G8 := Lib.hid (own_on G7.out b8)
  have B8 := Lib.hid (bel_on B7.out b8)
  clear b8 W7 G7 B7
  go_wp2_with fail
  -- g0 is marked
  refine (mark_any _ _ _ _ 1 L _ G8.out hL63 (by omega)).mono ?_
  rintro e w9 ⟨rfl, o9, g9⟩
  have W9 := Lib.hid (own_far W8.out g9 (fun b e => by have h1 := (lW.out b e).2; intro h; have h2 := (lG.out b h).1; omega))
  have B9 := Lib.hid (B8.out.grown g9 B8.out.size (fun b e => by have h1 := (lG.out b e).1; omega))
  have G9 := Lib.hid o9
  clear o9 g9 W8 G8 B8
  go_wp2_with fail
  refine (held_any _ _ _ 1 L _ (RP.own G9.out) hL63 (by omega)).mono ?_
  rintro e w10 ⟨rfl, rfl⟩
  go_wp2_with fail
  refine (toS_any _ _ _ zs _ (HH.out.on (B9.out)) hn).mono ?_
  rintro e wU ⟨rfl, oU, bU⟩
  go_wp2_with fail
  refine (IMC.out _ _ (RP.own oU) ).mono ?_
  intro e wZ hZ
  obtain ⟨AZ, cZ, rfl, oZ, bZ⟩ := form2 hZ
  have BZ : Below w9.heap.size w9 wZ := bel_on bU bZ
  have W11 := Lib.hid (own_on W9.out BZ)
  have G11 := Lib.hid (own_on G9.out BZ)
  have B11 := Lib.hid (bel_on B9.out BZ)
  have H11 := Lib.hid oZ
  clear BZ oZ bZ hZ oU bU  W9 G9 B9
  go_wp2_with fail
  refine (eqS_yes _ _ _ _ _ L _ (RP.own H11.out) (RP.own W11.out) hL63).mono ?_
  rintro e w12 ⟨rfl, b12⟩
  have G12 := Lib.hid (own_on G11.out b12)
  have B12 := Lib.hid (bel_on B11.out b12)
  clear b12 W11 G11 B11 H11
  go_wp2_with fail
  refine (held_any _ _ _ 1 L _ (RP.own G12.out) hL63 (by omega)).mono ?_
  rintro e w13 ⟨rfl, rfl⟩
  go_wp2_with fail
  go_ret
  exact ⟨rfl, B12.out⟩
end Go.Proofs.Ytjlbnbmniejidaa
