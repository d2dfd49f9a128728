/- The code's own TreeOk: the walks of has, lacksKid, refuses, ok. -/
import Derived.Test.YtlmhcifnikdliaaDoorA18
import Derived.Test.YtlmhcifnikdliaaDoorA19
import Derived.Shelf.Abstract
namespace Go.Proofs.YtlmhcifnikdliaaDoor
open Go.RowKit

theorem iHas_any (r : Int) (A : Option Addr) (n c : Nat) (x : Int) (w : World) (_hn : n ≤ 1048576) :
    Calls Tryd.prog 60 #[.agg #[.int .i64 r, .slice A n c], .int .i64 x] w fun e w' => e = .returned (.bool (hasB n x)) ∧ Below w.heap.size w w' := by
  by_cases h1 : 0 ≤ x
  · have g1 : decide (0 ≤ x) = true := by simpa using h1
    go_enter Tryd.func60, Tryd.ntmps60
    go_wp2
    go_ret
    exact ⟨ret_bool (by unfold hasB inB; rw [Bool.eq_iff_iff]; simp; omega), (Below.refl _ _).alloc (Nat.le_refl _) _⟩
  · have g1 : decide (0 ≤ x) = false := by simpa using h1
    go_enter Tryd.func60, Tryd.ntmps60
    go_wp2
    go_ret
    exact ⟨ret_bool (by unfold hasB inB; symm; simp; omega), (Below.refl _ _).alloc (Nat.le_refl _) _⟩

theorem iLack_any (r : Int) (A : Option Addr) (n c : Nat) (p : Pr) (w : World) (hn : n ≤ 1048576) :
    Calls Tryd.prog 73 #[.agg #[.int .i64 r, .slice A n c], .agg #[.int .i64 p.1, .int .i64 p.2]] w fun e w' => e = .returned (.bool (lackB n p)) ∧ Below w.heap.size w w' := by
  obtain ⟨k, v⟩ := p
  have hk := fun w => iHas_any r A n c v w hn
  unfold lackB
  simp only
  generalize hasB n v = q at *
  have HK := Lib.hid hk
  clear hk
  have B0 : Hid (Below w.heap.size w ((w.alloc (.cells #[.int .i64 r, .slice A n c] 29)).alloc (.cells #[.int .i64 k, .int .i64 v] 53))) := Lib.hid (((Below.refl _ _).alloc (Nat.le_refl _) _).alloc (by simp) _)
  go_enter Tryd.func73, Tryd.ntmps73
  go_wp2_with fail
  refine (HK.out _).mono ?_
  rintro e w1 ⟨rfl, b1⟩
  have B1 := Lib.hid (B0.out.trans (b1.mono (by simp; omega)))
  clear b1
  go_wp2
  go_ret
  exact ⟨ret_bool (by simp), B1.out⟩

theorem iIdxK_any (r : Int) (A' : Option Addr) (n' c' : Nat) (hn' : n' ≤ 1048576) (A : Option Addr) (n c : Nat) (zs : List Pr) (w : World) (h : RP w w.heap.size A n zs) (hn : n ≤ 1048576) :
    Calls Tryd.prog 81 #[.slice A n c, .func (.func 73) #[.agg #[.int .i64 r, .slice A' n' c']] #[]] w fun e w' => e = .returned (.int .i64 (ixOf (lackB n') zs)) ∧ Below w.heap.size w w' := by
  have HL := Lib.hid h.1
  have HH := Lib.hid h
  clear h
  have RK := Lib.hid (fun (p : Pr) w => iLack_any r A' n' c' p w hn')
  have eg : ∀ args w, (callFunc 73 args).run Tryd.prog w = .ok (.enter 73 args) w := enters_of Tryd.func73 (by kernel_rfl) rfl
  have HX : Hid (∀ k, k < zs.length → lackB n' (zs.getD k (0, 0)) = true → (∀ j, j < k → lackB n' (zs.getD j (0, 0)) = false) → ixOf (lackB n') zs = k) := Lib.hid fun k hk h1 h2 => ixOf_at _ _ _ k hk h1 h2
  have HN : Hid ((∀ j, j < zs.length → lackB n' (zs.getD j (0, 0)) = false) → ixOf (lackB n') zs = -1) := Lib.hid fun h1 => ixOf_none _ _ _ h1
  generalize ixOf (lackB n') zs = R at *
  generalize lackB n' = q at *
  clear hn'
  generalize Value.agg #[.int .i64 r, .slice A' n' c'] = xv at *
  go_enter Tryd.func81, Tryd.ntmps81
  go_wp2
  go_loopw [8] (fun i wr => ∃ k : Nat, i = .int .i64 k ∧ k ≤ n ∧ Hid (∀ j, j < k → q (zs.getD j (0, 0)) = false) ∧ Hid (Below w.heap.size w wr)) (fun i _ => n - (intOf i).toNat)
  case atStart => exact ⟨0, rfl, by omega, Lib.hid (by intro j hj; omega), Lib.hid (Below.refl _ _)⟩
  case round =>
    obtain ⟨k, rfl, hk, ho, hbw⟩ := hrel
    by_cases hlt : k < n
    · obtain ⟨b, off, rfl, hb, hc⟩ := HH.out.2 (by omega)
      have c1 := (hbw.out.cell (p := ⟨b, off + k * 2, none⟩) hb).trans (hc k hlt).1
      have c2 := (hbw.out.cell (p := ⟨b, off + k * 2 + 1, none⟩) hb).trans (hc k hlt).2
      clear hc
      have rk := RK.out (kAt zs k, vAt zs k) wr
      have e0 : (kAt zs k, vAt zs k) = zs.getD k (0, 0) := rfl
      rw [e0] at rk
      have F1 : Hid (q (zs.getD k (0, 0)) = true → R = k) := Lib.hid fun h => HX.out k (by have := HL.out; omega) h ho.out
      have F2 : Hid (q (zs.getD k (0, 0)) = false → ∀ j, j < k + 1 → q (zs.getD j (0, 0)) = false) := Lib.hid fun h j hj => by
        rcases Nat.lt_or_ge j k with h' | h'
        · exact ho.out j h'
        · obtain rfl : j = k := by omega
          exact h
      generalize q (zs.getD k (0, 0)) = qq at rk F1 F2
      change Calls Tryd.prog _ #[xv, .agg #[.int .i64 (kAt zs k), .int .i64 (vAt zs k)]] _ _ at rk
      clear e0
      cases qq
      · go_wp2_with (go_at_fn 73; refine rk.mono ?_; rintro e w2 ⟨rfl, b2⟩)
        go_roundw
        case rel => exact ⟨k + 1, by go_num, by omega, Lib.hid (F2.out (by trivial)), Lib.hid (hbw.out.trans (b2.mono hbw.out.size))⟩
        case measure => simp [intOf]; omega
      · go_wp2_with (go_at_fn 73; refine rk.mono ?_; rintro e w2 ⟨rfl, b2⟩)
        go_ret
        exact ⟨ret_int (F1.out (by trivial)).symm, hbw.out.trans (b2.mono hbw.out.size)⟩
    · go_wp2
      go_ret
      have hz : zs.length = n := HL.out
      exact ⟨ret_int (HN.out (fun j hj => ho.out j (by omega))).symm, hbw.out⟩

theorem iContK_any (r : Int) (A' : Option Addr) (n' c' : Nat) (hn' : n' ≤ 1048576) (A : Option Addr) (n c : Nat) (zs : List Pr) (w : World) (h : RP w w.heap.size A n zs) (hn : n ≤ 1048576) :
    Calls Tryd.prog 72 #[.slice A n c, .func (.func 73) #[.agg #[.int .i64 r, .slice A' n' c']] #[]] w fun e w' => e = .returned (.bool (zs.any (lackB n'))) ∧ Below w.heap.size w w' := by
  have ix := iIdxK_any r A' n' c' hn' A n c zs w h hn
  rw [← ixOf_any]
  clear h
  generalize ixOf (lackB n') zs = R at *
  generalize Value.agg #[.int .i64 r, .slice A' n' c'] = xv at *
  go_enter Tryd.func72, Tryd.ntmps72
  go_wp2_with fail
  refine ix.mono ?_
  rintro e w1 ⟨rfl, b1⟩
  go_wp2
  go_ret
  exact ⟨rfl, b1⟩

theorem iRefT_any (r : Int) (A' : Option Addr) (n' c' : Nat) (hn' : n' ≤ 1048576) (x : Nd) (A : Option Addr) (n c : Nat) (w : World) (h : RP w w.heap.size A n x.ps) (hn : n ≤ 1048576) :
    Calls Tryd.prog 62 #[.agg #[.int .i64 r, .slice A' n' c'], ndV x A n c] w fun e w' => e = .returned (.bool (refT n' x)) ∧ Below w.heap.size w w' := by
  have HH := Lib.hid h
  clear h
  have ok := fun w h => iok_any x A n c w h hn
  have hk := fun x w => iHas_any r A' n' c' x w hn'
  have ck := fun w h => iContK_any r A' n' c' hn' A n c x.ps w h hn
  unfold refT
  generalize nodeOk x = q1 at *
  generalize x.ps.any (lackB n') = q3 at *
  unfold ndV at *
  obtain ⟨lv, zs, hi, ri, ow⟩ := x
  simp only at *
  replace hk := hk ri
  generalize hasB n' ri = q2 at *
  have OK := Lib.hid ok
  have HK := Lib.hid hk
  have CK := Lib.hid ck
  clear ok hk ck
  obtain ⟨w0, hw0⟩ : ∃ w0, w0 = (w.alloc (.cells #[.int .i64 r, .slice A' n' c'] 29)).alloc (.cells #[.int .i64 lv, .slice A n c, .int .i64 hi, .int .i64 ri, .int .i64 ow] 40) := ⟨_, rfl⟩
  have b0 : Below w.heap.size w w0 := by rw [hw0]; exact ((Below.refl _ _).alloc (Nat.le_refl _) _).alloc (by simp) _
  have x0 : w0.heap[w.heap.size]? = some (.cells #[.int .i64 r, .slice A' n' c'] 29 (0, 0)) := by
    rw [hw0, Below.heap_alloc _ _ _ (by simp)]; exact heap_alloc_new _ _
  have x1 : w0.heap[w.heap.size + 1]? = some (.cells #[.int .i64 lv, .slice A n c, .int .i64 hi, .int .i64 ri, .int .i64 ow] 40 (0, 0)) := by
    have hz := heap_alloc_new (w.alloc (.cells #[.int .i64 r, .slice A' n' c'] 29)) (.cells #[.int .i64 lv, .slice A n c, .int .i64 hi, .int .i64 ri, .int .i64 ow] 40)
    rw [hw0]
    rwa [show (w.alloc (.cells #[.int .i64 r, .slice A' n' c'] 29)).heap.size = w.heap.size + 1 from by simp] at hz
  have D : Hid (∀ wx, Below w0.heap.size w0 wx → wx.cell? ⟨w.heap.size, 0, none⟩ = some (.int .i64 r) ∧ wx.cell? ⟨w.heap.size, 1, none⟩ = some (.slice A' n' c') ∧ wx.cell? ⟨w.heap.size + 1, 0, none⟩ = some (.int .i64 lv) ∧ wx.cell? ⟨w.heap.size + 1, 1, none⟩ = some (.slice A n c) ∧ wx.cell? ⟨w.heap.size + 1, 3, none⟩ = some (.int .i64 ri)) :=
    Lib.hid (fun wx hb => ⟨by rw [cell_of_row _ _ 0 _ _ _ (box_on hb x0)]; rfl, by rw [cell_of_row _ _ 1 _ _ _ (box_on hb x0)]; rfl, by rw [cell_of_row _ _ 0 _ _ _ (box_on hb x1)]; rfl, by rw [cell_of_row _ _ 1 _ _ _ (box_on hb x1)]; rfl, by rw [cell_of_row _ _ 3 _ _ _ (box_on hb x1)]; rfl⟩)
  have B0 := Lib.hid b0
  have HW := Lib.hid hw0
  have H0 := Lib.hid (HH.out.on b0)
  clear hw0 b0 x0 x1
  go_enter Tryd.func62, Tryd.ntmps62
  go_wp2_with fail
  rw [← HW.out]
  refine (OK.out _ H0.out).mono ?_
  rintro e w1 ⟨rfl, b1⟩
  obtain ⟨d0, d1, d2, d3, d4⟩ := D.out _ b1
  have B1 := Lib.hid b1
  have H1 := Lib.hid (H0.out.on b1)
  clear b1
  cases q1
  · go_wp2
    go_ret
    exact ⟨ret_bool (by simp), B0.out.trans (B1.out.mono B0.out.size)⟩
  by_cases hr : ri = -1
  · have g1 : (ri != -1) = false := by simp [hr]
    have HR := Lib.hid hr
    clear hr
    by_cases hl : 0 < lv
    · have g2 : decide (0 < lv) = true := by simpa using hl
      go_wp2_with fail
      refine (CK.out _ H1.out).mono ?_
      rintro e w2 ⟨rfl, b2⟩
      have B2 := Lib.hid (B0.out.trans ((B1.out.trans (b2.mono B1.out.size)).mono B0.out.size))
      clear b2
      go_wp2
      go_ret
      exact ⟨ret_bool (by rw [g1, g2]; simp), B2.out⟩
    · have g2 : decide (0 < lv) = false := by simpa using hl
      go_wp2
      go_ret
      exact ⟨ret_bool (by rw [g1, g2]; simp), B0.out.trans (B1.out.mono B0.out.size)⟩
  · have g1 : (ri != -1) = true := by simpa using hr
    clear hr
    go_wp2_with fail
    refine (HK.out _).mono ?_
    rintro e w2 ⟨rfl, b2⟩
    have B2 := Lib.hid (B1.out.trans (b2.mono B1.out.size))
    have H2 := Lib.hid (H1.out.on b2)
    clear b2 d0 d1 d2 d3 d4
    obtain ⟨d0, d1, d2, d3, d4⟩ := D.out _ B2.out
    cases q2
    · go_wp2
      go_ret
      exact ⟨ret_bool (by rw [g1]; simp), B0.out.trans (B2.out.mono B0.out.size)⟩
    by_cases hl : 0 < lv
    · have g2 : decide (0 < lv) = true := by simpa using hl
      go_wp2_with fail
      refine (CK.out _ H2.out).mono ?_
      rintro e w3 ⟨rfl, b3⟩
      have B3 := Lib.hid (B0.out.trans ((B2.out.trans (b3.mono B2.out.size)).mono B0.out.size))
      clear b3
      go_wp2
      go_ret
      exact ⟨ret_bool (by rw [g1, g2]; simp), B3.out⟩
    · have g2 : decide (0 < lv) = false := by simpa using hl
      go_wp2
      go_ret
      exact ⟨ret_bool (by rw [g1, g2]; simp), B0.out.trans (B2.out.mono B0.out.size)⟩
end Go.Proofs.YtlmhcifnikdliaaDoor
