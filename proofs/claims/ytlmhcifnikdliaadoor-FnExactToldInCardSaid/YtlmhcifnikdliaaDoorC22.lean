/- The code's own TreeOk and NewTree. -/
import Derived.Test.YtlmhcifnikdliaaDoorC21
namespace Go.Proofs.YtlmhcifnikdliaaDoor
open Go.RowKit

set_option maxHeartbeats 1000000 in
theorem iIdxT_any (r : Int) (A' : Option Addr) (n' c' : Nat) (hn' : n' ≤ 1048576) (A : Option Addr) (n c : Nat) (xs : List Nd) (w : World) (h : RS w w.heap.size A n xs) (hn : n ≤ 1048576) (hp : ∀ i, i < n → (ndAt xs i).ps.length ≤ 1048576) :
    Calls Tryd.prog 70 #[.slice A n c, .func (.func 62) #[.agg #[.int .i64 r, .slice A' n' c']] #[]] w fun e w' => e = .returned (.int .i64 (ixOf (refT n') xs)) ∧ Below w.heap.size w w' := by
  have HL := Lib.hid h.1
  have HH := Lib.hid h
  have HP := Lib.hid hp
  clear h hp
  have RK := Lib.hid (fun (x : Nd) A n c w (h : RP w w.heap.size A n x.ps) (hn : n ≤ 1048576) => iRefT_any r A' n' c' hn' x A n c w h hn)
  have eg : ∀ args w, (callFunc 62 args).run Tryd.prog w = .ok (.enter 62 args) w := enters_of Tryd.func62 (by kernel_rfl) rfl
  have HX : Hid (∀ k, k < xs.length → refT n' (ndAt xs k) = true → (∀ j, j < k → refT n' (ndAt xs j) = false) → ixOf (refT n') xs = k) := Lib.hid fun k hk h1 h2 => ixNd_at (refT n') xs k hk h1 h2
  have HN : Hid ((∀ j, j < xs.length → refT n' (ndAt xs j) = false) → ixOf (refT n') xs = -1) := Lib.hid fun h1 => ixNd_none (refT n') xs h1
  generalize ixOf (refT n') xs = R at *
  generalize refT n' = q at *
  clear hn'
  generalize Value.agg #[.int .i64 r, .slice A' n' c'] = xv at *
  go_enter Tryd.func70, Tryd.ntmps70
  go_wp2
  go_loopw [8] (fun i wr => ∃ k : Nat, i = .int .i64 k ∧ k ≤ n ∧ Hid (∀ j, j < k → q (ndAt xs j) = false) ∧ Hid (Below w.heap.size w wr)) (fun i _ => n - (intOf i).toNat)
  case atStart => exact ⟨0, rfl, by omega, Lib.hid (by intro j hj; omega), Lib.hid (Below.refl _ _)⟩
  case round =>
    obtain ⟨k, rfl, hk, ho, hbw⟩ := hrel
    by_cases hlt : k < n
    · obtain ⟨b, off, rfl, hb, hc⟩ := HH.out.nd (by omega)
      obtain ⟨A2, n2, c2, k0, k1, k2, k3, k4, hR, _⟩ := (hc k hlt).keep (w' := wr) hb (fun p hp => hbw.out.cell hp)
      have hps := HP.out k hlt
      have hR2 : RP wr wr.heap.size A2 n2 (ndAt xs k).ps := hR.more hbw.out.size
      have rk := RK.out (ndAt xs k) A2 n2 c2 wr hR2 (by rw [← hR2.1]; exact hps)
      clear hc hR hR2 hps
      have F1 : Hid (q (ndAt xs k) = true → R = k) := Lib.hid fun h => HX.out k (by have := HL.out; omega) h ho.out
      have F2 : Hid (q (ndAt xs k) = false → ∀ j, j < k + 1 → q (ndAt xs j) = false) := Lib.hid fun h j hj => by
        rcases Nat.lt_or_ge j k with h' | h'
        · exact ho.out j h'
        · obtain rfl : j = k := by omega
          exact h
      generalize q (ndAt xs k) = qq at rk F1 F2
      unfold ndV at rk
      generalize (ndAt xs k).lv = e0 at *
      generalize (ndAt xs k).hi = e1 at *
      generalize (ndAt xs k).ri = e2 at *
      generalize (ndAt xs k).ow = e3 at *
      cases qq
      · go_wp2_with (go_at_fn 62; refine rk.mono ?_; rintro e w2 ⟨rfl, b2⟩)
        go_roundw
        case rel => exact ⟨k + 1, by go_num, by omega, Lib.hid (F2.out (by trivial)), Lib.hid (hbw.out.trans (b2.mono hbw.out.size))⟩
        case measure => simp [intOf]; omega
      · go_wp2_with (go_at_fn 62; refine rk.mono ?_; rintro e w2 ⟨rfl, b2⟩)
        go_ret
        exact ⟨ret_int (F1.out (by trivial)).symm, hbw.out.trans (b2.mono hbw.out.size)⟩
    · go_wp2
      go_ret
      have hz : xs.length = n := HL.out
      exact ⟨ret_int (HN.out (fun j hj => ho.out j (by omega))).symm, hbw.out⟩

theorem iContT_any (r : Int) (A' : Option Addr) (n' c' : Nat) (hn' : n' ≤ 1048576) (A : Option Addr) (n c : Nat) (xs : List Nd) (w : World) (h : RS w w.heap.size A n xs) (hn : n ≤ 1048576) (hp : ∀ i, i < n → (ndAt xs i).ps.length ≤ 1048576) :
    Calls Tryd.prog 61 #[.slice A n c, .func (.func 62) #[.agg #[.int .i64 r, .slice A' n' c']] #[]] w fun e w' => e = .returned (.bool (xs.any (refT n'))) ∧ Below w.heap.size w w' := by
  have ix := iIdxT_any r A' n' c' hn' A n c xs w h hn hp
  rw [← ixOf_any]
  clear h hp
  generalize ixOf (refT n') xs = R at *
  generalize Value.agg #[.int .i64 r, .slice A' n' c'] = xv at *
  go_enter Tryd.func61, Tryd.ntmps61
  go_wp2_with fail
  refine ix.mono ?_
  rintro e w1 ⟨rfl, b1⟩
  go_wp2
  go_ret
  exact ⟨rfl, b1⟩

theorem itok_any (r : Int) (xs : List Nd) (A : Option Addr) (n c : Nat) (w : World) (h : RS w w.heap.size A n xs) (hs : Small.sm xs) :
    Calls Tryd.prog 42 #[.agg #[.int .i64 r, .slice A n c]] w fun e w' => e = .returned (.bool (treeOk r xs)) ∧ Below w.heap.size w w' := by
  have hl := h.1
  have hn : n ≤ 1048576 := by rw [← hl]; exact hs.1
  rw [← okT_eq]
  unfold okT
  rw [hl]
  have hk := fun w => iHas_any r A n c r w hn
  have ck := fun w h => iContT_any r A n c hn A n c xs w h hn (by rw [← hl]; exact hs.2)
  generalize hasB n r = q2 at *
  generalize xs.any (refT n) = q3 at *
  obtain ⟨w0, hw0⟩ : ∃ w0, w0 = w.alloc (.cells #[.int .i64 r, .slice A n c] 29) := ⟨_, rfl⟩
  have b0 : Below w.heap.size w w0 := by rw [hw0]; exact (Below.refl _ _).alloc (Nat.le_refl _) _
  have x0 : w0.heap[w.heap.size]? = some (.cells #[.int .i64 r, .slice A n c] 29 (0, 0)) := by rw [hw0]; exact heap_alloc_new _ _
  have D : Hid (∀ wx, Below w0.heap.size w0 wx → wx.cell? ⟨w.heap.size, 0, none⟩ = some (.int .i64 r) ∧ wx.cell? ⟨w.heap.size, 1, none⟩ = some (.slice A n c)) :=
    Lib.hid (fun wx hb => ⟨by rw [cell_of_row _ _ 0 _ _ _ (box_on hb x0)]; rfl, by rw [cell_of_row _ _ 1 _ _ _ (box_on hb x0)]; rfl⟩)
  have H0 := Lib.hid (h.on b0)
  have B0 := Lib.hid b0
  have HW := Lib.hid hw0
  have HK := Lib.hid hk
  have CK := Lib.hid ck
  clear h hs hw0 b0 x0 hk ck hl
  have g6 : decide ((n : Int) ≤ 40) = decide (n ≤ 40) := by rw [Bool.eq_iff_iff]; simp; omega
  generalize decide (n ≤ 40) = q1 at *
  cases q1
  · go_enter Tryd.func42, Tryd.ntmps42
    go_wp2
    go_ret
    exact ⟨ret_bool (by simp), by rw [← HW.out]; exact B0.out⟩
  go_enter Tryd.func42, Tryd.ntmps42
  go_wp2_with fail
  rw [← HW.out]
  refine (HK.out _).mono ?_
  rintro e w1 ⟨rfl, b1⟩
  obtain ⟨d0, d1⟩ := D.out _ b1
  have B1 := Lib.hid b1
  have H1 := Lib.hid (H0.out.on b1)
  clear b1
  cases q2
  · go_wp2
    go_ret
    exact ⟨ret_bool (by simp), B0.out.trans (B1.out.mono B0.out.size)⟩
  go_wp2_with fail
  refine (CK.out _ H1.out).mono ?_
  rintro e w2 ⟨rfl, b2⟩
  have B2 := Lib.hid (B0.out.trans ((B1.out.trans (b2.mono B1.out.size)).mono B0.out.size))
  clear b2
  go_wp2
  go_ret
  exact ⟨ret_bool (by simp), B2.out⟩

end Go.Proofs.YtlmhcifnikdliaaDoor
