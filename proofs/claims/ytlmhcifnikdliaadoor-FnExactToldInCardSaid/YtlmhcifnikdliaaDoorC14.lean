/- The walk of the model's l7Row. -/
import Derived.Test.YtlmhcifnikdliaaDoorC13
import Derived.Deep.Cut
import Derived.Deep.RegionHeld3
namespace Go.Proofs.YtlmhcifnikdliaaDoor
open Go.RowKit

def badB (hi low lev k0 : Int) (n : Nat) : Bool := ((hi != -1) && decide (hi ≤ low)) || ((decide (0 < n) && decide (k0 < low)) || (decide (0 < lev) && (k0 != low)))
theorem placeB_eq (xs : List Nd) (row : List Int) (lev : Int) (i a : Nat) (ha : iAt row i = a) :
    placeB xs row lev i = (decide ((ndAt xs a).lv = lev) && !badB (ndAt xs a).hi (lowAt xs row i) lev (kAt (ndAt xs a).ps 0) (ndAt xs a).ps.length) := by
  unfold placeB badB
  simp only [ha, Int.toNat_natCast]
  by_cases h1 : (ndAt xs a).hi = -1 <;> by_cases h2 : (ndAt xs a).hi ≤ lowAt xs row i <;> by_cases h3 : 0 < (ndAt xs a).ps.length <;> by_cases h4 : kAt (ndAt xs a).ps 0 < lowAt xs row i <;>
    by_cases h5 : 0 < lev <;> by_cases h6 : kAt (ndAt xs a).ps 0 = lowAt xs row i <;> simp [h1, h2, h3, h4, h5, h6]

theorem rowB_end {xs : List Nd} {row : List Int} {lev : Int} (h : row.length = 0 ∨ twiceB row = true ∨ (ndAt xs (iAt row (row.length - 1)).toNat).ri ≠ -1) : rowB xs row lev = false := by
  unfold rowB
  rcases h with h | h | h
  · rw [decide_eq_false (by omega : ¬ 0 < row.length)]; rfl
  · rw [h]; simp
  · rw [decide_eq_false h]; simp
theorem rowB_no {xs : List Nd} {row : List Int} {lev : Int} (i : Nat) (hi : i < row.length) (h : placeB xs row lev i = false) : rowB xs row lev = false := by
  unfold rowB
  have : (List.range row.length).all (placeB xs row lev) = false := by
    rw [List.all_eq_false]
    exact ⟨i, List.mem_range.2 hi, by simp [h]⟩
  rw [this]; simp
theorem rowB_yes {xs : List Nd} {row : List Int} {lev : Int} (h0 : 0 < row.length) (h1 : twiceB row = false) (h2 : (ndAt xs (iAt row (row.length - 1)).toNat).ri = -1) (h3 : ∀ i, i < row.length → placeB xs row lev i = true) : rowB xs row lev = true := by
  unfold rowB
  have : (List.range row.length).all (placeB xs row lev) = true := by
    rw [List.all_eq_true]
    exact fun i hi => h3 i (List.mem_range.1 hi)
  rw [this, h1, decide_eq_true h0, decide_eq_true h2]; rfl

set_option maxRecDepth 100000 in
set_option maxHeartbeats 4000000 in
theorem l7Row_any (r : Int) (xs : List Nd) (A : Option Addr) (n c : Nat) (row : List Int) (Ar : Option Addr) (m cr : Nat) (lev : Int) (w : World) (h : RS w w.heap.size A n xs) (hR : Right n r xs) (hr : RS w w.heap.size Ar m row) (hm : m ≤ 1048576) (hin : RowIn n row) :
    Calls Tryd.prog 22 #[.agg #[.int .i64 r, .slice A n c], .slice Ar m cr, .int .i64 lev] w fun e w' => e = .returned (.bool (rowB xs row lev)) ∧ Below w.heap.size w w' := by
  have hl : row.length = m := hr.1
  have HIN : Hid (∀ i, i < m → ∃ a : Nat, iAt row i = a ∧ a < n) := Lib.hid (by rw [← hl]; exact hin)
  have tw := fun w hr => twice_any row Ar m cr w hr hm
  have lo := fun w h hr => lows_any r xs A n c row Ar m cr w h hr hm hin
  have Y0 : Hid (m = 0 → rowB xs row lev = false) := Lib.hid (fun e => rowB_end (.inl (by omega)))
  have Y1 : Hid (twiceB row = true → rowB xs row lev = false) := Lib.hid (fun e => rowB_end (.inr (.inl e)))
  have Y2 : Hid (∀ a : Nat, iAt row (m - 1) = a → (ndAt xs a).ri ≠ -1 → rowB xs row lev = false) := Lib.hid (fun a ha e => rowB_end (.inr (.inr (by rw [hl, ha]; exact e))))
  have Y3 : Hid (∀ i, i < m → placeB xs row lev i = false → rowB xs row lev = false) := Lib.hid (fun i hi e => rowB_no i (by omega) e)
  have Y4 : Hid (∀ a : Nat, 0 < m → twiceB row = false → iAt row (m - 1) = a → (ndAt xs a).ri = -1 → (∀ i, i < m → placeB xs row lev i = true) → rowB xs row lev = true) :=
    Lib.hid (fun a h0 h1 ha h2 h3 => rowB_yes (by omega) h1 (by rw [hl, ha]; exact h2) (by rw [hl]; exact h3))
  have PB : Hid (∀ i a : Nat, iAt row i = a → placeB xs row lev i = (decide ((ndAt xs a).lv = lev) && !badB (ndAt xs a).hi (lowAt xs row i) lev (kAt (ndAt xs a).ps 0) (ndAt xs a).ps.length)) := Lib.hid (fun i a ha => placeB_eq xs row lev i a ha)
  have KID : Hid (∀ a, a < n → 0 < (ndAt xs a).lv → 0 < (ndAt xs a).ps.length) := Lib.hid (fun a ha hlv => (hR.kid a ha hlv).1)
  obtain ⟨w0, hw0⟩ : ∃ w0, w0 = w.alloc (.cells #[.int .i64 r, .slice A n c] 29) := ⟨_, rfl⟩
  have b0 : Below w.heap.size w w0 := by rw [hw0]; exact (Below.refl _ _).alloc (Nat.le_refl _) _
  have x0 : w0.heap[w.heap.size]? = some (.cells #[.int .i64 r, .slice A n c] 29 (0, 0)) := by rw [hw0]; exact heap_alloc_new _ _
  have D0 : Hid (∀ wx, Below w0.heap.size w0 wx → wx.cell? ⟨w.heap.size, 0, none⟩ = some (.int .i64 r) ∧ wx.cell? ⟨w.heap.size, 1, none⟩ = some (.slice A n c)) := Lib.hid (fun wx hb => ⟨by rw [cell_of_row _ _ 0 _ _ _ (box_on hb x0)]; rfl, by rw [cell_of_row _ _ 1 _ _ _ (box_on hb x0)]; rfl⟩)
  have s0 : w.heap.size < w0.heap.size := by rw [hw0]; simp
  have HH := Lib.hid (h.on b0)
  have HR := Lib.hid (hr.on b0)
  have B0 := Lib.hid b0
  have HW := Lib.hid hw0
  have TW := Lib.hid tw
  have LO := Lib.hid lo
  clear h hr hw0 b0 x0 hl hin tw lo hR
  generalize rowB xs row lev = q at *
  by_cases h0 : m = 0
  · obtain rfl := Y0.out h0
    obtain rfl := h0
    go_enter Tryd.func22, Tryd.ntmps22
    go_wp2
    rw [← HW.out]
    refine wp_region_later (by kernel_rfl) (by kernel_rfl) ?_
    repeat (go_big_quiet_step (fail))
    refine wpQuiet_nil ?_
    intro _ hw'
    obtain ⟨s6, rfl⟩ := hw'
    have B6 := Lib.hid (B0.out.trans (s6.2.mono B0.out.size))
    go_wp2
    go_ret
    exact ⟨rfl, B6.out⟩
  have g0 : ((m : Int) == 0) = false := by simpa using h0
  obtain ⟨la, hla, hlan⟩ := HIN.out (m - 1) (by omega)
  have HLA := Lib.hid hla
  obtain ⟨b2, off2, rfl, hb2, hc2⟩ := HR.out.ints (by omega)
  obtain ⟨b, off, rfl, hb, hc⟩ := HH.out.nd (by omega)
  have HC2 := Lib.hid hc2
  have HC := Lib.hid hc
  have hml : 1 ≤ m := by omega
  have em : Hid (((m : Int) - 1) = ((m - 1 : Nat) : Int)) := Lib.hid (by omega)
  clear hla hc2 hc h0
  have p0 : ∀ s : Later w0, s.wd.cell? ⟨w.heap.size, 1, none⟩ = some (.slice (some ⟨b, off, none⟩) n c) := Later.of_cell (D0.out _ (Below.refl _ _)).2 (Below.refl _ _) s0
  have p1 : ∀ s : Later w0, s.wd.cell? ⟨b2, off2 + (m - 1), none⟩ = some (.int .i64 (la : Int)) := Later.of_cell (by rw [HC2.out (m - 1) (by omega), HLA.out]) (Below.refl _ _) hb2
  have p2 : ∀ s : Later w0, s.wd.cell? ⟨b, off + la * 5 + 3, none⟩ = some (.int .i64 (ndAt xs la).ri) := Later.of_cell (by obtain ⟨_, _, _, _, _, _, c3, _⟩ := HC.out la hlan; exact c3) (Below.refl _ _) hb
  have YL2 : Hid ((ndAt xs la).ri ≠ -1 → q = false) := Lib.hid (Y2.out la HLA.out)
  have YL4 : Hid (twiceB row = false → (ndAt xs la).ri = -1 → (∀ i, i < m → placeB xs row lev i = true) → q = true) := Lib.hid (fun h1 h2 h3 => Y4.out la hml h1 HLA.out h2 h3)
  generalize (ndAt xs la).ri = lri at *
  clear Y4 Y2
  generalize twiceB row = q1 at *
  cases q1
  rotate_left
  · obtain rfl := Y1.out rfl
    clear YL4 YL2 Y1
    go_enter Tryd.func22, Tryd.ntmps22
    go_wp2
    rw [← HW.out]
    refine wp_region_later (by kernel_rfl) (by kernel_rfl) ?_
    repeat (go_big_quiet_step ((go_at_call 37; exact Calls.later (TW.out _ (HR.out.on (Later.below _))))))
    refine wpQuiet_nil ?_
    intro _ hw'
    obtain ⟨s6, rfl⟩ := hw'
    have B6 := Lib.hid (B0.out.trans (s6.2.mono B0.out.size))
    go_wp2
    go_ret
    exact ⟨rfl, B6.out⟩
  by_cases hri : lri = -1
  rotate_left
  · obtain rfl := YL2.out hri
    have g1 : (lri != -1) = true := by simpa using hri
    clear YL4 YL2 Y1 hri
    go_enter Tryd.func22, Tryd.ntmps22
    go_wp2
    rw [← HW.out]
    refine wp_region_later (by kernel_rfl) (by kernel_rfl) ?_
    repeat (go_big_quiet_step ((go_at_call 37; exact Calls.later (TW.out _ (HR.out.on (Later.below _))))))
    refine wpQuiet_nil ?_
    intro _ hw'
    obtain ⟨s6, rfl⟩ := hw'
    have B6 := Lib.hid (B0.out.trans (s6.2.mono B0.out.size))
    go_wp2
    go_ret
    exact ⟨rfl, B6.out⟩
  have YA : Hid ((∀ i, i < m → placeB xs row lev i = true) → q = true) := Lib.hid (YL4.out rfl hri)
  have g1 : (lri != -1) = false := by simp [hri]
  have HRI := Lib.hid hri
  clear YL4 YL2 Y1 hri
  go_enter Tryd.func22, Tryd.ntmps22
  go_wp2
  rw [← HW.out]
  refine wp_region_later (by kernel_rfl) (by kernel_rfl) ?_
  repeat (go_big_quiet_step ((go_at_call 37; exact Calls.later (TW.out _ (HR.out.on (Later.below _))))))
  refine wpQuiet_nil ?_
  intro _ hw'
  obtain ⟨s6, rfl⟩ := hw'
  obtain ⟨w6, hw6⟩ : ∃ w6, w6 = s6.wd := ⟨_, rfl⟩
  have b6 : Below w0.heap.size w0 w6 := by rw [hw6]; exact s6.2
  rw [← hw6]
  have B6 := Lib.hid b6
  clear p0 p1 p2 hw6 g1 g0 b6
  obtain ⟨d0, d1⟩ := D0.out _ B6.out
  go_wp2_with fail
  refine (LO.out _ (HH.out.on B6.out) (HR.out.on B6.out)).mono ?_
  rintro e w7 ⟨v7, rfl, o7, b7⟩
  obtain ⟨Al, cl, rfl, _, _⟩ := own_shape o7
  have B7 := Lib.hid (bel_on B6.out b7)
  have RL : Hid (RS w7 w7.heap.size Al m (lowsTo xs row m)) := Lib.hid (by
    have := (OwnS.of_ints o7 (F := blkF _) (fun k hk => hk)).rd
    exact this)
  obtain ⟨b3, off3, rfl, hb3, hc3⟩ := RL.out.ints (by omega)
  have HC3 : Hid (∀ i, i < m → w7.cell? ⟨b3, off3 + i, none⟩ = some (.int .i64 (lowAt xs row i))) := Lib.hid (fun i hi => by rw [hc3 i hi, lowsTo_at _ _ _ _ hi])
  clear o7 b7 d0 d1 hc3 RL
  go_wp2
  go_loopw [8] (fun i wr => ∃ k : Nat, i = .int .i64 k ∧ k ≤ m ∧ Hid (∀ j, j < k → placeB xs row lev j = true) ∧ Hid (Below w7.heap.size w7 wr)) (fun i _ => m - (intOf i).toNat)
  case atStart => exact ⟨0, rfl, by omega, Lib.hid (by intro j hj; omega), Lib.hid (Below.refl _ _)⟩
  case round =>
    obtain ⟨k, rfl, hk, ho, hbw⟩ := hrel
    have BW := Lib.hid (bel_on B7.out hbw.out)
    by_cases hlt : k < m
    · obtain ⟨a, ha, han⟩ := HIN.out k hlt
      have P0 := Lib.hid (PB.out k a ha)
      have P1 : Hid (∀ wx, Below wr.heap.size wr wx → wx.cell? ⟨w.heap.size, 1, none⟩ = some (.slice (some ⟨b, off, none⟩) n c)) := Lib.hid (fun wx hx => (D0.out _ (bel_on BW.out hx)).2)
      have P2 : Hid (∀ wx, Below wr.heap.size wr wx → wx.cell? ⟨b2, off2 + k, none⟩ = some (.int .i64 (a : Int))) := Lib.hid (fun wx hx => by rw [(bel_on BW.out hx).cell (p := ⟨b2, off2 + k, none⟩) hb2, HC2.out k hlt, ha])
      have P3 : Hid (∀ wx, Below wr.heap.size wr wx → wx.cell? ⟨b3, off3 + k, none⟩ = some (.int .i64 (lowAt xs row k))) := Lib.hid (fun wx hx => by rw [(bel_on hbw.out hx).cell (p := ⟨b3, off3 + k, none⟩) hb3, HC3.out k hlt])
      obtain ⟨A2, n2, c2, e0, e1, e2, e3, e4, hP, _⟩ := HC.out a han
      have N0 : Hid (∀ wx, Below wr.heap.size wr wx → wx.cell? ⟨b, off + a * 5, none⟩ = some (.int .i64 (ndAt xs a).lv) ∧ wx.cell? ⟨b, off + a * 5 + 1, none⟩ = some (.slice A2 n2 c2) ∧ wx.cell? ⟨b, off + a * 5 + 2, none⟩ = some (.int .i64 (ndAt xs a).hi) ∧
          wx.cell? ⟨b, off + a * 5 + 3, none⟩ = some (.int .i64 (ndAt xs a).ri) ∧ wx.cell? ⟨b, off + a * 5 + 4, none⟩ = some (.int .i64 (ndAt xs a).ow)) :=
        Lib.hid (fun wx hx => ⟨((bel_on BW.out hx).cell (p := ⟨b, off + a * 5, none⟩) hb).trans e0, ((bel_on BW.out hx).cell (p := ⟨b, off + a * 5 + 1, none⟩) hb).trans e1, ((bel_on BW.out hx).cell (p := ⟨b, off + a * 5 + 2, none⟩) hb).trans e2, ((bel_on BW.out hx).cell (p := ⟨b, off + a * 5 + 3, none⟩) hb).trans e3, ((bel_on BW.out hx).cell (p := ⟨b, off + a * 5 + 4, none⟩) hb).trans e4⟩)
      have KD := Lib.hid (KID.out a han)
      have HP := Lib.hid hP
      clear e0 e1 e2 e3 e4 hP ha
      generalize lowAt xs row k = low at *
      generalize (ndAt xs a).lv = nlv at *
      generalize (ndAt xs a).hi = nhi at *
      generalize (ndAt xs a).ri = nri at *
      generalize (ndAt xs a).ow = now at *
      generalize (ndAt xs a).ps = nps at *
      obtain ⟨d1⟩ : (wr.cell? ⟨w.heap.size, 1, none⟩ = some (.slice (some ⟨b, off, none⟩) n c)) ∧ True := ⟨P1.out _ (Below.refl _ _), trivial⟩
      go_wp2
      go_cut [9] from 98 (fun u wc => ∃ p, u = .pointer (some ⟨p, 0, none⟩) ∧ Hid (p < wc.heap.size) ∧ Hid (wc.heap[p]? = some (.cells #[.int .i64 nlv, .slice A2 n2 c2, .int .i64 nhi, .int .i64 nri, .int .i64 now] 40 (0, 0))) ∧ Hid (Below wr.heap.size wr wc))
      case first =>
        go_region_held3 (fun w' => w'.cell? ⟨w.heap.size, 1, none⟩ = some (.slice (some ⟨b, off, none⟩) n c) ∧ w'.cell? ⟨b2, off2 + k, none⟩ = some (.int .i64 (a : Int)) ∧ w'.cell? ⟨b, off + a * 5, none⟩ = some (.int .i64 nlv) ∧ w'.cell? ⟨b, off + a * 5 + 1, none⟩ = some (.slice A2 n2 c2) ∧ w'.cell? ⟨b, off + a * 5 + 2, none⟩ = some (.int .i64 nhi) ∧ w'.cell? ⟨b, off + a * 5 + 3, none⟩ = some (.int .i64 nri) ∧ w'.cell? ⟨b, off + a * 5 + 4, none⟩ = some (.int .i64 now))
          (first | exact ⟨P1.out _ (Below.refl _ _), P2.out _ (Below.refl _ _), N0.out _ (Below.refl _ _)⟩ | exact ⟨P1.out _ (Below.refl _ _).drew, P2.out _ (Below.refl _ _).drew, N0.out _ (Below.refl _ _).drew⟩ | exact ⟨P1.out _ (below_alloc (Below.refl _ _).drew _), P2.out _ (below_alloc (Below.refl _ _).drew _), N0.out _ (below_alloc (Below.refl _ _).drew _)⟩)
          (fail)
        go_step
        go_step
        go_meet
        case rel => exact ⟨_, rfl, Lib.hid (by simp), Lib.hid (heap_alloc_new wr _), Lib.hid (below_alloc (Below.refl _ _) _).drew⟩
      case rest =>
        obtain ⟨p, rfl, hp, hx, hbc⟩ := hcut
        have X0 : Hid (∀ wx, Below wc.heap.size wc wx → wx.cell? ⟨p, 0, none⟩ = some (.int .i64 nlv) ∧ wx.cell? ⟨p, 1, none⟩ = some (.slice A2 n2 c2) ∧ wx.cell? ⟨p, 2, none⟩ = some (.int .i64 nhi)) :=
          Lib.hid (fun wx hb => ⟨by rw [cell_of_row _ _ 0 _ _ _ (box_on hb hx.out)]; rfl, by rw [cell_of_row _ _ 1 _ _ _ (box_on hb hx.out)]; rfl, by rw [cell_of_row _ _ 2 _ _ _ (box_on hb hx.out)]; rfl⟩)
        have BC := Lib.hid (bel_on BW.out hbc.out)
        clear d1
        obtain ⟨x0, x1, x2⟩ := X0.out _ (Below.refl _ _)
        by_cases hlv : nlv = lev
        rotate_left
        · have g1 : (nlv != lev) = true := by simpa using hlv
          have hq := Y3.out k hlt (by rw [P0.out, decide_eq_false hlv]; rfl)
          have HQ := Lib.hid hq
          clear hq hlv
          go_wp2
          go_ret
          exact ⟨ret_bool HQ.out.symm, B0.out.trans (BC.out.mono B0.out.size)⟩
        have g1 : (nlv != lev) = false := by simp [hlv]
        have PQ : Hid (placeB xs row lev k = !badB nhi low lev (kAt nps 0) nps.length) := Lib.hid (by rw [P0.out, decide_eq_true hlv]; rfl)
        have KD2 : Hid (0 < lev → 0 < n2) := Lib.hid (fun h => by rw [← HP.out.1]; exact KD.out (by omega))
        have HLN : Hid (nps.length = n2) := Lib.hid HP.out.1
        clear hlv
        go_wp2
        go_cut [97] from 98 (fun u wx => u = .bool (badB nhi low lev (kAt nps 0) n2) ∧ Hid (Below wc.heap.size wc wx))
        case first =>
          clear x0 x1 x2 g1
          have y1 : ∀ s : Later wc, s.wd.cell? ⟨p, 1, none⟩ = some (.slice A2 n2 c2) := fun s => (X0.out _ s.2).2.1
          have y2 : ∀ s : Later wc, s.wd.cell? ⟨p, 2, none⟩ = some (.int .i64 nhi) := fun s => (X0.out _ s.2).2.2
          have y3 : ∀ s : Later wc, s.wd.cell? ⟨b3, off3 + k, none⟩ = some (.int .i64 low) := fun s => P3.out _ (hbc.out.trans (s.2.mono hbc.out.size))
          have Y4 : Hid (0 < n2 → ∃ b4 off4, A2 = some ⟨b4, off4, none⟩ ∧ ∀ s : Later wc, s.wd.cell? ⟨b4, off4, none⟩ = some (.int .i64 (kAt nps 0))) := Lib.hid (fun h => by
            obtain ⟨b4, off4, e, hb4, hc4⟩ := HP.out.2 h
            refine ⟨b4, off4, e, fun s => ?_⟩
            have := (hc4 0 h).1
            simp only [Nat.zero_mul, Nat.add_zero] at this
            have hz := (BC.out.trans (s.2.mono BC.out.size)).cell (p := ⟨b4, off4, none⟩) hb4
            exact hz.trans this)
          clear HP
          generalize kAt nps 0 = k0 at *
          by_cases h1 : nhi = -1
          · have g1 : (nhi != -1) = false := by simpa using h1
            clear h1
            by_cases h3 : 0 < n2
            · have g3 : decide (0 < n2) = true := by simpa using h3
              have hn3 : decide ((0 : Int) < (n2 : Int)) = true := by simpa using h3
              have hnp : 0 < n2 := h3
              obtain ⟨b4, off4, e4, y4⟩ := Y4.out hnp; cases e4
              by_cases h4 : k0 < low
              · have g4 : decide (k0 < low) = true := by simpa using h4
                clear h4
                refine wp_region_later (by kernel_rfl) (by kernel_rfl) ?_
                repeat (go_big_quiet_step (fail))
                refine wpQuiet_nil ?_
                intro _ hw'
                obtain ⟨s6, rfl⟩ := hw'
                go_step
                go_step
                go_meet
                case rel => exact ⟨by unfold badB; simp only [g1, g3, g4]; rfl, Lib.hid s6.2⟩
              · have g4 : decide (k0 < low) = false := by simpa using h4
                clear h4
                by_cases h5 : 0 < lev
                · have g5 : decide (0 < lev) = true := by simpa using h5
                  have hnp : 0 < n2 := KD2.out h5
                  obtain ⟨b4, off4, e4, y4⟩ := Y4.out hnp; cases e4
                  by_cases h6 : k0 = low
                  · have g6 : (k0 != low) = false := by simpa using h6
                    clear h6
                    refine wp_region_later (by kernel_rfl) (by kernel_rfl) ?_
                    repeat (go_big_quiet_step (fail))
                    refine wpQuiet_nil ?_
                    intro _ hw'
                    obtain ⟨s6, rfl⟩ := hw'
                    go_step
                    go_step
                    go_meet
                    case rel => exact ⟨by unfold badB; simp only [g1, g3, g4, g5, g6]; rfl, Lib.hid s6.2⟩
                  · have g6 : (k0 != low) = true := by simpa using h6
                    clear h6
                    refine wp_region_later (by kernel_rfl) (by kernel_rfl) ?_
                    repeat (go_big_quiet_step (fail))
                    refine wpQuiet_nil ?_
                    intro _ hw'
                    obtain ⟨s6, rfl⟩ := hw'
                    go_step
                    go_step
                    go_meet
                    case rel => exact ⟨by unfold badB; simp only [g1, g3, g4, g5, g6]; rfl, Lib.hid s6.2⟩
                · have g5 : decide (0 < lev) = false := by simpa using h5
                  clear h5
                  refine wp_region_later (by kernel_rfl) (by kernel_rfl) ?_
                  repeat (go_big_quiet_step (fail))
                  refine wpQuiet_nil ?_
                  intro _ hw'
                  obtain ⟨s6, rfl⟩ := hw'
                  go_step
                  go_step
                  go_meet
                  case rel => exact ⟨by unfold badB; simp only [g1, g3, g4, g5]; rfl, Lib.hid s6.2⟩
            · have g3 : decide (0 < n2) = false := by simpa using h3
              have hn3 : decide ((0 : Int) < (n2 : Int)) = false := by simpa using h3
              by_cases h5 : 0 < lev
              · have g5 : decide (0 < lev) = true := by simpa using h5
                exact absurd (KD2.out h5) h3
              · have g5 : decide (0 < lev) = false := by simpa using h5
                clear h5
                refine wp_region_later (by kernel_rfl) (by kernel_rfl) ?_
                repeat (go_big_quiet_step (fail))
                refine wpQuiet_nil ?_
                intro _ hw'
                obtain ⟨s6, rfl⟩ := hw'
                go_step
                go_step
                go_meet
                case rel => exact ⟨by unfold badB; simp only [g1, g3, g5]; rfl, Lib.hid s6.2⟩
          · have g1 : (nhi != -1) = true := by simpa using h1
            clear h1
            by_cases h2 : nhi ≤ low
            · have g2 : decide (nhi ≤ low) = true := by simpa using h2
              clear h2
              refine wp_region_later (by kernel_rfl) (by kernel_rfl) ?_
              repeat (go_big_quiet_step (fail))
              refine wpQuiet_nil ?_
              intro _ hw'
              obtain ⟨s6, rfl⟩ := hw'
              go_step
              go_step
              go_meet
              case rel => exact ⟨by unfold badB; simp only [g1, g2]; rfl, Lib.hid s6.2⟩
            · have g2 : decide (nhi ≤ low) = false := by simpa using h2
              clear h2
              by_cases h3 : 0 < n2
              · have g3 : decide (0 < n2) = true := by simpa using h3
                have hn3 : decide ((0 : Int) < (n2 : Int)) = true := by simpa using h3
                have hnp : 0 < n2 := h3
                obtain ⟨b4, off4, e4, y4⟩ := Y4.out hnp; cases e4
                by_cases h4 : k0 < low
                · have g4 : decide (k0 < low) = true := by simpa using h4
                  clear h4
                  refine wp_region_later (by kernel_rfl) (by kernel_rfl) ?_
                  repeat (go_big_quiet_step (fail))
                  refine wpQuiet_nil ?_
                  intro _ hw'
                  obtain ⟨s6, rfl⟩ := hw'
                  go_step
                  go_step
                  go_meet
                  case rel => exact ⟨by unfold badB; simp only [g1, g2, g3, g4]; rfl, Lib.hid s6.2⟩
                · have g4 : decide (k0 < low) = false := by simpa using h4
                  clear h4
                  by_cases h5 : 0 < lev
                  · have g5 : decide (0 < lev) = true := by simpa using h5
                    have hnp : 0 < n2 := KD2.out h5
                    obtain ⟨b4, off4, e4, y4⟩ := Y4.out hnp; cases e4
                    by_cases h6 : k0 = low
                    · have g6 : (k0 != low) = false := by simpa using h6
                      clear h6
                      refine wp_region_later (by kernel_rfl) (by kernel_rfl) ?_
                      repeat (go_big_quiet_step (fail))
                      refine wpQuiet_nil ?_
                      intro _ hw'
                      obtain ⟨s6, rfl⟩ := hw'
                      go_step
                      go_step
                      go_meet
                      case rel => exact ⟨by unfold badB; simp only [g1, g2, g3, g4, g5, g6]; rfl, Lib.hid s6.2⟩
                    · have g6 : (k0 != low) = true := by simpa using h6
                      clear h6
                      refine wp_region_later (by kernel_rfl) (by kernel_rfl) ?_
                      repeat (go_big_quiet_step (fail))
                      refine wpQuiet_nil ?_
                      intro _ hw'
                      obtain ⟨s6, rfl⟩ := hw'
                      go_step
                      go_step
                      go_meet
                      case rel => exact ⟨by unfold badB; simp only [g1, g2, g3, g4, g5, g6]; rfl, Lib.hid s6.2⟩
                  · have g5 : decide (0 < lev) = false := by simpa using h5
                    clear h5
                    refine wp_region_later (by kernel_rfl) (by kernel_rfl) ?_
                    repeat (go_big_quiet_step (fail))
                    refine wpQuiet_nil ?_
                    intro _ hw'
                    obtain ⟨s6, rfl⟩ := hw'
                    go_step
                    go_step
                    go_meet
                    case rel => exact ⟨by unfold badB; simp only [g1, g2, g3, g4, g5]; rfl, Lib.hid s6.2⟩
              · have g3 : decide (0 < n2) = false := by simpa using h3
                have hn3 : decide ((0 : Int) < (n2 : Int)) = false := by simpa using h3
                by_cases h5 : 0 < lev
                · have g5 : decide (0 < lev) = true := by simpa using h5
                  exact absurd (KD2.out h5) h3
                · have g5 : decide (0 < lev) = false := by simpa using h5
                  clear h5
                  refine wp_region_later (by kernel_rfl) (by kernel_rfl) ?_
                  repeat (go_big_quiet_step (fail))
                  refine wpQuiet_nil ?_
                  intro _ hw'
                  obtain ⟨s6, rfl⟩ := hw'
                  go_step
                  go_step
                  go_meet
                  case rel => exact ⟨by unfold badB; simp only [g1, g2, g3, g5]; rfl, Lib.hid s6.2⟩
        case rest =>
          obtain ⟨rfl, hbx⟩ := hcut
          have BX := Lib.hid (BC.out.trans (hbx.out.mono BC.out.size))
          have hq3 := Lib.hid (Y3.out k hlt)
          rw [HLN.out] at PQ
          generalize badB nhi low lev (kAt nps 0) n2 = bad at *
          cases bad
          · have ho2 : Hid (∀ j, j < k + 1 → placeB xs row lev j = true) := Lib.hid (fun j hj => by
              rcases Nat.lt_or_ge j k with h' | h'
              · exact ho.out j h'
              · obtain rfl : j = k := by omega
                exact PQ.out)
            go_wp2
            go_roundw
            case rel => exact ⟨k + 1, by go_num, by omega, ho2, Lib.hid (hbw.out.trans ((hbc.out.trans (hbx.out.mono hbc.out.size)).mono hbw.out.size))⟩
            case measure => simp [intOf]; omega
          · have HQ := Lib.hid (hq3.out PQ.out)
            go_wp2
            go_ret
            exact ⟨ret_bool HQ.out.symm, B0.out.trans (BX.out.mono B0.out.size)⟩
    · obtain rfl : k = m := by omega
      obtain rfl := YA.out ho.out
      go_wp2
      go_ret
      exact ⟨rfl, B0.out.trans (BW.out.mono B0.out.size)⟩
end Go.Proofs.YtlmhcifnikdliaaDoor
