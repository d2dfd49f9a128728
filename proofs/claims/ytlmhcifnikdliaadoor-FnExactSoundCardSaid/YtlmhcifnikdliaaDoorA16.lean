/- The walk of the model's l7Over. -/
import Derived.Test.YtlmhcifnikdliaaDoorA15
namespace Go.Proofs.YtlmhcifnikdliaaDoor
open Go.RowKit

def leadsTo (xs : List Nd) (below : List Int) (p : Pr) (j : Nat) : Bool := (List.range j).any fun j => iAt below j == p.2 && lowAt xs below j == p.1
theorem leadsTo_next (xs : List Nd) (below : List Int) (p : Pr) (j : Nat) : leadsTo xs below p (j + 1) = (leadsTo xs below p j || (iAt below j == p.2 && lowAt xs below j == p.1)) := by
  unfold leadsTo
  rw [List.range_succ, List.any_append]
  simp
theorem leadsTo_all (xs : List Nd) (below : List Int) (p : Pr) : leadsB xs below p = leadsTo xs below p below.length := rfl
theorem overB_no {xs : List Nd} {row below : List Int} (i a k : Nat) (hi : i < row.length) (ha : iAt row i = a) (hk : k < (ndAt xs a).ps.length) (h : leadsB xs below (kAt (ndAt xs a).ps k, vAt (ndAt xs a).ps k) = false) : overB xs row below = false := by
  unfold overB
  rw [List.all_eq_false]
  refine ⟨i, List.mem_range.2 hi, ?_⟩
  rw [ha, Int.toNat_natCast, Bool.not_eq_true, List.all_eq_false]
  refine ⟨(ndAt xs a).ps[k], List.getElem_mem hk, ?_⟩
  rw [kAt_eq _ _ hk, vAt_eq _ _ hk] at h
  simpa using h
theorem overB_yes {xs : List Nd} {row below : List Int} (h : ∀ i a : Nat, i < row.length → iAt row i = a → ∀ k, k < (ndAt xs a).ps.length → leadsB xs below (kAt (ndAt xs a).ps k, vAt (ndAt xs a).ps k) = true) (hin : ∀ i, i < row.length → ∃ a : Nat, iAt row i = a) : overB xs row below = true := by
  unfold overB
  rw [List.all_eq_true]
  intro i hi
  obtain ⟨a, ha⟩ := hin i (List.mem_range.1 hi)
  rw [ha, Int.toNat_natCast, List.all_eq_true]
  intro p hp
  obtain ⟨k, hk, rfl⟩ := List.getElem_of_mem hp
  have := h i a (List.mem_range.1 hi) ha k hk
  rw [kAt_eq _ _ hk, vAt_eq _ _ hk] at this
  exact this

set_option maxRecDepth 100000 in
set_option maxHeartbeats 4000000 in
theorem l7Over_any (r : Int) (xs : List Nd) (A : Option Addr) (n c : Nat) (row : List Int) (Ar : Option Addr) (m cr : Nat) (below : List Int) (Ab : Option Addr) (mb cb : Nat) (w : World) (h : RS w w.heap.size A n xs) (hp : ∀ i, i < n → (ndAt xs i).ps.length ≤ 1048576) (hr : RS w w.heap.size Ar m row) (hm : m ≤ 1048576) (hin : RowIn n row)
    (hb : RS w w.heap.size Ab mb below) (hmb : mb ≤ 1048576) (hinb : RowIn n below) :
    Calls Tryd.prog 23 #[.agg #[.int .i64 r, .slice A n c], .slice Ar m cr, .slice Ab mb cb] w fun e w' => e = .returned (.bool (overB xs row below)) ∧ Below w.heap.size w w' := by
  have hl : row.length = m := hr.1
  have hlb : below.length = mb := hb.1
  have HIN : Hid (∀ i, i < m → ∃ a : Nat, iAt row i = a ∧ a < n) := Lib.hid (by rw [← hl]; exact hin)
  have lo := fun w h hr => lows_any r xs A n c below Ab mb cb w h hr hmb hinb
  have Y1 : Hid (∀ i a k : Nat, i < m → iAt row i = a → k < (ndAt xs a).ps.length → leadsTo xs below (kAt (ndAt xs a).ps k, vAt (ndAt xs a).ps k) mb = false → overB xs row below = false) := Lib.hid (fun i a k hi ha hk h => overB_no i a k (by omega) ha hk (by rw [leadsTo_all, hlb]; exact h))
  have Y2 : Hid ((∀ i a : Nat, i < m → iAt row i = a → ∀ k, k < (ndAt xs a).ps.length → leadsTo xs below (kAt (ndAt xs a).ps k, vAt (ndAt xs a).ps k) mb = true) → overB xs row below = true) := Lib.hid (fun h => overB_yes (fun i a hi ha k hk => by rw [leadsTo_all, hlb]; exact h i a (by omega) ha k hk) (fun i hi => by obtain ⟨a, ha, _⟩ := hin i hi; exact ⟨a, ha⟩))
  obtain ⟨w0, hw0⟩ : ∃ w0, w0 = w.alloc (.cells #[.int .i64 r, .slice A n c] 29) := ⟨_, rfl⟩
  have b0 : Below w.heap.size w w0 := by rw [hw0]; exact (Below.refl _ _).alloc (Nat.le_refl _) _
  have x0 : w0.heap[w.heap.size]? = some (.cells #[.int .i64 r, .slice A n c] 29 (0, 0)) := by rw [hw0]; exact heap_alloc_new _ _
  have D0 : Hid (∀ wx, Below w0.heap.size w0 wx → wx.cell? ⟨w.heap.size, 0, none⟩ = some (.int .i64 r) ∧ wx.cell? ⟨w.heap.size, 1, none⟩ = some (.slice A n c)) := Lib.hid (fun wx hb => ⟨by rw [cell_of_row _ _ 0 _ _ _ (box_on hb x0)]; rfl, by rw [cell_of_row _ _ 1 _ _ _ (box_on hb x0)]; rfl⟩)
  have HH := Lib.hid (h.on b0)
  have HR := Lib.hid (hr.on b0)
  have HB := Lib.hid (hb.on b0)
  have B0 := Lib.hid b0
  have HW := Lib.hid hw0
  have LO := Lib.hid lo
  have HPS := Lib.hid hp
  clear h hr hb hw0 b0 x0 hl hlb hin hinb lo hp
  generalize overB xs row below = q at *
  go_enter Tryd.func23, Tryd.ntmps23
  go_wp2_with fail
  rw [← HW.out]
  refine (LO.out _ HH.out HB.out).mono ?_
  rintro e w7 ⟨v7, rfl, o7, b7⟩
  obtain ⟨Al, cl, rfl, _, _⟩ := own_shape o7
  have B7 := Lib.hid b7
  have RL : Hid (RS w7 w7.heap.size Al mb (lowsTo xs below mb)) := Lib.hid (OwnS.of_ints o7 (F := blkF _) (fun k hk => hk)).rd
  clear o7 b7
  go_wp2
  go_loopw [8] (fun i wr => ∃ k : Nat, i = .int .i64 k ∧ k ≤ m ∧ Hid (∀ j a : Nat, j < k → iAt row j = a → ∀ l, l < (ndAt xs a).ps.length → leadsTo xs below (kAt (ndAt xs a).ps l, vAt (ndAt xs a).ps l) mb = true) ∧ Hid (Below w7.heap.size w7 wr)) (fun i _ => m - (intOf i).toNat)
  case atStart => exact ⟨0, rfl, by omega, Lib.hid (by intro j a hj; omega), Lib.hid (Below.refl _ _)⟩
  case round =>
    obtain ⟨i, rfl, hi, hd, hbw⟩ := hrel
    have BW := Lib.hid (bel_on B7.out hbw.out)
    by_cases hlt : i < m
    · obtain ⟨a, ha, han⟩ := HIN.out i hlt
      obtain ⟨b2, off2, rfl, hb2, hc2⟩ := HR.out.ints (by omega)
      obtain ⟨b, off, rfl, hb, hc⟩ := HH.out.nd (by omega)
      obtain ⟨A2, n2, c2, _, e1, _, _, _, hP, _⟩ := hc a han
      have hn2 : n2 ≤ 1048576 := by rw [← hP.1]; exact HPS.out a han
      have p0 : ∀ s : Later wr, s.wd.cell? ⟨w.heap.size, 1, none⟩ = some (.slice (some ⟨b, off, none⟩) n c) := fun s => (D0.out _ (bel_on BW.out s.2)).2
      have p1 : ∀ s : Later wr, s.wd.cell? ⟨b2, off2 + i, none⟩ = some (.int .i64 (a : Int)) := fun s => ((bel_on BW.out s.2).cell (p := ⟨b2, off2 + i, none⟩) hb2).trans (by rw [hc2 i hlt, ha])
      have p2 : ∀ s : Later wr, s.wd.cell? ⟨b, off + a * 5 + 1, none⟩ = some (.slice A2 n2 c2) := fun s => ((bel_on BW.out s.2).cell (p := ⟨b, off + a * 5 + 1, none⟩) hb).trans e1
      have YF := Lib.hid (fun k => Y1.out i a k hlt ha)
      have HD2 : Hid ((∀ l, l < (ndAt xs a).ps.length → leadsTo xs below (kAt (ndAt xs a).ps l, vAt (ndAt xs a).ps l) mb = true) → ∀ j a : Nat, j < i + 1 → iAt row j = a → ∀ l, l < (ndAt xs a).ps.length → leadsTo xs below (kAt (ndAt xs a).ps l, vAt (ndAt xs a).ps l) mb = true) := Lib.hid (fun h j a' hj ha' => by
        rcases Nat.lt_or_ge j i with h' | h'
        · exact hd.out j a' h' ha'
        · obtain rfl : j = i := by omega
          obtain rfl : a' = a := by omega
          exact h)
      have HP := Lib.hid hP
      clear hc2 hc e1 hP ha
      generalize (ndAt xs a).ps = ps at *
      go_wp2
      refine wp_region_later (by kernel_rfl) (by kernel_rfl) ?_
      repeat (go_big_quiet_step (fail))
      refine wpQuiet_nil ?_
      intro _ hw'
      obtain ⟨s8, hs8⟩ := hw'
      have b8 : Below wr.heap.size wr s8.wd := s8.2
      rw [← hs8] at b8
      clear hs8
      rename_i wx8
      have B8 := Lib.hid (hbw.out.trans (b8.mono hbw.out.size))
      clear b8 p0 p1 p2
      go_wp2
      go_loopw [10, 11] (fun k _ w2 => ∃ j : Nat, k = .int .i64 j ∧ j ≤ n2 ∧ Hid (∀ l, l < j → leadsTo xs below (kAt ps l, vAt ps l) mb = true) ∧ Hid (Below w7.heap.size w7 w2)) (fun k _ _ => n2 - (intOf k).toNat)
      case atStart => exact ⟨0, rfl, by omega, Lib.hid (by intro l hl; omega), B8⟩
      case round =>
        obtain ⟨k, rfl, hk, hdk, hb9⟩ := hrel
        by_cases hlk : k < n2
        · obtain ⟨b4, off4, rfl, hb4, hc4⟩ := HP.out.2 (by omega)
          have HC4 := Lib.hid (hc4 k hlk)
          have YK := Lib.hid (YF.out k (by rw [HP.out.1]; exact hlk))
          clear hc4
          have hb4' : b4 < w7.heap.size := Nat.lt_of_lt_of_le hb4 B7.out.size
          have HDK : Hid (leadsTo xs below (kAt ps k, vAt ps k) mb = true → ∀ l, l < k + 1 → leadsTo xs below (kAt ps l, vAt ps l) mb = true) := Lib.hid (fun h l hl => by
            rcases Nat.lt_or_ge l k with h' | h'
            · exact hdk.out l h'
            · obtain rfl : l = k := by omega
              exact h)
          have YK2 : Hid (leadsTo xs below (kAt ps k, vAt ps k) mb = false → q = false) := YK
          clear YK
          generalize hpk : kAt ps k = pk at HC4 HDK YK2
          generalize hpv : vAt ps k = pv at HC4 HDK YK2
          have YK := YK2
          clear hpk hpv YK2
          go_wp2
          go_loopw [11, 12] (fun u j w3 => ∃ jj : Nat, u = .bool (leadsTo xs below (pk, pv) jj) ∧ j = .int .i64 jj ∧ jj ≤ mb ∧ Hid (Below w7.heap.size w7 w3)) (fun _ j _ => mb - (intOf j).toNat)
          case atStart => exact ⟨0, rfl, rfl, by omega, hb9⟩
          case round =>
            obtain ⟨jj, rfl, rfl, hjj, h11⟩ := hrel
            by_cases hlj : jj < mb
            · rename_i w11 _ _
              have NX : Hid (leadsTo xs below (pk, pv) (jj + 1) = (leadsTo xs below (pk, pv) jj || (iAt below jj == pv && lowAt xs below jj == pk))) := Lib.hid (leadsTo_next xs below (pk, pv) jj)
              obtain ⟨b5, off5, rfl, hb5, hc5⟩ := HB.out.ints (by omega)
              obtain ⟨b6, off6, rfl, hb6, hc6⟩ := RL.out.ints (by omega)
              have BT := Lib.hid (bel_on B7.out h11.out)
              have p0 := fun s : Later wr => ((bel_on BT.out s.2).cell (p := ⟨b5, off5 + jj, none⟩) hb5).trans (hc5 jj hlj)
              have p1 := fun s : Later wr => ((bel_on h11.out s.2).cell (p := ⟨b6, off6 + jj, none⟩) hb6).trans (by rw [hc6 jj hlj, lowsTo_at _ _ _ _ hlj])
              have p2 := fun s : Later wr => ((bel_on BT.out s.2).cell (p := ⟨b4, off4 + k * 2, none⟩) hb4).trans HC4.out.1
              have p3 := fun s : Later wr => ((bel_on BT.out s.2).cell (p := ⟨b4, off4 + k * 2 + 1, none⟩) hb4).trans HC4.out.2
              change ∀ s : Later wr, s.wd.cell? _ = _ at p0 p1 p2 p3
              clear hc5 hc6
              generalize leadsTo xs below (pk, pv) jj = isb at *
              generalize iAt below jj = x at *
              generalize lowAt xs below jj = y at *
              cases isb
              · by_cases hx : x = pv
                · have g1 : (x == pv) = true := by simpa using hx
                  clear hx
                  by_cases hy : y = pk
                  · have g2 : (y == pk) = true := by simpa using hy
                    clear hy
                    rw [g1, g2] at NX
                    go_wp2
                    refine wp_region_later (by kernel_rfl) (by kernel_rfl) ?_
                    repeat (go_big_quiet_step (fail))
                    refine wpQuiet_nil ?_
                    intro _ hw'
                    obtain ⟨s6, rfl⟩ := hw'
                    have B6 := Lib.hid (h11.out.trans (s6.2.mono h11.out.size))
                    go_wp2
                    go_roundw
                    case rel => exact ⟨jj + 1, by rw [NX.out]; try rfl, by go_num, by omega, B6⟩
                    case measure => simp [intOf]; omega
                  · have g2 : (y == pk) = false := by simpa using hy
                    clear hy
                    rw [g1, g2] at NX
                    go_wp2
                    refine wp_region_later (by kernel_rfl) (by kernel_rfl) ?_
                    repeat (go_big_quiet_step (fail))
                    refine wpQuiet_nil ?_
                    intro _ hw'
                    obtain ⟨s6, rfl⟩ := hw'
                    have B6 := Lib.hid (h11.out.trans (s6.2.mono h11.out.size))
                    go_wp2
                    go_roundw
                    case rel => exact ⟨jj + 1, by rw [NX.out]; try rfl, by go_num, by omega, B6⟩
                    case measure => simp [intOf]; omega
                · have g1 : (x == pv) = false := by simpa using hx
                  clear hx
                  rw [g1] at NX
                  go_wp2
                  refine wp_region_later (by kernel_rfl) (by kernel_rfl) ?_
                  repeat (go_big_quiet_step (fail))
                  refine wpQuiet_nil ?_
                  intro _ hw'
                  obtain ⟨s6, rfl⟩ := hw'
                  have B6 := Lib.hid (h11.out.trans (s6.2.mono h11.out.size))
                  go_wp2
                  go_roundw
                  case rel => exact ⟨jj + 1, by rw [NX.out]; try rfl, by go_num, by omega, B6⟩
                  case measure => simp [intOf]; omega
              · go_wp2
                refine wp_region_later (by kernel_rfl) (by kernel_rfl) ?_
                repeat (go_big_quiet_step (fail))
                refine wpQuiet_nil ?_
                intro _ hw'
                obtain ⟨s6, rfl⟩ := hw'
                have B6 := Lib.hid (h11.out.trans (s6.2.mono h11.out.size))
                go_wp2
                go_roundw
                case rel => exact ⟨jj + 1, by rw [NX.out]; try rfl, by go_num, by omega, B6⟩
                case measure => simp [intOf]; omega
            · obtain rfl : jj = mb := by omega
              generalize leadsTo xs below (pk, pv) jj = isb at *
              cases isb
              · have HQ := Lib.hid (YK.out rfl)
                go_wp2
                go_ret
                exact ⟨ret_bool HQ.out.symm, B0.out.trans ((B7.out.trans (h11.out.mono B7.out.size)).mono B0.out.size)⟩
              · have HDN := Lib.hid (HDK.out rfl)
                go_wp2
                go_roundw
                case rel => exact ⟨k + 1, by go_num, by omega, HDN, h11⟩
                case measure => simp [intOf]; omega
        · obtain rfl : k = n2 := by omega
          have HDN := Lib.hid (HD2.out (by rw [HP.out.1]; exact hdk.out))
          go_wp2
          go_roundw
          case rel => exact ⟨i + 1, by go_num, by omega, HDN, hb9⟩
          case measure => simp [intOf]; omega
    · obtain rfl : i = m := by omega
      obtain rfl := Y2.out hd.out
      go_wp2
      go_ret
      exact ⟨rfl, B0.out.trans (BW.out.mono B0.out.size)⟩
end Go.Proofs.YtlmhcifnikdliaaDoor
