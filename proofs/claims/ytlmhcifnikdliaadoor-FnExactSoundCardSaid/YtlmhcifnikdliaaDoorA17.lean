/- The walk of the model's Sound. -/
import Derived.Test.YtlmhcifnikdliaaDoorA16
import Derived.IntWalk
import Derived.StillTailTactics
import Derived.Sort.AtCall
namespace Go.Proofs.YtlmhcifnikdliaaDoor
open Go.RowKit

theorem soundB_not {r : Int} {xs : List Nd} (h : treeOk r xs = false) : soundB r xs = false := by unfold soundB; rw [h]; rfl
theorem soundB_no {r : Int} {xs : List Nd} (l : Nat) (hl : (l : Int) ≤ lvAt xs r.toNat) (h : levelB r xs l = false) : soundB r xs = false := by
  unfold soundB
  have : (List.range ((lvAt xs r.toNat).toNat + 1)).all (levelB r xs) = false := by
    rw [List.all_eq_false]
    exact ⟨l, List.mem_range.2 (by omega), by simp [h]⟩
  rw [this]; simp
theorem soundB_yes {r : Int} {xs : List Nd} (h0 : treeOk r xs = true) (h1 : 0 ≤ lvAt xs r.toNat) (h : ∀ l : Nat, (l : Int) ≤ lvAt xs r.toNat → levelB r xs l = true) : soundB r xs = true := by
  unfold soundB
  have : (List.range ((lvAt xs r.toNat).toNat + 1)).all (levelB r xs) = true := by
    rw [List.all_eq_true]
    intro l hl
    rw [List.mem_range] at hl
    exact h l (by omega)
  rw [this, h0]; rfl
theorem levelB_row {r : Int} {xs : List Nd} {l : Nat} (h : rowB xs (rowT r xs l) l = false) : levelB r xs l = false := by unfold levelB; rw [h]; rfl
theorem levelB_zero {r : Int} {xs : List Nd} {l : Nat} (h : rowB xs (rowT r xs l) l = true) (h0 : l = 0) : levelB r xs l = true := by unfold levelB; rw [h, decide_eq_true h0]; rfl
theorem levelB_over {r : Int} {xs : List Nd} {l : Nat} {q : Bool} (h : rowB xs (rowT r xs l) l = true) (h0 : l ≠ 0) (hq : overB xs (rowT r xs l) (rowT r xs ((l : Int) - 1)) = q) : levelB r xs l = q := by unfold levelB; rw [h, decide_eq_false h0, hq]; simp

set_option maxRecDepth 100000 in
set_option maxHeartbeats 4000000 in
theorem sSound_any (r : Int) (xs : List Nd) (A : Option Addr) (n c : Nat) (w : World) (h : RS w w.heap.size A n xs) (hs : Small.sm xs) :
    Calls Tryd.prog 7 #[.agg #[.int .i64 r, .slice A n c]] w fun e w' => e = .returned (.bool (soundB r xs)) ∧ Below w.heap.size w w' := by
  have hl := h.1
  have tk : ∀ w, RS w w.heap.size A n xs → Calls Tryd.prog 20 #[.agg #[.int .i64 r, .slice A n c]] w fun e w' => e = .returned (.bool (treeOk r xs)) ∧ Below w.heap.size w w' := fun w h => sTreeOk_any r xs A n c w h hs
  have RT : Hid (treeOk r xs = true → Right n r xs) := Lib.hid (fun hq => by rw [← hl]; exact right_of hq)
  have Y0 : Hid (treeOk r xs = false → soundB r xs = false) := Lib.hid soundB_not
  have Y1 : Hid (∀ l : Nat, (l : Int) ≤ lvAt xs r.toNat → levelB r xs l = false → soundB r xs = false) := Lib.hid (fun l hl h => soundB_no l hl h)
  have Y2 : Hid (treeOk r xs = true → 0 ≤ lvAt xs r.toNat → (∀ l : Nat, (l : Int) ≤ lvAt xs r.toNat → levelB r xs l = true) → soundB r xs = true) := Lib.hid (fun a b c => soundB_yes a b c)
  generalize soundB r xs = sb at *
  generalize treeOk r xs = q at *
  obtain ⟨w0, hw0⟩ : ∃ w0, w0 = w.alloc (.cells #[.int .i64 r, .slice A n c] 29) := ⟨_, rfl⟩
  have b0 : Below w.heap.size w w0 := by rw [hw0]; exact (Below.refl _ _).alloc (Nat.le_refl _) _
  have x0 : w0.heap[w.heap.size]? = some (.cells #[.int .i64 r, .slice A n c] 29 (0, 0)) := by rw [hw0]; exact heap_alloc_new _ _
  have D0 : Hid (∀ wx, Below w0.heap.size w0 wx → wx.cell? ⟨w.heap.size, 0, none⟩ = some (.int .i64 r) ∧ wx.cell? ⟨w.heap.size, 1, none⟩ = some (.slice A n c)) := Lib.hid (fun wx hb => ⟨by rw [cell_of_row _ _ 0 _ _ _ (box_on hb x0)]; rfl, by rw [cell_of_row _ _ 1 _ _ _ (box_on hb x0)]; rfl⟩)
  have HH := Lib.hid (h.on b0)
  have B0 := Lib.hid b0
  have HW := Lib.hid hw0
  have TK := Lib.hid tk
  have HPS : Hid (∀ i, i < n → (ndAt xs i).ps.length ≤ 1048576) := Lib.hid (by rw [← hl]; exact hs.2)
  clear h hs hw0 b0 x0 tk hl
  cases q
  · obtain rfl := Y0.out rfl
    go_enter Tryd.func7, Tryd.ntmps7
    go_wp2_with fail
    rw [← HW.out]
    refine (TK.out _ HH.out).mono ?_
    rintro e w1 ⟨rfl, b1⟩
    have B1 := Lib.hid (B0.out.trans (b1.mono B0.out.size))
    clear b1
    go_wp2
    go_ret
    exact ⟨rfl, B1.out⟩
  have hR := RT.out rfl
  obtain ⟨a0, rfl, han⟩ : ∃ a0 : Nat, r = a0 ∧ a0 < n := ⟨r.toNat, by have := hR.root; omega, by have := hR.root; omega⟩
  rw [Int.toNat_natCast] at Y1 Y2
  have hlv := hR.lv a0 han
  have YY : Hid ((∀ l : Nat, (l : Int) ≤ lvAt xs a0 → levelB a0 xs l = true) → sb = true) := Lib.hid (Y2.out rfl hlv.1)
  have HLV := Lib.hid hlv
  have HR := Lib.hid hR
  have RW := Lib.hid (fun lev w h => row_any a0 xs A n c lev w h hR)
  have KW := Lib.hid (fun lev Ar cr w h hr => l7Row_any a0 xs A n c (rowT a0 xs lev) Ar (rowT a0 xs lev).length cr lev w h hR hr (by have := rowT_len a0 xs lev; omega) (rowT_in hR lev))
  have OW := Lib.hid (fun lev Ar cr Ab cb w h hr hb => l7Over_any a0 xs A n c (rowT a0 xs lev) Ar (rowT a0 xs lev).length cr (rowT a0 xs (lev - 1)) Ab (rowT a0 xs (lev - 1)).length cb w h HPS.out hr (by have := rowT_len a0 xs lev; omega) (rowT_in hR lev) hb (by have := rowT_len a0 xs (lev - 1); omega) (rowT_in hR (lev - 1)))
  clear Y2 Y0 hlv hR RT HPS
  obtain ⟨b, off, hA, hb, hc⟩ := HH.out.nd (by omega)
  obtain ⟨_, _, _, e0, _⟩ := hc a0 han
  change w0.cell? _ = some (.int .i64 (lvAt xs a0)) at e0
  have E0 := Lib.hid e0
  have HA := Lib.hid hA
  clear hc e0 hA
  generalize hL : lvAt xs a0 = L at *
  clear hL
  go_enter Tryd.func7, Tryd.ntmps7
  go_wp2_with fail
  rw [← HW.out]
  refine (TK.out _ HH.out).mono ?_
  rintro e w1 ⟨rfl, b1⟩
  obtain ⟨d0, d1⟩ := D0.out _ b1
  have e1 := (b1.cell (p := ⟨b, off + a0 * 5, none⟩) hb).trans E0.out
  have B1 := Lib.hid b1
  rw [HA.out] at d1
  clear b1
  go_wp2
  clear d0 d1 e1
  go_loopw [3] (fun i wr => ∃ x : Int, i = .int .i64 x ∧ -1 ≤ x ∧ x ≤ 6 ∧ Hid (x ≤ L) ∧ Hid (∀ l : Nat, x < l → (l : Int) ≤ L → levelB a0 xs l = true) ∧ Hid (Below w0.heap.size w0 wr)) (fun i _ => (intOf i + 1).toNat)
  case atStart => exact ⟨L, rfl, by have := HLV.out; omega, by have := HLV.out; omega, Lib.hid (by omega), Lib.hid (by intro l h1 h2; omega), B1⟩
  case round =>
    obtain ⟨x, rfl, hx1, hx6, hxL, hd, hbw⟩ := hrel
    by_cases hx0 : 0 ≤ x
    · obtain ⟨l, rfl⟩ : ∃ l : Nat, x = l := ⟨x.toNat, by omega⟩
      have hq : decide ((0 : Int) ≤ (l : Int)) = true := by simp
      obtain ⟨d0, d1⟩ := D0.out _ hbw.out
      clear hx0
      go_wp2_with fail
      refine (RW.out l _ (HH.out.on hbw.out)).mono ?_
      rintro e w3 ⟨v3, rfl, o3, b3⟩
      obtain ⟨A3, c3, rfl, _, _⟩ := own_shape o3
      have B3 := Lib.hid (bel_on hbw.out b3)
      have R3 : Hid (RS w3 w3.heap.size A3 (rowT a0 xs l).length (rowT a0 xs l)) := Lib.hid (OwnS.of_ints o3 (F := blkF _) (fun k hk => hk)).rd
      have kw := KW.out l A3 c3
      have ow := OW.out l A3 c3
      have LR : Hid (rowB xs (rowT a0 xs l) l = false → levelB a0 xs l = false) := Lib.hid levelB_row
      have LZ : Hid (rowB xs (rowT a0 xs l) l = true → l = 0 → levelB a0 xs l = true) := Lib.hid levelB_zero
      have LV : Hid (rowB xs (rowT a0 xs l) l = true → l ≠ 0 → levelB a0 xs l = overB xs (rowT a0 xs l) (rowT a0 xs ((l : Int) - 1))) := Lib.hid (fun h h0 => levelB_over h h0 rfl)
      have YN : Hid (levelB a0 xs l = false → sb = false) := Lib.hid (Y1.out l hxL.out)
      have HD2 : Hid (levelB a0 xs l = true → ∀ j : Nat, (l : Int) - 1 < j → (j : Int) ≤ L → levelB a0 xs j = true) := Lib.hid (fun h j h1 h2 => by
        rcases Nat.lt_or_ge l j with h' | h'
        · exact hd.out j (by omega) h2
        · obtain rfl : j = l := by omega
          exact h)
      generalize rowB xs (rowT a0 xs l) l = q1 at *
      generalize overB xs (rowT a0 xs l) (rowT a0 xs ((l : Int) - 1)) = q2 at *
      have KW2 := Lib.hid kw
      have OW2 := Lib.hid ow
      clear d0 d1 o3 b3 kw ow
      obtain ⟨d0, d1⟩ := D0.out _ B3.out
      have p0 : ∀ s : Later w3, s.wd.cell? ⟨w.heap.size, 0, none⟩ = some (.int .i64 (a0 : Int)) := fun s => (D0.out _ (bel_on B3.out s.2)).1
      have p1 : ∀ s : Later w3, s.wd.cell? ⟨w.heap.size, 1, none⟩ = some (.slice A n c) := fun s => (D0.out _ (bel_on B3.out s.2)).2
      have HH3 := Lib.hid (HH.out.on B3.out)
      cases q1
      · have HQ := Lib.hid (YN.out (LR.out rfl))
        clear d0 d1
        go_wp2
        refine wp_region_later (by kernel_rfl) (by kernel_rfl) ?_
        repeat (go_big_quiet_step ((go_at_call 22; exact Calls.later (KW2.out _ (HH3.out.on (Later.below _)) (R3.out.on (Later.below _))))))
        refine wpQuiet_nil ?_
        intro _ hw'
        obtain ⟨s6, rfl⟩ := hw'
        have B6 := Lib.hid (B0.out.trans ((bel_on B3.out s6.2).mono B0.out.size))
        go_wp2
        go_ret
        exact ⟨ret_bool HQ.out.symm, B6.out⟩
      · by_cases hl0 : l = 0
        · have HN := Lib.hid (HD2.out (LZ.out rfl hl0))
          obtain rfl := hl0
          clear d0 d1
          go_wp2
          refine wp_region_later (by kernel_rfl) (by kernel_rfl) ?_
          repeat (go_big_quiet_step ((go_at_call 22; exact Calls.later (KW2.out _ (HH3.out.on (Later.below _)) (R3.out.on (Later.below _))))))
          refine wpQuiet_nil ?_
          intro _ hw'
          obtain ⟨s6, rfl⟩ := hw'
          have B6 := Lib.hid (bel_on B3.out s6.2)
          go_wp2
          go_roundw
          case rel => exact ⟨-1, rfl, by omega, by omega, Lib.hid (by have := hxL.out; omega), Lib.hid (by simpa using HN.out), B6⟩
          case measure => simp [intOf]
        · have g1 : decide (0 < l) = true := by simp; omega
          have LV2 := Lib.hid (LV.out rfl hl0)
          have hl1 : (1 : Int) ≤ (l : Int) := by omega
          have RW2 := Lib.hid (RW.out ((l : Int) - 1))
          clear p0 p1 hl0
          have K : Hid (∀ wx, Below w3.heap.size w3 wx → wx.cell? ⟨w.heap.size, 0, none⟩ = some (.int .i64 (a0 : Int)) ∧ wx.cell? ⟨w.heap.size, 1, none⟩ = some (.slice A n c)) := Lib.hid (fun wx hb => D0.out _ (bel_on B3.out hb))
          have hw1 : IntKind.i64.wrap ((l : Int) - 1) = (l : Int) - 1 := IntWalk.i64_in _ (by omega)
          go_wp2
          go_region_held3 (fun w' => w'.cell? ⟨w.heap.size, 0, none⟩ = some (.int .i64 (a0 : Int)) ∧ w'.cell? ⟨w.heap.size, 1, none⟩ = some (.slice A n c))
            (first
              | exact K.out _ (Below.refl _ _)
              | exact K.out _ (Below.refl _ _).drew
              | exact K.out _ (bel_on (bel_on (bel_drew b4) b5) b6)
              | exact K.out _ (bel_on (bel_drew b4) b5)
              | exact K.out _ (bel_drew b4))
            (first
              | (go_at_call 22; refine (KW2.out _ (HH3.out.on (Below.refl _ _).drew) (R3.out.on (Below.refl _ _).drew)).mono ?_; rintro e w4 ⟨rfl, b4⟩)
              | (go_at_call 21; refine (RW2.out _ (HH3.out.on (bel_drew b4))).mono ?_; rintro e w5 ⟨v5, rfl, o5, b5⟩; obtain ⟨A5, c5, rfl, _, _⟩ := own_shape o5)
              | (go_at_call 23; refine (OW2.out A5 c5 _ (HH3.out.on (bel_on (bel_drew b4) b5)) (R3.out.on (bel_on (bel_drew b4) b5)) (OwnS.of_ints o5 (F := blkF _) (fun k hk => hk)).rd).mono ?_; rintro e w6 ⟨rfl, b6⟩))
          have B6 := Lib.hid (bel_on B3.out (bel_on (bel_on (bel_drew b4) b5) b6))
          clear b4 b5 b6 o5 d0 d1 hw1
          cases q2
          · have HQ := Lib.hid (YN.out LV2.out)
            go_wp2
            go_ret
            exact ⟨ret_bool HQ.out.symm, B0.out.trans (B6.out.mono B0.out.size)⟩
          · have HN := Lib.hid (HD2.out LV2.out)
            go_wp2
            go_roundw
            case rel => exact ⟨(l : Int) - 1, rfl, by omega, by omega, Lib.hid (by have := hxL.out; omega), HN, B6⟩
            case measure => simp [intOf]
    · have hq : decide (0 ≤ x) = false := by simpa using hx0
      obtain rfl : x = -1 := by omega
      have HQ := Lib.hid (YY.out (fun l hl => hd.out l (by omega) hl))
      go_wp2
      go_ret
      exact ⟨ret_bool HQ.out.symm, B0.out.trans (hbw.out.mono B0.out.size)⟩
end Go.Proofs.YtlmhcifnikdliaaDoor
namespace Go.Proofs.YtlmhcifnikdliaaDoor
open Go.RowKit

def pairTo (ps : List Pr) (a : Int) (j : Nat) : Bool := (ps.take j).any fun p => p.2 == a
theorem pairTo_next (ps : List Pr) (a : Int) (j : Nat) (h : j < ps.length) : pairTo ps a (j + 1) = (pairTo ps a j || vAt ps j == a) := by
  unfold pairTo
  rw [List.take_succ_eq_append_getElem h, List.any_append, vAt_eq _ _ h]
  simp
def hasTo (xs : List Nd) (above : List Int) (a : Int) (k : Nat) : Bool := (List.range k).any fun k => (ndAt xs (iAt above k).toNat).ps.any fun p => p.2 == a
theorem toldRow_no {xs : List Nd} {row above : List Int} (i : Nat) (hi : i < row.length) (h : hasTo xs above (iAt row i) above.length = false) : toldRow xs row above = false := by
  unfold toldRow
  rw [List.all_eq_false]
  refine ⟨i, List.mem_range.2 hi, ?_⟩
  have : hasPair xs above (iAt row i) = hasTo xs above (iAt row i) above.length := rfl
  rw [this, h]; simp
theorem toldRow_yes {xs : List Nd} {row above : List Int} (h : ∀ i, i < row.length → hasTo xs above (iAt row i) above.length = true) : toldRow xs row above = true := by
  unfold toldRow
  rw [List.all_eq_true]
  intro i hi
  exact h i (List.mem_range.1 hi)

end Go.Proofs.YtlmhcifnikdliaaDoor
namespace Go.Proofs.YtlmhcifnikdliaaDoor
open Go.RowKit

theorem toldB_no {r : Int} {xs : List Nd} (l : Nat) (hl : (l : Int) < lvAt xs r.toNat) (h : toldRow xs (rowT r xs l) (rowT r xs ((l : Int) + 1)) = false) : toldB r xs = false := by
  unfold toldB
  have : (List.range (lvAt xs r.toNat).toNat).all (fun l : Nat => toldRow xs (rowT r xs l) (rowT r xs ((l : Int) + 1))) = false := by
    rw [List.all_eq_false]
    exact ⟨l, List.mem_range.2 (by omega), by simp [h]⟩
  rw [this]; simp
theorem toldB_yes {r : Int} {xs : List Nd} (h0 : soundB r xs = true) (h : ∀ l : Nat, (l : Int) < lvAt xs r.toNat → toldRow xs (rowT r xs l) (rowT r xs ((l : Int) + 1)) = true) : toldB r xs = true := by
  unfold toldB
  have : (List.range (lvAt xs r.toNat).toNat).all (fun l : Nat => toldRow xs (rowT r xs l) (rowT r xs ((l : Int) + 1))) = true := by
    rw [List.all_eq_true]
    intro l hl
    rw [List.mem_range] at hl
    exact h l (by omega)
  rw [this, h0]; rfl

end Go.Proofs.YtlmhcifnikdliaaDoor
