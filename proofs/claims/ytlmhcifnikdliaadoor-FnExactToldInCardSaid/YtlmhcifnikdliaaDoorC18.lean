/- The walk of the model's ToldIn. -/
import Derived.Test.YtlmhcifnikdliaaDoorC17
import Derived.Test.YtlmhcifnikdliaaDoorC11
namespace Go.Proofs.YtlmhcifnikdliaaDoor
open Go.RowKit

theorem toldB_not {r : Int} {xs : List Nd} (h : soundB r xs = false) : toldB r xs = false := by unfold toldB; rw [h]; rfl
theorem toldB_no {r : Int} {xs : List Nd} (l : Nat) (hl : (l : Int) < lvAt xs r.toNat) (h : toldRow xs (rowT r xs l) (rowT r xs ((l : Int) + 1)) = false) : toldB r xs = false := by
  unfold toldB
  have : (List.range (lvAt xs r.toNat).toNat).all (fun l : Nat => toldRow xs (rowT r xs l) (rowT r xs ((l : Int) + 1))) = false := by
    rw [List.all_eq_false]
    exact ⟨l, List.mem_range.2 (by omega), by simp [h]⟩
  rw [this]; simp
theorem toldB_yes {r : Int} {xs : List Nd} (h0 : soundB r xs = true) (h : ∀ l : Nat, (l : Int) < lvAt xs r.toNat → toldRow xs (rowT r xs l) (rowT r xs ((l : Int) + 1)) = true) : toldB r xs = true := by
  unfold toldB
  have : (List.range (lvAt xs r.toNat).toNat).all (fun l : Nat => toldRow xs (rowT r xs l) (rowT r xs ((l : Int) + 1))) = true := by
    rw [List.all_eq_true]
    intro l hl
    rw [List.mem_range] at hl
    exact h l (by omega)
  rw [this, h0]; rfl

set_option maxRecDepth 100000 in
set_option maxHeartbeats 4000000 in
theorem sToldIn_any (r : Int) (xs : List Nd) (A : Option Addr) (n c : Nat) (w : World) (h : RS w w.heap.size A n xs) (hs : Small.sm xs) :
    Calls Tryd.prog 17 #[.agg #[.int .i64 r, .slice A n c]] w fun e w' => e = .returned (.bool (toldB r xs)) ∧ Below w.heap.size w w' := by
  have hl := h.1
  have tk : ∀ w, RS w w.heap.size A n xs → Calls Tryd.prog 7 #[.agg #[.int .i64 r, .slice A n c]] w fun e w' => e = .returned (.bool (soundB r xs)) ∧ Below w.heap.size w w' := fun w h => sSound_any r xs A n c w h hs
  have RT : Hid (soundB r xs = true → Right n r xs) := Lib.hid (fun hq => by rw [← hl]; exact right_of (sound_ok hq))
  have Y0 : Hid (soundB r xs = false → toldB r xs = false) := Lib.hid toldB_not
  have Y1 : Hid (∀ l : Nat, (l : Int) < lvAt xs r.toNat → toldRow xs (rowT r xs l) (rowT r xs ((l : Int) + 1)) = false → toldB r xs = false) := Lib.hid (fun l hl h => toldB_no l hl h)
  have Y2 : Hid (soundB r xs = true → (∀ l : Nat, (l : Int) < lvAt xs r.toNat → toldRow xs (rowT r xs l) (rowT r xs ((l : Int) + 1)) = true) → toldB r xs = true) := Lib.hid (fun a c => toldB_yes a c)
  generalize toldB r xs = sb at *
  generalize soundB r xs = q at *
  obtain ⟨w0, hw0⟩ : ∃ w0, w0 = w.alloc (.cells #[.int .i64 r, .slice A n c] 29) := ⟨_, rfl⟩
  have b0 : Below w.heap.size w w0 := by rw [hw0]; exact (Below.refl _ _).alloc (Nat.le_refl _) _
  have x0 : w0.heap[w.heap.size]? = some (.cells #[.int .i64 r, .slice A n c] 29 (0, 0)) := by rw [hw0]; exact heap_alloc_new _ _
  have D0 : Hid (∀ wx, Below w0.heap.size w0 wx → wx.cell? ⟨w.heap.size, 0, none⟩ = some (.int .i64 r) ∧ wx.cell? ⟨w.heap.size, 1, none⟩ = some (.slice A n c)) := Lib.hid (fun wx hb => ⟨by rw [cell_of_row _ _ 0 _ _ _ (box_on hb x0)]; rfl, by rw [cell_of_row _ _ 1 _ _ _ (box_on hb x0)]; rfl⟩)
  have HH := Lib.hid (h.on b0)
  have B0 := Lib.hid b0
  have HW := Lib.hid hw0
  have TK := Lib.hid tk
  have HPS : Hid (∀ i, i < n → (ndAt xs i).ps.length ≤ 1048576) := Lib.hid (by rw [← hl]; exact hs.2)
  clear h hs hw0 b0 x0 tk hl
  cases q
  · obtain rfl := Y0.out rfl
    go_enter Tryd.func17, Tryd.ntmps17
    go_wp2_with fail
    rw [← HW.out]
    refine (TK.out _ HH.out).mono ?_
    rintro e w1 ⟨rfl, b1⟩
    have B1 := Lib.hid (B0.out.trans (b1.mono B0.out.size))
    clear b1
    go_wp2
    go_ret
    exact ⟨rfl, B1.out⟩
  have hR := RT.out rfl
  obtain ⟨a0, rfl, han⟩ : ∃ a0 : Nat, r = a0 ∧ a0 < n := ⟨r.toNat, by have := hR.root; omega, by have := hR.root; omega⟩
  rw [Int.toNat_natCast] at Y1 Y2
  have hlv := hR.lv a0 han
  have YY := Lib.hid (Y2.out rfl)
  have HLV := Lib.hid hlv
  have RW := Lib.hid (fun lev w h => row_any a0 xs A n c lev w h hR)
  have OW := Lib.hid (fun lev lev2 Ar cr Ab cb w h hr hb => l7Told_any a0 xs A n c (rowT a0 xs lev) Ar (rowT a0 xs lev).length cr (rowT a0 xs lev2) Ab (rowT a0 xs lev2).length cb w h HPS.out hr (by have := rowT_len a0 xs lev; omega) hb (by have := rowT_len a0 xs lev2; omega) (rowT_in hR lev2))
  clear Y2 Y0 hlv hR RT HPS
  obtain ⟨b, off, hA, hb, hc⟩ := HH.out.nd (by omega)
  obtain ⟨_, _, _, e0, _⟩ := hc a0 han
  change w0.cell? _ = some (.int .i64 (lvAt xs a0)) at e0
  have E0 := Lib.hid e0
  have HA := Lib.hid hA
  clear hc e0 hA
  generalize hL : lvAt xs a0 = L at *
  clear hL
  go_enter Tryd.func17, Tryd.ntmps17
  go_wp2_with fail
  rw [← HW.out]
  refine (TK.out _ HH.out).mono ?_
  rintro e w1 ⟨rfl, b1⟩
  obtain ⟨d0, d1⟩ := D0.out _ b1
  have e1 := (b1.cell (p := ⟨b, off + a0 * 5, none⟩) hb).trans E0.out
  have B1 := Lib.hid b1
  rw [HA.out] at d1
  clear b1
  go_wp2
  clear d0 d1 e1
  go_loopw [3] (fun i wr => ∃ x : Int, i = .int .i64 x ∧ 0 ≤ x ∧ x ≤ 6 ∧ Hid (x ≤ L) ∧ Hid (∀ l : Nat, x ≤ l → (l : Int) < L → toldRow xs (rowT a0 xs l) (rowT a0 xs ((l : Int) + 1)) = true) ∧ Hid (Below w0.heap.size w0 wr)) (fun i _ => (intOf i).toNat)
  case atStart => exact ⟨L, rfl, by have := HLV.out; omega, by have := HLV.out; omega, Lib.hid (by omega), Lib.hid (by intro l h1 h2; omega), B1⟩
  case round =>
    obtain ⟨x, rfl, hx1, hx6, hxL, hd, hbw⟩ := hrel
    by_cases hx0 : 0 < x
    · obtain ⟨l, hl⟩ : ∃ l : Nat, x = (l : Int) + 1 := ⟨(x - 1).toNat, by omega⟩
      have hq : decide ((0 : Int) < x) = true := by simpa using hx0
      obtain ⟨y, hy⟩ : ∃ y : Int, y = x - 1 := ⟨_, rfl⟩
      have hyl : y = l := by omega
      have ow := fun Ar cr Ab cb => OW.out y x Ar cr Ab cb
      have YN : Hid (toldRow xs (rowT a0 xs y) (rowT a0 xs x) = false → sb = false) := Lib.hid (fun h => Y1.out l (by have := hxL.out; omega) (by rw [hl, hyl] at h; exact h))
      have HD2 : Hid (toldRow xs (rowT a0 xs y) (rowT a0 xs x) = true → ∀ j : Nat, y ≤ j → (j : Int) < L → toldRow xs (rowT a0 xs j) (rowT a0 xs ((j : Int) + 1)) = true) := Lib.hid (fun h j h1 h2 => by
        rcases Nat.lt_or_ge l j with h' | h'
        · exact hd.out j (by omega) h2
        · obtain rfl : j = l := by omega
          rw [hl, hyl] at h; exact h)
      generalize toldRow xs (rowT a0 xs y) (rowT a0 xs x) = q2 at *
      have OW2 := Lib.hid ow
      have RX := Lib.hid (RW.out x)
      have RY := Lib.hid (RW.out y)
      have HY := Lib.hid hy
      have HYL : Hid (0 ≤ y ∧ y ≤ 6 ∧ y ≤ L) := Lib.hid (by have := hxL.out; omega)
      have K : Hid (∀ wx, Below wr.heap.size wr wx → wx.cell? ⟨w.heap.size, 0, none⟩ = some (.int .i64 (a0 : Int)) ∧ wx.cell? ⟨w.heap.size, 1, none⟩ = some (.slice A n c)) := Lib.hid (fun wx hb => D0.out _ (bel_on hbw.out hb))
      have HH3 := Lib.hid (HH.out.on hbw.out)
      have hw1 : IntKind.i64.wrap (x - 1) = y := by rw [IntWalk.i64_in _ (by omega)]; exact hy.symm
      clear hy hyl hl ow hx0 hxL
      obtain ⟨d0, d1⟩ := K.out _ (Below.refl _ _)
      go_wp2
      go_cut [27] from 28 (fun u wc => u = .bool (!q2) ∧ Hid (Below wr.heap.size wr wc))
      case first =>
        go_region_held3 (fun w' => w'.cell? ⟨w.heap.size, 0, none⟩ = some (.int .i64 (a0 : Int)) ∧ w'.cell? ⟨w.heap.size, 1, none⟩ = some (.slice A n c))
          (first
            | exact K.out _ (Below.refl _ _)
            | exact K.out _ (Below.refl _ _).drew
            | exact K.out _ (bel_on (bel_on (bel_drew bA) bB) bC)
            | exact K.out _ (bel_on (bel_on (bel_drew bB) bA) bC)
            | exact K.out _ (bel_on (bel_drew bA) bB)
            | exact K.out _ (bel_on (bel_drew bB) bA)
            | exact K.out _ (bel_drew bA)
            | exact K.out _ (bel_drew bB))
          (first
            | (go_at_call_has 21 (Value.int IntKind.i64 y); refine (RY.out _ ?_).mono ?_; (first | exact HH3.out.on (bel_drew bB) | exact HH3.out.on (Below.refl _ _).drew); rintro e wA ⟨vA, rfl, oA, bA⟩; obtain ⟨AA, cA, rfl, _, _⟩ := own_shape oA)
            | (go_at_call_has 21 (Value.int IntKind.i64 x); refine (RX.out _ ?_).mono ?_; (first | exact HH3.out.on (bel_drew bA) | exact HH3.out.on (Below.refl _ _).drew); rintro e wB ⟨vB, rfl, oB, bB⟩; obtain ⟨AB, cB, rfl, _, _⟩ := own_shape oB)
            | (go_at_call 31; refine (OW2.out AA cA AB cB _ ?_ ?_ ?_).mono ?_; (first | exact HH3.out.on (bel_on (bel_drew bA) bB) | exact HH3.out.on (bel_on (bel_drew bB) bA)); (first | exact (OwnS.of_ints (own_on oA bB) (F := blkF _) (fun k hk => hk)).rd | exact (OwnS.of_ints oA (F := blkF _) (fun k hk => hk)).rd); (first | exact (OwnS.of_ints (own_on oB bA) (F := blkF _) (fun k hk => hk)).rd | exact (OwnS.of_ints oB (F := blkF _) (fun k hk => hk)).rd); rintro e wC ⟨rfl, bC⟩))
        all_goals
          go_step
          go_step
          go_meet
          case rel => exact ⟨rfl, Lib.hid (by first | exact bel_on (bel_on (bel_drew bA) bB) bC | exact bel_on (bel_on (bel_drew bB) bA) bC)⟩
      case rest =>
        obtain ⟨rfl, hbc⟩ := hcut
        have BC := Lib.hid (hbw.out.trans (hbc.out.mono hbw.out.size))
        clear d0 d1 hw1
        cases q2
        · have HQ := Lib.hid (YN.out rfl)
          go_wp2
          go_ret
          exact ⟨ret_bool HQ.out.symm, B0.out.trans (BC.out.mono B0.out.size)⟩
        · have HN := Lib.hid (HD2.out rfl)
          have hw2 := Lib.hid HY.out
          go_wp2
          go_roundw
          case rel => exact ⟨y, by rw [hw2.out], by have := HYL.out; omega, by have := HYL.out; omega, Lib.hid (HYL.out.2.2), HN, BC⟩
          case measure => have := hw2.out; have := HYL.out; simp [intOf]; omega
    · have hq : decide ((0 : Int) < x) = false := by simpa using hx0
      obtain rfl : x = 0 := by omega
      have HQ := Lib.hid (YY.out (fun l hl => hd.out l (by omega) hl))
      go_wp2
      go_ret
      exact ⟨ret_bool HQ.out.symm, B0.out.trans (hbw.out.mono B0.out.size)⟩
end Go.Proofs.YtlmhcifnikdliaaDoor
namespace Go.Proofs.YtlmhcifnikdliaaDoor
open Go.RowKit

section
variable {α : Type}
def ixOf (q : α → Bool) (zs : List α) : Int := if zs.findIdx q < zs.length then (zs.findIdx q : Int) else -1
theorem ixOf_at (q : α → Bool) (d : α) (zs : List α) (k : Nat) (hk : k < zs.length) (h : q (zs.getD k d) = true) (hn : ∀ j, j < k → q (zs.getD j d) = false) : ixOf q zs = k := by
  have e : zs.findIdx q = k := by
    rw [List.findIdx_eq hk]
    refine ⟨by simpa [hk] using h, fun j hj => ?_⟩
    have := hn j hj
    have hj' : j < zs.length := by omega
    simpa [hj'] using this
  unfold ixOf
  rw [e, if_pos hk]
theorem ixOf_none (q : α → Bool) (d : α) (zs : List α) (hn : ∀ j, j < zs.length → q (zs.getD j d) = false) : ixOf q zs = -1 := by
  have e : zs.findIdx q = zs.length := by
    rw [List.findIdx_eq_length]
    intro p hp
    obtain ⟨j, hj, rfl⟩ := List.getElem_of_mem hp
    have := hn j hj
    simpa [hj] using this
  unfold ixOf
  rw [e, if_neg (by omega)]
theorem ixOf_any (q : α → Bool) (zs : List α) : decide (0 ≤ ixOf q zs) = zs.any q := by
  unfold ixOf
  by_cases h : zs.findIdx q < zs.length
  · rw [if_pos h]
    have := List.findIdx_lt_length.1 h
    rw [List.any_eq_true.2 this]
    simp
  · rw [if_neg h]
    have h2 : zs.any q = false := by
      rw [List.any_eq_false]
      intro p hp hq
      exact h (List.findIdx_lt_length.2 ⟨p, hp, hq⟩)
    rw [h2]
    simp
end

theorem ixNd_at (q : Nd → Bool) (xs : List Nd) (k : Nat) (hk : k < xs.length) (h : q (ndAt xs k) = true) (hn : ∀ j, j < k → q (ndAt xs j) = false) : ixOf q xs = k := ixOf_at q _ xs k hk h hn
theorem ixNd_none (q : Nd → Bool) (xs : List Nd) (hn : ∀ j, j < xs.length → q (ndAt xs j) = false) : ixOf q xs = -1 := ixOf_none q _ xs hn

def lackB (n : Nat) (p : Pr) : Bool := !hasB n p.2
def refT (n : Nat) (x : Nd) : Bool := !nodeOk x || ((x.ri != -1) && !hasB n x.ri) || (decide (0 < x.lv) && x.ps.any (lackB n))

theorem refT_good (n : Nat) (x : Nd) : (!refT n x) = ndGood n x := by
  unfold refT ndGood
  by_cases h : nodeOk x = true
  · rw [h]
    have hr : -1 ≤ x.ri := by
      have := h
      unfold nodeOk at this
      simp only [Bool.and_eq_true, Bool.or_eq_true, decide_eq_true_eq] at this
      unfold numB inB at this
      simp only [decide_eq_true_eq] at this
      grind
    have e1 : ((x.ri != -1) && !hasB n x.ri) = !decide (x.ri < (n : Int)) := by
      unfold hasB inB
      rw [Bool.eq_iff_iff]
      simp
      omega
    have e2 : (decide (0 < x.lv) && x.ps.any (lackB n)) = !(decide (x.lv ≤ 0) || (List.range x.ps.length).all (fun j => hasB n (vAt x.ps j))) := by
      have e3 : x.ps.any (lackB n) = !(List.range x.ps.length).all (fun j => hasB n (vAt x.ps j)) := by
        rw [Bool.eq_iff_iff]
        unfold lackB
        simp only [List.any_eq_true, Bool.not_eq_true', List.all_eq_false, List.mem_range, Bool.not_eq_true]
        refine ⟨fun ⟨p, hp, hq⟩ => ?_, fun ⟨j, hj, hq⟩ => ?_⟩
        · obtain ⟨j, hj, rfl⟩ := List.getElem_of_mem hp
          exact ⟨j, hj, by rw [vAt_eq _ _ hj]; exact hq⟩
        · exact ⟨x.ps[j], List.getElem_mem hj, by rw [vAt_eq _ _ hj] at hq; exact hq⟩
      rw [e3]
      by_cases hl : 0 < x.lv
      · rw [decide_eq_true hl, decide_eq_false (by omega : ¬ x.lv ≤ 0)]; simp
      · rw [decide_eq_false hl, decide_eq_true (by omega : x.lv ≤ 0)]; simp
    rw [e1, e2]
    simp
  · simp only [Bool.not_eq_true] at h
    rw [h]; simp

def okT (r : Int) (xs : List Nd) : Bool := decide (xs.length ≤ 40) && (hasB xs.length r && !xs.any (refT xs.length))
theorem okT_eq (r : Int) (xs : List Nd) : okT r xs = treeOk r xs := by
  have e : (!xs.any (refT xs.length)) = (List.range xs.length).all (fun i => ndGood xs.length (ndAt xs i)) := by
    rw [Bool.eq_iff_iff]
    simp only [Bool.not_eq_true', List.any_eq_false, List.all_eq_true, List.mem_range, Bool.not_eq_true]
    refine ⟨fun h i hi => ?_, fun h x hx => ?_⟩
    · rw [ndAt_eq _ _ hi, ← refT_good, h _ (List.getElem_mem hi)]; rfl
    · obtain ⟨i, hi, rfl⟩ := List.getElem_of_mem hx
      have := h i hi
      rw [ndAt_eq _ _ hi, ← refT_good] at this
      simpa using this
  unfold okT treeOk
  rw [e]
  by_cases h1 : hasB xs.length r = true
  · have h2 : 1 ≤ xs.length := by
      unfold hasB inB at h1
      simp at h1
      omega
    rw [h1, decide_eq_true h2]
    simp
  · simp only [Bool.not_eq_true] at h1
    rw [h1]; simp
end Go.Proofs.YtlmhcifnikdliaaDoor
