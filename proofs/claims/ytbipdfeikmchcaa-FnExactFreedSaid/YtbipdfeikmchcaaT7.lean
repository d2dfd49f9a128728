/- The walks of the model's HeldBy, l2Copy, l3Copy. -/
import Derived.Test.YtbipdfeikmchcaaT6
namespace Go.Proofs.Ytbipdfeikmchcaa
open Go.RowKit

/-! ### Who holds what -/

/-- The numbers of the first k nodes that have this owner. -/
def heldTo (xs : List Nd) (o : Int) (k : Nat) : List Int := ((List.range k).filter fun i => (ndAt xs i).ow == o).map fun i : Nat => (i : Int)
theorem heldTo_yes (xs : List Nd) (o : Int) (k : Nat) (h : (ndAt xs k).ow = o) : heldTo xs o (k + 1) = heldTo xs o k ++ [(k : Int)] := by
  unfold heldTo
  rw [List.range_succ, List.filter_append, List.map_append]
  simp [h]
theorem heldTo_no (xs : List Nd) (o : Int) (k : Nat) (h : (ndAt xs k).ow ≠ o) : heldTo xs o (k + 1) = heldTo xs o k := by
  unfold heldTo
  rw [List.range_succ, List.filter_append, List.map_append]
  simp [h]
theorem heldTo_len (xs : List Nd) (o : Int) (k : Nat) : (heldTo xs o k).length ≤ k := by
  unfold heldTo
  rw [List.length_map]
  have := List.length_filter_le (fun i => (ndAt xs i).ow == o) (List.range k)
  simpa using this
def heldT (r : Int) (xs : List Nd) (task : Int) : List Int := if treeOk r xs && inB task 0 5 then heldTo xs (task + 1) xs.length else []
theorem heldT_sm (r : Int) (xs : List Nd) (task : Int) : Small.sm (heldT r xs task) := by
  show (heldT r xs task).length ≤ 1048576
  unfold heldT
  by_cases h : treeOk r xs = true
  · have h40 := ((treeOk_iff r xs).1 h).2.1
    have := heldTo_len xs (task + 1) xs.length
    split
    · omega
    · simp
  · simp [h]

theorem task_is (x : Int) (w : World) : Calls Try.prog 40 #[.int .i64 x] w fun e w' => e = .returned (.bool (inB x 0 5)) ∧ w = w' := by
  go_enter Try.func40, Try.ntmps40
  go_wp2_with (go_at_call 50; refine (in_any _ _ _ _).mono ?_; rintro e w' ⟨rfl, rfl⟩)
  go_ret
  exact ⟨rfl, rfl⟩

set_option maxRecDepth 100000 in
set_option maxHeartbeats 1000000 in
theorem sHeldBy_any (r : Int) (xs : List Nd) (A : Option Addr) (n c : Nat) (task : Int) (w : World) (h : RS w w.heap.size A n xs) (hs : Small.sm xs) :
    Calls Try.prog 23 #[.agg #[.int .i64 r, .slice A n c], .int .i64 task] w fun e w' => ∃ A' c' F, e = .returned (.slice A' (heldT r xs task).length c') ∧ OwnS w' (.slice A' (heldT r xs task).length c') (heldT r xs task) F ∧ Fresh F w w' ∧ Below w.heap.size w w' := by
  have hl := h.1
  have tk : ∀ w, RS w w.heap.size A n xs → Calls Try.prog 10 #[.agg #[.int .i64 r, .slice A n c]] w fun e w' => e = .returned (.bool (treeOk r xs)) ∧ Below w.heap.size w w' := fun w h => sTreeOk_any r xs A n c w h hs
  have kk := task_is task
  have hn40 : treeOk r xs = true → n ≤ 40 := fun h => hl ▸ ((treeOk_iff r xs).1 h).2.1
  have hdef : heldT r xs task = if treeOk r xs && inB task 0 5 then heldTo xs (task + 1) n else [] := by unfold heldT; rw [hl]
  have htt : inB task 0 5 = true → 0 ≤ task ∧ task ≤ 5 := fun h => by unfold inB at h; simpa using h
  rw [hdef]
  generalize treeOk r xs = q at *
  generalize inB task 0 5 = p at *
  obtain ⟨w0, hw0⟩ : ∃ w0, w0 = w.alloc (.cells #[.int .i64 r, .slice A n c] 29) := ⟨_, rfl⟩
  have b0 : Below w.heap.size w w0 := by rw [hw0]; exact (Below.refl _ _).alloc (Nat.le_refl _) _
  have x0 : w0.heap[w.heap.size]? = some (.cells #[.int .i64 r, .slice A n c] 29 (0, 0)) := by rw [hw0]; exact heap_alloc_new _ _
  have D0 : Hid (∀ wx, Below w0.heap.size w0 wx → wx.cell? ⟨w.heap.size, 0, none⟩ = some (.int .i64 r) ∧ wx.cell? ⟨w.heap.size, 1, none⟩ = some (.slice A n c)) := Lib.hid (fun wx hb => ⟨by rw [cell_of_row _ _ 0 _ _ _ (box_on hb x0)]; rfl, by rw [cell_of_row _ _ 1 _ _ _ (box_on hb x0)]; rfl⟩)
  have HH := Lib.hid (h.on b0)
  have B0 := Lib.hid b0
  have HW := Lib.hid hw0
  have TK := Lib.hid tk
  have KK := Lib.hid kk
  have HTT := Lib.hid htt
  have HN40 := Lib.hid hn40
  clear h hw0 b0 x0 tk kk hl hdef htt hn40
  go_enter Try.func23, Try.ntmps23
  go_wp2_with fail
  obtain ⟨w1, hw1⟩ : ∃ w1, w1 = w0.alloc (.cells #[] 2) := ⟨_, rfl⟩
  have b1 : Below w0.heap.size w0 w1 := by rw [hw1]; exact (Below.refl _ _).alloc (Nat.le_refl _) _
  have o1 : w1.ownsRow w0.heap.size 2 1 (.slice (some ⟨w.heap.size + 1, 0, none⟩) 0 0) 0 (IL []) := by
    have h1 := World.ownsRow_made (e := 2) (size := 1) w0 #[] 0 (Nat.le_refl _) (by unfold maxLen; omega) (by simp)
    have hs : w0.heap.size = w.heap.size + 1 := by rw [HW.out]; simp
    rw [hw1, ← hs]
    exact h1
  rw [← HW.out, ← hw1]
  refine (TK.out _ (HH.out.on b1)).mono ?_
  rintro e w2 ⟨rfl, b2⟩
  have O2 : Hid (w2.ownsRow w0.heap.size 2 1 (.slice (some ⟨w.heap.size + 1, 0, none⟩) 0 0) 0 (IL [])) := Lib.hid (own_on o1 b2)
  have B2 := Lib.hid (bel_on b1 b2)
  clear b1 b2 o1 hw1
  have fin : ∀ (wx : World) (Ao : Option Addr) (m co : Nat) (l : List Int), wx.ownsRow w0.heap.size 2 1 (.slice Ao m co) m (IL l) → Below w0.heap.size w0 wx →
      ∃ A' c' F, Ending.returned (.slice Ao m co) = .returned (.slice A' l.length c') ∧ OwnS wx (.slice A' l.length c') l F ∧ Fresh F w wx ∧ Below w.heap.size w wx := fun wx Ao m co l ho hb => by
    have e2 : l.length = m := by have := ho.1; unfold IL at this; simpa using this
    rw [e2]
    exact ⟨Ao, co, blkF _, rfl, OwnS.of_ints ho (fun k hk => hk), fresh_blk ho B0.out.size, B0.out.trans (hb.mono B0.out.size)⟩
  have FIN := Lib.hid fin
  clear fin
  cases q
  · go_wp2
    go_ret
    obtain ⟨A', c', F, h1, h2, h3, h4⟩ := FIN.out _ _ _ _ [] O2.out B2.out
    exact ⟨A', c', h1, F, h2, h3, h4⟩
  go_wp2_with fail
  refine (KK.out _).mono ?_
  rintro e w3 ⟨rfl, rfl⟩
  cases p
  · go_wp2
    go_ret
    obtain ⟨A', c', F, h1, h2, h3, h4⟩ := FIN.out _ _ _ _ [] O2.out B2.out
    exact ⟨A', c', h1, F, h2, h3, h4⟩
  obtain ⟨ht0, ht5⟩ := HTT.out (by trivial)
  have hn := HN40.out (by trivial)
  have d1 := (D0.out _ B2.out).2
  go_wp2
  clear d1
  go_loopw [5, 6] (fun o i wr => ∃ (k m co : Nat) (Ao : Option Addr), o = .slice Ao m co ∧ i = .int .i64 k ∧ k ≤ n ∧ m ≤ k ∧ Hid (wr.ownsRow w0.heap.size 2 1 (.slice Ao m co) m (IL (heldTo xs (task + 1) k))) ∧ Hid (Below w0.heap.size w0 wr)) (fun _ i _ => n - (intOf i).toNat)
  case atStart => exact ⟨0, 0, 0, _, rfl, rfl, by omega, by omega, O2, B2⟩
  case round =>
    obtain ⟨k, m, co, Ao, rfl, rfl, hk, hm, ho, hbw⟩ := hrel
    clear O2
    have d1 := (D0.out _ hbw.out).2
    by_cases hlt : k < n
    · obtain ⟨b, off, rfl, hb, hc⟩ := HH.out.nd (by omega)
      obtain ⟨_, _, _, _, _, _, _, c4, _, _⟩ := (hc k hlt).keep (w' := wr) hb (fun p hp => hbw.out.cell hp)
      have E1 : Hid ((ndAt xs k).ow = task + 1 → heldTo xs (task + 1) (k + 1) = heldTo xs (task + 1) k ++ [(k : Int)]) := Lib.hid (heldTo_yes xs _ k)
      have E2 : Hid ((ndAt xs k).ow ≠ task + 1 → heldTo xs (task + 1) (k + 1) = heldTo xs (task + 1) k) := Lib.hid (heldTo_no xs _ k)
      generalize (ndAt xs k).ow = z at *
      clear hc
      by_cases hz : z = task + 1
      · have gz : (z == task + 1) = true := by simpa using hz
        have HZ := Lib.hid hz
        clear hz
        go_wp2_with (at_builtin; refine wpList_appI rfl (.tmp 33) (.tmp 35) rfl w0.heap.size _ m _ rfl (ho.out.alloc _) wr.heap.size k rfl (by simp) (by omega) (by have := hbw.out.size; simp; omega) ?_)
        intro v5 w5 o5 g5
        obtain ⟨A5, c5, rfl, _, _⟩ := own_shape o5
        have B5 := Lib.hid (((hbw.out.alloc hbw.out.size _).grown g5 (by have := hbw.out.size; simp; omega) (fun q hq => (ho.out.lt q hq).1)) : Below w0.heap.size w0 w5)
        have O5 := Lib.hid o5
        clear o5 g5 d1 c4
        go_wp2
        go_roundw
        case rel => exact ⟨k + 1, m + 1, c5, A5, rfl, by go_num, by omega, by omega, Lib.hid (by rw [E1.out HZ.out]; exact O5.out), B5⟩
        case measure => simp [intOf]; omega
      · have gz : (z == task + 1) = false := by simpa using hz
        have HZ := Lib.hid hz
        clear hz
        go_wp2
        go_roundw
        case rel => exact ⟨k + 1, m, co, Ao, rfl, by go_num, by omega, by omega, Lib.hid (by rw [E2.out HZ.out]; exact ho.out), hbw⟩
        case measure => simp [intOf]; omega
    · obtain rfl : k = n := by omega
      go_wp2
      go_ret
      obtain ⟨A', c', F, h1, h2, h3, h4⟩ := FIN.out _ _ _ _ _ ho.out hbw.out
      exact ⟨A', c', h1, F, h2, h3, h4⟩

/-! ### Copies -/

set_option maxHeartbeats 1000000 in
theorem copyN_any (x : Nd) (A : Option Addr) (n c : Nat) (w : World) (h : RP w w.heap.size A n x.ps) (hn : n ≤ 1048576) :
    Calls Try.prog 64 #[ndV x A n c] w fun e w' => ∃ v, e = .returned (.agg #[.int .i64 x.lv, v, .int .i64 x.hi, .int .i64 x.ri, .int .i64 x.ow]) ∧ w'.ownsRow w.heap.size 51 2 v n (PL x.ps) ∧ Below w.heap.size w w' := by
  obtain ⟨lv, zs, hi, ri, ow⟩ := x
  unfold ndV
  simp only at *
  obtain ⟨w0, hw0⟩ : ∃ w0, w0 = w.alloc (.cells #[.int .i64 lv, .slice A n c, .int .i64 hi, .int .i64 ri, .int .i64 ow] 48) := ⟨_, rfl⟩
  have b0 : Below w.heap.size w w0 := by rw [hw0]; exact (Below.refl _ _).alloc (Nat.le_refl _) _
  have x0 : w0.heap[w.heap.size]? = some (.cells #[.int .i64 lv, .slice A n c, .int .i64 hi, .int .i64 ri, .int .i64 ow] 48 (0, 0)) := by rw [hw0]; exact heap_alloc_new _ _
  have HH := Lib.hid (h.on b0)
  have B0 := Lib.hid b0
  have X0 := Lib.hid x0
  have HW := Lib.hid hw0
  clear h hw0 b0 x0
  obtain ⟨w1, hw1⟩ : ∃ w1, w1 = w0.alloc (.cells #[.int .i64 0, .slice none 0 0, .int .i64 0, .int .i64 0, .int .i64 0] 48) := ⟨_, rfl⟩
  obtain ⟨w2, hw2⟩ : ∃ w2, w2 = w1.alloc (.cells #[] 51) := ⟨_, rfl⟩
  have b1 : Below w0.heap.size w0 w1 := by rw [hw1]; exact (Below.refl _ _).alloc (Nat.le_refl _) _
  have b2 : Below w1.heap.size w1 w2 := by rw [hw2]; exact (Below.refl _ _).alloc (Nat.le_refl _) _
  have hs0 : w0.heap.size = w.heap.size + 1 := by rw [HW.out]; simp
  have hs1 : w1.heap.size = w.heap.size + 1 + 1 := by rw [hw1]; simp; omega
  have x1 : w1.heap[w.heap.size + 1]? = some (.cells #[.int .i64 0, .slice none 0 0, .int .i64 0, .int .i64 0, .int .i64 0] 48 (0, 0)) := by rw [hw1, ← hs0]; exact heap_alloc_new _ _
  have o2 : w2.ownsRow (w.heap.size + 1 + 1) 51 2 (.slice (some ⟨w.heap.size + 1 + 1, 0, none⟩) 0 0) 0 (PL []) := by
    rw [hw2, ← hs1]; exact empty_row w1
  have HH2 := Lib.hid ((HH.out.on (bel_on b1 b2)))
  have X02 := Lib.hid (box_on b2 (box_on b1 X0.out))
  have X12 := Lib.hid (box_on b2 x1)
  have O2 := Lib.hid o2
  have S2 : Hid (w.heap.size + 1 + 1 ≤ w2.heap.size) := Lib.hid (by have := b2.size; omega)
  have B2 := Lib.hid (bel_on B0.out (bel_on b1 b2))
  have E2 : Hid (w2 = ((w.alloc (.cells #[.int .i64 lv, .slice A n c, .int .i64 hi, .int .i64 ri, .int .i64 ow] 48)).alloc (.cells #[.int .i64 0, .slice none 0 0, .int .i64 0, .int .i64 0, .int .i64 0] 48)).alloc (.cells #[] 51)) := Lib.hid (by rw [hw2, hw1, HW.out])
  clear hw1 hw2 b1 b2 hs0 hs1 x1 o2 HH X0
  go_enter Try.func64, Try.ntmps64
  go_wp2_with (at_builtin; rw [← E2.out]; refine wpList_app rfl (.tmp 3) (.tmp 5) rfl (w.heap.size + 1 + 1) _ 0 [] rfl O2.out _ A n c zs rfl HH2.out (by omega) S2.out ?_)
  intro v3 w3 o3 g3
  obtain ⟨A3, cc, rfl, _, _⟩ := own_shape o3
  have hl0 : w.heap.size < w2.heap.size := by have := S2.out; omega
  have hl1 : w.heap.size + 1 < w2.heap.size := by have := S2.out; omega
  have k0 := (g3.block _ hl0 (by simp [Value.ownBlock]; omega)).trans X02.out
  have k1 := (g3.block _ hl1 (by simp [Value.ownBlock])).trans X12.out
  have p0 : w3.cell? ⟨w.heap.size, 0, none⟩ = some (.int .i64 lv) := by rw [cell_of_row w3 _ 0 _ _ _ k0]; rfl
  have p1 : w3.cell? ⟨w.heap.size, 1, none⟩ = some (.slice A n c) := by rw [cell_of_row w3 _ 1 _ _ _ k0]; rfl
  have p2 : w3.cell? ⟨w.heap.size, 2, none⟩ = some (.int .i64 hi) := by rw [cell_of_row w3 _ 2 _ _ _ k0]; rfl
  have p3 : w3.cell? ⟨w.heap.size, 3, none⟩ = some (.int .i64 ri) := by rw [cell_of_row w3 _ 3 _ _ _ k0]; rfl
  have p4 : w3.cell? ⟨w.heap.size, 4, none⟩ = some (.int .i64 ow) := by rw [cell_of_row w3 _ 4 _ _ _ k0]; rfl
  have q0 : w3.cell? ⟨w.heap.size + 1, 0, none⟩ = some (.int .i64 0) := by rw [cell_of_row w3 _ 0 _ _ _ k1]; rfl
  have q1 : w3.cell? ⟨w.heap.size + 1, 1, none⟩ = some (.slice none 0 0) := by rw [cell_of_row w3 _ 1 _ _ _ k1]; rfl
  have q2 : w3.cell? ⟨w.heap.size + 1, 2, none⟩ = some (.int .i64 0) := by rw [cell_of_row w3 _ 2 _ _ _ k1]; rfl
  have q3 : w3.cell? ⟨w.heap.size + 1, 3, none⟩ = some (.int .i64 0) := by rw [cell_of_row w3 _ 3 _ _ _ k1]; rfl
  have q4 : w3.cell? ⟨w.heap.size + 1, 4, none⟩ = some (.int .i64 0) := by rw [cell_of_row w3 _ 4 _ _ _ k1]; rfl
  have f0 : ∀ i, w3.frozen? ⟨w.heap.size, i, none⟩ = false := fun i => frozen_of_row w3 _ i _ _ k0
  have f1 : ∀ i, w3.frozen? ⟨w.heap.size + 1, i, none⟩ = false := fun i => frozen_of_row w3 _ i _ _ k1
  have O3 := Lib.hid o3
  have B3 := Lib.hid (B2.out.grown g3 B2.out.size (fun k hk => by simp [Value.ownBlock] at hk; omega))
  have K1 := Lib.hid k1
  clear o3 g3 k0 k1 hl0 hl1
  go_wp2
  have kz := (Below.heap_setCell w3 ⟨w.heap.size, 1, none⟩ (.slice A3 n cc) (w.heap.size + 1) (by simp)).trans K1.out
  have s0 := heap_setCell_same _ (w.heap.size + 1) 0 _ _ (.int .i64 lv) kz
  have s1 := heap_setCell_same _ (w.heap.size + 1) 1 _ _ (.slice A3 n cc) s0
  have s2 := heap_setCell_same _ (w.heap.size + 1) 2 _ _ (.int .i64 hi) s1
  have s3 := heap_setCell_same _ (w.heap.size + 1) 3 _ _ (.int .i64 ri) s2
  have s4 := heap_setCell_same _ (w.heap.size + 1) 4 _ _ (.int .i64 ow) s3
  have B5 : Below w.heap.size w ((((((w3.setCell ⟨w.heap.size, 1, none⟩ (.slice A3 n cc)).setCell ⟨w.heap.size + 1, 0, none⟩ (.int .i64 lv)).setCell ⟨w.heap.size + 1, 1, none⟩ (.slice A3 n cc)).setCell ⟨w.heap.size + 1, 2, none⟩ (.int .i64 hi)).setCell ⟨w.heap.size + 1, 3, none⟩ (.int .i64 ri)).setCell ⟨w.heap.size + 1, 4, none⟩ (.int .i64 ow)) := by
    repeat (refine Below.setCell ?_ (by simp; try omega) _)
    exact B3.out
  have O5 : World.ownsRow ((((((w3.setCell ⟨w.heap.size, 1, none⟩ (.slice A3 n cc)).setCell ⟨w.heap.size + 1, 0, none⟩ (.int .i64 lv)).setCell ⟨w.heap.size + 1, 1, none⟩ (.slice A3 n cc)).setCell ⟨w.heap.size + 1, 2, none⟩ (.int .i64 hi)).setCell ⟨w.heap.size + 1, 3, none⟩ (.int .i64 ri)).setCell ⟨w.heap.size + 1, 4, none⟩ (.int .i64 ow)) (w.heap.size + 1 + 1) 51 2 (.slice A3 n cc) n (PL zs) := by
    repeat (refine ownsRow_setCell_below ?_ (by simp; try omega) _)
    exact O3.out
  generalize (((((w3.setCell ⟨w.heap.size, 1, none⟩ (.slice A3 n cc)).setCell ⟨w.heap.size + 1, 0, none⟩ (.int .i64 lv)).setCell ⟨w.heap.size + 1, 1, none⟩ (.slice A3 n cc)).setCell ⟨w.heap.size + 1, 2, none⟩ (.int .i64 hi)).setCell ⟨w.heap.size + 1, 3, none⟩ (.int .i64 ri)).setCell ⟨w.heap.size + 1, 4, none⟩ (.int .i64 ow) = w9 at *
  have c0 : w9.cell? ⟨w.heap.size + 1, 0, none⟩ = some (.int .i64 lv) := by rw [cell_of_row w9 _ 0 _ _ _ s4]; rfl
  have c1 : w9.cell? ⟨w.heap.size + 1, 1, none⟩ = some (.slice A3 n cc) := by rw [cell_of_row w9 _ 1 _ _ _ s4]; rfl
  have c2 : w9.cell? ⟨w.heap.size + 1, 2, none⟩ = some (.int .i64 hi) := by rw [cell_of_row w9 _ 2 _ _ _ s4]; rfl
  have c3 : w9.cell? ⟨w.heap.size + 1, 3, none⟩ = some (.int .i64 ri) := by rw [cell_of_row w9 _ 3 _ _ _ s4]; rfl
  have c4 : w9.cell? ⟨w.heap.size + 1, 4, none⟩ = some (.int .i64 ow) := by rw [cell_of_row w9 _ 4 _ _ _ s4]; rfl
  refine bodyPost_ret (v := .agg #[.int .i64 lv, .slice A3 n cc, .int .i64 hi, .int .i64 ri, .int .i64 ow]) (by simp [results, Try.results64, go_sem, c0, c1, c2, c3, c4]) rfl ⟨_, rfl, own_base O5 (by omega), B5⟩
end Go.Proofs.Ytbipdfeikmchcaa
