/- The walks of the model's HeldBy, l2Copy, l3Copy. -/
import Derived.Test.YtpffkhjegpddbaaGreatV07
import Derived.Deep.RegionLaw
open Go.Value renaming int → jI, slice → jS
open Go.IntKind renaming i64 → jZ
namespace Go.Proofs.YtpffkhjegpddbaaGreat
open Go.RowKit


def heldTo (xs : List Nd) (o : Int) (k : Nat) : List Int := ((List.range k).filter fun i => (ndAt xs i).ow == o).map fun i : Nat => (i : Int)
theorem heldTo_yes (xs : List Nd) (o : Int) (k : Nat) (h : (ndAt xs k).ow = o) : heldTo xs o (k + 1) = heldTo xs o k ++ [(k : Int)] := by
 unfold heldTo
 rw [List.range_succ, List.filter_append, List.map_append]
 simp [h]
theorem heldTo_no (xs : List Nd) (o : Int) (k : Nat) (h : (ndAt xs k).ow ≠ o) : heldTo xs o (k + 1) = heldTo xs o k := by
 unfold heldTo
 rw [List.range_succ, List.filter_append, List.map_append]
 simp [h]
theorem heldTo_len (xs : List Nd) (o : Int) (k : Nat) : (heldTo xs o k).length ≤ k := by
 unfold heldTo
 rw [List.length_map]
 have := List.length_filter_le (fun i => (ndAt xs i).ow == o) (List.range k)
 simpa using this
def heldT (r : Int) (xs : List Nd) (task : Int) : List Int := if treeOk r xs && inB task 0 5 then heldTo xs (task + 1) xs.length else []
theorem heldT_sm (r : Int) (xs : List Nd) (task : Int) : Small.sm (heldT r xs task) := by
 show (heldT r xs task).length ≤ 1048576
 unfold heldT
 by_cases h : treeOk r xs = true
 · have h40 := ((treeOk_iff r xs).1 h).2.1
   have := heldTo_len xs (task + 1) xs.length
   split
   · omega
   · simp
 · simp [h]

theorem task_is (x : Int) (w : World) : Calls Tryz.prog 26 #[jI jZ x] w fun e w' => e = .returned (.bool (inB x 0 5)) ∧ w = w' := by
 go_enter Tryz.func26, Tryz.ntmps26
 go_wp2_with (go_at_call 42; refine (in_any _ _ _ _).mono ?_; rintro e w' ⟨rfl, rfl⟩)
 go_ret
 exact ⟨rfl, rfl⟩

set_option maxRecDepth 100000 in
set_option maxHeartbeats 1000000 in
theorem sHeldBy_any (r : Int) (xs : List Nd) (A : Option Addr) (n c : Nat) (task : Int) (w : World) (h : RS w w.heap.size A n xs) (hs : Small.sm xs) :
   Calls Tryz.prog 15 #[.agg #[jI jZ r, jS A n c], jI jZ task] w fun e w' => ∃ A' c' F, e = .returned (jS A' (heldT r xs task).length c') ∧ OwnS w' (jS A' (heldT r xs task).length c') (heldT r xs task) F ∧ Fresh F w w' ∧ Below w.heap.size w w' := by
 have hl := h.1
 have tk : ∀ w, RS w w.heap.size A n xs → Calls Tryz.prog 25 #[.agg #[jI jZ r, jS A n c]] w fun e w' => e = .returned (.bool (treeOk r xs)) ∧ Below w.heap.size w w' := fun w h => sTreeOk_any r xs A n c w h hs
 have kk := task_is task
 have hn40 : treeOk r xs = true → n ≤ 40 := fun h => hl ▸ ((treeOk_iff r xs).1 h).2.1
 have hdef : heldT r xs task = if treeOk r xs && inB task 0 5 then heldTo xs (task + 1) n else [] := by unfold heldT; rw [hl]
 have htt : inB task 0 5 = true → 0 ≤ task ∧ task ≤ 5 := fun h => by unfold inB at h; simpa using h
 rw [hdef]
 generalize treeOk r xs = q at *
 generalize inB task 0 5 = p at *
 obtain ⟨w0, hw0⟩ : ∃ w0, w0 = w.alloc (.cells #[jI jZ r, jS A n c] 26) := ⟨_, rfl⟩
 have b0 : Below w.heap.size w w0 := by rw [hw0]; exact (Below.refl _ _).alloc (Nat.le_refl _) _
 have x0 : w0.heap[w.heap.size]? = some (.cells #[jI jZ r, jS A n c] 26 (0, 0)) := by rw [hw0]; exact heap_alloc_new _ _
 have D0 : Hid (∀ wx, Below w0.heap.size w0 wx → wx.cell? ⟨w.heap.size, 0, none⟩ = some (jI jZ r) ∧ wx.cell? ⟨w.heap.size, 1, none⟩ = some (.slice A n c)) := Lib.hid (fun wx hb => ⟨by rw [cell_of_row _ _ 0 _ _ _ (box_on hb x0)]; rfl, by rw [cell_of_row _ _ 1 _ _ _ (box_on hb x0)]; rfl⟩)
 have HH := Lib.hid (h.on b0)
 have B0 := Lib.hid b0
 have HW := Lib.hid hw0
 have TK := Lib.hid tk
 have KK := Lib.hid kk
 have HTT := Lib.hid htt
 have HN40 := Lib.hid hn40
 clear h hw0 b0 x0 tk kk hl hdef htt hn40
 go_enter Tryz.func15, Tryz.ntmps15
 go_wp2_with fail
 obtain ⟨w1, hw1⟩ : ∃ w1, w1 = w0.alloc (.cells #[] 2) := ⟨_, rfl⟩
 have b1 : Below w0.heap.size w0 w1 := by rw [hw1]; exact (Below.refl _ _).alloc (Nat.le_refl _) _
 have o1 : w1.ownsRow w0.heap.size 2 1 (jS (some ⟨w.heap.size + 1, 0, none⟩) 0 0) 0 (IL []) := by
   have h1 := World.ownsRow_made (e := 2) (size := 1) w0 #[] 0 (Nat.le_refl _) (by unfold maxLen; omega) (by simp)
   have hs : w0.heap.size = w.heap.size + 1 := by rw [HW.out]; simp
   rw [hw1, ← hs]
   exact h1
 rw [← HW.out, ← hw1]
 refine (TK.out _ (HH.out.on b1)).mono ?_
 rintro e w2 ⟨rfl, b2⟩
 have O2 : Hid (w2.ownsRow w0.heap.size 2 1 (jS (some ⟨w.heap.size + 1, 0, none⟩) 0 0) 0 (IL [])) := Lib.hid (own_on o1 b2)
 have B2 := Lib.hid (bel_on b1 b2)
 clear b1 b2 o1 hw1
 have fin : ∀ (wx : World) (Ao : Option Addr) (m co : Nat) (l : List Int), wx.ownsRow w0.heap.size 2 1 (jS Ao m co) m (IL l) → Below w0.heap.size w0 wx →
     ∃ A' c' F, Ending.returned (jS Ao m co) = .returned (jS A' l.length c') ∧ OwnS wx (jS A' l.length c') l F ∧ Fresh F w wx ∧ Below w.heap.size w wx := fun wx Ao m co l ho hb => by
   have e2 : l.length = m := by have := ho.1; unfold IL at this; simpa using this
   rw [e2]
   exact ⟨Ao, co, blkF _, rfl, OwnS.of_ints ho (fun k hk => hk), fresh_blk ho B0.out.size, B0.out.trans (hb.mono B0.out.size)⟩
 have FIN := Lib.hid fin
 clear fin
 cases q
 · go_wp2
   go_ret
   obtain ⟨A', c', F, h1, h2, h3, h4⟩ := FIN.out _ _ _ _ [] O2.out B2.out
   exact ⟨A', c', h1, F, h2, h3, h4⟩
 go_wp2_with fail
 refine (KK.out _).mono ?_
 rintro e w3 ⟨rfl, rfl⟩
 cases p
 · go_wp2
   go_ret
   obtain ⟨A', c', F, h1, h2, h3, h4⟩ := FIN.out _ _ _ _ [] O2.out B2.out
   exact ⟨A', c', h1, F, h2, h3, h4⟩
 obtain ⟨ht0, ht5⟩ := HTT.out (by trivial)
 have hn := HN40.out (by trivial)
 have d1 := (D0.out _ B2.out).2
 go_wp2
 clear d1
 go_loopw [5, 6] (fun o i wr => ∃ (k m co : Nat) (Ao : Option Addr), o = jS Ao m co ∧ i = jI jZ k ∧ k ≤ n ∧ m ≤ k ∧ Hid (wr.ownsRow w0.heap.size 2 1 (jS Ao m co) m (IL (heldTo xs (task + 1) k))) ∧ Hid (Below w0.heap.size w0 wr)) (fun _ i _ => n - (intOf i).toNat)
 case atStart => exact ⟨0, 0, 0, _, rfl, rfl, by omega, by omega, O2, B2⟩
 case round =>
   obtain ⟨k, m, co, Ao, rfl, rfl, hk, hm, ho, hbw⟩ := hrel
   clear O2
   have d1 := (D0.out _ hbw.out).2
   by_cases hlt : k < n
   · obtain ⟨b, off, rfl, hb, hc⟩ := HH.out.nd (by omega)
     obtain ⟨_, _, _, _, _, _, _, c4, _, _⟩ := (hc k hlt).keep (w' := wr) hb (fun p hp => hbw.out.cell hp)
     have E1 : Hid ((ndAt xs k).ow = task + 1 → heldTo xs (task + 1) (k + 1) = heldTo xs (task + 1) k ++ [(k : Int)]) := Lib.hid (heldTo_yes xs _ k)
     have E2 : Hid ((ndAt xs k).ow ≠ task + 1 → heldTo xs (task + 1) (k + 1) = heldTo xs (task + 1) k) := Lib.hid (heldTo_no xs _ k)
     generalize (ndAt xs k).ow = z at *
     clear hc
     by_cases hz : z = task + 1
     · have gz : (z == task + 1) = true := by simpa using hz
       have HZ := Lib.hid hz
       clear hz
       go_wp2_with (at_builtin; refine wpList_appI rfl (.tmp 33) (.tmp 35) rfl w0.heap.size _ m _ rfl (ho.out.alloc _) wr.heap.size k rfl (by simp) (by omega) (by have := hbw.out.size; simp; omega) ?_)
       intro v5 w5 o5 g5
       obtain ⟨A5, c5, rfl, _, _⟩ := own_shape o5
       have B5 := Lib.hid (((hbw.out.alloc hbw.out.size _).grown g5 (by have := hbw.out.size; simp; omega) (fun q hq => (ho.out.lt q hq).1)) : Below w0.heap.size w0 w5)
       have O5 := Lib.hid o5
       clear o5 g5 d1 c4
       go_wp2
       go_roundw
       case rel => exact ⟨k + 1, m + 1, c5, A5, rfl, by go_num, by omega, by omega, Lib.hid (by rw [E1.out HZ.out]; exact O5.out), B5⟩
       case measure => simp [intOf]; omega
     · have gz : (z == task + 1) = false := by simpa using hz
       have HZ := Lib.hid hz
       clear hz
       go_wp2
       go_roundw
       case rel => exact ⟨k + 1, m, co, Ao, rfl, by go_num, by omega, by omega, Lib.hid (by rw [E2.out HZ.out]; exact ho.out), hbw⟩
       case measure => simp [intOf]; omega
   · obtain rfl : k = n := by omega
     go_wp2
     go_ret
     obtain ⟨A', c', F, h1, h2, h3, h4⟩ := FIN.out _ _ _ _ _ ho.out hbw.out
     exact ⟨A', c', h1, F, h2, h3, h4⟩


set_option maxHeartbeats 1000000 in
theorem copyN_any (x : Nd) (A : Option Addr) (n c : Nat) (w : World) (h : RP w w.heap.size A n x.ps) (hn : n ≤ 1048576) :
   Calls Tryz.prog 43 #[ndV x A n c] w fun e w' => ∃ v, e = .returned (.agg #[jI jZ x.lv, v, jI jZ x.hi, jI jZ x.ri, jI jZ x.ow]) ∧ w'.ownsRow w.heap.size 68 2 v n (PL x.ps) ∧ Below w.heap.size w w' := by
 obtain ⟨lv, zs, hi, ri, ow⟩ := x
 unfold ndV
 simp only at *
 obtain ⟨w0, hw0⟩ : ∃ w0, w0 = w.alloc (.cells #[jI jZ lv, jS A n c, jI jZ hi, jI jZ ri, jI jZ ow] 53) := ⟨_, rfl⟩
 have b0 : Below w.heap.size w w0 := by rw [hw0]; exact (Below.refl _ _).alloc (Nat.le_refl _) _
 have x0 : w0.heap[w.heap.size]? = some (.cells #[jI jZ lv, jS A n c, jI jZ hi, jI jZ ri, jI jZ ow] 53 (0, 0)) := by rw [hw0]; exact heap_alloc_new _ _
 have HH := Lib.hid (h.on b0)
 have B0 := Lib.hid b0
 have X0 := Lib.hid x0
 have HW := Lib.hid hw0
 clear h hw0 b0 x0
 obtain ⟨w1, hw1⟩ : ∃ w1, w1 = w0.alloc (.cells #[jI jZ 0, jS none 0 0, jI jZ 0, jI jZ 0, jI jZ 0] 53) := ⟨_, rfl⟩
 obtain ⟨w2, hw2⟩ : ∃ w2, w2 = w1.alloc (.cells #[] 68) := ⟨_, rfl⟩
 have b1 : Below w0.heap.size w0 w1 := by rw [hw1]; exact (Below.refl _ _).alloc (Nat.le_refl _) _
 have b2 : Below w1.heap.size w1 w2 := by rw [hw2]; exact (Below.refl _ _).alloc (Nat.le_refl _) _
 have hs0 : w0.heap.size = w.heap.size + 1 := by rw [HW.out]; simp
 have hs1 : w1.heap.size = w.heap.size + 1 + 1 := by rw [hw1]; simp; omega
 have x1 : w1.heap[w.heap.size + 1]? = some (.cells #[jI jZ 0, jS none 0 0, jI jZ 0, jI jZ 0, jI jZ 0] 53 (0, 0)) := by rw [hw1, ← hs0]; exact heap_alloc_new _ _
 have o2 : w2.ownsRow (w.heap.size + 1 + 1) 68 2 (jS (some ⟨w.heap.size + 1 + 1, 0, none⟩) 0 0) 0 (PL []) := by
   rw [hw2, ← hs1]; exact empty_row w1
 have HH2 := Lib.hid ((HH.out.on (bel_on b1 b2)))
 have X02 := Lib.hid (box_on b2 (box_on b1 X0.out))
 have X12 := Lib.hid (box_on b2 x1)
 have O2 := Lib.hid o2
 have S2 : Hid (w.heap.size + 1 + 1 ≤ w2.heap.size) := Lib.hid (by have := b2.size; omega)
 have B2 := Lib.hid (bel_on B0.out (bel_on b1 b2))
 have E2 : Hid (w2 = ((w.alloc (.cells #[jI jZ lv, jS A n c, jI jZ hi, jI jZ ri, jI jZ ow] 53)).alloc (.cells #[jI jZ 0, jS none 0 0, jI jZ 0, jI jZ 0, jI jZ 0] 53)).alloc (.cells #[] 68)) := Lib.hid (by rw [hw2, hw1, HW.out])
 clear hw1 hw2 b1 b2 hs0 hs1 x1 o2 HH X0
 go_enter Tryz.func43, Tryz.ntmps43
 go_wp2_with (at_builtin; rw [← E2.out]; refine wpList_app rfl (.tmp 3) (.tmp 5) rfl (w.heap.size + 1 + 1) _ 0 [] rfl O2.out _ A n c zs rfl HH2.out (by omega) S2.out ?_)
 intro v3 w3 o3 g3
 obtain ⟨A3, cc, rfl, _, _⟩ := own_shape o3
 have hl0 : w.heap.size < w2.heap.size := by have := S2.out; omega
 have hl1 : w.heap.size + 1 < w2.heap.size := by have := S2.out; omega
 have k0 := (g3.block _ hl0 (by simp [Value.ownBlock]; omega)).trans X02.out
 have k1 := (g3.block _ hl1 (by simp [Value.ownBlock])).trans X12.out
 have p0 : w3.cell? ⟨w.heap.size, 0, none⟩ = some (jI jZ lv) := by rw [cell_of_row w3 _ 0 _ _ _ k0]; rfl
 have p1 : w3.cell? ⟨w.heap.size, 1, none⟩ = some (.slice A n c) := by rw [cell_of_row w3 _ 1 _ _ _ k0]; rfl
 have p2 : w3.cell? ⟨w.heap.size, 2, none⟩ = some (jI jZ hi) := by rw [cell_of_row w3 _ 2 _ _ _ k0]; rfl
 have p3 : w3.cell? ⟨w.heap.size, 3, none⟩ = some (jI jZ ri) := by rw [cell_of_row w3 _ 3 _ _ _ k0]; rfl
 have p4 : w3.cell? ⟨w.heap.size, 4, none⟩ = some (jI jZ ow) := by rw [cell_of_row w3 _ 4 _ _ _ k0]; rfl
 have q0 : w3.cell? ⟨w.heap.size + 1, 0, none⟩ = some (jI jZ 0) := by rw [cell_of_row w3 _ 0 _ _ _ k1]; rfl
 have q1 : w3.cell? ⟨w.heap.size + 1, 1, none⟩ = some (.slice none 0 0) := by rw [cell_of_row w3 _ 1 _ _ _ k1]; rfl
 have q2 : w3.cell? ⟨w.heap.size + 1, 2, none⟩ = some (jI jZ 0) := by rw [cell_of_row w3 _ 2 _ _ _ k1]; rfl
 have q3 : w3.cell? ⟨w.heap.size + 1, 3, none⟩ = some (jI jZ 0) := by rw [cell_of_row w3 _ 3 _ _ _ k1]; rfl
 have q4 : w3.cell? ⟨w.heap.size + 1, 4, none⟩ = some (jI jZ 0) := by rw [cell_of_row w3 _ 4 _ _ _ k1]; rfl
 have f0 : ∀ i, w3.frozen? ⟨w.heap.size, i, none⟩ = false := fun i => frozen_of_row w3 _ i _ _ k0
 have f1 : ∀ i, w3.frozen? ⟨w.heap.size + 1, i, none⟩ = false := fun i => frozen_of_row w3 _ i _ _ k1
 have O3 := Lib.hid o3
 have B3 := Lib.hid (B2.out.grown g3 B2.out.size (fun k hk => by simp [Value.ownBlock] at hk; omega))
 have K1 := Lib.hid k1
 clear o3 g3 k0 k1 hl0 hl1
 go_wp2
 have kz := (Below.heap_setCell w3 ⟨w.heap.size, 1, none⟩ (jS A3 n cc) (w.heap.size + 1) (by simp)).trans K1.out
 have s0 := heap_setCell_same _ (w.heap.size + 1) 0 _ _ (jI jZ lv) kz
 have s1 := heap_setCell_same _ (w.heap.size + 1) 1 _ _ (jS A3 n cc) s0
 have s2 := heap_setCell_same _ (w.heap.size + 1) 2 _ _ (jI jZ hi) s1
 have s3 := heap_setCell_same _ (w.heap.size + 1) 3 _ _ (jI jZ ri) s2
 have s4 := heap_setCell_same _ (w.heap.size + 1) 4 _ _ (jI jZ ow) s3
 have B5 : Below w.heap.size w ((((((w3.setCell ⟨w.heap.size, 1, none⟩ (jS A3 n cc)).setCell ⟨w.heap.size + 1, 0, none⟩ (jI jZ lv)).setCell ⟨w.heap.size + 1, 1, none⟩ (jS A3 n cc)).setCell ⟨w.heap.size + 1, 2, none⟩ (jI jZ hi)).setCell ⟨w.heap.size + 1, 3, none⟩ (jI jZ ri)).setCell ⟨w.heap.size + 1, 4, none⟩ (jI jZ ow)) := by
   repeat (refine Below.setCell ?_ (by simp; try omega) _)
   exact B3.out
 have O5 : World.ownsRow ((((((w3.setCell ⟨w.heap.size, 1, none⟩ (jS A3 n cc)).setCell ⟨w.heap.size + 1, 0, none⟩ (jI jZ lv)).setCell ⟨w.heap.size + 1, 1, none⟩ (jS A3 n cc)).setCell ⟨w.heap.size + 1, 2, none⟩ (jI jZ hi)).setCell ⟨w.heap.size + 1, 3, none⟩ (jI jZ ri)).setCell ⟨w.heap.size + 1, 4, none⟩ (jI jZ ow)) (w.heap.size + 1 + 1) 68 2 (jS A3 n cc) n (PL zs) := by
   repeat (refine ownsRow_setCell_below ?_ (by simp; try omega) _)
   exact O3.out
 generalize (((((w3.setCell ⟨w.heap.size, 1, none⟩ (jS A3 n cc)).setCell ⟨w.heap.size + 1, 0, none⟩ (jI jZ lv)).setCell ⟨w.heap.size + 1, 1, none⟩ (jS A3 n cc)).setCell ⟨w.heap.size + 1, 2, none⟩ (jI jZ hi)).setCell ⟨w.heap.size + 1, 3, none⟩ (jI jZ ri)).setCell ⟨w.heap.size + 1, 4, none⟩ (jI jZ ow) = w9 at *
 have c0 : w9.cell? ⟨w.heap.size + 1, 0, none⟩ = some (jI jZ lv) := by rw [cell_of_row w9 _ 0 _ _ _ s4]; rfl
 have c1 : w9.cell? ⟨w.heap.size + 1, 1, none⟩ = some (.slice A3 n cc) := by rw [cell_of_row w9 _ 1 _ _ _ s4]; rfl
 have c2 : w9.cell? ⟨w.heap.size + 1, 2, none⟩ = some (jI jZ hi) := by rw [cell_of_row w9 _ 2 _ _ _ s4]; rfl
 have c3 : w9.cell? ⟨w.heap.size + 1, 3, none⟩ = some (jI jZ ri) := by rw [cell_of_row w9 _ 3 _ _ _ s4]; rfl
 have c4 : w9.cell? ⟨w.heap.size + 1, 4, none⟩ = some (jI jZ ow) := by rw [cell_of_row w9 _ 4 _ _ _ s4]; rfl
 refine bodyPost_ret (v := .agg #[jI jZ lv, jS A3 n cc, jI jZ hi, jI jZ ri, jI jZ ow]) (by simp [results, Tryz.results43, go_sem, c0, c1, c2, c3, c4]) rfl ⟨_, rfl, own_base O5 (by omega), B5⟩
end Go.Proofs.YtpffkhjegpddbaaGreat
namespace Go.Proofs.YtpffkhjegpddbaaGreat
open Go.RowKit

theorem ndOwn {w : World} {x : Nd} {v : Value} {base n : Nat} (h : w.ownsRow base 68 2 v n (PL x.ps)) : encNd.Own w [jI jZ x.lv, v, jI jZ x.hi, jI jZ x.ri, jI jZ x.ow] x (blkF v.ownBlock) := by
 have hl : x.ps.length = n := by have := h.1; rw [PL_length] at this; omega
 exact ⟨v, rfl, by rw [hl]; exact own_zero h, fun k hk => hk⟩

theorem wp_appN {w : World} {o : Oper} {a : Act} {K : Act → World → Prop} {Q : Exit → Act → World → Prop} (s x : Operand)
   (ho : o.op = .call { callee := .builtin .append, args := #[s, x], argTypes := #[24, 24] })
   (v : Value) (xs : List Nd) (m : Nat) (hm : xs.length = m) (F : FP) (hs : a.eval s = v) (hown : OwnS w v xs F) (y : Nd) (u : Value) (Fy : FP)
   (g : Nat) (hx : a.eval x = jS (some ⟨g, 0, none⟩) 1 1) (hg : w.heap[g]? = some (.cells #[jI jZ y.lv, u, jI jZ y.hi, jI jZ y.ri, jI jZ y.ow] 53 (0, 0)))
   (hu : encNd.Own w [jI jZ y.lv, u, jI jZ y.hi, jI jZ y.ri, jI jZ y.ow] y Fy) (hlt : ∀ k, F k ∨ Fy k → k < w.heap.size) (hap : ∀ k, Fy k → ¬ F k) (hu1 : u.oneCell' = true)
   (hsz : xs.length ≤ 4194304)
   (h : ∀ g' cap w', OwnS w' (jS (some ⟨g', 0, none⟩) (m + 1) cap) (xs ++ [y]) (fun k => F k ∨ Fy k ∨ (w.heap.size ≤ k ∧ k < w'.heap.size)) → Only F w w' → K (a.put o.dst (jS (some ⟨g', 0, none⟩) (m + 1) cap)) w') : Oper.wp Tryz.prog o a w K Q := by
 subst hm
 obtain ⟨i0, hi0, hz0, hz1, hz2⟩ := info_parts node_info
 obtain ⟨ys, hrow, hsn⟩ := hown.snoc
 have hF : ∀ k, v.ownBlock = some k → F k := by obtain ⟨_, _, _, _, _, _, _, h6⟩ := hown; exact h6
 refine wp_append_lies w s x 24 ho 0 53 i0 _ 5 56 Tryz.underlying24 hi0 hz0 hz1 hz2 rfl (by omega) v xs.length ys hs hrow ⟨g, 0, none⟩ 1 1 [jI jZ y.lv, u, jI jZ y.hi, jI jZ y.ri, jI jZ y.ow] hx rfl
   (World.news_of_block hg) (fun q hq => by simp only [List.mem_cons, List.not_mem_nil, or_false] at hq; rcases hq with rfl | rfl | rfl | rfl | rfl <;> first | rfl | exact hu1) (by omega) (by unfold maxLen; omega) (by omega) (Nat.zero_le _) w.heap.size rfl (fun g' cap w' h1 h2 h3 h4 => ?_)
 have hsame : ∀ k, k < w.heap.size → v.ownBlock ≠ some k → w'.heap[k]? = w.heap[k]? := fun k hk hn => h2.block k hk (fun e => hn e.symm)
 refine h g' cap w' ((hsn w' _ _ y Fy h1 (encNd.own_keep hu (fun k hk hlt' => hsame k hlt' (fun e => hap k hk (hF k e)))) (fun k hk hn hlt' => hsame k hlt' hn) (fun k hk => ⟨fun hy => ?_, fun hf => ?_⟩) hap).more (fun k hk => ?_)) (Only.of_grown h2 (fun k hk => hF k hk))
 · obtain rfl : g' = k := by simpa [Value.ownBlock] using hk
   rcases h3 with h5 | h5
   · exact hap _ hy (hF _ h5)
   · have := hlt _ (.inr hy); omega
 · obtain rfl : g' = k := by simpa [Value.ownBlock] using hk
   rcases h3 with h5 | h5
   · exact h5
   · have := hlt _ (.inl hf); omega
 · rcases hk with h5 | h5 | h5
   · exact .inl h5
   · exact .inr (.inl h5)
   · obtain rfl : g' = k := by simpa [Value.ownBlock] using h5
     rcases h3 with h6 | h6
     · exact .inl (hF _ h6)
     · exact .inr (.inr ⟨by omega, h4⟩)
theorem step_appN {w : World} {ops : Array Oper} {E : Prop} {o : Oper} {a : Act} {K : Act → World → Prop} {Q : Exit → Act → World → Prop} (hgd : o.guard = none) (s x : Operand)
   (ho : o.op = .call { callee := .builtin .append, args := #[s, x], argTypes := #[24, 24] })
   (v : Value) (xs : List Nd) (m : Nat) (hm : xs.length = m) (F : FP) (hs : a.eval s = v) (hown : OwnS w v xs F) (y : Nd) (u : Value) (Fy : FP)
   (g : Nat) (hx : a.eval x = jS (some ⟨g, 0, none⟩) 1 1) (hg : w.heap[g]? = some (.cells #[jI jZ y.lv, u, jI jZ y.hi, jI jZ y.ri, jI jZ y.ow] 53 (0, 0)))
   (hu : encNd.Own w [jI jZ y.lv, u, jI jZ y.hi, jI jZ y.ri, jI jZ y.ow] y Fy) (hlt : ∀ k, F k ∨ Fy k → k < w.heap.size) (hap : ∀ k, Fy k → ¬ F k) (hu1 : u.oneCell' = true)
   (hsz : xs.length ≤ 4194304)
   (h : ∀ g' cap w', OwnS w' (jS (some ⟨g', 0, none⟩) (m + 1) cap) (xs ++ [y]) (fun k => F k ∨ Fy k ∨ (w.heap.size ≤ k ∧ k < w'.heap.size)) → Only F w w' → K (a.put o.dst (jS (some ⟨g', 0, none⟩) (m + 1) cap)) w') :
   if Region.wanted o (yielded ops a.tmps) = true then Oper.wp Tryz.prog o a w K Q else E := by
 have hw : Region.wanted o (yielded ops a.tmps) = true := by simp [Region.wanted, hgd]
 rw [if_pos hw]
 exact wp_appN s x ho v xs m hm F hs hown y u Fy g hx hg hu hlt hap hu1 hsz h

set_option maxRecDepth 100000 in
set_option maxHeartbeats 1000000 in
theorem copyT_any (r : Int) (xs : List Nd) (A : Option Addr) (n c : Nat) (w : World) (h : RS w w.heap.size A n xs) (hs : Small.sm xs) :
   Calls Tryz.prog 27 #[.agg #[jI jZ r, jS A n c]] w fun e w' => ∃ v F, e = .returned (.agg #[jI jZ r, v]) ∧ OwnS w' v xs F ∧ Fresh F w w' ∧ Below w.heap.size w w' := by
 have hl := h.1
 have HL := Lib.hid hl
 have HS := Lib.hid hs
 have hn : n ≤ 1048576 := by rw [← hl]; exact hs.1
 obtain ⟨w0, hw0⟩ : ∃ w0, w0 = w.alloc (.cells #[jI jZ r, jS A n c] 26) := ⟨_, rfl⟩
 have b0 : Below w.heap.size w w0 := by rw [hw0]; exact (Below.refl _ _).alloc (Nat.le_refl _) _
 have x0 : w0.heap[w.heap.size]? = some (.cells #[jI jZ r, jS A n c] 26 (0, 0)) := by rw [hw0]; exact heap_alloc_new _ _
 have HH := Lib.hid (h.on b0)
 have B0 := Lib.hid b0
 have X0 := Lib.hid x0
 have HW := Lib.hid hw0
 clear h hl hs hw0 b0 x0
 go_enter Tryz.func27, Tryz.ntmps27
 obtain ⟨w2, hw2⟩ : ∃ w2, w2 = (w0.alloc (.cells #[jI jZ 0, jS none 0 0] 26)).alloc (.cells #[jI jZ r, jS none 0 0] 26) := ⟨_, rfl⟩
 have hs0 : w0.heap.size = w.heap.size + 1 := by rw [HW.out]; simp
 have b2 : Below w0.heap.size w0 w2 := by rw [hw2]; exact ((Below.refl _ _).alloc (Nat.le_refl _) _).alloc (by simp) _
 have hs2 : w2.heap.size = w.heap.size + 3 := by rw [hw2]; simp; omega
 have x1 : w2.heap[w.heap.size + 1]? = some (.cells #[jI jZ 0, jS none 0 0] 26 (0, 0)) := by
   rw [hw2, Below.heap_alloc _ _ _ (by simp; omega), ← hs0]
   exact heap_alloc_new _ _
 have x2 : w2.heap[w.heap.size + 1 + 1]? = some (.cells #[jI jZ r, jS none 0 0] 26 (0, 0)) := by
   rw [hw2]
   have := heap_alloc_new (w0.alloc (.cells #[jI jZ 0, jS none 0 0] 26)) (.cells #[jI jZ r, jS none 0 0] 26)
   rwa [show (w0.alloc (.cells #[jI jZ 0, jS none 0 0] 26)).heap.size = w.heap.size + 1 + 1 from by simp; omega] at this
 have hw2' : w2 = ((w.alloc (.cells #[jI jZ r, jS A n c] 26)).alloc (.cells #[jI jZ 0, jS none 0 0] 26)).alloc (.cells #[jI jZ r, jS none 0 0] 26) := by rw [hw2, HW.out]
 have HW2 := Lib.hid hw2'
 have X1 := Lib.hid x1
 have X2 := Lib.hid x2
 have BB2 := Lib.hid b2
 have HS0 := Lib.hid hs0
 have HS2 := Lib.hid hs2
 clear hw2 hw2' x1 x2 b2 hs0 hs2
 go_wp2
 change Code.wp _ _ _ _ (((w.alloc (.cells #[jI jZ r, jS A n c] 26)).alloc (.cells #[jI jZ 0, jS none 0 0] 26)).alloc (.cells #[jI jZ r, jS none 0 0] 26))
 rw [← HW2.out]
 go_loopw [4] (fun i wr => ∃ (k : Nat) (v : Value) (F : FP), i = jI jZ k ∧ k ≤ n ∧ w.heap.size + 3 ≤ wr.heap.size ∧ Hid (OwnS wr v (xs.take k) F) ∧ Hid (∀ q, F q → w.heap.size + 3 ≤ q ∧ q < wr.heap.size) ∧
   Hid (wr.heap[w.heap.size + 1 + 1]? = some (.cells #[jI jZ r, v] 26 (0, 0))) ∧ Hid (wr.heap[w.heap.size + 1]? = some (.cells #[jI jZ 0, jS none 0 0] 26 (0, 0))) ∧ Hid (Below w0.heap.size w0 wr)) (fun i _ => n - (intOf i).toNat)
 case atStart => exact ⟨0, _, fun _ => False, rfl, by omega, by have := HS2.out; omega, Lib.hid (by simpa using OwnS.nil (α := Nd) w2 (fun _ => False)), Lib.hid (fun q hq => absurd hq id), X2, X1, BB2⟩
 case round =>
   obtain ⟨k, v, F, rfl, hk, hszr, ho, hF, hx2, hx1, hbw⟩ := hrel
   have D0 : Hid (∀ wx, Below w0.heap.size w0 wx → wx.cell? ⟨w.heap.size, 1, none⟩ = some (.slice A n c)) := Lib.hid (fun wx hb => by rw [cell_of_row _ _ 1 _ _ _ (box_on hb X0.out)]; rfl)
   have d1 := D0.out _ hbw.out
   by_cases hlt : k < n
   · obtain ⟨b, off, rfl, hb, hc⟩ := HH.out.nd (by omega)
     obtain ⟨A2, n2, c2, c0, c1, c2', c3, c4, hR, _⟩ := hc k hlt
     have hn2 : n2 ≤ 1048576 := by rw [← hR.1]; exact HS.out.2 k (by rw [HL.out]; exact hlt)
     have hte : xs.take (k + 1) = xs.take k ++ [ndAt xs k] := by rw [ndAt_eq _ _ (by have := HL.out; omega), List.take_succ_eq_append_getElem (by have := HL.out; omega)]
     have hlk : (xs.take k).length = k := by rw [List.length_take]; have := HL.out; omega
     have HTE := Lib.hid hte
     have HLK := Lib.hid hlk
     generalize ndAt xs k = y at *
     have cN : ∀ wx, Below w0.heap.size w0 wx → Calls Tryz.prog 43 #[ndV y A2 n2 c2] wx fun e w' => ∃ v, e = .returned (.agg #[jI jZ y.lv, v, jI jZ y.hi, jI jZ y.ri, jI jZ y.ow]) ∧ w'.ownsRow wx.heap.size 68 2 v n2 (PL y.ps) ∧ Below wx.heap.size wx w' := fun wx hb => copyN_any y A2 n2 c2 wx (hR.on hb) hn2
     obtain ⟨lv, zs, hi, ri, ow⟩ := y
     unfold ndV at cN
     simp only at *
     have CN := Lib.hid cN
     have KR : Hid (∀ wx, Below w0.heap.size w0 wx → wx.cell? ⟨w.heap.size, 1, none⟩ = some (.slice (some ⟨b, off, none⟩) n c) ∧ wx.cell? ⟨b, off + k * 5, none⟩ = some (jI jZ lv) ∧ wx.cell? ⟨b, off + k * 5 + 1, none⟩ = some (.slice A2 n2 c2) ∧ wx.cell? ⟨b, off + k * 5 + 2, none⟩ = some (jI jZ hi) ∧ wx.cell? ⟨b, off + k * 5 + 3, none⟩ = some (jI jZ ri) ∧ wx.cell? ⟨b, off + k * 5 + 4, none⟩ = some (jI jZ ow)) := Lib.hid (fun wx hbx => ⟨D0.out _ hbx, (hbx.cell hb).trans c0, (hbx.cell hb).trans c1, (hbx.cell hb).trans c2', (hbx.cell hb).trans c3, (hbx.cell hb).trans c4⟩)
     have dO : wr.cell? ⟨w.heap.size + 1 + 1, 1, none⟩ = some v := by rw [cell_of_row _ _ 1 _ _ _ hx2.out]; rfl
     clear cN c0 c1 c2' c3 c4 hc hR hte hlk
     have hs0 := HS0.out
     go_wp2
     obtain ⟨z0, z1, z2, z3, z4, z5⟩ := KR.out _ hbw.out
     go_region_law
       (first
         | (refine step_appN rfl (.tmp 16) (.tmp 23) rfl v (xs.take k) k HLK.out F rfl (O5.out.keep (fun q _ hq => Below.heap_alloc _ _ _ hq)) ⟨lv, zs, hi, ri, ow⟩ (jS A5 n2 c5) (blkF (Value.slice A5 n2 c5).ownBlock) w5.heap.size rfl (heap_alloc_new _ _) (encNd.own_keep U5.out (fun q _ hq => Below.heap_alloc _ _ _ hq)) LT5.out AP5.out rfl (by rw [HLK.out]; omega) ?_; intro g6 cap6 w6 o6 gg6; have E6 : Hid (Below w0.heap.size w0 w6) := Lib.hid (bel_only (E5.out.alloc E5.out.size _) gg6 (E5.out.alloc E5.out.size _).size (fun q hq => by have := hF.out q hq; omega)); have Y6 := Lib.hid (box_off gg6 ((Below.heap_alloc _ _ _ (Array.getElem?_eq_some_iff.1 X52.out).1).trans X52.out) (fun hq => by have := hF.out _ hq; omega)); have Z6 := Lib.hid (box_off gg6 ((Below.heap_alloc _ _ _ (Array.getElem?_eq_some_iff.1 X51.out).1).trans X51.out) (fun hq => by have := hF.out _ hq; omega)); have dO6 : w6.cell? ⟨w.heap.size + 1 + 1, 1, none⟩ = some v := (by rw [cell_of_row _ _ 1 _ _ _ Y6.out]; rfl); have fO6 : w6.frozen? ⟨w.heap.size + 1 + 1, 1, none⟩ = false := frozen_of_row w6 _ 1 _ _ Y6.out; have SZ6 : Hid (w5.heap.size < w6.heap.size) := Lib.hid (by have := gg6.size; simp at this; omega); have OO6 := Lib.hid o6; clear o6 gg6)
         | (go_simp; go_at_call 43; refine (CN.out _ ?_).mono ?_; exact hbw.out.drew; rintro e w5 ⟨v5, rfl, o5, b5⟩; obtain ⟨A5, c5, rfl, _, _⟩ := own_shape o5; have U5 := Lib.hid (ndOwn (x := ⟨lv, zs, hi, ri, ow⟩) o5); have bb5 := bel_drew b5; have E5 := Lib.hid (bel_on hbw.out bb5); have O5 := Lib.hid (ho.out.on bb5); have X52 := Lib.hid (box_on bb5 hx2.out); have X51 := Lib.hid (box_on bb5 hx1.out); have dO5 : w5.cell? ⟨w.heap.size + 1 + 1, 1, none⟩ = some v := (by rw [cell_of_row _ _ 1 _ _ _ X52.out]; rfl); have dO5a : ∀ o, (w5.alloc o).cell? ⟨w.heap.size + 1 + 1, 1, none⟩ = some v := (fun o => (((Below.refl w5.heap.size w5).alloc (Nat.le_refl _) o).cell (p := ⟨w.heap.size + 1 + 1, 1, none⟩) (World.block_lt_of_cell? _ _ dO5)).trans dO5); have LT5 : Hid (∀ q, F q ∨ blkF (Value.slice A5 n2 c5).ownBlock q → q < (w5.alloc (.cells #[jI jZ lv, jS A5 n2 c5, jI jZ hi, jI jZ ri, jI jZ ow] 53)).heap.size) := Lib.hid (fun q hq => by simp; rcases hq with h1 | h1; (have := hF.out q h1; have := bb5.size; omega); (have := (o5.lt q h1).2; omega)); have AP5 : Hid (∀ q, blkF (Value.slice A5 n2 c5).ownBlock q → ¬ F q) := Lib.hid (fun q h1 h2 => by have := hF.out q h2; have := (o5.lt q h1).1; simp at this; omega); have LO5 : Hid (∀ q, blkF (Value.slice A5 n2 c5).ownBlock q → wr.heap.size ≤ q ∧ q < w5.heap.size) := Lib.hid (fun q h1 => by have := o5.lt q h1; simp at this; omega); have SZ5 := Lib.hid bb5.size; clear o5 b5 bb5))
     all_goals go_wp2
     all_goals go_roundw
     all_goals try (case measure => simp [intOf]; omega)
     all_goals (
       refine ⟨k + 1, (jS (some ⟨g6, 0, none⟩) (k + 1) cap6), fun q => F q ∨ blkF (Value.slice A5 n2 c5).ownBlock q ∨ ((w5.alloc (.cells #[jI jZ lv, jS A5 n2 c5, jI jZ hi, jI jZ ri, jI jZ ow] 53)).heap.size ≤ q ∧ q < w6.heap.size), by go_num, by omega, ?_, Lib.hid ?_, Lib.hid ?_, Lib.hid ?_, Lib.hid ?_, Lib.hid ?_⟩
       · have := SZ5.out; have := SZ6.out; simp [World.setCell] at *; omega
       · have hF6 : ∀ q, (F q ∨ blkF (Value.slice A5 n2 c5).ownBlock q ∨ ((w5.alloc (.cells #[jI jZ lv, jS A5 n2 c5, jI jZ hi, jI jZ ri, jI jZ ow] 53)).heap.size ≤ q ∧ q < w6.heap.size)) → q ≠ w.heap.size + 1 + 1 := fun q hq => by
           have := SZ5.out
           rcases hq with h1 | h1 | h1
           · have := hF.out q h1; omega
           · have := LO5.out q h1; omega
           · simp at h1 this; omega
         rw [HTE.out]
         exact OO6.out.keep (fun q hq _ => Below.heap_setCell _ _ _ _ (hF6 q hq))
       · intro q hq
         have h5 := SZ5.out
         have h6 := SZ6.out
         simp only [World.setCell, Array.size_modify]
         rcases hq with h1 | h1 | h1
         · have := hF.out q h1; omega
         · have := LO5.out q h1; omega
         · simp at h1; omega
       · exact heap_setCell_same _ _ 1 _ _ _ Y6.out
       · rw [Below.heap_setCell _ _ _ _ (by simp)]; exact Z6.out
       · exact E6.out.setCell (by simp; omega) _)
   · obtain rfl : k = n := by omega
     have e : xs.take k = xs := by rw [← HL.out]; exact List.take_length
     have ho2 := ho.out
     rw [e] at ho2
     obtain ⟨Ao, co, rfl, _, _⟩ := ho2.form
     rw [HL.out] at ho2 hx2
     have HO2 := Lib.hid ho2
     have f1 : ∀ i, wr.frozen? ⟨w.heap.size + 1, i, none⟩ = false := fun i => frozen_of_row wr _ i _ _ hx1.out
     have p0 : wr.cell? ⟨w.heap.size + 1 + 1, 0, none⟩ = some (jI jZ r) := by rw [cell_of_row _ _ 0 _ _ _ hx2.out]; rfl
     have p1 : wr.cell? ⟨w.heap.size + 1 + 1, 1, none⟩ = some (.slice Ao k co) := by rw [cell_of_row _ _ 1 _ _ _ hx2.out]; rfl
     have q0 : wr.cell? ⟨w.heap.size + 1, 0, none⟩ = some (jI jZ 0) := by rw [cell_of_row _ _ 0 _ _ _ hx1.out]; rfl
     have q1 : wr.cell? ⟨w.heap.size + 1, 1, none⟩ = some (.slice none 0 0) := by rw [cell_of_row _ _ 1 _ _ _ hx1.out]; rfl
     clear ho ho2 e
     go_wp2
     refine bodyPost_ret (v := .agg #[jI jZ r, jS Ao k co]) (by simp [results, Tryz.results27, go_sem, q0, q1]) rfl ⟨jS Ao k co, F, rfl, ?_, ?_, ?_⟩
     · refine HO2.out.keep (fun q hq _ => ?_)
       have := (hF.out q hq).1
       rw [Below.heap_setCell _ _ _ _ (by simp; omega), Below.heap_setCell _ _ _ _ (by simp; omega)]
     · intro q hq
       have := hF.out q hq
       simp only [World.setCell, Array.size_modify]
       omega
     · exact ((B0.out.trans (hbw.out.mono B0.out.size)).setCell (by simp) _).setCell (by simp) _
end Go.Proofs.YtpffkhjegpddbaaGreat
