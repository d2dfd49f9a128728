/- The walks of the model's HeldBy, l2Copy, l3Copy. -/
import Derived.Test.YtjookicpmjmdhaaT6
namespace Go.Proofs.Ytjookicpmjmdhaa
open Go.RowKit

/-! ### Who holds what -/

/-- The numbers of the first k nodes that have this owner. -/
def heldTo (xs : List Nd) (o : Int) (k : Nat) : List Int := ((List.range k).filter fun i => (ndAt xs i).ow == o).map fun i : Nat => (i : Int)
theorem heldTo_yes (xs : List Nd) (o : Int) (k : Nat) (h : (ndAt xs k).ow = o) : heldTo xs o (k + 1) = heldTo xs o k ++ [(k : Int)] := by
  unfold heldTo
  rw [List.range_succ, List.filter_append, List.map_append]
  simp [h]
theorem heldTo_no (xs : List Nd) (o : Int) (k : Nat) (h : (ndAt xs k).ow ≠ o) : heldTo xs o (k + 1) = heldTo xs o k := by
  unfold heldTo
  rw [List.range_succ, List.filter_append, List.map_append]
  simp [h]
theorem heldTo_len (xs : List Nd) (o : Int) (k : Nat) : (heldTo xs o k).length ≤ k := by
  unfold heldTo
  rw [List.length_map]
  have := List.length_filter_le (fun i => (ndAt xs i).ow == o) (List.range k)
  simpa using this
def heldT (r : Int) (xs : List Nd) (task : Int) : List Int := if treeOk r xs && inB task 0 5 then heldTo xs (task + 1) xs.length else []
theorem heldT_sm (r : Int) (xs : List Nd) (task : Int) : Small.sm (heldT r xs task) := by
  show (heldT r xs task).length ≤ 1048576
  unfold heldT
  by_cases h : treeOk r xs = true
  · have h40 := ((treeOk_iff r xs).1 h).2.1
    have := heldTo_len xs (task + 1) xs.length
    split
    · omega
    · simp
  · simp [h]

theorem task_is (x : Int) (w : World) : Calls Try.prog 106 #[.int .i64 x] w fun e w' => e = .returned (.bool (inB x 0 5)) ∧ w = w' := by
  go_enter Try.func106, Try.ntmps106
  go_wp2_with (go_at_call 44; refine (in_any _ _ _ _).mono ?_; rintro e w' ⟨rfl, rfl⟩)
  go_ret
  exact ⟨rfl, rfl⟩

set_option maxHeartbeats 1000000 in
theorem copyN_any (x : Nd) (A : Option Addr) (n c : Nat) (w : World) (h : RP w w.heap.size A n x.ps) (hn : n ≤ 1048576) :
    Calls Try.prog 84 #[ndV x A n c] w fun e w' => ∃ v, e = .returned (.agg #[.int .i64 x.lv, v, .int .i64 x.hi, .int .i64 x.ri, .int .i64 x.ow]) ∧ w'.ownsRow w.heap.size 86 2 v n (PL x.ps) ∧ Below w.heap.size w w' := by
  obtain ⟨lv, zs, hi, ri, ow⟩ := x
  unfold ndV
  simp only at *
  obtain ⟨w0, hw0⟩ : ∃ w0, w0 = w.alloc (.cells #[.int .i64 lv, .slice A n c, .int .i64 hi, .int .i64 ri, .int .i64 ow] 101) := ⟨_, rfl⟩
  have b0 : Below w.heap.size w w0 := by rw [hw0]; exact (Below.refl _ _).alloc (Nat.le_refl _) _
  have x0 : w0.heap[w.heap.size]? = some (.cells #[.int .i64 lv, .slice A n c, .int .i64 hi, .int .i64 ri, .int .i64 ow] 101 (0, 0)) := by rw [hw0]; exact heap_alloc_new _ _
  have HH := Lib.hid (h.on b0)
  have B0 := Lib.hid b0
  have X0 := Lib.hid x0
  have HW := Lib.hid hw0
  clear h hw0 b0 x0
  obtain ⟨w1, hw1⟩ : ∃ w1, w1 = w0.alloc (.cells #[.int .i64 0, .slice none 0 0, .int .i64 0, .int .i64 0, .int .i64 0] 101) := ⟨_, rfl⟩
  obtain ⟨w2, hw2⟩ : ∃ w2, w2 = w1.alloc (.cells #[] 86) := ⟨_, rfl⟩
  have b1 : Below w0.heap.size w0 w1 := by rw [hw1]; exact (Below.refl _ _).alloc (Nat.le_refl _) _
  have b2 : Below w1.heap.size w1 w2 := by rw [hw2]; exact (Below.refl _ _).alloc (Nat.le_refl _) _
  have hs0 : w0.heap.size = w.heap.size + 1 := by rw [HW.out]; simp
  have hs1 : w1.heap.size = w.heap.size + 1 + 1 := by rw [hw1]; simp; omega
  have x1 : w1.heap[w.heap.size + 1]? = some (.cells #[.int .i64 0, .slice none 0 0, .int .i64 0, .int .i64 0, .int .i64 0] 101 (0, 0)) := by rw [hw1, ← hs0]; exact heap_alloc_new _ _
  have o2 : w2.ownsRow (w.heap.size + 1 + 1) 86 2 (.slice (some ⟨w.heap.size + 1 + 1, 0, none⟩) 0 0) 0 (PL []) := by
    rw [hw2, ← hs1]; exact empty_row w1
  have HH2 := Lib.hid ((HH.out.on (bel_on b1 b2)))
  have X02 := Lib.hid (box_on b2 (box_on b1 X0.out))
  have X12 := Lib.hid (box_on b2 x1)
  have O2 := Lib.hid o2
  have S2 : Hid (w.heap.size + 1 + 1 ≤ w2.heap.size) := Lib.hid (by have := b2.size; omega)
  have B2 := Lib.hid (bel_on B0.out (bel_on b1 b2))
  have E2 : Hid (w2 = ((w.alloc (.cells #[.int .i64 lv, .slice A n c, .int .i64 hi, .int .i64 ri, .int .i64 ow] 101)).alloc (.cells #[.int .i64 0, .slice none 0 0, .int .i64 0, .int .i64 0, .int .i64 0] 101)).alloc (.cells #[] 86)) := Lib.hid (by rw [hw2, hw1, HW.out])
  clear hw1 hw2 b1 b2 hs0 hs1 x1 o2 HH X0
  go_enter Try.func84, Try.ntmps84
  go_wp2_with (at_builtin; rw [← E2.out]; refine wpList_app rfl (.tmp 3) (.tmp 5) rfl (w.heap.size + 1 + 1) _ 0 [] rfl O2.out _ A n c zs rfl HH2.out (by omega) S2.out ?_)
  intro v3 w3 o3 g3
  obtain ⟨A3, cc, rfl, _, _⟩ := own_shape o3
  have hl0 : w.heap.size < w2.heap.size := by have := S2.out; omega
  have hl1 : w.heap.size + 1 < w2.heap.size := by have := S2.out; omega
  have k0 := (g3.block _ hl0 (by simp [Value.ownBlock]; omega)).trans X02.out
  have k1 := (g3.block _ hl1 (by simp [Value.ownBlock])).trans X12.out
  have p0 : w3.cell? ⟨w.heap.size, 0, none⟩ = some (.int .i64 lv) := by rw [cell_of_row w3 _ 0 _ _ _ k0]; rfl
  have p1 : w3.cell? ⟨w.heap.size, 1, none⟩ = some (.slice A n c) := by rw [cell_of_row w3 _ 1 _ _ _ k0]; rfl
  have p2 : w3.cell? ⟨w.heap.size, 2, none⟩ = some (.int .i64 hi) := by rw [cell_of_row w3 _ 2 _ _ _ k0]; rfl
  have p3 : w3.cell? ⟨w.heap.size, 3, none⟩ = some (.int .i64 ri) := by rw [cell_of_row w3 _ 3 _ _ _ k0]; rfl
  have p4 : w3.cell? ⟨w.heap.size, 4, none⟩ = some (.int .i64 ow) := by rw [cell_of_row w3 _ 4 _ _ _ k0]; rfl
  have q0 : w3.cell? ⟨w.heap.size + 1, 0, none⟩ = some (.int .i64 0) := by rw [cell_of_row w3 _ 0 _ _ _ k1]; rfl
  have q1 : w3.cell? ⟨w.heap.size + 1, 1, none⟩ = some (.slice none 0 0) := by rw [cell_of_row w3 _ 1 _ _ _ k1]; rfl
  have q2 : w3.cell? ⟨w.heap.size + 1, 2, none⟩ = some (.int .i64 0) := by rw [cell_of_row w3 _ 2 _ _ _ k1]; rfl
  have q3 : w3.cell? ⟨w.heap.size + 1, 3, none⟩ = some (.int .i64 0) := by rw [cell_of_row w3 _ 3 _ _ _ k1]; rfl
  have q4 : w3.cell? ⟨w.heap.size + 1, 4, none⟩ = some (.int .i64 0) := by rw [cell_of_row w3 _ 4 _ _ _ k1]; rfl
  have f0 : ∀ i, w3.frozen? ⟨w.heap.size, i, none⟩ = false := fun i => frozen_of_row w3 _ i _ _ k0
  have f1 : ∀ i, w3.frozen? ⟨w.heap.size + 1, i, none⟩ = false := fun i => frozen_of_row w3 _ i _ _ k1
  have O3 := Lib.hid o3
  have B3 := Lib.hid (B2.out.grown g3 B2.out.size (fun k hk => by simp [Value.ownBlock] at hk; omega))
  have K1 := Lib.hid k1
  clear o3 g3 k0 k1 hl0 hl1
  go_wp2
  have kz := (Below.heap_setCell w3 ⟨w.heap.size, 1, none⟩ (.slice A3 n cc) (w.heap.size + 1) (by simp)).trans K1.out
  have s0 := heap_setCell_same _ (w.heap.size + 1) 0 _ _ (.int .i64 lv) kz
  have s1 := heap_setCell_same _ (w.heap.size + 1) 1 _ _ (.slice A3 n cc) s0
  have s2 := heap_setCell_same _ (w.heap.size + 1) 2 _ _ (.int .i64 hi) s1
  have s3 := heap_setCell_same _ (w.heap.size + 1) 3 _ _ (.int .i64 ri) s2
  have s4 := heap_setCell_same _ (w.heap.size + 1) 4 _ _ (.int .i64 ow) s3
  have B5 : Below w.heap.size w ((((((w3.setCell ⟨w.heap.size, 1, none⟩ (.slice A3 n cc)).setCell ⟨w.heap.size + 1, 0, none⟩ (.int .i64 lv)).setCell ⟨w.heap.size + 1, 1, none⟩ (.slice A3 n cc)).setCell ⟨w.heap.size + 1, 2, none⟩ (.int .i64 hi)).setCell ⟨w.heap.size + 1, 3, none⟩ (.int .i64 ri)).setCell ⟨w.heap.size + 1, 4, none⟩ (.int .i64 ow)) := by
    repeat (refine Below.setCell ?_ (by simp; try omega) _)
    exact B3.out
  have O5 : World.ownsRow ((((((w3.setCell ⟨w.heap.size, 1, none⟩ (.slice A3 n cc)).setCell ⟨w.heap.size + 1, 0, none⟩ (.int .i64 lv)).setCell ⟨w.heap.size + 1, 1, none⟩ (.slice A3 n cc)).setCell ⟨w.heap.size + 1, 2, none⟩ (.int .i64 hi)).setCell ⟨w.heap.size + 1, 3, none⟩ (.int .i64 ri)).setCell ⟨w.heap.size + 1, 4, none⟩ (.int .i64 ow)) (w.heap.size + 1 + 1) 86 2 (.slice A3 n cc) n (PL zs) := by
    repeat (refine ownsRow_setCell_below ?_ (by simp; try omega) _)
    exact O3.out
  generalize (((((w3.setCell ⟨w.heap.size, 1, none⟩ (.slice A3 n cc)).setCell ⟨w.heap.size + 1, 0, none⟩ (.int .i64 lv)).setCell ⟨w.heap.size + 1, 1, none⟩ (.slice A3 n cc)).setCell ⟨w.heap.size + 1, 2, none⟩ (.int .i64 hi)).setCell ⟨w.heap.size + 1, 3, none⟩ (.int .i64 ri)).setCell ⟨w.heap.size + 1, 4, none⟩ (.int .i64 ow) = w9 at *
  have c0 : w9.cell? ⟨w.heap.size + 1, 0, none⟩ = some (.int .i64 lv) := by rw [cell_of_row w9 _ 0 _ _ _ s4]; rfl
  have c1 : w9.cell? ⟨w.heap.size + 1, 1, none⟩ = some (.slice A3 n cc) := by rw [cell_of_row w9 _ 1 _ _ _ s4]; rfl
  have c2 : w9.cell? ⟨w.heap.size + 1, 2, none⟩ = some (.int .i64 hi) := by rw [cell_of_row w9 _ 2 _ _ _ s4]; rfl
  have c3 : w9.cell? ⟨w.heap.size + 1, 3, none⟩ = some (.int .i64 ri) := by rw [cell_of_row w9 _ 3 _ _ _ s4]; rfl
  have c4 : w9.cell? ⟨w.heap.size + 1, 4, none⟩ = some (.int .i64 ow) := by rw [cell_of_row w9 _ 4 _ _ _ s4]; rfl
  refine bodyPost_ret (v := .agg #[.int .i64 lv, .slice A3 n cc, .int .i64 hi, .int .i64 ri, .int .i64 ow]) (by simp [results, Try.results84, go_sem, c0, c1, c2, c3, c4]) rfl ⟨_, rfl, own_base O5 (by omega), B5⟩
end Go.Proofs.Ytjookicpmjmdhaa
