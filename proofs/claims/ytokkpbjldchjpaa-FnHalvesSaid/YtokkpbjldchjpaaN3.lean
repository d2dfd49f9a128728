/- The walks of szNode, toNode, eqNode. -/
import Derived.Test.YtokkpbjldchjpaaN2
namespace Go.Proofs.Ytokkpbjldchjpaa
open Go.RowKit

theorem own_base' {w : World} {base base' : Nat} {e : TypeId} {size n : Nat} {v : Value} {xs : List Value} (h : w.ownsRow base e size v n xs) (hb : base' ≤ base) : w.ownsRow base' e size v n xs := by
  rcases h with ⟨hl, h' | ⟨g, cap, cur, hv, hg, rest⟩⟩
  · exact ⟨hl, .inl h'⟩
  · exact ⟨hl, .inr ⟨g, cap, cur, hv, Nat.le_trans hb hg, rest⟩⟩

theorem szNode_yes (x : Nd) (A : Option Addr) (n c : Nat) (w : World) (hn : n ≤ 1048576) :
    Calls Try.prog 16 #[ndV x A n c, .int .i64 1048576] w fun e w' => e = .returned (.int .i64 (1048576 - n)) ∧ Below w.heap.size w w' := by
  obtain ⟨lv, zs, hi, ri, ow⟩ := x
  unfold ndV
  simp only
  go_enter Try.func16, Try.ntmps16
  go_wp2_with (go_at_call 43; refine (sz_yes _ _ _ _ hn).mono ?_; rintro e w1 ⟨rfl, rfl⟩)
  go_ret
  exact ⟨rfl, (Below.refl _ _).alloc (Nat.le_refl _) _⟩
theorem szNode_no (x : Nd) (A : Option Addr) (n c : Nat) (w : World) (hn : 1048576 < n) (hm : n ≤ 9223372036854775807) :
    Calls Try.prog 16 #[ndV x A n c, .int .i64 1048576] w fun e w' => e = .returned (.int .i64 (-1)) ∧ Below w.heap.size w w' := by
  obtain ⟨lv, zs, hi, ri, ow⟩ := x
  unfold ndV
  simp only
  go_enter Try.func16, Try.ntmps16
  go_wp2_with (go_at_call 43; refine (sz_no _ _ _ _ hn hm).mono ?_; rintro e w1 ⟨rfl, rfl⟩)
  go_ret
  exact ⟨rfl, (Below.refl _ _).alloc (Nat.le_refl _) _⟩

/-- What a call hands back that makes a node whose list is its own. -/
def GivesNd (w : World) (x : Nd) (n : Nat) (e : Ending) (w' : World) : Prop :=
  ∃ b, e = .returned (ndV x (some ⟨b, 0, none⟩) n n) ∧ w'.ownsRow w.heap.size 28 2 (.slice (some ⟨b, 0, none⟩) n n) n (PL x.ps) ∧ Below w.heap.size w w'

set_option maxHeartbeats 1000000 in
theorem toNode_any (x : Nd) (A : Option Addr) (n c : Nat) (w : World) (h : RP w w.heap.size A n x.ps) (hn : n ≤ 1048576) :
    Calls Try.prog 17 #[ndV x A n c] w (GivesNd w x n) := by
  have HH := Lib.hid h
  clear h
  obtain ⟨lv, zs, hi, ri, ow⟩ := x
  unfold ndV GivesNd
  simp only at *
  go_enter Try.func17, Try.ntmps17
  go_wp2_with fail
  obtain ⟨w3, hw3⟩ : ∃ w3, w3 = ((w.alloc (.cells #[.int .i64 lv, .slice A n c, .int .i64 hi, .int .i64 ri, .int .i64 ow] 41)).alloc (.cells #[.int .i64 0, .slice none 0 0, .int .i64 0, .int .i64 0, .int .i64 0] 26)).alloc
    (.cells #[.int .i64 lv, .slice none 0 0, .int .i64 0, .int .i64 0, .int .i64 0] 26) := ⟨_, rfl⟩
  rw [← hw3]
  have B3 : Hid (Below w.heap.size w w3) := Lib.hid (by rw [hw3]; exact (((Below.refl _ _).alloc (Nat.le_refl _) _).alloc (by simp) _).alloc (by simp; omega) _)
  have hs : w3.heap.size = w.heap.size + 1 + 1 + 1 := by rw [hw3]; simp
  have hr0 : w3.heap[w.heap.size]? = some (.cells #[.int .i64 lv, .slice A n c, .int .i64 hi, .int .i64 ri, .int .i64 ow] 41 (0, 0)) := by
    rw [hw3, Below.heap_alloc _ _ _ (by simp; omega), Below.heap_alloc _ _ _ (by simp), heap_alloc_new]
  have hr1 : w3.heap[w.heap.size + 1]? = some (.cells #[.int .i64 0, .slice none 0 0, .int .i64 0, .int .i64 0, .int .i64 0] 26 (0, 0)) := by
    rw [hw3, Below.heap_alloc _ _ _ (by simp)]
    exact (by simpa using heap_alloc_new (w.alloc (.cells #[.int .i64 lv, .slice A n c, .int .i64 hi, .int .i64 ri, .int .i64 ow] 41)) (.cells #[.int .i64 0, .slice none 0 0, .int .i64 0, .int .i64 0, .int .i64 0] 26))
  have hr2 : w3.heap[w.heap.size + 1 + 1]? = some (.cells #[.int .i64 lv, .slice none 0 0, .int .i64 0, .int .i64 0, .int .i64 0] 26 (0, 0)) := by
    rw [hw3]
    exact (by simpa using heap_alloc_new ((w.alloc (.cells #[.int .i64 lv, .slice A n c, .int .i64 hi, .int .i64 ri, .int .i64 ow] 41)).alloc (.cells #[.int .i64 0, .slice none 0 0, .int .i64 0, .int .i64 0, .int .i64 0] 26)) (.cells #[.int .i64 lv, .slice none 0 0, .int .i64 0, .int .i64 0, .int .i64 0] 26))
  clear hw3
  refine (toS_any A n c zs _ (HH.out.on B3.out) hn).mono ?_
  rintro e w4 ⟨rfl, o4, b4⟩
  have k0 := (b4.block _ (by omega)).trans hr0
  have k1 := (b4.block _ (by omega)).trans hr1
  have k2 := (b4.block _ (by omega)).trans hr2
  generalize hb : w3.heap.size = bb at *
  have p0 : w4.cell? ⟨w.heap.size, 2, none⟩ = some (.int .i64 hi) := by rw [cell_of_row w4 _ 2 _ _ _ k0]; rfl
  have p1 : w4.cell? ⟨w.heap.size, 3, none⟩ = some (.int .i64 ri) := by rw [cell_of_row w4 _ 3 _ _ _ k0]; rfl
  have p2 : w4.cell? ⟨w.heap.size, 4, none⟩ = some (.int .i64 ow) := by rw [cell_of_row w4 _ 4 _ _ _ k0]; rfl
  have q0 : w4.cell? ⟨w.heap.size + 1, 0, none⟩ = some (.int .i64 0) := by rw [cell_of_row w4 _ 0 _ _ _ k1]; rfl
  have q1 : w4.cell? ⟨w.heap.size + 1, 1, none⟩ = some (.slice none 0 0) := by rw [cell_of_row w4 _ 1 _ _ _ k1]; rfl
  have q2 : w4.cell? ⟨w.heap.size + 1, 2, none⟩ = some (.int .i64 0) := by rw [cell_of_row w4 _ 2 _ _ _ k1]; rfl
  have q3 : w4.cell? ⟨w.heap.size + 1, 3, none⟩ = some (.int .i64 0) := by rw [cell_of_row w4 _ 3 _ _ _ k1]; rfl
  have q4 : w4.cell? ⟨w.heap.size + 1, 4, none⟩ = some (.int .i64 0) := by rw [cell_of_row w4 _ 4 _ _ _ k1]; rfl
  have r0 : w4.cell? ⟨w.heap.size + 1 + 1, 0, none⟩ = some (.int .i64 lv) := by rw [cell_of_row w4 _ 0 _ _ _ k2]; rfl
  have r1 : w4.cell? ⟨w.heap.size + 1 + 1, 1, none⟩ = some (.slice none 0 0) := by rw [cell_of_row w4 _ 1 _ _ _ k2]; rfl
  have r2 : w4.cell? ⟨w.heap.size + 1 + 1, 2, none⟩ = some (.int .i64 0) := by rw [cell_of_row w4 _ 2 _ _ _ k2]; rfl
  have r3 : w4.cell? ⟨w.heap.size + 1 + 1, 3, none⟩ = some (.int .i64 0) := by rw [cell_of_row w4 _ 3 _ _ _ k2]; rfl
  have r4 : w4.cell? ⟨w.heap.size + 1 + 1, 4, none⟩ = some (.int .i64 0) := by rw [cell_of_row w4 _ 4 _ _ _ k2]; rfl
  have f1 : ∀ i, w4.frozen? ⟨w.heap.size + 1, i, none⟩ = false := fun i => frozen_of_row w4 _ i _ _ k1
  have f2 : ∀ i, w4.frozen? ⟨w.heap.size + 1 + 1, i, none⟩ = false := fun i => frozen_of_row w4 _ i _ _ k2
  have O4 := Lib.hid o4
  have B4 := Lib.hid (B3.out.trans (b4.mono (by have := B3.out.size; omega)))
  have HBB : Hid (w.heap.size + 1 + 1 + 1 = bb) := Lib.hid (by omega)
  clear o4 b4 k0 k1 k2 hr0 hr1 hr2 hs hb
  go_wp2
  have hbb := HBB.out
  refine bodyPost_ret (v := .agg #[.int .i64 lv, .slice (some ⟨bb, 0, none⟩) n n, .int .i64 hi, .int .i64 ri, .int .i64 ow]) (by simp [results, Try.results17, go_sem, q0, q1, q2, q3, q4]) rfl ⟨bb, rfl, ?_, ?_⟩
  · refine own_base' (base := bb) ?_ (by omega)
    repeat (refine ownsRow_setCell_below ?_ (by simp; omega) _)
    exact O4.out
  · repeat (refine Below.setCell ?_ (by simp; first | done | omega) _)
    exact B4.out

theorem eqNode_yes (x : Nd) (A B : Option Addr) (n c d : Nat) (w : World) (h : RP w w.heap.size A n x.ps) (h' : RP w w.heap.size B n x.ps) (hn : n ≤ 1048576) :
    Calls Try.prog 19 #[ndV x A n c, ndV x B n d] w fun e w' => e = .returned (.bool true) ∧ Below w.heap.size w w' := by
  have HH := Lib.hid h
  have HH' := Lib.hid h'
  clear h h'
  obtain ⟨lv, zs, hi, ri, ow⟩ := x
  unfold ndV
  simp only at *
  go_enter Try.func19, Try.ntmps19
  go_wp2_with fail
  obtain ⟨w3, hw3⟩ : ∃ w3, w3 = (w.alloc (.cells #[.int .i64 lv, .slice A n c, .int .i64 hi, .int .i64 ri, .int .i64 ow] 26)).alloc (.cells #[.int .i64 lv, .slice B n d, .int .i64 hi, .int .i64 ri, .int .i64 ow] 26) := ⟨_, rfl⟩
  rw [← hw3]
  have B3 : Hid (Below w.heap.size w w3) := Lib.hid (by rw [hw3]; exact ((Below.refl _ _).alloc (Nat.le_refl _) _).alloc (by simp) _)
  have hs : w3.heap.size = w.heap.size + 1 + 1 := by rw [hw3]; simp
  have hr0 : w3.heap[w.heap.size]? = some (.cells #[.int .i64 lv, .slice A n c, .int .i64 hi, .int .i64 ri, .int .i64 ow] 26 (0, 0)) := by
    rw [hw3, Below.heap_alloc _ _ _ (by simp), heap_alloc_new]
  have hr1 : w3.heap[w.heap.size + 1]? = some (.cells #[.int .i64 lv, .slice B n d, .int .i64 hi, .int .i64 ri, .int .i64 ow] 26 (0, 0)) := by
    rw [hw3]
    exact (by simpa using heap_alloc_new (w.alloc (.cells #[.int .i64 lv, .slice A n c, .int .i64 hi, .int .i64 ri, .int .i64 ow] 26)) (.cells #[.int .i64 lv, .slice B n d, .int .i64 hi, .int .i64 ri, .int .i64 ow] 26))
  clear hw3
  refine (eqS_yes A B n c d zs _ (HH.out.on B3.out) (HH'.out.on B3.out) hn).mono ?_
  rintro e w4 ⟨rfl, b4⟩
  have k0 := (b4.block _ (by omega)).trans hr0
  have k1 := (b4.block _ (by omega)).trans hr1
  have p0 : w4.cell? ⟨w.heap.size, 2, none⟩ = some (.int .i64 hi) := by rw [cell_of_row w4 _ 2 _ _ _ k0]; rfl
  have p1 : w4.cell? ⟨w.heap.size, 3, none⟩ = some (.int .i64 ri) := by rw [cell_of_row w4 _ 3 _ _ _ k0]; rfl
  have p2 : w4.cell? ⟨w.heap.size, 4, none⟩ = some (.int .i64 ow) := by rw [cell_of_row w4 _ 4 _ _ _ k0]; rfl
  have q0 : w4.cell? ⟨w.heap.size + 1, 2, none⟩ = some (.int .i64 hi) := by rw [cell_of_row w4 _ 2 _ _ _ k1]; rfl
  have q1 : w4.cell? ⟨w.heap.size + 1, 3, none⟩ = some (.int .i64 ri) := by rw [cell_of_row w4 _ 3 _ _ _ k1]; rfl
  have q2 : w4.cell? ⟨w.heap.size + 1, 4, none⟩ = some (.int .i64 ow) := by rw [cell_of_row w4 _ 4 _ _ _ k1]; rfl
  have B4 := Lib.hid (B3.out.trans (b4.mono B3.out.size))
  clear b4 k0 k1 hr0 hr1 hs
  go_wp2
  go_ret
  exact ⟨rfl, B4.out⟩
end Go.Proofs.Ytokkpbjldchjpaa
