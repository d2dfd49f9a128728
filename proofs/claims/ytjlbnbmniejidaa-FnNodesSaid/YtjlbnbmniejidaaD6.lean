/- The walks of the draws: DrawPairsOk, DrawValueAt, DrawCut, DrawPut; and of big and likePairs. -/
import Derived.Test.YtjlbnbmniejidaaD5
namespace Go.Proofs.Ytjlbnbmniejidaa
open Go.RowKit

/-- A list of the call's own of at most 41 pairs. -/
def MadeL (w : World) (A : Option Addr) (c : Nat) (zs : List Pr) (w' : World) : Prop := w'.ownsRow w.heap.size 26 2 (.slice A zs.length c) zs.length (PL zs) ∧ zs.length ≤ 41 ∧ Below w.heap.size w w'

theorem big_any (A : Option Addr) (n c : Nat) (w : World) (hn : n ≤ 9223372036854775807) :
    Calls Try.prog 12 #[.slice A n c] w fun e w' => e = .returned (.bool (decide (4096 < n))) ∧ w = w' := by
  by_cases h : 4096 < n
  · rw [decide_eq_true h]
    go_enter Try.func12, Try.ntmps12
    go_wp2
    go_ret
    exact ⟨ret_bool (by simp; omega), rfl⟩
  · rw [decide_eq_false h]
    go_enter Try.func12, Try.ntmps12
    go_wp2
    go_ret
    exact ⟨ret_bool (by simp; omega), rfl⟩

theorem dOk_any (A : Option Addr) (n c : Nat) (w : World) (hb : Bys w w.heap.size A n) (hn : n ≤ 4096) :
    Calls Try.prog 21 #[.slice A n c] w fun e w' => ∃ A' c' zs, e = .returned (.slice A' zs.length c') ∧ MadeL w A' c' zs w' := by
  have HB := Lib.hid hb
  clear hb
  go_enter Try.func21, Try.ntmps21
  go_wp2_with fail
  refine (new_any A n c _ HB.out hn).mono ?_
  rintro e w1 ⟨g, rfl, hg, hc, hbw⟩
  have C1 := Lib.hid hc
  have B1 := Lib.hid hbw
  clear hc hbw
  go_wp2_with fail
  refine (drawAny_any g A n c _ C1.out).mono ?_
  rintro e w2 ⟨A2, c2, zs, rfl, ho, hz, _, hgr⟩
  have O2 := Lib.hid (own_base ho B1.out.size)
  have B2 := Lib.hid (B1.out.grown hgr B1.out.size (fun k e => by simp at e; omega))
  have HZ := Lib.hid hz
  clear ho hz hgr
  generalize hl : zs.length = l at *
  have HLL := Lib.hid hl
  clear hl
  go_wp2
  go_ret
  exact ⟨A2, c2, zs, by rw [HLL.out]; rfl, by rw [HLL.out]; exact O2.out, by rw [HLL.out]; exact HZ.out, B2.out⟩

theorem dVal_any (A : Option Addr) (n c : Nat) (w : World) (hb : Bys w w.heap.size A n) (hn : n ≤ 4096) :
    Calls Try.prog 53 #[.slice A n c] w fun e w' => ∃ A' c' zs, ∃ k : Int, e = .returned (.tuple #[.slice A' zs.length c', .int .i64 k]) ∧ MadeL w A' c' zs w' := by
  have HB := Lib.hid hb
  clear hb
  go_enter Try.func53, Try.ntmps53
  go_wp2_with fail
  refine (new_any A n c _ HB.out hn).mono ?_
  rintro e w1 ⟨g, rfl, hg, hc, hbw⟩
  have C1 := Lib.hid hc
  have B1 := Lib.hid hbw
  clear hc hbw
  go_wp2_with fail
  refine (drawAny_any g A n c _ C1.out).mono ?_
  rintro e w2 ⟨A2, c2, zs, rfl, ho, hz, hc2, hgr⟩
  have O2 := Lib.hid (own_base ho B1.out.size)
  have B2 := Lib.hid (B1.out.grown hgr B1.out.size (fun k e => by simp at e; omega))
  have C2 := Lib.hid hc2
  have HZ := Lib.hid hz
  have LT := Lib.hid ho.lt
  have s1 : g < w1.heap.size := C1.out.lt
  clear ho hz hgr hc2
  generalize hl : zs.length = l at *
  have HLL := Lib.hid hl
  clear hl
  go_wp2_with fail
  refine (below_any g A n c 20 _ C2.out).mono ?_
  rintro e w3 ⟨r, rfl, _, _, hg3⟩
  have O3 := Lib.hid (own_far O2.out hg3 (fun b e => by have := (LT.out b e).1; simp; omega))
  have B3 := Lib.hid (B2.out.grown hg3 B2.out.size (fun k e => by simp at e; omega))
  clear hg3
  go_wp2
  go_ret2
  exact ⟨A2, c2, zs, r, by rw [HLL.out]; rfl, by rw [HLL.out]; exact O3.out, by rw [HLL.out]; exact HZ.out, B3.out⟩

theorem dCut_any (A : Option Addr) (n c : Nat) (w : World) (hb : Bys w w.heap.size A n) (hn : n ≤ 4096) :
    Calls Try.prog 16 #[.slice A n c] w fun e w' => ∃ A' c' zs, ∃ k : Int, e = .returned (.tuple #[.slice A' zs.length c', .int .i64 k]) ∧ MadeL w A' c' zs w' := by
  have HB := Lib.hid hb
  clear hb
  go_enter Try.func16, Try.ntmps16
  go_wp2_with fail
  refine (dVal_any A n c _ HB.out hn).mono ?_
  rintro e w1 ⟨A2, c2, zs, k, rfl, hm⟩
  have HM := Lib.hid hm
  clear hm
  go_wp2
  go_ret2
  exact ⟨A2, c2, zs, k, rfl, HM.out⟩

theorem dPut_any (A : Option Addr) (n c : Nat) (w : World) (hb : Bys w w.heap.size A n) (hn : n ≤ 4096) :
    Calls Try.prog 13 #[.slice A n c] w fun e w' => ∃ A' c' zs, ∃ k v : Int, e = .returned (.tuple #[.slice A' zs.length c', .agg #[.int .i64 k, .int .i64 v]]) ∧ MadeL w A' c' zs w' := by
  have HB := Lib.hid hb
  clear hb
  go_enter Try.func13, Try.ntmps13
  go_wp2_with fail
  obtain ⟨w0, hw0⟩ : ∃ w0, w0 = w.alloc (.cells #[.int .i64 0, .int .i64 0] 26) := ⟨_, rfl⟩
  have BW : Hid (Below w.heap.size w w0) := Lib.hid (by rw [hw0]; exact (Below.refl _ _).alloc (Nat.le_refl _) _)
  rw [← hw0]
  refine (new_any A n c _ (fun h0 => by
    obtain ⟨b, off, e, hb, hc⟩ := HB.out h0
    refine ⟨b, off, e, Nat.lt_of_lt_of_le hb BW.out.size, fun i hi => ?_⟩
    obtain ⟨x, hx, h1, h2⟩ := hc i hi
    exact ⟨x, (BW.out.cell hb).trans hx, h1, h2⟩) hn).mono ?_
  rintro e w1 ⟨g, rfl, hg, hc, hbw⟩
  have C1 := Lib.hid hc
  have B1 := Lib.hid hbw
  have HW0 := Lib.hid hw0
  clear hc hbw hw0
  go_wp2_with fail
  refine (drawAny_any g A n c _ C1.out).mono ?_
  rintro e w2 ⟨A2, c2, zs, rfl, ho, hz, hc2, hgr⟩
  have O2 := Lib.hid (own_base ho B1.out.size)
  have B2 := Lib.hid (B1.out.grown hgr B1.out.size (fun k e => by simp at e; omega))
  have C2 := Lib.hid hc2
  have HZ := Lib.hid hz
  have LT := Lib.hid ho.lt
  have s1 : g < w1.heap.size := C1.out.lt
  clear ho hz hgr hc2 B1 C1
  generalize hl : zs.length = l at *
  have HLL := Lib.hid hl
  clear hl
  go_wp2_with fail
  refine (once_any g A n c 6 _ C2.out).mono ?_
  rintro e w3 ⟨b, rfl, hc, hg3⟩
  have O3 := Lib.hid (own_far O2.out hg3 (fun b e => by have := (LT.out b e).1; simp; omega))
  have B3 := Lib.hid (B2.out.grown hg3 B2.out.size (fun k e => by simp at e; omega))
  have C3 := Lib.hid hc
  clear hc hg3 O2 B2 C2
  rcases Bool.eq_false_or_eq_true b with hb | hb
  · subst hb
    go_wp2_with fail
    refine (num_any g A n c 99 _ C3.out (by omega) (by omega)).mono ?_
    rintro e w4 ⟨x, rfl, _, hc, hg4⟩
    have O4 := Lib.hid (own_far O3.out hg4 (fun b e => by have := (LT.out b e).1; simp; omega))
    have B4 := Lib.hid (B3.out.grown hg4 B3.out.size (fun k e => by simp at e; omega))
    have C4 := Lib.hid hc
    clear hc hg4 O3 B3 C3
    go_wp2_with fail
    refine (num_any g A n c 999 _ C4.out (by omega) (by omega)).mono ?_
    rintro e w5 ⟨y, rfl, _, hc, hg5⟩
    have O5 := Lib.hid (own_far O4.out hg5 (fun b e => by have := (LT.out b e).1; simp; omega))
    have B5 := Lib.hid (B4.out.grown hg5 B4.out.size (fun k e => by simp at e; omega))
    clear hc hg5 O4 B4 C4
    have hrow : w5.heap[w.heap.size]? = some (.cells #[.int .i64 0, .int .i64 0] 26 (0, 0)) := (B5.out.block w.heap.size (by rw [HW0.out]; simp)).trans (by rw [HW0.out]; exact heap_alloc_new w _)
    have d1 : w5.cell? ⟨w.heap.size, 0, none⟩ = some (.int .i64 0) := by rw [cell_of_row w5 _ 0 _ _ _ hrow]; rfl
    have d2 : w5.cell? ⟨w.heap.size, 1, none⟩ = some (.int .i64 0) := by rw [cell_of_row w5 _ 1 _ _ _ hrow]; rfl
    have f1 : w5.frozen? ⟨w.heap.size, 0, none⟩ = false := frozen_of_row w5 _ 0 _ _ hrow
    have f2 : w5.frozen? ⟨w.heap.size, 1, none⟩ = false := frozen_of_row w5 _ 1 _ _ hrow
    have HZ2 := HZ
    clear hrow
    go_wp2
    refine bodyPost_ret (v := .tuple #[.slice A2 l c2, .agg #[.int .i64 x, .int .i64 y]]) (by simp [results, Try.results13, go_sem, d1, d2]) rfl ⟨A2, c2, zs, x, y, by rw [HLL.out], ?_⟩
    have hs : w.heap.size < w5.heap.size := by have := B5.out.size; rw [HW0.out] at this; simp at this; omega
    refine ⟨?_, by rw [HLL.out]; exact HZ2.out, ?_⟩
    · rw [HLL.out]
      exact own_base (ownsRow_setCell_below (ownsRow_setCell_below O5.out (by rw [HW0.out]; simp) _) (by rw [HW0.out]; simp) _) (by rw [HW0.out]; simp)
    · exact ((BW.out.trans (B5.out.mono (by rw [HW0.out]; simp))).setCell (Nat.le_refl _) _).setCell (Nat.le_refl _) _
  · subst hb
    go_wp2_with fail
    refine (below_any g A n c 20 _ C3.out ).mono ?_
    rintro e w4 ⟨x, rfl, _, hc, hg4⟩
    have O4 := Lib.hid (own_far O3.out hg4 (fun b e => by have := (LT.out b e).1; simp; omega))
    have B4 := Lib.hid (B3.out.grown hg4 B3.out.size (fun k e => by simp at e; omega))
    have C4 := Lib.hid hc
    clear hc hg4 O3 B3 C3
    go_wp2_with fail
    refine (below_any g A n c 100 _ C4.out ).mono ?_
    rintro e w5 ⟨y, rfl, _, hc, hg5⟩
    have O5 := Lib.hid (own_far O4.out hg5 (fun b e => by have := (LT.out b e).1; simp; omega))
    have B5 := Lib.hid (B4.out.grown hg5 B4.out.size (fun k e => by simp at e; omega))
    clear hc hg5 O4 B4 C4
    have hrow : w5.heap[w.heap.size]? = some (.cells #[.int .i64 0, .int .i64 0] 26 (0, 0)) := (B5.out.block w.heap.size (by rw [HW0.out]; simp)).trans (by rw [HW0.out]; exact heap_alloc_new w _)
    have d1 : w5.cell? ⟨w.heap.size, 0, none⟩ = some (.int .i64 0) := by rw [cell_of_row w5 _ 0 _ _ _ hrow]; rfl
    have d2 : w5.cell? ⟨w.heap.size, 1, none⟩ = some (.int .i64 0) := by rw [cell_of_row w5 _ 1 _ _ _ hrow]; rfl
    have f1 : w5.frozen? ⟨w.heap.size, 0, none⟩ = false := frozen_of_row w5 _ 0 _ _ hrow
    have f2 : w5.frozen? ⟨w.heap.size, 1, none⟩ = false := frozen_of_row w5 _ 1 _ _ hrow
    have HZ2 := HZ
    clear hrow
    go_wp2
    refine bodyPost_ret (v := .tuple #[.slice A2 l c2, .agg #[.int .i64 x, .int .i64 y]]) (by simp [results, Try.results13, go_sem, d1, d2]) rfl ⟨A2, c2, zs, x, y, by rw [HLL.out], ?_⟩
    have hs : w.heap.size < w5.heap.size := by have := B5.out.size; rw [HW0.out] at this; simp at this; omega
    refine ⟨?_, by rw [HLL.out]; exact HZ2.out, ?_⟩
    · rw [HLL.out]
      exact own_base (ownsRow_setCell_below (ownsRow_setCell_below O5.out (by rw [HW0.out]; simp) _) (by rw [HW0.out]; simp) _) (by rw [HW0.out]; simp)
    · exact ((BW.out.trans (B5.out.mono (by rw [HW0.out]; simp))).setCell (Nat.le_refl _) _).setCell (Nat.le_refl _) _

theorem like_yes (A B : Option Addr) (n c d : Nat) (zs : List Pr) (w : World) (h : RP w w.heap.size A n zs) (h' : RP w w.heap.size B n zs) (hn : n ≤ 1048576) :
    Calls Try.prog 22 #[.slice A n c, .slice B n d] w fun e w' => e = .returned (.bool true) ∧ Below w.heap.size w w' := by
  have HH := Lib.hid h
  have HH' := Lib.hid h'
  clear h h'
  go_enter Try.func22, Try.ntmps22
  go_wp2
  go_loopw [5] (fun i wr => ∃ k : Nat, i = .int .i64 k ∧ k ≤ n ∧ Hid (Below w.heap.size w wr)) (fun i _ => n - (intOf i).toNat)
  case atStart => exact ⟨0, rfl, by omega, Lib.hid (Below.refl _ _)⟩
  case round =>
    obtain ⟨k, rfl, hk, hbw⟩ := hrel
    by_cases hlt : k < n
    · obtain ⟨b, off, rfl, hb, hc⟩ := HH.out.2 (by omega)
      obtain ⟨b', off', rfl, hb', hc'⟩ := HH'.out.2 (by omega)
      have c1 := Later.of_cell (hc k hlt).1 hbw.out hb
      have c2 := Later.of_cell (hc k hlt).2 hbw.out hb
      have c3 := Later.of_cell (hc' k hlt).1 hbw.out hb'
      have c4 := Later.of_cell (hc' k hlt).2 hbw.out hb'
      clear hc hc'
      go_wp2
      refine wp_region_later (by kernel_rfl) (by kernel_rfl) ?_
      repeat (go_big_quiet_step (fail))
      refine wpQuiet_nil ?_
      intro _ hw'
      obtain ⟨s, rfl⟩ := hw'
      go_wp2
      go_roundw
      case rel => exact ⟨k + 1, by go_num, by omega, Lib.hid (s.below_of hbw.out)⟩
      case measure => simp [intOf]; omega
    · go_wp2
      go_ret
      exact ⟨rfl, hbw.out⟩
end Go.Proofs.Ytjlbnbmniejidaa
