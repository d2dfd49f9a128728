/- The walks of DrawNodeOk and DrawWithin. -/
import Derived.Test.YtjlbnbmniejidaaD8
namespace Go.Proofs.Ytjlbnbmniejidaa
open Go.RowKit

/-- A node whose list, of at most 41 pairs, is the call's own. -/
def MadeN (w : World) (x : Nd) (A : Option Addr) (c : Nat) (w' : World) : Prop := w'.ownsRow w.heap.size 26 2 (.slice A x.ps.length c) x.ps.length (PL x.ps) ∧ x.ps.length ≤ 41 ∧ Below w.heap.size w w'

theorem bys_on {w w' : World} {A : Option Addr} {n : Nat} (h : Bys w w.heap.size A n) (hb : Below w.heap.size w w') : Bys w' w'.heap.size A n := fun h0 => by
  obtain ⟨b, off, e, hbl, hc⟩ := h h0
  refine ⟨b, off, e, Nat.lt_of_lt_of_le hbl hb.size, fun i hi => ?_⟩
  obtain ⟨x, hx, h1, h2⟩ := hc i hi
  exact ⟨x, (hb.cell hbl).trans hx, h1, h2⟩
/-- A row of five cells, read and free to be written. -/
theorem five {w : World} {b : Nat} {v0 v1 v2 v3 v4 : Value} {t : TypeId} (h : w.heap[b]? = some (.cells #[v0, v1, v2, v3, v4] t (0, 0))) :
    w.cell? ⟨b, 0, none⟩ = some v0 ∧ w.cell? ⟨b, 1, none⟩ = some v1 ∧ w.cell? ⟨b, 2, none⟩ = some v2 ∧ w.cell? ⟨b, 3, none⟩ = some v3 ∧ w.cell? ⟨b, 4, none⟩ = some v4 ∧ ∀ i, w.frozen? ⟨b, i, none⟩ = false :=
  ⟨by rw [cell_of_row w b 0 _ _ _ h]; rfl, by rw [cell_of_row w b 1 _ _ _ h]; rfl, by rw [cell_of_row w b 2 _ _ _ h]; rfl, by rw [cell_of_row w b 3 _ _ _ h]; rfl, by rw [cell_of_row w b 4 _ _ _ h]; rfl, fun i => frozen_of_row w b i _ _ h⟩

set_option maxHeartbeats 1000000 in
theorem dNode_any (A : Option Addr) (n c : Nat) (w : World) (hb : Bys w w.heap.size A n) (hn : n ≤ 4096) :
    Calls Try.prog 26 #[.slice A n c] w fun e w' => ∃ (x : Nd) (A' : Option Addr) (c' : Nat), e = .returned (ndV x A' x.ps.length c') ∧ MadeN w x A' c' w' := by
  have HB := Lib.hid hb
  clear hb
  go_enter Try.func26, Try.ntmps26
  go_wp2_with fail
  obtain ⟨w0, hw0⟩ : ∃ w0, w0 = w.alloc (.cells #[.int .i64 0, .slice none 0 0, .int .i64 0, .int .i64 0, .int .i64 0] 40) := ⟨_, rfl⟩
  rw [← hw0]
  have b0 : Below w.heap.size w w0 := by rw [hw0]; exact (Below.refl _ _).alloc (Nat.le_refl _) _
  have r0 : w0.heap[w.heap.size]? = some (.cells #[.int .i64 0, .slice none 0 0, .int .i64 0, .int .i64 0, .int .i64 0] 40 (0, 0)) := by rw [hw0]; exact heap_alloc_new w _
  have B0 := Lib.hid b0
  have R0 := Lib.hid r0
  have s00 : w.heap.size < w0.heap.size := row_lt r0
  clear hw0 b0 r0
  refine (new_any A n c _ (bys_on HB.out B0.out) hn).mono ?_
  rintro e w1 ⟨g, rfl, hg, hc, hbw⟩
  have C1 := Lib.hid hc
  have B1 := Lib.hid hbw
  have R1 := Lib.hid (row_below R0.out hbw)
  clear hc hbw
  go_wp2_with fail
  refine (nDrawAny_any g A n c _ C1.out).mono ?_
  rintro e w2 ⟨⟨lv, zs, hi, ri, ow⟩, A', c', rfl, ho, hz, hc, hgr⟩
  simp only [ndV] at *
  have gw : g < w1.heap.size := C1.out.lt
  have O2 := Lib.hid ho
  have LT := Lib.hid ho.lt
  have C2 := Lib.hid hc
  have B2 := Lib.hid (B1.out.grown hgr B1.out.size (fun k e => by simp at e; omega))
  have R2 := Lib.hid (row_far R1.out hgr (fun k e => by simp at e; omega))
  have s01 : w0.heap.size ≤ w1.heap.size := B1.out.size
  have s12 : w1.heap.size ≤ w2.heap.size := hgr.size
  clear ho hc hgr B1 R1 R0
  generalize hl : zs.length = l at *
  have HLL := Lib.hid hl
  clear hl
  obtain ⟨q0, q1, q2, q3, q4, fR⟩ := five R2.out
  go_wp2
  refine bodyPost_ret (v := .agg #[.int .i64 lv, .slice A' l c', .int .i64 hi, .int .i64 ri, .int .i64 ow]) (by simp [results, Try.results26, go_sem, q0, q1, q2, q3, q4]) rfl ⟨⟨lv, zs, hi, ri, ow⟩, A', c', by simp only [ndV, HLL.out], ?_, by simp only [HLL.out]; exact hz, ?_⟩
  · simp only [HLL.out]
    refine own_base' (base := w1.heap.size) ?_ (by omega)
    repeat (refine ownsRow_setCell_below ?_ (by simp; first | done | omega) _)
    exact O2.out
  · repeat (refine Below.setCell ?_ (by simp; first | done | omega) _)
    exact B0.out.trans (B2.out.mono B0.out.size)

set_option maxRecDepth 100000 in
set_option maxHeartbeats 4000000 in
theorem dWith_any (A : Option Addr) (n c : Nat) (w : World) (hb : Bys w w.heap.size A n) (hn : n ≤ 4096) :
    Calls Try.prog 25 #[.slice A n c] w fun e w' => ∃ (x : Nd) (A' : Option Addr) (c' : Nat) (key : Int), e = .returned (.tuple #[ndV x A' x.ps.length c', .int .i64 key]) ∧ MadeN w x A' c' w' := by
  have HB := Lib.hid hb
  clear hb
  go_enter Try.func25, Try.ntmps25
  go_wp2_with fail
  obtain ⟨w0, hw0⟩ : ∃ w0, w0 = w.alloc (.cells #[.int .i64 0, .slice none 0 0, .int .i64 0, .int .i64 0, .int .i64 0] 40) := ⟨_, rfl⟩
  rw [← hw0]
  have b0 : Below w.heap.size w w0 := by rw [hw0]; exact (Below.refl _ _).alloc (Nat.le_refl _) _
  have r0 : w0.heap[w.heap.size]? = some (.cells #[.int .i64 0, .slice none 0 0, .int .i64 0, .int .i64 0, .int .i64 0] 40 (0, 0)) := by rw [hw0]; exact heap_alloc_new w _
  have B0 := Lib.hid b0
  have R0 := Lib.hid r0
  have s00 : w.heap.size < w0.heap.size := row_lt r0
  clear hw0 b0 r0
  refine (new_any A n c _ (bys_on HB.out B0.out) hn).mono ?_
  rintro e w1 ⟨g, rfl, hg, hc, hbw⟩
  have C1 := Lib.hid hc
  have B1 := Lib.hid hbw
  have R1 := Lib.hid (row_below R0.out hbw)
  clear hc hbw
  go_wp2_with fail
  refine (nDrawAny_any g A n c _ C1.out).mono ?_
  rintro e w2 ⟨⟨lv, zs, hi, ri, ow⟩, A', c', rfl, ho, hz, hc, hgr⟩
  simp only [ndV] at *
  have gw : g < w1.heap.size := C1.out.lt
  have O2 := Lib.hid ho
  have LT := Lib.hid ho.lt
  have C2 := Lib.hid hc
  have B2 := Lib.hid (B1.out.grown hgr B1.out.size (fun k e => by simp at e; omega))
  have R2 := Lib.hid (row_far R1.out hgr (fun k e => by simp at e; omega))
  have s01 : w0.heap.size ≤ w1.heap.size := B1.out.size
  have s12 : w1.heap.size ≤ w2.heap.size := hgr.size
  clear ho hc hgr B1 R1 R0
  generalize hl : zs.length = l at *
  have HLL := Lib.hid hl
  clear hl
  go_wp2_with fail
  obtain ⟨w3, hw3⟩ : ∃ w3, w3 = w2.alloc (.cells #[.int .i64 lv, .slice A' l c', .int .i64 hi, .int .i64 ri, .int .i64 ow] 40) := ⟨_, rfl⟩
  rw [← hw3]
  have b3 : Below w2.heap.size w2 w3 := by rw [hw3]; exact (Below.refl _ _).alloc (Nat.le_refl _) _
  have HN3 : Hid (w3.heap[w2.heap.size]? = some (.cells #[.int .i64 lv, .slice A' l c', .int .i64 hi, .int .i64 ri, .int .i64 ow] 40 (0, 0))) := Lib.hid (by rw [hw3]; exact heap_alloc_new w2 _)
  have sN : w.heap.size < w2.heap.size := row_lt R2.out
  have sG : g < w2.heap.size := C2.out.lt
  have C3 := Lib.hid (C2.out.below b3)
  have B3 := Lib.hid (bel_on B2.out b3)
  have R3 := Lib.hid (row_below R2.out b3)
  have O3 := Lib.hid (own_on O2.out b3)
  clear hw3 b3 C2 B2 R2 O2 s12
  generalize hnb : w2.heap.size = nb at *
  clear hnb
  refine (once_any g A n c 3 _ C3.out).mono ?_
  rintro e w4 ⟨b, rfl, hc, hg4⟩
  have C4 := Lib.hid hc
  have B4 := Lib.hid (B3.out.grown hg4 B3.out.size (fun k e => by simp at e; omega))
  have R4 := Lib.hid (row_far R3.out hg4 (fun k e => by simp at e; omega))
  have HN4 := Lib.hid (row_far HN3.out hg4 (fun k e => by simp at e; omega))
  have O4 := Lib.hid (own_far O3.out hg4 (fun b e => by have := LT.out b e; simp; omega))
  clear hc hg4 C3 B3 R3 HN3 O3
  obtain ⟨a0, a1, a2, a3, a4, fN⟩ := five HN4.out
  obtain ⟨q0, q1, q2, q3, q4, fR⟩ := five R4.out
  have HNE : Hid (∀ k, some g = some k → k ≠ nb) := Lib.hid (fun k e => by simp at e; omega)
  have HNR : Hid (∀ k, some g = some k → k ≠ w.heap.size) := Lib.hid (fun k e => by simp at e; omega)
  have HF : Hid (∀ b, (Value.slice A' l c').ownBlock = some b → some g ≠ some b) := Lib.hid (fun b e => by have := LT.out b e; simp; omega)
  have sne : (nb = w.heap.size) = False := by simp; omega
  have sne' : (w.heap.size = nb) = False := by simp; omega
  rcases Bool.eq_false_or_eq_true b with hb | hb
  · subst hb
    go_wp2_with fail
    go_region_with (go_at_call 46; refine (below_any g A n c 2 _ ?_).mono ?_; exact C4.out; rintro e w5 ⟨r, rfl, _, hc, hg5⟩; obtain ⟨a50, a51, a52, a53, a54, fN5⟩ := five (row_far HN4.out (grown_undrew hg5) HNE.out); obtain ⟨q50, q51, q52, q53, q54, fR5⟩ := five (row_far R4.out (grown_undrew hg5) HNR.out))
    all_goals
      have B5 := B4.out.grown (grown_undrew hg5) B4.out.size (fun k e => by simp at e; omega)
      have O5 := own_far O4.out (grown_undrew hg5) HF.out
      have B5H := Lib.hid (B0.out.trans (B5.mono B0.out.size))
      have O5H := Lib.hid O5
      clear B5 O5 hg5 hc
      try go_wp2
      refine bodyPost_ret (v := .tuple #[.agg #[.int .i64 lv, .slice A' l c', .int .i64 hi, .int .i64 ri, .int .i64 ow], .int .i64 (IntKind.i64.wrap (hi - r))]) (by simp [results, Try.results25, go_sem, q50, q51, q52, q53, q54]) rfl ⟨⟨lv, zs, hi, ri, ow⟩, A', c', (IntKind.i64.wrap (hi - r)), by simp only [ndV, HLL.out], ?_, by simp only [HLL.out]; exact hz, ?_⟩
      · simp only [HLL.out]
        refine own_base' (base := w1.heap.size) ?_ (by omega)
        repeat (refine ownsRow_setCell_below ?_ (by simp; first | done | omega) _)
        exact O5H.out
      · repeat (refine Below.setCell ?_ (by simp; first | done | omega) _)
        exact B5H.out
  · subst hb
    go_wp2_with fail
    go_region_with (go_at_call 46; refine (below_any g A n c 30 _ ?_).mono ?_; exact C4.out; rintro e w5 ⟨r, rfl, _, hc, hg5⟩; obtain ⟨a50, a51, a52, a53, a54, fN5⟩ := five (row_far HN4.out (grown_undrew hg5) HNE.out); obtain ⟨q50, q51, q52, q53, q54, fR5⟩ := five (row_far R4.out (grown_undrew hg5) HNR.out))
    all_goals
      have B5 := B4.out.grown (grown_undrew hg5) B4.out.size (fun k e => by simp at e; omega)
      have O5 := own_far O4.out (grown_undrew hg5) HF.out
      have B5H := Lib.hid (B0.out.trans (B5.mono B0.out.size))
      have O5H := Lib.hid O5
      clear B5 O5 hg5 hc
      try go_wp2
      refine bodyPost_ret (v := .tuple #[.agg #[.int .i64 lv, .slice A' l c', .int .i64 hi, .int .i64 ri, .int .i64 ow], .int .i64 r]) (by simp [results, Try.results25, go_sem, q50, q51, q52, q53, q54]) rfl ⟨⟨lv, zs, hi, ri, ow⟩, A', c', r, by simp only [ndV, HLL.out], ?_, by simp only [HLL.out]; exact hz, ?_⟩
      · simp only [HLL.out]
        refine own_base' (base := w1.heap.size) ?_ (by omega)
        repeat (refine ownsRow_setCell_below ?_ (by simp; first | done | omega) _)
        exact O5H.out
      · repeat (refine Below.setCell ?_ (by simp; first | done | omega) _)
        exact B5H.out
end Go.Proofs.Ytjlbnbmniejidaa
