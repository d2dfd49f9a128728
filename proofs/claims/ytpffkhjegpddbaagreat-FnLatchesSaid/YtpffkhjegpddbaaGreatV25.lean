/- The walks of l2DrawAny, DrawNodeOk, DrawWithin. -/
import Derived.Test.YtpffkhjegpddbaaGreatV24
import Derived.Test.YtpffkhjegpddbaaGreatV14
import Derived.Test.YtpffkhjegpddbaaGreatV22
import Derived.Test.YtpffkhjegpddbaaGreatV23
open Go.Value renaming int → jI, slice → jS
open Go.IntKind renaming i64 → jZ
namespace Go.Proofs.YtpffkhjegpddbaaGreat
open Go.RowKit

set_option maxRecDepth 100000 in
set_option maxHeartbeats 4000000 in
theorem nDrawAny_any (g : Nat) (A : Option Addr) (n c : Nat) (w : World) (hC : Cur w g A n c) :
   Calls Tryz.prog 35 #[.pointer (some ⟨g, 0, none⟩)] w (DrawnN g A n c 41 w) := by
 have HC := Lib.hid hC
 have hlt := hC.lt
 clear hC
 go_enter Tryz.func35, Tryz.ntmps35
 go_wp2_with fail
 obtain ⟨w0, hw0⟩ : ∃ w0, w0 = w.alloc (.cells #[jI jZ 0, jS none 0 0, jI jZ 0, jI jZ 0, jI jZ 0] 53) := ⟨_, rfl⟩
 rw [← hw0]
 have b0 : Below w.heap.size w w0 := by rw [hw0]; exact (Below.refl _ _).alloc (Nat.le_refl _) _
 have r0 : w0.heap[w.heap.size]? = some (.cells #[jI jZ 0, jS none 0 0, jI jZ 0, jI jZ 0, jI jZ 0] 53 (0, 0)) := by rw [hw0]; exact heap_alloc_new w _
 have C0 := Lib.hid (HC.out.below b0)
 have G0 : Hid (w.grownBy w0 (some g)) := Lib.hid (grown_below b0)
 have R0 := Lib.hid r0
 clear hw0 b0 r0 HC
 refine (nDraw_any g A n c _ C0.out).mono ?_
 rintro e w1 ⟨⟨lv, zs, hi, ri, ow⟩, A', c', rfl, ho, hz4, hc, hg⟩
 simp only [ndV] at *
 have sN0 : w.heap.size < w0.heap.size := row_lt R0.out
 have C1 := Lib.hid hc
 have G1 := Lib.hid (grown_trans G0.out hg)
 have R1 := Lib.hid (row_far R0.out hg (fun k e => by simp at e; omega))
 have O1 := Lib.hid ho
 clear hc hg ho C0 G0 R0
 generalize hl : zs.length = l at *
 have HLL := Lib.hid hl
 clear hl
 go_wp2_with fail
 obtain ⟨w2, hw2⟩ : ∃ w2, w2 = w1.alloc (.cells #[jI jZ lv, jS A' l c', jI jZ hi, jI jZ ri, jI jZ ow] 53) := ⟨_, rfl⟩
 rw [← hw2]
 have b2 : Below w1.heap.size w1 w2 := by rw [hw2]; exact (Below.refl _ _).alloc (Nat.le_refl _) _
 have HN2 : Hid (w2.heap[w1.heap.size]? = some (.cells #[jI jZ lv, jS A' l c', jI jZ hi, jI jZ ri, jI jZ ow] 53 (0, 0))) := Lib.hid (by rw [hw2]; exact heap_alloc_new w1 _)
 have sN : w.heap.size < w1.heap.size := row_lt R1.out
 have C2 := Lib.hid (C1.out.below b2)
 have G2 := Lib.hid (grown_trans G1.out (grown_below b2))
 have R2 := Lib.hid (row_below R1.out b2)
 have O2 := Lib.hid (own_on O1.out b2)
 have LT := Lib.hid O1.out.lt
 clear hw2 b2 C1 G1 R1 O1
 generalize hnb : w1.heap.size = nb at *
 clear hnb
 have hz41 : l ≤ 41 := by omega
 have s01 : g < w0.heap.size := by omega
 refine (once_any g A n c 5 _ C2.out).mono ?_
 rintro e w3 ⟨b, rfl, hc, hg⟩
 have C3 := Lib.hid hc
 have G3 := Lib.hid (grown_trans G2.out hg)
 have R3 := Lib.hid (row_far R2.out hg (fun k e => by simp at e; omega))
 have HN3 := Lib.hid (row_far HN2.out hg (fun k e => by simp at e; omega))
 have O3 := Lib.hid (own_far O2.out hg (fun b e => by have := (O2.out.lt b e).1; simp; omega))
 clear hc hg C2 G2 R2 HN2 O2
 rcases Bool.eq_false_or_eq_true b with hb | hb
 · subst hb
   go_wp2_with fail
   refine (below_any g A n c 6 _ C3.out).mono ?_
   rintro e w4 ⟨r, rfl, ⟨_, hr⟩, hc, hg⟩
   have C4 := Lib.hid hc
   have G4 := Lib.hid (grown_trans G3.out hg)
   have R4 := Lib.hid (row_far R3.out hg (fun k e => by simp at e; omega))
   have HN4 := Lib.hid (row_far HN3.out hg (fun k e => by simp at e; omega))
   have O4 := Lib.hid (own_far O3.out hg (fun b e => by have := (O3.out.lt b e).1; simp; omega))
   clear hc hg C3 G3 R3 HN3 O3
   obtain ⟨hr0, hr1⟩ := hr (by omega)
   have hcase : r = 0 ∨ r = 1 ∨ r = 2 ∨ r = 3 ∨ r = 4 ∨ r = 5 := by omega
   clear hr hr0 hr1
   rcases hcase with rfl | rfl | rfl | rfl | rfl | rfl
   · go_wp2_with fail
     refine (num_any g A n c 6 _ C4.out (by omega) (by omega)).mono ?_
     rintro e w5 ⟨x, rfl, _, hc, hg⟩
     have C5 := Lib.hid hc
     have G5 := Lib.hid (grown_trans G4.out hg)
     have R5 := Lib.hid (row_far R4.out hg (fun k e => by simp at e; omega))
     have HN5 := Lib.hid (row_far HN4.out hg (fun k e => by simp at e; omega))
     have O5 := Lib.hid (own_far O4.out hg (fun b e => by have := (O4.out.lt b e).1; simp; omega))
     clear hc hg C4 G4 R4 HN4 O4
     have NN := HN5.out
     have RR := R5.out
     have a0 : w5.cell? ⟨nb, 0, none⟩ = some (jI jZ lv) := by rw [cell_of_row w5 nb 0 _ _ _ NN]; rfl
     have a1 : w5.cell? ⟨nb, 1, none⟩ = some (.slice A' l c') := by rw [cell_of_row w5 nb 1 _ _ _ NN]; rfl
     have a2 : w5.cell? ⟨nb, 2, none⟩ = some (jI jZ hi) := by rw [cell_of_row w5 nb 2 _ _ _ NN]; rfl
     have a3 : w5.cell? ⟨nb, 3, none⟩ = some (jI jZ ri) := by rw [cell_of_row w5 nb 3 _ _ _ NN]; rfl
     have a4 : w5.cell? ⟨nb, 4, none⟩ = some (jI jZ ow) := by rw [cell_of_row w5 nb 4 _ _ _ NN]; rfl
     have fN : ∀ i, w5.frozen? ⟨nb, i, none⟩ = false := fun i => frozen_of_row w5 nb i _ _ NN
     have q0 : w5.cell? ⟨w.heap.size, 0, none⟩ = some (jI jZ 0) := by rw [cell_of_row w5 _ 0 _ _ _ RR]; rfl
     have q1 : w5.cell? ⟨w.heap.size, 1, none⟩ = some (.slice none 0 0) := by rw [cell_of_row w5 _ 1 _ _ _ RR]; rfl
     have q2 : w5.cell? ⟨w.heap.size, 2, none⟩ = some (jI jZ 0) := by rw [cell_of_row w5 _ 2 _ _ _ RR]; rfl
     have q3 : w5.cell? ⟨w.heap.size, 3, none⟩ = some (jI jZ 0) := by rw [cell_of_row w5 _ 3 _ _ _ RR]; rfl
     have q4 : w5.cell? ⟨w.heap.size, 4, none⟩ = some (jI jZ 0) := by rw [cell_of_row w5 _ 4 _ _ _ RR]; rfl
     have fR : ∀ i, w5.frozen? ⟨w.heap.size, i, none⟩ = false := fun i => frozen_of_row w5 _ i _ _ RR
     have sR : (nb = w.heap.size) = False := by simp; omega
     have sR' : (w.heap.size = nb) = False := by simp; omega
     clear NN RR
     go_wp2
     refine bodyPost_ret (v := .agg #[jI jZ x, jS A' l c', jI jZ hi, jI jZ ri, jI jZ ow]) (by simp [results, Tryz.results35, go_sem, q0, q1, q2, q3, q4]) rfl ⟨⟨x, zs, hi, ri, ow⟩, A', c', by simp only [ndV, HLL.out], ?_, by simp only [HLL.out]; exact hz41, ?_, ?_⟩
     · simp only [HLL.out]
       refine own_base' (base := w0.heap.size) ?_ (by omega)
       repeat (refine own_far ?_ (grown_set _ _ _ _) (fun b e => by have := LT.out b e; simp; omega))
       exact O5.out
     · repeat (refine Cur.grown ?_ (grown_set _ _ _ _) (fun k e => by simp at e; omega))
       exact C5.out
     · repeat (refine grown_past ?_ (grown_set _ _ _ _) (fun k e => by simp at e; omega))
       exact G5.out
   · go_wp2_with fail
     refine (drawAny_any g A n c _ C4.out).mono ?_
     rintro e w5 ⟨A2, c2, z2, rfl, o2, hz2, hc, hg⟩
     have C5 := Lib.hid hc
     have G5 := Lib.hid (grown_trans G4.out hg)
     have s4 : nb + 1 ≤ w4.heap.size := by have := row_lt HN4.out; omega
     have R5 := Lib.hid (row_far R4.out hg (fun k e => by simp at e; omega))
     have HN5 := Lib.hid (row_far HN4.out hg (fun k e => by simp at e; omega))
     have OL := Lib.hid (own_base o2 s4)
     clear hc hg C4 G4 R4 HN4 O4 o2
     generalize hl2 : z2.length = l2 at *
     have HL2 := Lib.hid hl2
     clear hl2
     have NN := HN5.out
     have RR := R5.out
     have a0 : w5.cell? ⟨nb, 0, none⟩ = some (jI jZ lv) := by rw [cell_of_row w5 nb 0 _ _ _ NN]; rfl
     have a1 : w5.cell? ⟨nb, 1, none⟩ = some (.slice A' l c') := by rw [cell_of_row w5 nb 1 _ _ _ NN]; rfl
     have a2 : w5.cell? ⟨nb, 2, none⟩ = some (jI jZ hi) := by rw [cell_of_row w5 nb 2 _ _ _ NN]; rfl
     have a3 : w5.cell? ⟨nb, 3, none⟩ = some (jI jZ ri) := by rw [cell_of_row w5 nb 3 _ _ _ NN]; rfl
     have a4 : w5.cell? ⟨nb, 4, none⟩ = some (jI jZ ow) := by rw [cell_of_row w5 nb 4 _ _ _ NN]; rfl
     have fN : ∀ i, w5.frozen? ⟨nb, i, none⟩ = false := fun i => frozen_of_row w5 nb i _ _ NN
     have q0 : w5.cell? ⟨w.heap.size, 0, none⟩ = some (jI jZ 0) := by rw [cell_of_row w5 _ 0 _ _ _ RR]; rfl
     have q1 : w5.cell? ⟨w.heap.size, 1, none⟩ = some (.slice none 0 0) := by rw [cell_of_row w5 _ 1 _ _ _ RR]; rfl
     have q2 : w5.cell? ⟨w.heap.size, 2, none⟩ = some (jI jZ 0) := by rw [cell_of_row w5 _ 2 _ _ _ RR]; rfl
     have q3 : w5.cell? ⟨w.heap.size, 3, none⟩ = some (jI jZ 0) := by rw [cell_of_row w5 _ 3 _ _ _ RR]; rfl
     have q4 : w5.cell? ⟨w.heap.size, 4, none⟩ = some (jI jZ 0) := by rw [cell_of_row w5 _ 4 _ _ _ RR]; rfl
     have fR : ∀ i, w5.frozen? ⟨w.heap.size, i, none⟩ = false := fun i => frozen_of_row w5 _ i _ _ RR
     have sR : (nb = w.heap.size) = False := by simp; omega
     have sR' : (w.heap.size = nb) = False := by simp; omega
     clear NN RR
     go_wp2
     refine bodyPost_ret (v := .agg #[jI jZ lv, jS A2 l2 c2, jI jZ hi, jI jZ ri, jI jZ ow]) (by simp [results, Tryz.results35, go_sem, q0, q1, q2, q3, q4]) rfl ⟨⟨lv, z2, hi, ri, ow⟩, A2, c2, by simp only [ndV, HL2.out], ?_, by simp only [HL2.out]; exact hz2, ?_, ?_⟩
     · simp only [HL2.out]
       refine own_base' (base := nb + 1) ?_ (by omega)
       repeat (refine ownsRow_setCell_below ?_ (by simp; first | done | omega) _)
       exact OL.out
     · repeat (refine Cur.grown ?_ (grown_set _ _ _ _) (fun k e => by simp at e; omega))
       exact C5.out
     · repeat (refine grown_past ?_ (grown_set _ _ _ _) (fun k e => by simp at e; omega))
       exact G5.out
   · go_wp2_with fail
     refine (num_any g A n c 100 _ C4.out (by omega) (by omega)).mono ?_
     rintro e w5 ⟨x, rfl, _, hc, hg⟩
     have C5 := Lib.hid hc
     have G5 := Lib.hid (grown_trans G4.out hg)
     have R5 := Lib.hid (row_far R4.out hg (fun k e => by simp at e; omega))
     have HN5 := Lib.hid (row_far HN4.out hg (fun k e => by simp at e; omega))
     have O5 := Lib.hid (own_far O4.out hg (fun b e => by have := (O4.out.lt b e).1; simp; omega))
     clear hc hg C4 G4 R4 HN4 O4
     have NN := HN5.out
     have RR := R5.out
     have a0 : w5.cell? ⟨nb, 0, none⟩ = some (jI jZ lv) := by rw [cell_of_row w5 nb 0 _ _ _ NN]; rfl
     have a1 : w5.cell? ⟨nb, 1, none⟩ = some (.slice A' l c') := by rw [cell_of_row w5 nb 1 _ _ _ NN]; rfl
     have a2 : w5.cell? ⟨nb, 2, none⟩ = some (jI jZ hi) := by rw [cell_of_row w5 nb 2 _ _ _ NN]; rfl
     have a3 : w5.cell? ⟨nb, 3, none⟩ = some (jI jZ ri) := by rw [cell_of_row w5 nb 3 _ _ _ NN]; rfl
     have a4 : w5.cell? ⟨nb, 4, none⟩ = some (jI jZ ow) := by rw [cell_of_row w5 nb 4 _ _ _ NN]; rfl
     have fN : ∀ i, w5.frozen? ⟨nb, i, none⟩ = false := fun i => frozen_of_row w5 nb i _ _ NN
     have q0 : w5.cell? ⟨w.heap.size, 0, none⟩ = some (jI jZ 0) := by rw [cell_of_row w5 _ 0 _ _ _ RR]; rfl
     have q1 : w5.cell? ⟨w.heap.size, 1, none⟩ = some (.slice none 0 0) := by rw [cell_of_row w5 _ 1 _ _ _ RR]; rfl
     have q2 : w5.cell? ⟨w.heap.size, 2, none⟩ = some (jI jZ 0) := by rw [cell_of_row w5 _ 2 _ _ _ RR]; rfl
     have q3 : w5.cell? ⟨w.heap.size, 3, none⟩ = some (jI jZ 0) := by rw [cell_of_row w5 _ 3 _ _ _ RR]; rfl
     have q4 : w5.cell? ⟨w.heap.size, 4, none⟩ = some (jI jZ 0) := by rw [cell_of_row w5 _ 4 _ _ _ RR]; rfl
     have fR : ∀ i, w5.frozen? ⟨w.heap.size, i, none⟩ = false := fun i => frozen_of_row w5 _ i _ _ RR
     have sR : (nb = w.heap.size) = False := by simp; omega
     have sR' : (w.heap.size = nb) = False := by simp; omega
     clear NN RR
     go_wp2
     refine bodyPost_ret (v := .agg #[jI jZ lv, jS A' l c', jI jZ x, jI jZ ri, jI jZ ow]) (by simp [results, Tryz.results35, go_sem, q0, q1, q2, q3, q4]) rfl ⟨⟨lv, zs, x, ri, ow⟩, A', c', by simp only [ndV, HLL.out], ?_, by simp only [HLL.out]; exact hz41, ?_, ?_⟩
     · simp only [HLL.out]
       refine own_base' (base := w0.heap.size) ?_ (by omega)
       repeat (refine own_far ?_ (grown_set _ _ _ _) (fun b e => by have := LT.out b e; simp; omega))
       exact O5.out
     · repeat (refine Cur.grown ?_ (grown_set _ _ _ _) (fun k e => by simp at e; omega))
       exact C5.out
     · repeat (refine grown_past ?_ (grown_set _ _ _ _) (fun k e => by simp at e; omega))
       exact G5.out
   · go_wp2_with fail
     refine (num_any g A n c 39 _ C4.out (by omega) (by omega)).mono ?_
     rintro e w5 ⟨x, rfl, _, hc, hg⟩
     have C5 := Lib.hid hc
     have G5 := Lib.hid (grown_trans G4.out hg)
     have R5 := Lib.hid (row_far R4.out hg (fun k e => by simp at e; omega))
     have HN5 := Lib.hid (row_far HN4.out hg (fun k e => by simp at e; omega))
     have O5 := Lib.hid (own_far O4.out hg (fun b e => by have := (O4.out.lt b e).1; simp; omega))
     clear hc hg C4 G4 R4 HN4 O4
     have NN := HN5.out
     have RR := R5.out
     have a0 : w5.cell? ⟨nb, 0, none⟩ = some (jI jZ lv) := by rw [cell_of_row w5 nb 0 _ _ _ NN]; rfl
     have a1 : w5.cell? ⟨nb, 1, none⟩ = some (.slice A' l c') := by rw [cell_of_row w5 nb 1 _ _ _ NN]; rfl
     have a2 : w5.cell? ⟨nb, 2, none⟩ = some (jI jZ hi) := by rw [cell_of_row w5 nb 2 _ _ _ NN]; rfl
     have a3 : w5.cell? ⟨nb, 3, none⟩ = some (jI jZ ri) := by rw [cell_of_row w5 nb 3 _ _ _ NN]; rfl
     have a4 : w5.cell? ⟨nb, 4, none⟩ = some (jI jZ ow) := by rw [cell_of_row w5 nb 4 _ _ _ NN]; rfl
     have fN : ∀ i, w5.frozen? ⟨nb, i, none⟩ = false := fun i => frozen_of_row w5 nb i _ _ NN
     have q0 : w5.cell? ⟨w.heap.size, 0, none⟩ = some (jI jZ 0) := by rw [cell_of_row w5 _ 0 _ _ _ RR]; rfl
     have q1 : w5.cell? ⟨w.heap.size, 1, none⟩ = some (.slice none 0 0) := by rw [cell_of_row w5 _ 1 _ _ _ RR]; rfl
     have q2 : w5.cell? ⟨w.heap.size, 2, none⟩ = some (jI jZ 0) := by rw [cell_of_row w5 _ 2 _ _ _ RR]; rfl
     have q3 : w5.cell? ⟨w.heap.size, 3, none⟩ = some (jI jZ 0) := by rw [cell_of_row w5 _ 3 _ _ _ RR]; rfl
     have q4 : w5.cell? ⟨w.heap.size, 4, none⟩ = some (jI jZ 0) := by rw [cell_of_row w5 _ 4 _ _ _ RR]; rfl
     have fR : ∀ i, w5.frozen? ⟨w.heap.size, i, none⟩ = false := fun i => frozen_of_row w5 _ i _ _ RR
     have sR : (nb = w.heap.size) = False := by simp; omega
     have sR' : (w.heap.size = nb) = False := by simp; omega
     clear NN RR
     go_wp2
     refine bodyPost_ret (v := .agg #[jI jZ lv, jS A' l c', jI jZ hi, jI jZ x, jI jZ ow]) (by simp [results, Tryz.results35, go_sem, q0, q1, q2, q3, q4]) rfl ⟨⟨lv, zs, hi, x, ow⟩, A', c', by simp only [ndV, HLL.out], ?_, by simp only [HLL.out]; exact hz41, ?_, ?_⟩
     · simp only [HLL.out]
       refine own_base' (base := w0.heap.size) ?_ (by omega)
       repeat (refine own_far ?_ (grown_set _ _ _ _) (fun b e => by have := LT.out b e; simp; omega))
       exact O5.out
     · repeat (refine Cur.grown ?_ (grown_set _ _ _ _) (fun k e => by simp at e; omega))
       exact C5.out
     · repeat (refine grown_past ?_ (grown_set _ _ _ _) (fun k e => by simp at e; omega))
       exact G5.out
   · go_wp2_with fail
     refine (num_any g A n c 6 _ C4.out (by omega) (by omega)).mono ?_
     rintro e w5 ⟨x, rfl, _, hc, hg⟩
     have C5 := Lib.hid hc
     have G5 := Lib.hid (grown_trans G4.out hg)
     have R5 := Lib.hid (row_far R4.out hg (fun k e => by simp at e; omega))
     have HN5 := Lib.hid (row_far HN4.out hg (fun k e => by simp at e; omega))
     have O5 := Lib.hid (own_far O4.out hg (fun b e => by have := (O4.out.lt b e).1; simp; omega))
     clear hc hg C4 G4 R4 HN4 O4
     have NN := HN5.out
     have RR := R5.out
     have a0 : w5.cell? ⟨nb, 0, none⟩ = some (jI jZ lv) := by rw [cell_of_row w5 nb 0 _ _ _ NN]; rfl
     have a1 : w5.cell? ⟨nb, 1, none⟩ = some (.slice A' l c') := by rw [cell_of_row w5 nb 1 _ _ _ NN]; rfl
     have a2 : w5.cell? ⟨nb, 2, none⟩ = some (jI jZ hi) := by rw [cell_of_row w5 nb 2 _ _ _ NN]; rfl
     have a3 : w5.cell? ⟨nb, 3, none⟩ = some (jI jZ ri) := by rw [cell_of_row w5 nb 3 _ _ _ NN]; rfl
     have a4 : w5.cell? ⟨nb, 4, none⟩ = some (jI jZ ow) := by rw [cell_of_row w5 nb 4 _ _ _ NN]; rfl
     have fN : ∀ i, w5.frozen? ⟨nb, i, none⟩ = false := fun i => frozen_of_row w5 nb i _ _ NN
     have q0 : w5.cell? ⟨w.heap.size, 0, none⟩ = some (jI jZ 0) := by rw [cell_of_row w5 _ 0 _ _ _ RR]; rfl
     have q1 : w5.cell? ⟨w.heap.size, 1, none⟩ = some (.slice none 0 0) := by rw [cell_of_row w5 _ 1 _ _ _ RR]; rfl
     have q2 : w5.cell? ⟨w.heap.size, 2, none⟩ = some (jI jZ 0) := by rw [cell_of_row w5 _ 2 _ _ _ RR]; rfl
     have q3 : w5.cell? ⟨w.heap.size, 3, none⟩ = some (jI jZ 0) := by rw [cell_of_row w5 _ 3 _ _ _ RR]; rfl
     have q4 : w5.cell? ⟨w.heap.size, 4, none⟩ = some (jI jZ 0) := by rw [cell_of_row w5 _ 4 _ _ _ RR]; rfl
     have fR : ∀ i, w5.frozen? ⟨w.heap.size, i, none⟩ = false := fun i => frozen_of_row w5 _ i _ _ RR
     have sR : (nb = w.heap.size) = False := by simp; omega
     have sR' : (w.heap.size = nb) = False := by simp; omega
     clear NN RR
     go_wp2
     refine bodyPost_ret (v := .agg #[jI jZ lv, jS A' l c', jI jZ hi, jI jZ ri, jI jZ x]) (by simp [results, Tryz.results35, go_sem, q0, q1, q2, q3, q4]) rfl ⟨⟨lv, zs, hi, ri, x⟩, A', c', by simp only [ndV, HLL.out], ?_, by simp only [HLL.out]; exact hz41, ?_, ?_⟩
     · simp only [HLL.out]
       refine own_base' (base := w0.heap.size) ?_ (by omega)
       repeat (refine own_far ?_ (grown_set _ _ _ _) (fun b e => by have := LT.out b e; simp; omega))
       exact O5.out
     · repeat (refine Cur.grown ?_ (grown_set _ _ _ _) (fun k e => by simp at e; omega))
       exact C5.out
     · repeat (refine grown_past ?_ (grown_set _ _ _ _) (fun k e => by simp at e; omega))
       exact G5.out
   · go_wp2_with fail
     refine (below_any g A n c 20 _ C4.out).mono ?_
     rintro e w5 ⟨x, rfl, _, hc, hg⟩
     have C5 := Lib.hid hc
     have G5 := Lib.hid (grown_trans G4.out hg)
     have R5 := Lib.hid (row_far R4.out hg (fun k e => by simp at e; omega))
     have HN5 := Lib.hid (row_far HN4.out hg (fun k e => by simp at e; omega))
     have O5 := Lib.hid (own_far O4.out hg (fun b e => by have := (O4.out.lt b e).1; simp; omega))
     clear hc hg C4 G4 R4 HN4 O4
     have NN := HN5.out
     have RR := R5.out
     have a0 : w5.cell? ⟨nb, 0, none⟩ = some (jI jZ lv) := by rw [cell_of_row w5 nb 0 _ _ _ NN]; rfl
     have a1 : w5.cell? ⟨nb, 1, none⟩ = some (.slice A' l c') := by rw [cell_of_row w5 nb 1 _ _ _ NN]; rfl
     have a2 : w5.cell? ⟨nb, 2, none⟩ = some (jI jZ hi) := by rw [cell_of_row w5 nb 2 _ _ _ NN]; rfl
     have a3 : w5.cell? ⟨nb, 3, none⟩ = some (jI jZ ri) := by rw [cell_of_row w5 nb 3 _ _ _ NN]; rfl
     have a4 : w5.cell? ⟨nb, 4, none⟩ = some (jI jZ ow) := by rw [cell_of_row w5 nb 4 _ _ _ NN]; rfl
     have fN : ∀ i, w5.frozen? ⟨nb, i, none⟩ = false := fun i => frozen_of_row w5 nb i _ _ NN
     have q0 : w5.cell? ⟨w.heap.size, 0, none⟩ = some (jI jZ 0) := by rw [cell_of_row w5 _ 0 _ _ _ RR]; rfl
     have q1 : w5.cell? ⟨w.heap.size, 1, none⟩ = some (.slice none 0 0) := by rw [cell_of_row w5 _ 1 _ _ _ RR]; rfl
     have q2 : w5.cell? ⟨w.heap.size, 2, none⟩ = some (jI jZ 0) := by rw [cell_of_row w5 _ 2 _ _ _ RR]; rfl
     have q3 : w5.cell? ⟨w.heap.size, 3, none⟩ = some (jI jZ 0) := by rw [cell_of_row w5 _ 3 _ _ _ RR]; rfl
     have q4 : w5.cell? ⟨w.heap.size, 4, none⟩ = some (jI jZ 0) := by rw [cell_of_row w5 _ 4 _ _ _ RR]; rfl
     have fR : ∀ i, w5.frozen? ⟨w.heap.size, i, none⟩ = false := fun i => frozen_of_row w5 _ i _ _ RR
     have sR : (nb = w.heap.size) = False := by simp; omega
     have sR' : (w.heap.size = nb) = False := by simp; omega
     clear NN RR
     go_wp2
     refine bodyPost_ret (v := .agg #[jI jZ lv, jS A' l c', jI jZ x, jI jZ ri, jI jZ ow]) (by simp [results, Tryz.results35, go_sem, q0, q1, q2, q3, q4]) rfl ⟨⟨lv, zs, x, ri, ow⟩, A', c', by simp only [ndV, HLL.out], ?_, by simp only [HLL.out]; exact hz41, ?_, ?_⟩
     · simp only [HLL.out]
       refine own_base' (base := w0.heap.size) ?_ (by omega)
       repeat (refine own_far ?_ (grown_set _ _ _ _) (fun b e => by have := LT.out b e; simp; omega))
       exact O5.out
     · repeat (refine Cur.grown ?_ (grown_set _ _ _ _) (fun k e => by simp at e; omega))
       exact C5.out
     · repeat (refine grown_past ?_ (grown_set _ _ _ _) (fun k e => by simp at e; omega))
       exact G5.out
 · subst hb
   have NN := HN3.out
   have RR := R3.out
   have a0 : w3.cell? ⟨nb, 0, none⟩ = some (jI jZ lv) := by rw [cell_of_row w3 nb 0 _ _ _ NN]; rfl
   have a1 : w3.cell? ⟨nb, 1, none⟩ = some (.slice A' l c') := by rw [cell_of_row w3 nb 1 _ _ _ NN]; rfl
   have a2 : w3.cell? ⟨nb, 2, none⟩ = some (jI jZ hi) := by rw [cell_of_row w3 nb 2 _ _ _ NN]; rfl
   have a3 : w3.cell? ⟨nb, 3, none⟩ = some (jI jZ ri) := by rw [cell_of_row w3 nb 3 _ _ _ NN]; rfl
   have a4 : w3.cell? ⟨nb, 4, none⟩ = some (jI jZ ow) := by rw [cell_of_row w3 nb 4 _ _ _ NN]; rfl
   have fN : ∀ i, w3.frozen? ⟨nb, i, none⟩ = false := fun i => frozen_of_row w3 nb i _ _ NN
   have q0 : w3.cell? ⟨w.heap.size, 0, none⟩ = some (jI jZ 0) := by rw [cell_of_row w3 _ 0 _ _ _ RR]; rfl
   have q1 : w3.cell? ⟨w.heap.size, 1, none⟩ = some (.slice none 0 0) := by rw [cell_of_row w3 _ 1 _ _ _ RR]; rfl
   have q2 : w3.cell? ⟨w.heap.size, 2, none⟩ = some (jI jZ 0) := by rw [cell_of_row w3 _ 2 _ _ _ RR]; rfl
   have q3 : w3.cell? ⟨w.heap.size, 3, none⟩ = some (jI jZ 0) := by rw [cell_of_row w3 _ 3 _ _ _ RR]; rfl
   have q4 : w3.cell? ⟨w.heap.size, 4, none⟩ = some (jI jZ 0) := by rw [cell_of_row w3 _ 4 _ _ _ RR]; rfl
   have fR : ∀ i, w3.frozen? ⟨w.heap.size, i, none⟩ = false := fun i => frozen_of_row w3 _ i _ _ RR
   have sR : (nb = w.heap.size) = False := by simp; omega
   have sR' : (w.heap.size = nb) = False := by simp; omega
   clear NN RR
   go_wp2
   refine bodyPost_ret (v := .agg #[jI jZ lv, jS A' l c', jI jZ hi, jI jZ ri, jI jZ ow]) (by simp [results, Tryz.results35, go_sem, q0, q1, q2, q3, q4]) rfl ⟨⟨lv, zs, hi, ri, ow⟩, A', c', by simp only [ndV, HLL.out], ?_, by simp only [HLL.out]; exact hz41, ?_, ?_⟩
   · simp only [HLL.out]
     refine own_base' (base := w0.heap.size) ?_ (by omega)
     repeat (refine own_far ?_ (grown_set _ _ _ _) (fun b e => by have := LT.out b e; simp; omega))
     exact O3.out
   · repeat (refine Cur.grown ?_ (grown_set _ _ _ _) (fun k e => by simp at e; omega))
     exact C3.out
   · repeat (refine grown_past ?_ (grown_set _ _ _ _) (fun k e => by simp at e; omega))
     exact G3.out
end Go.Proofs.YtpffkhjegpddbaaGreat
namespace Go.Proofs.YtpffkhjegpddbaaGreat
open Go.RowKit

theorem bys_on {w w' : World} {A : Option Addr} {n : Nat} (h : Bys w w.heap.size A n) (hb : Below w.heap.size w w') : Bys w' w'.heap.size A n := fun h0 => by
 obtain ⟨b, off, e, hbl, hc⟩ := h h0
 refine ⟨b, off, e, Nat.lt_of_lt_of_le hbl hb.size, fun i hi => ?_⟩
 obtain ⟨x, hx, h1, h2⟩ := hc i hi
 exact ⟨x, (hb.cell hbl).trans hx, h1, h2⟩
end Go.Proofs.YtpffkhjegpddbaaGreat
namespace Go.Proofs.YtpffkhjegpddbaaGreat
open Go.RowKit

def cuI (g : Nat) (A : Option Addr) (n c : Nat) : Item where
 F := fun k => k = g
 P := fun w => ∃ (i : Nat) (h : Int), w.heap[g]? = some (.cells #[jS A n c, jI jZ i, jI jZ h] 58 (0, 0)) ∧ i ≤ n
 keep := fun _ _ ⟨i, h, hg, hi⟩ hk => ⟨i, h, (hk g rfl (Array.getElem?_eq_some_iff.1 hg).1).trans hg, hi⟩
def cuX (g : Nat) : FP := fun k => k = g
section
variable {w0 w w' : World} {g n c : Nat} {A : Option Addr} {L : List Item}
theorem Sep.startCur (hC : Cur w0 g A n c) : Sep (cuX g) w0 [cuI g A n c] w0 where
 only := Only.refl _ _
 holds := fun i hi => by
   obtain rfl := List.mem_singleton.1 hi
   exact hC.1
 fresh := fun i hi k hk => by
   obtain rfl := List.mem_singleton.1 hi
   have hk : k = g := hk
   subst hk
   exact ⟨.inl rfl, hC.lt⟩
 apart := List.pairwise_singleton _ _
theorem Sep.cur (h : Sep (cuX g) w0 L w) (p : Nat) (e : L[p]? = some (cuI g A n c)) (hC : Cur w0 g A n c) : Cur w g A n c := by
 refine ⟨h.get p e, hC.2.1, fun h0 => ?_⟩
 obtain ⟨b, off, eA, hb, hc⟩ := hC.2.2 h0
 refine ⟨b, off, eA, hb, fun i hi => ?_⟩
 obtain ⟨x, hx, h1, h2⟩ := hc i hi
 refine ⟨x, ?_, h1, h2⟩
 rw [← hx]
 exact World.cell?_of_block (h.only.block b (by have := hC.lt; omega) (fun e9 => by have e9 : b = g := e9; omega))
theorem Sep.drawn (h : Sep (cuX g) w0 L w) (p : Nat) (e : L[p]? = some (cuI g A n c)) (hc : Cur w' g A n c) (hg : w.grownBy w' (some g)) : Sep (cuX g) w0 (L.set p (cuI g A n c)) w' := by
 refine h.turn p e (Only.of_grown hg (fun k hk => ?_)) (cuI g A n c) hc.1 (fun k hk => ⟨.inl hk, ?_⟩)
 · have h9 : g = k := by simpa using hk
   exact h9.symm
 · have hk : k = g := hk
   subst hk
   exact hc.lt
theorem Sep.grown (h : Sep (cuX g) w0 L w) : w0.grownBy w (some g) := by
 refine ⟨h.only.os, h.only.tape, h.only.output, h.only.size, fun k hk hn => h.only.block k hk (fun e => hn ?_)⟩
 have e : k = g := e
 rw [e]
end

section
variable {X : FP} {w0 w w' : World} {g n c : Nat} {A : Option Addr} {L : List Item}
theorem Sep.perm {L' : List Item} (h : Sep X w0 L w) (hp : L.Perm L') : Sep X w0 L' w :=
 ⟨h.only, fun i hi => h.holds i (hp.mem_iff.2 hi), fun i hi => h.fresh i (hp.mem_iff.2 hi), (hp.pairwise_iff (fun {_ _} h => h.symm)).1 h.apart⟩
theorem Sep.bys (h : Sep noX w0 L w) (p : Nat) {I : Item} (e : L[p]? = some I) (hI : I.F g) (hB : Bys w0 w0.heap.size A n) : Bys w g A n := fun h0 => by
 obtain ⟨b, off, eA, hb, hc⟩ := hB h0
 have hf := (h.fresh _ (List.mem_of_getElem? e) g hI).1
 have hg : w0.heap.size ≤ g := by
   rcases hf with h1 | h1
   · exact absurd h1 id
   · exact h1
 refine ⟨b, off, eA, by omega, fun i hi => ?_⟩
 obtain ⟨x, hx, h1, h2⟩ := hc i hi
 exact ⟨x, (h.below.cell (p := ⟨b, off + i, none⟩) hb).trans hx, h1, h2⟩
theorem Sep.curA (h : Sep noX w0 L w) (p : Nat) (e : L[p]? = some (cuI g A n c)) (hB : Bys w0 w0.heap.size A n) (hn : n ≤ 4096) : Cur w g A n c :=
 ⟨h.get p e, hn, h.bys p e rfl hB⟩
theorem Sep.newCur (h : Sep X w0 L w) (hc : Cur w' g A n c) (hs : w.heap.size ≤ g) (b : Below w.heap.size w w') : Sep X w0 (cuI g A n c :: L) w' :=
 h.gain b _ hc.1 (fun k hk => by
   have hk : k = g := hk
   subst hk
   exact ⟨hs, hc.lt⟩)
theorem Sep.drawnA (h : Sep X w0 L w) (p : Nat) (e : L[p]? = some (cuI g A n c)) (hc : Cur w' g A n c) (hg : w.grownBy w' (some g)) : Sep X w0 L w' := by
 have h2 := h.turn p e (Only.of_grown hg (fun k hk => by
   have h9 : g = k := by simpa using hk
   exact h9.symm)) (cuI g A n c) hc.1 (fun k hk => ⟨.inl hk, by
   have hk : k = g := hk
   subst hk
   exact hc.lt⟩)
 have hL : L.set p (cuI g A n c) = L := by
   apply List.ext_getElem?
   intro i
   by_cases hi : p = i
   · subst hi
     rw [List.getElem?_set_self (List.getElem?_eq_some_iff.1 e).1, e]
   · rw [List.getElem?_set_ne hi]
 rw [hL] at h2
 exact h2
theorem Sep.drawnGainA (h : Sep X w0 L w) (p : Nat) (e : L[p]? = some (cuI g A n c)) (hc : Cur w' g A n c) (hg : w.grownBy w' (some g)) (I : Item) (pI : I.P w') (f : ∀ k, I.F k → w.heap.size ≤ k ∧ k < w'.heap.size) : Sep X w0 (I :: L) w' := by
 have h2 := h.drawnA p e hc hg
 refine ⟨h2.only, fun i hi => ?_, fun i hi k hk => ?_, List.pairwise_cons.2 ⟨fun j hj => ?_, h2.apart⟩⟩
 · rcases List.mem_cons.1 hi with rfl | hi
   · exact pI
   · exact h2.holds i hi
 · rcases List.mem_cons.1 hi with rfl | hi
   · have := f k hk; have := h.size; exact ⟨.inr (by omega), by omega⟩
   · exact h2.fresh i hi k hk
 · exact fun k hk hk2 => by have := f k hk; have := (h.fresh j hj k hk2).2; omega
end
end Go.Proofs.YtpffkhjegpddbaaGreat
namespace Go.Proofs.YtpffkhjegpddbaaGreat
open Go.RowKit

theorem codes_cell (q : Nat) (hq : q < 5) : (IL [1, 2, 2, 2, 3]).toArray[0 + q * 1]? = some (jI jZ (iAt [1, 2, 2, 2, 3] q)) := by
 rcases q with _ | _ | _ | _ | _ | q <;> first | rfl | omega
theorem codes_in (q : Nat) (hq : q < 5) : 1 ≤ iAt [1, 2, 2, 2, 3] q ∧ iAt [1, 2, 2, 2, 3] q ≤ 3 := by
 rcases q with _ | _ | _ | _ | _ | q <;> first | decide | omega
def DrawnC (g : Nat) (A : Option Addr) (n c : Nat) (w : World) (e : Ending) (w' : World) : Prop :=
 ∃ cc ck cv : Int, e = .returned (.agg #[jI jZ cc, jI jZ ck, jI jZ cv]) ∧ (1 ≤ cc ∧ cc ≤ 3) ∧ (0 ≤ ck ∧ ck < 30) ∧ (0 ≤ cv ∧ cv < 100) ∧ Cur w' g A n c ∧ w.grownBy w' (some g)
end Go.Proofs.YtpffkhjegpddbaaGreat
