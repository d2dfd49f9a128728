/- The walks of the draws of a node. -/
import Derived.Test.YtpffkhjegpddbaaGreatV23
import Derived.Test.YtpffkhjegpddbaaGreatV04
import Derived.Deep.RegionWith
open Go.Value renaming int → jI, slice → jS
open Go.IntKind renaming i64 → jZ
namespace Go.Proofs.YtpffkhjegpddbaaGreat
open Go.RowKit

theorem row_lt {w : World} {b : Nat} {o : Obj} (h : w.heap[b]? = some o) : b < w.heap.size := by
 rcases Nat.lt_or_ge b w.heap.size with hlt | hge
 · exact hlt
 · rw [Array.getElem?_eq_none hge] at h; cases h
theorem row_far {w w' : World} {b : Nat} {o : Obj} {row : Option Nat} (h : w.heap[b]? = some o) (hg : w.grownBy w' row) (hr : ∀ k, row = some k → k ≠ b) : w'.heap[b]? = some o :=
 (hg.block b (row_lt h) (fun e => hr b e.symm rfl)).trans h
theorem row_below {w w' : World} {b : Nat} {o : Obj} (h : w.heap[b]? = some o) (hb : Below w.heap.size w w') : w'.heap[b]? = some o := (hb.block b (row_lt h)).trans h
theorem row_set {w : World} {b i : Nat} {cs : Array Value} {t : TypeId} (h : w.heap[b]? = some (.cells cs t (0, 0))) (u : Value) : (w.setCell ⟨b, i, none⟩ u).heap[b]? = some (.cells (cs.setIfInBounds i u) t (0, 0)) := heap_setCell_same w b i cs t u h
theorem grown_set (w : World) (b i : Nat) (u : Value) : w.grownBy (w.setCell ⟨b, i, none⟩ u) (some b) := ⟨rfl, rfl, rfl, by simp, fun k _ hk => heap_setCell_other w ⟨b, i, none⟩ k u (fun e => hk (by simp [e]))⟩
theorem grown_undrew {w w' : World} {row : Option Nat} (h : w.drew.grownBy w' row) : w.grownBy w' row := ⟨h.os, h.tape, h.output, h.size, h.block⟩
theorem insL_le (zs : List Pr) (k v : Int) : (insL zs k v).length ≤ zs.length + 1 := by
 rw [insL_length]; split <;> omega

def DrawnN (g : Nat) (A : Option Addr) (n c m : Nat) (w : World) (e : Ending) (w' : World) : Prop :=
 ∃ (x : Nd) (A' : Option Addr) (c' : Nat), e = .returned (ndV x A' x.ps.length c') ∧ w'.ownsRow w.heap.size 68 2 (jS A' x.ps.length c') x.ps.length (PL x.ps) ∧ x.ps.length ≤ m ∧ Cur w' g A n c ∧ w.grownBy w' (some g)

set_option maxHeartbeats 1000000 in
theorem nDraw_any (g : Nat) (A : Option Addr) (n c : Nat) (w : World) (hC : Cur w g A n c) :
   Calls Tryz.prog 53 #[.pointer (some ⟨g, 0, none⟩)] w (DrawnN g A n c 4 w) := by
 have HC := Lib.hid hC
 have hlt := hC.lt
 clear hC
 go_enter Tryz.func53, Tryz.ntmps53
 go_wp2_with fail
 obtain ⟨w0, hw0⟩ : ∃ w0, w0 = w.alloc (.cells #[jI jZ 0, jS none 0 0, jI jZ 0, jI jZ 0, jI jZ 0] 53) := ⟨_, rfl⟩
 rw [← hw0]
 have b0 : Below w.heap.size w w0 := by rw [hw0]; exact (Below.refl _ _).alloc (Nat.le_refl _) _
 have r0 : w0.heap[w.heap.size]? = some (.cells #[jI jZ 0, jS none 0 0, jI jZ 0, jI jZ 0, jI jZ 0] 53 (0, 0)) := by rw [hw0]; exact heap_alloc_new w _
 have C0 := Lib.hid (HC.out.below b0)
 have G0 : Hid (w.grownBy w0 (some g)) := Lib.hid (grown_below b0)
 have R0 := Lib.hid r0
 clear hw0 b0 r0 HC
 refine (below_any g A n c 3 _ C0.out).mono ?_
 rintro e w1 ⟨lv, rfl, _, hc, hg⟩
 have C1 := Lib.hid hc
 have G1 := Lib.hid (grown_trans G0.out hg)
 have R1 := Lib.hid (row_far R0.out hg (fun k e => by simp at e; omega))
 clear hc hg C0 G0 R0
 go_wp2_with fail
 refine (below_any g A n c 3 _ C1.out).mono ?_
 rintro e w2 ⟨ow, rfl, _, hc, hg⟩
 have C2 := Lib.hid hc
 have G2 := Lib.hid (grown_trans G1.out hg)
 have R2 := Lib.hid (row_far R1.out hg (fun k e => by simp at e; omega))
 clear hc hg C1 G1 R1
 go_wp2_with fail
 obtain ⟨w3, hw3⟩ : ∃ w3, w3 = w2.alloc (.cells #[jI jZ lv, jS none 0 0, jI jZ (-1), jI jZ (-1), jI jZ ow] 53) := ⟨_, rfl⟩
 rw [← hw3]
 have b3 : Below w2.heap.size w2 w3 := by rw [hw3]; exact (Below.refl _ _).alloc (Nat.le_refl _) _
 have r3 : w3.heap[w2.heap.size]? = some (.cells #[jI jZ lv, jS none 0 0, jI jZ (-1), jI jZ (-1), jI jZ ow] 53 (0, 0)) := by rw [hw3]; exact heap_alloc_new w2 _
 have sN : w.heap.size < w2.heap.size := row_lt R2.out
 have C3 := Lib.hid (C2.out.below b3)
 have G3 := Lib.hid (grown_trans G2.out (grown_below b3))
 have R3 := Lib.hid (row_below R2.out b3)
 have N3 := Lib.hid r3
 clear hw3 b3 r3 C2 G2 R2
 generalize hnb : w2.heap.size = nb at *
 clear hnb
 refine (below_any g A n c 5 _ C3.out).mono ?_
 rintro e w4 ⟨q, rfl, ⟨_, hq⟩, hc, hg⟩
 obtain ⟨q0, q1⟩ := hq (by omega)
 have C4 := Lib.hid hc
 have G4 := Lib.hid (grown_trans G3.out hg)
 have R4 := Lib.hid (row_far R3.out hg (fun k e => by simp at e; omega))
 have N4 := Lib.hid (row_far N3.out hg (fun k e => by simp at e; omega))
 clear hc hg C3 G3 R3 N3 hq
 go_wp2_with fail
 go_loopw [4] (fun i wr => ∃ (k : Int) (A' : Option Addr) (c' : Nat) (zs : List Pr), i = jI jZ k ∧ k ≤ 4 ∧ (zs.length : Int) ≤ 4 - k ∧ 0 ≤ k ∧ Hid (wr.ownsRow (nb + 1) 68 2 (jS A' zs.length c') zs.length (PL zs)) ∧ Hid (wr.heap[nb]? = some (.cells #[jI jZ lv, jS A' zs.length c', jI jZ (-1), jI jZ (-1), jI jZ ow] 53 (0, 0))) ∧ Hid (Cur wr g A n c) ∧ Hid (w.grownBy wr (some g)) ∧ Hid (wr.heap[w.heap.size]? = some (.cells #[jI jZ 0, jS none 0 0, jI jZ 0, jI jZ 0, jI jZ 0] 53 (0, 0)))) (fun i _ => (intOf i).toNat)
 case atStart => exact ⟨q, none, 0, [], rfl, by omega, by simp; omega, q0, Lib.hid (World.ownsRow_nil _ _ _ _), N4, C4, G4, R4⟩
 case round =>
   obtain ⟨k, A', c', zs, rfl, hk, hz, hk0, ho, hN, hC, hG, hR⟩ := hrel
   clear N4 C4 G4 R4
   have n1 : wr.cell? ⟨nb, 1, none⟩ = some (.slice A' zs.length c') := by rw [cell_of_row wr nb 1 _ _ _ hN.out]; rfl
   have capz := own_cap ho.out
   obtain ⟨cap1, cap2⟩ := capz
   have hz4 : zs.length ≤ 4 := by omega
   generalize hl : zs.length = l at *
   have HLL := Lib.hid hl
   clear hl
   by_cases hk1 : 0 < k
   · have hgn : g < nb := by have := hlt; omega
     have hne : ∀ k, some g = some k → k ≠ nb := fun k e => by simp at e; omega
     have hneR : ∀ k, some g = some k → k ≠ w.heap.size := fun k e => by simp at e; omega
     have KN : Hid (∀ wx : World, wx.heap[nb]? = some (.cells #[jI jZ lv, jS A' l c', jI jZ (-1), jI jZ (-1), jI jZ ow] 53 (0, 0)) → wx.cell? ⟨nb, 1, none⟩ = some (.slice A' l c')) := Lib.hid (fun wx h => by rw [cell_of_row wx nb 1 _ _ _ h]; rfl)
     have HNE := Lib.hid hne
     have HNR := Lib.hid hneR
     have hfar : ∀ b, (Value.slice A' l c').ownBlock = some b → some g ≠ some b := fun b e => by have := (ho.out.lt b e).1; simp; omega
     have HF := Lib.hid hfar
     have hod : wr.drew.ownsRow (nb + 1) 68 2 (jS A' l c') l (PL zs) := ho.out
     have HOD := Lib.hid hod
     have hnd : wr.drew.heap[nb]? = some (.cells #[jI jZ lv, jS A' l c', jI jZ (-1), jI jZ (-1), jI jZ ow] 53 (0, 0)) := hN.out
     have HND := Lib.hid hnd
     have hl2 : l ≤ 1048576 := by omega
     clear hne hneR hfar hod hnd
     go_wp2_with fail
     go_region_with (first
       | (go_at_call_of 34 (Value.int IntKind.i64 20); refine (below_any g A n c 20 _ ?_).mono ?_; exact hC.out; rintro e wa ⟨xk, rfl, _, ca, ga⟩; have na := KN.out _ (row_far HND.out ga HNE.out))
       | (go_at_call_of 34 (Value.int IntKind.i64 9); refine (below_any g A n c 9 _ ca).mono ?_; rintro e wb ⟨xv, rfl, _, cb, gb⟩; have nb' := KN.out _ (row_far (row_far HND.out ga HNE.out) gb HNE.out))
       | (go_at_call 36; refine (sPut_any A' l c' zs xk xv _ ?_ hl2 cap1 cap2).mono ?_; exact RP.own (own_far (own_far HOD.out ga HF.out) gb HF.out); intro e wp hP; obtain ⟨AP, cP, rfl, op, bp⟩ := own_form hP; have fN := frozen_of_row wp nb 1 _ _ (row_below (row_far (row_far HND.out ga HNE.out) gb HNE.out) bp); have cN := KN.out _ (row_below (row_far (row_far HND.out ga HNE.out) gb HNE.out) bp)))
     all_goals
       have op2 := own_base op (show nb + 1 ≤ wb.heap.size by have := row_lt (row_far (row_far HND.out ga HNE.out) gb HNE.out); omega)
       have OP := Lib.hid ((ownsRow_setCell_below op2 (a := ⟨nb, 1, none⟩) (by simp) (jS AP (insL zs xk xv).length cP)))
       have NP := Lib.hid (row_set (i := 1) (row_below (row_far (row_far HND.out ga HNE.out) gb HNE.out) bp) (jS AP (insL zs xk xv).length cP))
       have gp := grown_set wp nb 1 (jS AP (insL zs xk xv).length cP)
       have CP := Lib.hid ((cb.below bp).grown gp (fun k e => by simp at e; omega))
       have GP := Lib.hid (grown_past (grown_trans (grown_trans hG.out (grown_trans (grown_undrew ga) gb)) (grown_below bp)) gp (fun k e => by simp at e; omega))
       have RP' := Lib.hid (row_far (row_below (row_far (row_far hR.out (grown_undrew ga) HNR.out) gb HNR.out) bp) gp (fun k e => by simp at e; omega))
       have LP : Hid (((insL zs xk xv).length : Int) ≤ 4 - (k - 1)) := Lib.hid (by have := insL_le zs xk xv; have := HLL.out; omega)
       clear op op2 bp gp ga gb ca cb fN cN na nb' n1
       generalize insL zs xk xv = z2 at *
       go_wp2_with fail
       go_roundw
     all_goals first
       | exact ⟨k - 1, AP, cP, z2, by go_num, by omega, LP.out, by omega, OP, NP, CP, GP, RP'⟩
       | (simp [intOf]; omega)
   · go_wp2_with fail
     refine (once_any g A n c 2 _ hC.out).mono ?_
     rintro e w5 ⟨b, rfl, hc, hg⟩
     have C5 := Lib.hid hc
     have G5 := Lib.hid (grown_trans hG.out hg)
     have R5 := Lib.hid (row_far hR.out hg (fun k e => by simp at e; omega))
     have N5 := Lib.hid (row_far hN.out hg (fun k e => by simp at e; omega))
     have O5 := Lib.hid (own_far ho.out hg (fun b e => by have := (ho.out.lt b e).1; simp; omega))
     clear hc hg hC hG hR hN ho n1
     have m0 : ∀ (y : Nd) (hy : y = ⟨lv, zs, -1, -1, ow⟩), True := fun _ _ => trivial
     clear m0
     rcases Bool.eq_false_or_eq_true b with hb | hb
     · subst hb
       go_wp2_with fail
       refine (below_any g A n c 5 _ C5.out).mono ?_
       rintro e w6 ⟨h1, rfl, ⟨_, hh⟩, hc, hg⟩
       obtain ⟨hh0, hh1⟩ := hh (by omega)
       have C6 := Lib.hid hc
       have G6 := Lib.hid (grown_trans G5.out hg)
       have R6 := Lib.hid (row_far R5.out hg (fun k e => by simp at e; omega))
       have N6 := row_far N5.out hg (fun k e => by simp at e; omega)
       have O6 := Lib.hid (own_far O5.out hg (fun b e => by have := (O5.out.lt b e).1; simp; omega))
       have cH : w6.cell? ⟨nb, 2, none⟩ = some (jI jZ (-1)) := by rw [cell_of_row w6 nb 2 _ _ _ N6]; rfl
       have fH : w6.frozen? ⟨nb, 2, none⟩ = false := frozen_of_row w6 nb 2 _ _ N6
       have HN6 := Lib.hid N6
       clear hc hg C5 G5 R5 N5 O5 N6 hh
       go_wp2_with fail
       generalize hHI : (20 + h1 : Int) = HI
       clear hHI
       obtain ⟨w7, hw7⟩ : ∃ w7, w7 = w6.setCell ⟨nb, 2, none⟩ (jI jZ HI) := ⟨_, rfl⟩
       rw [← hw7]
       have g7 : w6.grownBy w7 (some nb) := by rw [hw7]; exact grown_set _ _ _ _
       have N7 : Hid (w7.heap[nb]? = some (.cells #[jI jZ lv, jS A' l c', jI jZ HI, jI jZ (-1), jI jZ ow] 53 (0, 0))) := Lib.hid (by rw [hw7]; exact row_set (i := 2) HN6.out _)
       have O7 : Hid (w7.ownsRow (nb + 1) 68 2 (jS A' l c') l (PL zs)) := Lib.hid (by rw [hw7]; exact ownsRow_setCell_below O6.out (by simp) _)
       have C7 := Lib.hid (C6.out.grown g7 (fun k e => by simp at e; omega))
       have G7 := Lib.hid (grown_past G6.out g7 (fun k e => by simp at e; omega))
       have R7 := Lib.hid (row_far R6.out g7 (fun k e => by simp at e; omega))
       clear hw7 g7 C6 G6 R6 HN6 O6 cH fH
       refine (below_any g A n c 9 _ C7.out).mono ?_
       rintro e w8 ⟨RI, rfl, _, hc, hg⟩
       have C8 := Lib.hid hc
       have G8 := Lib.hid (grown_trans G7.out hg)
       have R8 := Lib.hid (row_far R7.out hg (fun k e => by simp at e; omega))
       have HN8 := Lib.hid (row_far N7.out hg (fun k e => by simp at e; omega))
       have O8 := Lib.hid (own_far O7.out hg (fun b e => by have := (O7.out.lt b e).1; simp; omega))
       clear hc hg C7 G7 R7 N7 O7
       have NN := HN8.out
       have RR := R8.out
       have a0 : w8.cell? ⟨nb, 0, none⟩ = some (jI jZ lv) := by rw [cell_of_row w8 nb 0 _ _ _ NN]; rfl
       have a1 : w8.cell? ⟨nb, 1, none⟩ = some (.slice A' l c') := by rw [cell_of_row w8 nb 1 _ _ _ NN]; rfl
       have a2 : w8.cell? ⟨nb, 2, none⟩ = some (jI jZ HI) := by rw [cell_of_row w8 nb 2 _ _ _ NN]; rfl
       have a3 : w8.cell? ⟨nb, 3, none⟩ = some (jI jZ (-1)) := by rw [cell_of_row w8 nb 3 _ _ _ NN]; rfl
       have a4 : w8.cell? ⟨nb, 4, none⟩ = some (jI jZ ow) := by rw [cell_of_row w8 nb 4 _ _ _ NN]; rfl
       have fN : w8.frozen? ⟨nb, 3, none⟩ = false := frozen_of_row w8 nb 3 _ _ NN
       have q0 : w8.cell? ⟨w.heap.size, 0, none⟩ = some (jI jZ 0) := by rw [cell_of_row w8 _ 0 _ _ _ RR]; rfl
       have q1 : w8.cell? ⟨w.heap.size, 1, none⟩ = some (.slice none 0 0) := by rw [cell_of_row w8 _ 1 _ _ _ RR]; rfl
       have q2 : w8.cell? ⟨w.heap.size, 2, none⟩ = some (jI jZ 0) := by rw [cell_of_row w8 _ 2 _ _ _ RR]; rfl
       have q3 : w8.cell? ⟨w.heap.size, 3, none⟩ = some (jI jZ 0) := by rw [cell_of_row w8 _ 3 _ _ _ RR]; rfl
       have q4 : w8.cell? ⟨w.heap.size, 4, none⟩ = some (jI jZ 0) := by rw [cell_of_row w8 _ 4 _ _ _ RR]; rfl
       have fR : ∀ i, w8.frozen? ⟨w.heap.size, i, none⟩ = false := fun i => frozen_of_row w8 _ i _ _ RR
       have sR : (nb = w.heap.size) = False := by simp; omega
       have sR' : (w.heap.size = nb) = False := by simp; omega
       clear NN RR
       go_wp2
       refine bodyPost_ret (v := .agg #[jI jZ lv, jS A' l c', jI jZ HI, jI jZ RI, jI jZ ow]) (by simp [results, Tryz.results53, go_sem, q0, q1, q2, q3, q4]) rfl ⟨⟨lv, zs, HI, RI, ow⟩, A', c', by simp only [ndV, HLL.out], ?_, by simp only [HLL.out]; exact hz4, ?_, ?_⟩
       · simp only [HLL.out]
         refine own_base' (base := nb + 1) ?_ (by omega)
         repeat (refine ownsRow_setCell_below ?_ (by simp; first | done | omega) _)
         exact O8.out
       · repeat (refine Cur.grown ?_ (grown_set _ _ _ _) (fun k e => by simp at e; omega))
         exact C8.out
       · repeat (refine grown_past ?_ (grown_set _ _ _ _) (fun k e => by simp at e; omega))
         exact G8.out
     · subst hb
       have HN5 := N5
       clear N5
       have NN := HN5.out
       have RR := R5.out
       have a0 : w5.cell? ⟨nb, 0, none⟩ = some (jI jZ lv) := by rw [cell_of_row w5 nb 0 _ _ _ NN]; rfl
       have a1 : w5.cell? ⟨nb, 1, none⟩ = some (.slice A' l c') := by rw [cell_of_row w5 nb 1 _ _ _ NN]; rfl
       have a2 : w5.cell? ⟨nb, 2, none⟩ = some (jI jZ (-1)) := by rw [cell_of_row w5 nb 2 _ _ _ NN]; rfl
       have a3 : w5.cell? ⟨nb, 3, none⟩ = some (jI jZ (-1)) := by rw [cell_of_row w5 nb 3 _ _ _ NN]; rfl
       have a4 : w5.cell? ⟨nb, 4, none⟩ = some (jI jZ ow) := by rw [cell_of_row w5 nb 4 _ _ _ NN]; rfl
       have fN : w5.frozen? ⟨nb, 3, none⟩ = false := frozen_of_row w5 nb 3 _ _ NN
       have q0 : w5.cell? ⟨w.heap.size, 0, none⟩ = some (jI jZ 0) := by rw [cell_of_row w5 _ 0 _ _ _ RR]; rfl
       have q1 : w5.cell? ⟨w.heap.size, 1, none⟩ = some (.slice none 0 0) := by rw [cell_of_row w5 _ 1 _ _ _ RR]; rfl
       have q2 : w5.cell? ⟨w.heap.size, 2, none⟩ = some (jI jZ 0) := by rw [cell_of_row w5 _ 2 _ _ _ RR]; rfl
       have q3 : w5.cell? ⟨w.heap.size, 3, none⟩ = some (jI jZ 0) := by rw [cell_of_row w5 _ 3 _ _ _ RR]; rfl
       have q4 : w5.cell? ⟨w.heap.size, 4, none⟩ = some (jI jZ 0) := by rw [cell_of_row w5 _ 4 _ _ _ RR]; rfl
       have fR : ∀ i, w5.frozen? ⟨w.heap.size, i, none⟩ = false := fun i => frozen_of_row w5 _ i _ _ RR
       have sR : (nb = w.heap.size) = False := by simp; omega
       have sR' : (w.heap.size = nb) = False := by simp; omega
       clear NN RR
       go_wp2
       refine bodyPost_ret (v := .agg #[jI jZ lv, jS A' l c', jI jZ (-1), jI jZ (-1), jI jZ ow]) (by simp [results, Tryz.results53, go_sem, q0, q1, q2, q3, q4]) rfl ⟨⟨lv, zs, (-1), (-1), ow⟩, A', c', by simp only [ndV, HLL.out], ?_, by simp only [HLL.out]; exact hz4, ?_, ?_⟩
       · simp only [HLL.out]
         refine own_base' (base := nb + 1) ?_ (by omega)
         repeat (refine ownsRow_setCell_below ?_ (by simp; first | done | omega) _)
         exact O5.out
       · repeat (refine Cur.grown ?_ (grown_set _ _ _ _) (fun k e => by simp at e; omega))
         exact C5.out
       · repeat (refine grown_past ?_ (grown_set _ _ _ _) (fun k e => by simp at e; omega))
         exact G5.out
end Go.Proofs.YtpffkhjegpddbaaGreat
