/- The walk of the code's heldAs. -/
import Derived.Test.YtbipdfeikmchcaaK5
namespace Go.Proofs.Ytbipdfeikmchcaa
open Go.RowKit

set_option maxRecDepth 100000 in
set_option maxHeartbeats 1000000 in
theorem iheldAs_any (r : Int) (xs : List Nd) (A : Option Addr) (n c bm nm : Nat) (o : Int → Int) (w : World) (h : RS w w.heap.size A n xs) (hn1 : 1 ≤ n) (hn : n ≤ 40) (hp : ∀ i, i < n → (ndAt xs i).ps.length ≤ 1048576) (hm : Held w bm nm o) :
    Calls Try.prog 47 #[.agg #[.int .i64 r, .slice A n c], .map (some bm)] w fun e w' => ∃ v F, e = .returned (.agg #[.int .i64 r, v]) ∧ OwnS w' v (heldXs xs o n) F ∧ Fresh F w w' ∧ Below w.heap.size w w' := by
  obtain ⟨w0, hw0⟩ : ∃ w0, w0 = (w.alloc (.cells #[.int .i64 r, .slice A n c] 29)).alloc (.cells #[.int .i64 0, .slice none 0 0] 29) := ⟨_, rfl⟩
  have b0 : Below w.heap.size w w0 := by rw [hw0]; exact ((Below.refl _ _).alloc (Nat.le_refl _) _).alloc (by simp) _
  have x0 : w0.heap[w.heap.size]? = some (.cells #[.int .i64 r, .slice A n c] 29 (0, 0)) := by
    rw [hw0, Below.heap_alloc _ _ _ (by simp)]; exact heap_alloc_new _ _
  have x1 : w0.heap[w.heap.size + 1]? = some (.cells #[.int .i64 0, .slice none 0 0] 29 (0, 0)) := by
    have hz := heap_alloc_new (w.alloc (.cells #[.int .i64 r, .slice A n c] 29)) (.cells #[.int .i64 0, .slice none 0 0] 29)
    rw [hw0]
    rwa [show (w.alloc (.cells #[.int .i64 r, .slice A n c] 29)).heap.size = w.heap.size + 1 from by simp] at hz
  have s0 : w0.heap.size = w.heap.size + 2 := by rw [hw0]; simp
  have HH := Lib.hid (h.on b0)
  have HM := Lib.hid (hm.on b0)
  have HML := Lib.hid hm.lt
  have B0 := Lib.hid b0
  have S0 := Lib.hid s0
  have X0 := Lib.hid x0
  have X1 := Lib.hid x1
  have HW := Lib.hid hw0
  have HP := Lib.hid hp
  have CN := Lib.hid (fun w h => cloneN_any A n c xs w h hn1 (by omega))
  clear h hm b0 s0 x0 x1 hw0 hp
  go_enter Try.func47, Try.ntmps47
  go_wp2_with fail
  rw [← HW.out]
  refine (CN.out _ HH.out).mono ?_
  rintro e w1 ⟨g, cap, css, rfl, hl, hr, hi, b1⟩
  have A1 := Lib.hid (HalfA.start o hl hr hi b1)
  have B1 := Lib.hid b1
  clear hl hr hi b1
  go_wp2
  go_loopw [13] (fun i wr => ∃ k : Nat, i = .int .i64 k ∧ k ≤ n ∧ Hid (HalfA wr w0.heap.size g cap n k xs o) ∧ Hid (Below w0.heap.size w0 wr)) (fun i _ => n - (intOf i).toNat)
  case atStart => exact ⟨0, rfl, by omega, A1, B1⟩
  case round =>
    obtain ⟨k, rfl, hk, ha, hbw⟩ := hrel
    by_cases hlt : k < n
    · obtain ⟨hg1, hg2, fz, A2, n2, c2, c0, c1, c2', c3, c4, hR, _⟩ := ha.out.at hlt
      have hps := HP.out k hlt
      have hx := ha.out
      have HN : Hid (∀ wb C v, Below wr.heap.size wr wb → wr.heap.size ≤ C → wb.ownsRow C 51 2 v (ndAt xs k).ps.length (PL (ndAt xs k).ps) → HalfA ((wb.setCell ⟨g, k * 5 + 1, none⟩ v).setCell ⟨g, k * 5 + 4, none⟩ (.int .i64 (o k))) w0.heap.size g cap n (k + 1) xs o) :=
        Lib.hid (fun wb C v hb hC hv => hx.next hbw.out.size hlt hb hC hv)
      clear hx
      have hR1 : RP wr wr.heap.size A2 n2 (ndAt xs k).ps := hR.more hbw.out.size
      have hn2 : n2 ≤ 1048576 := by rw [← hR.1]; exact hps
      generalize ndAt xs k = y at *
      obtain ⟨lv, zs, hi, ri, ow⟩ := y
      simp only at *
      obtain ⟨wb, hwb⟩ : ∃ wb, wb = wr.alloc (.cells #[.int .i64 lv, .slice A2 n2 c2, .int .i64 hi, .int .i64 ri, .int .i64 ow] 48) := ⟨_, rfl⟩
      have bb : Below wr.heap.size wr wb := by rw [hwb]; exact (Below.refl _ _).alloc (Nat.le_refl _) _
      have HB := Lib.hid hwb
      have RB := Lib.hid (hR1.on bb)
      have BB := Lib.hid bb
      have CL := Lib.hid (fun w h => clone_any A2 n2 c2 zs w h hn2)
      clear hR hR1 bb hwb hps
      go_wp2_with fail
      rw [← HB.out]
      refine (CL.out _ RB.out).mono ?_
      rintro e w5 ⟨v, rfl, o5, b5⟩
      obtain ⟨A5, c5, rfl, _, _⟩ := own_shape o5
      have b25 := bel_on BB.out b5
      have N5 := Lib.hid (HN.out w5 wb.heap.size _ b25 BB.out.size o5)
      have B5 := Lib.hid (bel_on hbw.out b25)
      have M5 := Lib.hid ((HM.out.on B5.out).setCell (a := ⟨g, k * 5 + 1, none⟩) (by have := HML.out; have := S0.out; simp; omega) (.slice A5 zs.length c5))
      have fz5 : ∀ i, w5.frozen? ⟨g, i, none⟩ = false := fun i => (b25.frozen (p := ⟨g, i, none⟩) hg1).trans (fz i)
      have d1 : w5.cell? ⟨g, k * 5 + 1, none⟩ = some (.slice A2 n2 c2) := (b25.cell (p := ⟨g, k * 5 + 1, none⟩) hg1).trans c1
      have d4 : w5.cell? ⟨g, k * 5 + 4, none⟩ = some (.int .i64 ow) := (b25.cell (p := ⟨g, k * 5 + 4, none⟩) hg1).trans c4
      clear c0 c1 c2' c3 c4 fz o5 b5 b25
      obtain ⟨D, hown, hkeep⟩ := M5.out
      have KP := Lib.hid hkeep
      have ON := Lib.hid hown
      clear hown hkeep
      go_wp2_with (at_lookup; refine wpList_lookup_own_int _ rfl _ _ 61 rfl 2 2 .i64 lawI Try.underlying61 Try.underlying2 (zeroI _) bm nm _ rfl ON.out _ _ rfl (keyI (by omega) (by omega)) ?_; intro c hat hwc; obtain rfl := (KP.out.at hat).symm; clear hat hwc)
      have S6 : Hid (Below w0.heap.size w0 ((w5.setCell ⟨g, k * 5 + 1, none⟩ (.slice A5 zs.length c5)).setCell ⟨g, k * 5 + 4, none⟩ (.int .i64 (o k)))) := Lib.hid ((B5.out.setCell (by simpa using hg2) _).setCell (by simpa using hg2) _)
      generalize (w5.setCell ⟨g, k * 5 + 1, none⟩ (.slice A5 zs.length c5)).setCell ⟨g, k * 5 + 4, none⟩ (.int .i64 (o k)) = w6 at *
      go_roundw
      case rel => exact ⟨k + 1, by go_num, by omega, N5, S6⟩
      case measure => simp [intOf]; omega
    · obtain rfl : k = n := by omega
      have d0 : wr.cell? ⟨w.heap.size, 0, none⟩ = some (.int .i64 r) := by rw [cell_of_row _ _ 0 _ _ _ (box_on hbw.out X0.out)]; rfl
      have q0 : wr.cell? ⟨w.heap.size + 1, 0, none⟩ = some (.int .i64 0) := by rw [cell_of_row _ _ 0 _ _ _ (box_on hbw.out X1.out)]; rfl
      have q1 : wr.cell? ⟨w.heap.size + 1, 1, none⟩ = some (.slice none 0 0) := by rw [cell_of_row _ _ 1 _ _ _ (box_on hbw.out X1.out)]; rfl
      have f1 : ∀ i, wr.frozen? ⟨w.heap.size + 1, i, none⟩ = false := fun i => frozen_of_row _ _ i _ _ (box_on hbw.out X1.out)
      go_wp2
      refine bodyPost_ret (v := .agg #[.int .i64 r, .slice (some ⟨g, 0, none⟩) k cap]) (by simp [results, Try.results47, go_sem, q0, q1]) rfl ⟨_, _, rfl, ha.out.done.keep (fun q hq _ => ?_), fun q hq => ?_, ?_⟩
      · have := S0.out
        have := hq.1
        rw [Below.heap_setCell _ _ _ _ (by simp; omega), Below.heap_setCell _ _ _ _ (by simp; omega)]
      · have := S0.out
        refine ⟨by have := hq.1; omega, ?_⟩
        simp only [World.setCell, Array.size_modify]
        exact hq.2
      · exact ((B0.out.trans (hbw.out.mono B0.out.size)).setCell (by simp) _).setCell (by simp) _
end Go.Proofs.Ytbipdfeikmchcaa
