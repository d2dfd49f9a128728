/- The walk of l1DrawAny. -/
import Derived.Test.YtokkpbjldchjpaaD4
namespace Go.Proofs.Ytokkpbjldchjpaa
open Go.RowKit

theorem PL_set_fst (zs : List Pr) (i : Nat) (a : Int) (h : i < zs.length) : (PL zs).set (i * 2) (.int .i64 a) = PL (zs.set i (a, vAt zs i)) := by
  have h1 := PL_set zs i a (vAt zs i)
  rw [← h1]
  have h2 := PL_snd zs i h
  apply List.ext_getElem?
  intro j
  rw [List.getElem?_set (i := i * 2 + 1)]
  split
  · rename_i e
    subst e
    rw [List.getElem?_set_ne (by omega), h2]
    simp [PL_length]
    omega
  · rfl
theorem PL_set_snd (zs : List Pr) (i : Nat) (b : Int) (h : i < zs.length) : (PL zs).set (i * 2 + 1) (.int .i64 b) = PL (zs.set i (kAt zs i, b)) := by
  have h1 := PL_set zs i (kAt zs i) b
  rw [← h1]
  have h2 := PL_fst zs i h
  congr 1
  apply List.ext_getElem?
  intro j
  rw [List.getElem?_set (i := i * 2)]
  split
  · rename_i e
    subst e
    rw [h2]
    simp [PL_length, h]
  · rfl

/-- Of a list of the call's own that is not empty: where it lies. -/
theorem own_at {w : World} {base : Nat} {e : TypeId} {n c : Nat} {A : Option Addr} {xs : List Value} (h : w.ownsRow base e 2 (.slice A n c) n xs) (h0 : 0 < n) : ∃ b, A = some ⟨b, 0, none⟩ ∧ base ≤ b ∧ b < w.heap.size := by
  obtain ⟨b, cap, hv, hb, hlt⟩ := h.form h0
  simp at hv
  exact ⟨b, hv.1, hb, hlt⟩

theorem grown_past {a b c : World} {g : Nat} {row : Option Nat} (h : a.grownBy b (some g)) (k : b.grownBy c row) (hr : ∀ k, row = some k → a.heap.size ≤ k) : a.grownBy c (some g) :=
  ⟨k.os.trans h.os, k.tape.trans h.tape, k.output.trans h.output, Nat.le_trans h.size k.size, fun i hi hne => (k.block i (Nat.lt_of_lt_of_le hi h.size) (fun e => by have := hr i e.symm; omega)).trans (h.block i hi hne)⟩

set_option maxRecDepth 100000 in
set_option maxHeartbeats 1000000 in
theorem drawAny_any (g : Nat) (A : Option Addr) (n c : Nat) (w : World) (hC : Cur w g A n c) :
    Calls Try.prog 49 #[.pointer (some ⟨g, 0, none⟩)] w (DrawnL g A n c 41 w) := by
  have HC := Lib.hid hC
  have hlt := hC.lt
  clear hC
  go_enter Try.func49, Try.ntmps49
  go_wp2_with fail
  refine (draw_any g A n c _ HC.out).mono ?_
  rintro e w1 ⟨A1, c1, zs, rfl, ho, hz, hc, hg⟩
  have HC1 := Lib.hid hc
  have HG1 := Lib.hid hg
  have HO1 := Lib.hid ho
  generalize hl : zs.length = l at *
  have HLL := Lib.hid hl
  clear hc hg ho hl
  go_wp2_with fail
  refine (once_any g A n c 6 _ HC1.out).mono ?_
  rintro e w2 ⟨b, rfl, hc, hg⟩
  have HC2 := Lib.hid hc
  have HG2 := Lib.hid (grown_trans HG1.out hg)
  have HO2 := Lib.hid (own_far HO1.out hg (fun b e => by have := (HO1.out.lt b e).1; simp; omega))
  clear hc hg HC1 HG1 HO1
  by_cases hgo : b = true ∧ 0 < l
  · obtain ⟨rfl, hl0⟩ := hgo
    obtain ⟨bb, rfl, hbb, hbl⟩ := own_at HO2.out hl0
    go_wp2_with fail
    refine (below_any g A n c l _ HC2.out).mono ?_
    rintro e w3 ⟨r, rfl, ⟨_, hr⟩, hc, hg⟩
    obtain ⟨hr1, hr2⟩ := hr (by omega)
    obtain ⟨i, rfl⟩ := Int.eq_ofNat_of_zero_le hr1
    have hil : i < l := by omega
    have HC3 := Lib.hid hc
    have HG3 := Lib.hid (grown_trans HG2.out hg)
    have HO3 := Lib.hid (own_far HO2.out hg (fun b e => by have := (HO2.out.lt b e).1; simp; omega))
    clear hc hg HC2 HG2 HO2 hr hr1 hr2 hbl
    go_wp2_with fail
    refine (below_any g A n c 4 _ HC3.out).mono ?_
    rintro e w4 ⟨r, rfl, ⟨_, hr⟩, hc, hg⟩
    obtain ⟨hr1, hr2⟩ := hr (by omega)
    have HC4 := Lib.hid hc
    have HG4 := Lib.hid (grown_trans HG3.out hg)
    have HO4 := Lib.hid (own_far HO3.out hg (fun b e => by have := (HO3.out.lt b e).1; simp; omega))
    clear hc hg HC3 HG3 HO3 hr
    have hcase : r = 0 ∨ r = 1 ∨ r = 2 ∨ r = 3 := by omega
    clear hr1 hr2
    rcases hcase with rfl | rfl | rfl | rfl
    · go_wp2_with fail
      refine (num_any g A n c 99 _ HC4.out (by omega) (by omega)).mono ?_
      rintro e w5 ⟨x, rfl, _, hc, hg⟩
      have HC5 := Lib.hid hc
      have HG5 := Lib.hid (grown_trans HG4.out hg)
      have ho := own_far HO4.out hg (fun b e => by have := (HO4.out.lt b e).1; simp; omega)
      have f1 : w5.frozen? ⟨bb, i * 2, none⟩ = false := ho.frozenAt _
      have d1 : w5.cell? ⟨bb, i * 2, none⟩ = some (.int .i64 (kAt zs i)) := (ho.cellAt (i * 2) (by omega)).trans (PL_fst _ _ (by have := HLL.out; omega))
      have HO5 := Lib.hid ho
      clear hc hg HC4 HG4 HO4 ho
      go_wp2
      go_ret
      have hs := HO5.out.stored (i * 2) (.int .i64 x)
      rw [PL_set_fst _ _ _ (by have := HLL.out; omega)] at hs
      have hll : (zs.set i (x, vAt zs i)).length = l := by have := HLL.out; simp; omega
      exact ⟨some ⟨bb, 0, none⟩, c1, zs.set i (x, vAt zs i), by rw [hll]; rfl, by rw [hll]; exact hs.1, by omega, HC5.out.grown hs.2 (fun k e => by simp at e; omega), grown_past HG5.out hs.2 (fun k e => by simp at e; omega)⟩
    · go_wp2_with fail
      refine (num_any g A n c 999 _ HC4.out (by omega) (by omega)).mono ?_
      rintro e w5 ⟨x, rfl, _, hc, hg⟩
      have HC5 := Lib.hid hc
      have HG5 := Lib.hid (grown_trans HG4.out hg)
      have ho := own_far HO4.out hg (fun b e => by have := (HO4.out.lt b e).1; simp; omega)
      have f1 : w5.frozen? ⟨bb, i * 2 + 1, none⟩ = false := ho.frozenAt _
      have d1 : w5.cell? ⟨bb, i * 2 + 1, none⟩ = some (.int .i64 (vAt zs i)) := (ho.cellAt (i * 2 + 1) (by omega)).trans (PL_snd _ _ (by have := HLL.out; omega))
      have HO5 := Lib.hid ho
      clear hc hg HC4 HG4 HO4 ho
      go_wp2
      go_ret
      have hs := HO5.out.stored (i * 2 + 1) (.int .i64 x)
      rw [PL_set_snd _ _ _ (by have := HLL.out; omega)] at hs
      have hll : (zs.set i (kAt zs i, x)).length = l := by have := HLL.out; simp; omega
      exact ⟨some ⟨bb, 0, none⟩, c1, zs.set i (kAt zs i, x), by rw [hll]; rfl, by rw [hll]; exact hs.1, by omega, HC5.out.grown hs.2 (fun k e => by simp at e; omega), grown_past HG5.out hs.2 (fun k e => by simp at e; omega)⟩
    · have d1 : w4.cell? ⟨bb, i * 2, none⟩ = some (.int .i64 (kAt zs i)) := (HO4.out.cellAt (i * 2) (by omega)).trans (PL_fst _ _ (by have := HLL.out; omega))
      have d2 : w4.cell? ⟨bb, i * 2 + 1, none⟩ = some (.int .i64 (vAt zs i)) := (HO4.out.cellAt (i * 2 + 1) (by omega)).trans (PL_snd _ _ (by have := HLL.out; omega))
      have hs4 : w.heap.size ≤ w4.heap.size := HG4.out.size
      go_wp2_with (at_builtin; refine wpList_app rfl (.tmp 39) (.tmp 44) rfl w.heap.size _ _ _ rfl (HO4.out.alloc _) _ (some ⟨w4.heap.size, 0, none⟩) 1 1 [(kAt zs i, vAt zs i)] rfl (one_row w4 _ _ _) (by omega) (by simp; omega) ?_)
      intro v5 w5 o5 g5
      obtain ⟨A5, c5, rfl, _⟩ := RP.of_own o5
      have hg6 : w4.grownBy w5 (some bb) := grown_trans (World.grownBy_alloc w4 _ (some bb)) g5
      have HC5 := Lib.hid (HC4.out.grown hg6 (fun k e => by simp at e; omega))
      have HG5 := Lib.hid (grown_past HG4.out hg6 (fun k e => by simp at e; omega))
      have HO5 := Lib.hid o5
      have hll : (zs ++ [(kAt zs i, vAt zs i)]).length = l + 1 := by have := HLL.out; simp; omega
      have HLE := Lib.hid hll
      clear o5 g5 hg6 HC4 HG4 HO4 hll
      generalize zs ++ [(kAt zs i, vAt zs i)] = z2 at *
      go_wp2
      go_ret
      exact ⟨A5, c5, z2, by rw [HLE.out]; rfl, by rw [HLE.out]; exact HO5.out, by have := HLE.out; omega, HC5.out, HG5.out⟩
    · have hs4 : w.heap.size ≤ w4.heap.size := HG4.out.size
      have O5 := Lib.hid (own_base (empty_row w4) hs4)
      have C5 := Lib.hid (HC4.out.below ((Below.refl w4.heap.size w4).alloc (Nat.le_refl _) (.cells #[] 28)))
      have G5 := Lib.hid (grown_trans HG4.out (World.grownBy_alloc w4 (.cells #[] 28) (some g)))
      clear HC4 HG4 HO4 HLL
      go_wp2_with fail
      go_loopw [3, 5] (fun v i wr => ∃ (A' : Option Addr) (c' k : Nat) (z2 : List Pr), i = .int .i64 k ∧ k ≤ 41 ∧ v = .slice A' k c' ∧ Hid (z2.length = k) ∧ Hid (wr.ownsRow w.heap.size 28 2 (.slice A' k c') k (PL z2)) ∧ Hid (Cur wr g A n c) ∧ Hid (w.grownBy wr (some g))) (fun _ i _ => 42 - (intOf i).toNat)
      case atStart => exact ⟨_, _, 0, [], rfl, by omega, rfl, Lib.hid rfl, O5, C5, G5⟩
      case round =>
        obtain ⟨A', c', k, z2, rfl, hk, rfl, hz2, ho, hcu, hgr⟩ := hrel
        clear O5 C5 G5
        go_wp2_with fail
        refine (below_any g A n c 2 _ hcu.out).mono ?_
        rintro e w5 ⟨q, rfl, ⟨_, hq⟩, hc5, hg5⟩
        obtain ⟨q0, q1⟩ := hq (by omega)
        have C6 := Lib.hid hc5
        have G6 := Lib.hid (grown_trans hgr.out hg5)
        have O6 := Lib.hid (own_far ho.out hg5 (fun b e => by have := (ho.out.lt b e).1; simp; omega))
        have hs5 : w.heap.size ≤ w5.heap.size := G6.out.size
        clear hc5 hg5 hcu hgr ho hq
        by_cases hlt2 : (k : Int) < 40 + q
        · have hk40 : k ≤ 40 := by omega
          go_wp2_with (at_builtin; refine wpList_app rfl (.tmp 56) (.tmp 60) rfl w.heap.size _ _ _ rfl (O6.out.alloc _) _ (some ⟨w5.heap.size, 0, none⟩) 1 1 [(2 * (k : Int), 0)] rfl (one_row w5 _ _ _) (by omega) (by simp; omega) ?_)
          intro v7 w7 o7 g7
          obtain ⟨A7, c7, rfl, _⟩ := RP.of_own o7
          have hrow : ∀ b, (Value.slice A' k c').ownBlock = some b → w.heap.size ≤ b := fun b e => (O6.out.lt b e).1
          have hg8 := grown_trans (World.grownBy_alloc w5 (.cells #[.int .i64 (2 * (k : Int)), .int .i64 0] 28) (Value.slice A' k c').ownBlock) g7
          have C8 := Lib.hid (C6.out.grown hg8 (fun b e => by have := hrow b e; omega))
          have G8 := Lib.hid (grown_past G6.out hg8 hrow)
          have O8 := Lib.hid o7
          have L8 : Hid ((z2 ++ [(2 * (k : Int), 0)]).length = k + 1) := Lib.hid (by have := hz2.out; simp; omega)
          clear o7 g7 hg8 hrow C6 G6 O6
          go_wp2
          go_roundw
          case rel => exact ⟨A7, c7, k + 1, _, by go_num, by omega, rfl, L8, O8, C8, G8⟩
          case measure => simp [intOf]; omega
        · go_wp2
          go_ret
          exact ⟨A', c', z2, by rw [hz2.out]; rfl, by rw [hz2.out]; exact O6.out, by have := hz2.out; omega, C6.out, G6.out⟩
  · rcases Bool.eq_false_or_eq_true b with hb | hb
    · subst hb
      have hl0 : l = 0 := by
        rcases Nat.eq_zero_or_pos l with h | h
        · exact h
        · exact absurd ⟨rfl, h⟩ hgo
      have HL0 := Lib.hid hl0
      have g1 : decide (0 < l) = false := by simp [hl0]
      clear hl0 hgo
      go_wp2
      go_ret
      exact ⟨A1, c1, zs, by rw [HLL.out]; rfl, by rw [HLL.out]; exact HO2.out, by have := HLL.out; omega, HC2.out, HG2.out⟩
    · subst hb
      clear hgo
      go_wp2
      go_ret
      exact ⟨A1, c1, zs, by rw [HLL.out]; rfl, by rw [HLL.out]; exact HO2.out, by have := HLL.out; omega, HC2.out, HG2.out⟩
end Go.Proofs.Ytokkpbjldchjpaa
