/- The walk of l1DrawAny. -/
import Derived.Test.YtjdbehijghjfbaaGreatQ25
import Derived.Test.YtjdbehijghjfbaaGreatQ04
import Derived.Deep.RegionWith
namespace Go.Proofs.YtjdbehijghjfbaaGreat
open Go.RowKit

theorem PL_set_fst (zs : List Pr) (i : Nat) (a : Int) (h : i < zs.length) : (PL zs).set (i * 2) (.int .i64 a) = PL (zs.set i (a, vAt zs i)) := by
  have h1 := PL_set zs i a (vAt zs i)
  rw [← h1]
  have h2 := PL_snd zs i h
  apply List.ext_getElem?
  intro j
  rw [List.getElem?_set (i := i * 2 + 1)]
  split
  · rename_i e
    subst e
    rw [List.getElem?_set_ne (by omega), h2]
    simp [PL_length]
    omega
  · rfl
theorem PL_set_snd (zs : List Pr) (i : Nat) (b : Int) (h : i < zs.length) : (PL zs).set (i * 2 + 1) (.int .i64 b) = PL (zs.set i (kAt zs i, b)) := by
  have h1 := PL_set zs i (kAt zs i) b
  rw [← h1]
  have h2 := PL_fst zs i h
  congr 1
  apply List.ext_getElem?
  intro j
  rw [List.getElem?_set (i := i * 2)]
  split
  · rename_i e
    subst e
    rw [h2]
    simp [PL_length, h]
  · rfl

theorem own_at {w : World} {base : Nat} {e : TypeId} {n c : Nat} {A : Option Addr} {xs : List Value} (h : w.ownsRow base e 2 (.slice A n c) n xs) (h0 : 0 < n) : ∃ b, A = some ⟨b, 0, none⟩ ∧ base ≤ b ∧ b < w.heap.size := by
  obtain ⟨b, cap, hv, hb, hlt⟩ := h.form h0
  simp at hv
  exact ⟨b, hv.1, hb, hlt⟩

theorem grown_past {a b c : World} {g : Nat} {row : Option Nat} (h : a.grownBy b (some g)) (k : b.grownBy c row) (hr : ∀ k, row = some k → a.heap.size ≤ k) : a.grownBy c (some g) :=
  ⟨k.os.trans h.os, k.tape.trans h.tape, k.output.trans h.output, Nat.le_trans h.size k.size, fun i hi hne => (k.block i (Nat.lt_of_lt_of_le hi h.size) (fun e => by have := hr i e.symm; omega)).trans (h.block i hi hne)⟩

set_option maxRecDepth 100000 in
set_option maxHeartbeats 1000000 in
theorem drawAny_any (g : Nat) (A : Option Addr) (n c : Nat) (w : World) (hC : Cur w g A n c) :
    Calls Tryz.prog 71 #[.pointer (some ⟨g, 0, none⟩)] w (DrawnL g A n c 41 w) := by
  have HC := Lib.hid hC
  have hlt := hC.lt
  clear hC
  go_enter Tryz.func71, Tryz.ntmps71
  go_wp2_with fail
  refine (draw_any g A n c _ HC.out).mono ?_
  rintro e w1 ⟨A1, c1, zs, rfl, ho, hz, hc, hg⟩
  have HC1 := Lib.hid hc
  have HG1 := Lib.hid hg
  have HO1 := Lib.hid ho
  generalize hl : zs.length = l at *
  have HLL := Lib.hid hl
  clear hc hg ho hl
  go_wp2_with fail
  refine (once_any g A n c 6 _ HC1.out).mono ?_
  rintro e w2 ⟨b, rfl, hc, hg⟩
  have HC2 := Lib.hid hc
  have HG2 := Lib.hid (grown_trans HG1.out hg)
  have HO2 := Lib.hid (own_far HO1.out hg (fun b e => by have := (HO1.out.lt b e).1; simp; omega))
  clear hc hg HC1 HG1 HO1
  by_cases hgo : b = true ∧ 0 < l
  · obtain ⟨rfl, hl0⟩ := hgo
    obtain ⟨bb, rfl, hbb, hbl⟩ := own_at HO2.out hl0
    go_wp2_with fail
    refine (below_any g A n c l _ HC2.out).mono ?_
    rintro e w3 ⟨r, rfl, ⟨_, hr⟩, hc, hg⟩
    obtain ⟨hr1, hr2⟩ := hr (by omega)
    obtain ⟨i, rfl⟩ := Int.eq_ofNat_of_zero_le hr1
    have hil : i < l := by omega
    have HC3 := Lib.hid hc
    have HG3 := Lib.hid (grown_trans HG2.out hg)
    have HO3 := Lib.hid (own_far HO2.out hg (fun b e => by have := (HO2.out.lt b e).1; simp; omega))
    clear hc hg HC2 HG2 HO2 hr hr1 hr2 hbl
    go_wp2_with fail
    refine (below_any g A n c 4 _ HC3.out).mono ?_
    rintro e w4 ⟨r, rfl, ⟨_, hr⟩, hc, hg⟩
    obtain ⟨hr1, hr2⟩ := hr (by omega)
    have HC4 := Lib.hid hc
    have HG4 := Lib.hid (grown_trans HG3.out hg)
    have HO4 := Lib.hid (own_far HO3.out hg (fun b e => by have := (HO3.out.lt b e).1; simp; omega))
    clear hc hg HC3 HG3 HO3 hr
    have hcase : r = 0 ∨ r = 1 ∨ r = 2 ∨ r = 3 := by omega
    clear hr1 hr2
    rcases hcase with rfl | rfl | rfl | rfl
    · go_wp2_with fail
      refine (num_any g A n c 99 _ HC4.out (by omega) (by omega)).mono ?_
      rintro e w5 ⟨x, rfl, _, hc, hg⟩
      have HC5 := Lib.hid hc
      have HG5 := Lib.hid (grown_trans HG4.out hg)
      have ho := own_far HO4.out hg (fun b e => by have := (HO4.out.lt b e).1; simp; omega)
      have f1 : w5.frozen? ⟨bb, i * 2, none⟩ = false := ho.frozenAt _
      have d1 : w5.cell? ⟨bb, i * 2, none⟩ = some (.int .i64 (kAt zs i)) := (ho.cellAt (i * 2) (by omega)).trans (PL_fst _ _ (by have := HLL.out; omega))
      have HO5 := Lib.hid ho
      clear hc hg HC4 HG4 HO4 ho
      go_wp2
      go_ret
      have hs := HO5.out.stored (i * 2) (.int .i64 x)
      rw [PL_set_fst _ _ _ (by have := HLL.out; omega)] at hs
      have hll : (zs.set i (x, vAt zs i)).length = l := by have := HLL.out; simp; omega
      exact ⟨some ⟨bb, 0, none⟩, c1, zs.set i (x, vAt zs i), by rw [hll]; rfl, by rw [hll]; exact hs.1, by omega, HC5.out.grown hs.2 (fun k e => by simp at e; omega), grown_past HG5.out hs.2 (fun k e => by simp at e; omega)⟩
    · go_wp2_with fail
      refine (num_any g A n c 999 _ HC4.out (by omega) (by omega)).mono ?_
      rintro e w5 ⟨x, rfl, _, hc, hg⟩
      have HC5 := Lib.hid hc
      have HG5 := Lib.hid (grown_trans HG4.out hg)
      have ho := own_far HO4.out hg (fun b e => by have := (HO4.out.lt b e).1; simp; omega)
      have f1 : w5.frozen? ⟨bb, i * 2 + 1, none⟩ = false := ho.frozenAt _
      have d1 : w5.cell? ⟨bb, i * 2 + 1, none⟩ = some (.int .i64 (vAt zs i)) := (ho.cellAt (i * 2 + 1) (by omega)).trans (PL_snd _ _ (by have := HLL.out; omega))
      have HO5 := Lib.hid ho
      clear hc hg HC4 HG4 HO4 ho
      go_wp2
      go_ret
      have hs := HO5.out.stored (i * 2 + 1) (.int .i64 x)
      rw [PL_set_snd _ _ _ (by have := HLL.out; omega)] at hs
      have hll : (zs.set i (kAt zs i, x)).length = l := by have := HLL.out; simp; omega
      exact ⟨some ⟨bb, 0, none⟩, c1, zs.set i (kAt zs i, x), by rw [hll]; rfl, by rw [hll]; exact hs.1, by omega, HC5.out.grown hs.2 (fun k e => by simp at e; omega), grown_past HG5.out hs.2 (fun k e => by simp at e; omega)⟩
    · have d1 : w4.cell? ⟨bb, i * 2, none⟩ = some (.int .i64 (kAt zs i)) := (HO4.out.cellAt (i * 2) (by omega)).trans (PL_fst _ _ (by have := HLL.out; omega))
      have d2 : w4.cell? ⟨bb, i * 2 + 1, none⟩ = some (.int .i64 (vAt zs i)) := (HO4.out.cellAt (i * 2 + 1) (by omega)).trans (PL_snd _ _ (by have := HLL.out; omega))
      have hs4 : w.heap.size ≤ w4.heap.size := HG4.out.size
      go_wp2_with (at_builtin; refine wpList_app rfl (.tmp 39) (.tmp 44) rfl w.heap.size _ _ _ rfl (HO4.out.alloc _) _ (some ⟨w4.heap.size, 0, none⟩) 1 1 [(kAt zs i, vAt zs i)] rfl (one_row w4 _ _ _) (by omega) (by simp; omega) ?_)
      intro v5 w5 o5 g5
      obtain ⟨A5, c5, rfl, _⟩ := RP.of_own o5
      have hg6 : w4.grownBy w5 (some bb) := grown_trans (World.grownBy_alloc w4 _ (some bb)) g5
      have HC5 := Lib.hid (HC4.out.grown hg6 (fun k e => by simp at e; omega))
      have HG5 := Lib.hid (grown_past HG4.out hg6 (fun k e => by simp at e; omega))
      have HO5 := Lib.hid o5
      have hll : (zs ++ [(kAt zs i, vAt zs i)]).length = l + 1 := by have := HLL.out; simp; omega
      have HLE := Lib.hid hll
      clear o5 g5 hg6 HC4 HG4 HO4 hll
      generalize zs ++ [(kAt zs i, vAt zs i)] = z2 at *
      go_wp2
      go_ret
      exact ⟨A5, c5, z2, by rw [HLE.out]; rfl, by rw [HLE.out]; exact HO5.out, by have := HLE.out; omega, HC5.out, HG5.out⟩
    · have hs4 : w.heap.size ≤ w4.heap.size := HG4.out.size
      have O5 := Lib.hid (own_base (empty_row w4) hs4)
      have C5 := Lib.hid (HC4.out.below ((Below.refl w4.heap.size w4).alloc (Nat.le_refl _) (.cells #[] 55)))
      have G5 := Lib.hid (grown_trans HG4.out (World.grownBy_alloc w4 (.cells #[] 55) (some g)))
      clear HC4 HG4 HO4 HLL
      go_wp2_with fail
      go_loopw [3, 5] (fun v i wr => ∃ (A' : Option Addr) (c' k : Nat) (z2 : List Pr), i = .int .i64 k ∧ k ≤ 41 ∧ v = .slice A' k c' ∧ Hid (z2.length = k) ∧ Hid (wr.ownsRow w.heap.size 55 2 (.slice A' k c') k (PL z2)) ∧ Hid (Cur wr g A n c) ∧ Hid (w.grownBy wr (some g))) (fun _ i _ => 42 - (intOf i).toNat)
      case atStart => exact ⟨_, _, 0, [], rfl, by omega, rfl, Lib.hid rfl, O5, C5, G5⟩
      case round =>
        obtain ⟨A', c', k, z2, rfl, hk, rfl, hz2, ho, hcu, hgr⟩ := hrel
        clear O5 C5 G5
        go_wp2_with fail
        refine (below_any g A n c 2 _ hcu.out).mono ?_
        rintro e w5 ⟨q, rfl, ⟨_, hq⟩, hc5, hg5⟩
        obtain ⟨q0, q1⟩ := hq (by omega)
        have C6 := Lib.hid hc5
        have G6 := Lib.hid (grown_trans hgr.out hg5)
        have O6 := Lib.hid (own_far ho.out hg5 (fun b e => by have := (ho.out.lt b e).1; simp; omega))
        have hs5 : w.heap.size ≤ w5.heap.size := G6.out.size
        clear hc5 hg5 hcu hgr ho hq
        by_cases hlt2 : (k : Int) < 40 + q
        · have hk40 : k ≤ 40 := by omega
          go_wp2_with (at_builtin; refine wpList_app rfl (.tmp 56) (.tmp 60) rfl w.heap.size _ _ _ rfl (O6.out.alloc _) _ (some ⟨w5.heap.size, 0, none⟩) 1 1 [(2 * (k : Int), 0)] rfl (one_row w5 _ _ _) (by omega) (by simp; omega) ?_)
          intro v7 w7 o7 g7
          obtain ⟨A7, c7, rfl, _⟩ := RP.of_own o7
          have hrow : ∀ b, (Value.slice A' k c').ownBlock = some b → w.heap.size ≤ b := fun b e => (O6.out.lt b e).1
          have hg8 := grown_trans (World.grownBy_alloc w5 (.cells #[.int .i64 (2 * (k : Int)), .int .i64 0] 55) (Value.slice A' k c').ownBlock) g7
          have C8 := Lib.hid (C6.out.grown hg8 (fun b e => by have := hrow b e; omega))
          have G8 := Lib.hid (grown_past G6.out hg8 hrow)
          have O8 := Lib.hid o7
          have L8 : Hid ((z2 ++ [(2 * (k : Int), 0)]).length = k + 1) := Lib.hid (by have := hz2.out; simp; omega)
          clear o7 g7 hg8 hrow C6 G6 O6
          go_wp2
          go_roundw
          case rel => exact ⟨A7, c7, k + 1, _, by go_num, by omega, rfl, L8, O8, C8, G8⟩
          case measure => simp [intOf]; omega
        · go_wp2
          go_ret
          exact ⟨A', c', z2, by rw [hz2.out]; rfl, by rw [hz2.out]; exact O6.out, by have := hz2.out; omega, C6.out, G6.out⟩
  · rcases Bool.eq_false_or_eq_true b with hb | hb
    · subst hb
      have hl0 : l = 0 := by
        rcases Nat.eq_zero_or_pos l with h | h
        · exact h
        · exact absurd ⟨rfl, h⟩ hgo
      have HL0 := Lib.hid hl0
      have g1 : decide (0 < l) = false := by simp [hl0]
      clear hl0 hgo
      go_wp2
      go_ret
      exact ⟨A1, c1, zs, by rw [HLL.out]; rfl, by rw [HLL.out]; exact HO2.out, by have := HLL.out; omega, HC2.out, HG2.out⟩
    · subst hb
      clear hgo
      go_wp2
      go_ret
      exact ⟨A1, c1, zs, by rw [HLL.out]; rfl, by rw [HLL.out]; exact HO2.out, by have := HLL.out; omega, HC2.out, HG2.out⟩
end Go.Proofs.YtjdbehijghjfbaaGreat
namespace Go.Proofs.YtjdbehijghjfbaaGreat
open Go.RowKit

theorem big_any (A : Option Addr) (n c : Nat) (w : World) (hn : n ≤ 9223372036854775807) :
    Calls Tryz.prog 5 #[.slice A n c] w fun e w' => e = .returned (.bool (decide (4096 < n))) ∧ w = w' := by
  by_cases h : 4096 < n
  · rw [decide_eq_true h]
    go_enter Tryz.func5, Tryz.ntmps5
    go_wp2
    go_ret
    exact ⟨ret_bool (by simp; omega), rfl⟩
  · rw [decide_eq_false h]
    go_enter Tryz.func5, Tryz.ntmps5
    go_wp2
    go_ret
    exact ⟨ret_bool (by simp; omega), rfl⟩

theorem like_yes (A B : Option Addr) (n c d : Nat) (zs : List Pr) (w : World) (h : RP w w.heap.size A n zs) (h' : RP w w.heap.size B n zs) (hn : n ≤ 1048576) :
    Calls Tryz.prog 57 #[.slice A n c, .slice B n d] w fun e w' => e = .returned (.bool true) ∧ Below w.heap.size w w' := by
  have HH := Lib.hid h
  have HH' := Lib.hid h'
  clear h h'
  go_enter Tryz.func57, Tryz.ntmps57
  go_wp2
  go_loopw [5] (fun i wr => ∃ k : Nat, i = .int .i64 k ∧ k ≤ n ∧ Hid (Below w.heap.size w wr)) (fun i _ => n - (intOf i).toNat)
  case atStart => exact ⟨0, rfl, by omega, Lib.hid (Below.refl _ _)⟩
  case round =>
    obtain ⟨k, rfl, hk, hbw⟩ := hrel
    by_cases hlt : k < n
    · obtain ⟨b, off, rfl, hb, hc⟩ := HH.out.2 (by omega)
      obtain ⟨b', off', rfl, hb', hc'⟩ := HH'.out.2 (by omega)
      have c1 := Later.of_cell (hc k hlt).1 hbw.out hb
      have c2 := Later.of_cell (hc k hlt).2 hbw.out hb
      have c3 := Later.of_cell (hc' k hlt).1 hbw.out hb'
      have c4 := Later.of_cell (hc' k hlt).2 hbw.out hb'
      clear hc hc'
      go_wp2
      refine wp_region_later (by kernel_rfl) (by kernel_rfl) ?_
      repeat (go_big_quiet_step (fail))
      refine wpQuiet_nil ?_
      intro _ hw'
      obtain ⟨s, rfl⟩ := hw'
      go_wp2
      go_roundw
      case rel => exact ⟨k + 1, by go_num, by omega, Lib.hid (s.below_of hbw.out)⟩
      case measure => simp [intOf]; omega
    · go_wp2
      go_ret
      exact ⟨rfl, hbw.out⟩
end Go.Proofs.YtjdbehijghjfbaaGreat
namespace Go.Proofs.YtjdbehijghjfbaaGreat
open Go.RowKit

theorem row_lt {w : World} {b : Nat} {o : Obj} (h : w.heap[b]? = some o) : b < w.heap.size := by
  rcases Nat.lt_or_ge b w.heap.size with hlt | hge
  · exact hlt
  · rw [Array.getElem?_eq_none hge] at h; cases h
theorem row_far {w w' : World} {b : Nat} {o : Obj} {row : Option Nat} (h : w.heap[b]? = some o) (hg : w.grownBy w' row) (hr : ∀ k, row = some k → k ≠ b) : w'.heap[b]? = some o :=
  (hg.block b (row_lt h) (fun e => hr b e.symm rfl)).trans h
theorem row_below {w w' : World} {b : Nat} {o : Obj} (h : w.heap[b]? = some o) (hb : Below w.heap.size w w') : w'.heap[b]? = some o := (hb.block b (row_lt h)).trans h
theorem row_set {w : World} {b i : Nat} {cs : Array Value} {t : TypeId} (h : w.heap[b]? = some (.cells cs t (0, 0))) (u : Value) : (w.setCell ⟨b, i, none⟩ u).heap[b]? = some (.cells (cs.setIfInBounds i u) t (0, 0)) := heap_setCell_same w b i cs t u h
theorem grown_set (w : World) (b i : Nat) (u : Value) : w.grownBy (w.setCell ⟨b, i, none⟩ u) (some b) := ⟨rfl, rfl, rfl, by simp, fun k _ hk => heap_setCell_other w ⟨b, i, none⟩ k u (fun e => hk (by simp [e]))⟩
theorem grown_undrew {w w' : World} {row : Option Nat} (h : w.drew.grownBy w' row) : w.grownBy w' row := ⟨h.os, h.tape, h.output, h.size, h.block⟩
theorem insL_le (zs : List Pr) (k v : Int) : (insL zs k v).length ≤ zs.length + 1 := by
  rw [insL_length]; split <;> omega

def DrawnN (g : Nat) (A : Option Addr) (n c m : Nat) (w : World) (e : Ending) (w' : World) : Prop :=
  ∃ (x : Nd) (A' : Option Addr) (c' : Nat), e = .returned (ndV x A' x.ps.length c') ∧ w'.ownsRow w.heap.size 55 2 (.slice A' x.ps.length c') x.ps.length (PL x.ps) ∧ x.ps.length ≤ m ∧ Cur w' g A n c ∧ w.grownBy w' (some g)

set_option maxHeartbeats 1000000 in
theorem nDraw_any (g : Nat) (A : Option Addr) (n c : Nat) (w : World) (hC : Cur w g A n c) :
    Calls Tryz.prog 69 #[.pointer (some ⟨g, 0, none⟩)] w (DrawnN g A n c 4 w) := by
  have HC := Lib.hid hC
  have hlt := hC.lt
  clear hC
  go_enter Tryz.func69, Tryz.ntmps69
  go_wp2_with fail
  obtain ⟨w0, hw0⟩ : ∃ w0, w0 = w.alloc (.cells #[.int .i64 0, .slice none 0 0, .int .i64 0, .int .i64 0, .int .i64 0] 38) := ⟨_, rfl⟩
  rw [← hw0]
  have b0 : Below w.heap.size w w0 := by rw [hw0]; exact (Below.refl _ _).alloc (Nat.le_refl _) _
  have r0 : w0.heap[w.heap.size]? = some (.cells #[.int .i64 0, .slice none 0 0, .int .i64 0, .int .i64 0, .int .i64 0] 38 (0, 0)) := by rw [hw0]; exact heap_alloc_new w _
  have C0 := Lib.hid (HC.out.below b0)
  have G0 : Hid (w.grownBy w0 (some g)) := Lib.hid (grown_below b0)
  have R0 := Lib.hid r0
  clear hw0 b0 r0 HC
  refine (below_any g A n c 3 _ C0.out).mono ?_
  rintro e w1 ⟨lv, rfl, _, hc, hg⟩
  have C1 := Lib.hid hc
  have G1 := Lib.hid (grown_trans G0.out hg)
  have R1 := Lib.hid (row_far R0.out hg (fun k e => by simp at e; omega))
  clear hc hg C0 G0 R0
  go_wp2_with fail
  refine (below_any g A n c 3 _ C1.out).mono ?_
  rintro e w2 ⟨ow, rfl, _, hc, hg⟩
  have C2 := Lib.hid hc
  have G2 := Lib.hid (grown_trans G1.out hg)
  have R2 := Lib.hid (row_far R1.out hg (fun k e => by simp at e; omega))
  clear hc hg C1 G1 R1
  go_wp2_with fail
  obtain ⟨w3, hw3⟩ : ∃ w3, w3 = w2.alloc (.cells #[.int .i64 lv, .slice none 0 0, .int .i64 (-1), .int .i64 (-1), .int .i64 ow] 38) := ⟨_, rfl⟩
  rw [← hw3]
  have b3 : Below w2.heap.size w2 w3 := by rw [hw3]; exact (Below.refl _ _).alloc (Nat.le_refl _) _
  have r3 : w3.heap[w2.heap.size]? = some (.cells #[.int .i64 lv, .slice none 0 0, .int .i64 (-1), .int .i64 (-1), .int .i64 ow] 38 (0, 0)) := by rw [hw3]; exact heap_alloc_new w2 _
  have sN : w.heap.size < w2.heap.size := row_lt R2.out
  have C3 := Lib.hid (C2.out.below b3)
  have G3 := Lib.hid (grown_trans G2.out (grown_below b3))
  have R3 := Lib.hid (row_below R2.out b3)
  have N3 := Lib.hid r3
  clear hw3 b3 r3 C2 G2 R2
  generalize hnb : w2.heap.size = nb at *
  clear hnb
  refine (below_any g A n c 5 _ C3.out).mono ?_
  rintro e w4 ⟨q, rfl, ⟨_, hq⟩, hc, hg⟩
  obtain ⟨q0, q1⟩ := hq (by omega)
  have C4 := Lib.hid hc
  have G4 := Lib.hid (grown_trans G3.out hg)
  have R4 := Lib.hid (row_far R3.out hg (fun k e => by simp at e; omega))
  have N4 := Lib.hid (row_far N3.out hg (fun k e => by simp at e; omega))
  clear hc hg C3 G3 R3 N3 hq
  go_wp2_with fail
  go_loopw [4] (fun i wr => ∃ (k : Int) (A' : Option Addr) (c' : Nat) (zs : List Pr), i = .int .i64 k ∧ k ≤ 4 ∧ (zs.length : Int) ≤ 4 - k ∧ 0 ≤ k ∧ Hid (wr.ownsRow (nb + 1) 55 2 (.slice A' zs.length c') zs.length (PL zs)) ∧ Hid (wr.heap[nb]? = some (.cells #[.int .i64 lv, .slice A' zs.length c', .int .i64 (-1), .int .i64 (-1), .int .i64 ow] 38 (0, 0))) ∧ Hid (Cur wr g A n c) ∧ Hid (w.grownBy wr (some g)) ∧ Hid (wr.heap[w.heap.size]? = some (.cells #[.int .i64 0, .slice none 0 0, .int .i64 0, .int .i64 0, .int .i64 0] 38 (0, 0)))) (fun i _ => (intOf i).toNat)
  case atStart => exact ⟨q, none, 0, [], rfl, by omega, by simp; omega, q0, Lib.hid (World.ownsRow_nil _ _ _ _), N4, C4, G4, R4⟩
  case round =>
    obtain ⟨k, A', c', zs, rfl, hk, hz, hk0, ho, hN, hC, hG, hR⟩ := hrel
    clear N4 C4 G4 R4
    have n1 : wr.cell? ⟨nb, 1, none⟩ = some (.slice A' zs.length c') := by rw [cell_of_row wr nb 1 _ _ _ hN.out]; rfl
    have capz := own_cap ho.out
    obtain ⟨cap1, cap2⟩ := capz
    have hz4 : zs.length ≤ 4 := by omega
    generalize hl : zs.length = l at *
    have HLL := Lib.hid hl
    clear hl
    by_cases hk1 : 0 < k
    · have hgn : g < nb := by have := hlt; omega
      have hne : ∀ k, some g = some k → k ≠ nb := fun k e => by simp at e; omega
      have hneR : ∀ k, some g = some k → k ≠ w.heap.size := fun k e => by simp at e; omega
      have KN : Hid (∀ wx : World, wx.heap[nb]? = some (.cells #[.int .i64 lv, .slice A' l c', .int .i64 (-1), .int .i64 (-1), .int .i64 ow] 38 (0, 0)) → wx.cell? ⟨nb, 1, none⟩ = some (.slice A' l c')) := Lib.hid (fun wx h => by rw [cell_of_row wx nb 1 _ _ _ h]; rfl)
      have HNE := Lib.hid hne
      have HNR := Lib.hid hneR
      have hfar : ∀ b, (Value.slice A' l c').ownBlock = some b → some g ≠ some b := fun b e => by have := (ho.out.lt b e).1; simp; omega
      have HF := Lib.hid hfar
      have hod : wr.drew.ownsRow (nb + 1) 55 2 (.slice A' l c') l (PL zs) := ho.out
      have HOD := Lib.hid hod
      have hnd : wr.drew.heap[nb]? = some (.cells #[.int .i64 lv, .slice A' l c', .int .i64 (-1), .int .i64 (-1), .int .i64 ow] 38 (0, 0)) := hN.out
      have HND := Lib.hid hnd
      have hl2 : l ≤ 1048576 := by omega
      clear hne hneR hfar hod hnd
      go_wp2_with fail
      go_region_with (first
        | (go_at_call_of 46 (Value.int IntKind.i64 20); refine (below_any g A n c 20 _ ?_).mono ?_; exact hC.out; rintro e wa ⟨xk, rfl, _, ca, ga⟩; have na := KN.out _ (row_far HND.out ga HNE.out))
        | (go_at_call_of 46 (Value.int IntKind.i64 9); refine (below_any g A n c 9 _ ca).mono ?_; rintro e wb ⟨xv, rfl, _, cb, gb⟩; have nb' := KN.out _ (row_far (row_far HND.out ga HNE.out) gb HNE.out))
        | (go_at_call 48; refine (sPut_any A' l c' zs xk xv _ ?_ hl2 cap1 cap2).mono ?_; exact RP.own (own_far (own_far HOD.out ga HF.out) gb HF.out); intro e wp hP; obtain ⟨AP, cP, rfl, op, bp⟩ := own_form hP; have fN := frozen_of_row wp nb 1 _ _ (row_below (row_far (row_far HND.out ga HNE.out) gb HNE.out) bp); have cN := KN.out _ (row_below (row_far (row_far HND.out ga HNE.out) gb HNE.out) bp)))
      all_goals
        have op2 := own_base op (show nb + 1 ≤ wb.heap.size by have := row_lt (row_far (row_far HND.out ga HNE.out) gb HNE.out); omega)
        have OP := Lib.hid ((ownsRow_setCell_below op2 (a := ⟨nb, 1, none⟩) (by simp) (.slice AP (insL zs xk xv).length cP)))
        have NP := Lib.hid (row_set (i := 1) (row_below (row_far (row_far HND.out ga HNE.out) gb HNE.out) bp) (.slice AP (insL zs xk xv).length cP))
        have gp := grown_set wp nb 1 (.slice AP (insL zs xk xv).length cP)
        have CP := Lib.hid ((cb.below bp).grown gp (fun k e => by simp at e; omega))
        have GP := Lib.hid (grown_past (grown_trans (grown_trans hG.out (grown_trans (grown_undrew ga) gb)) (grown_below bp)) gp (fun k e => by simp at e; omega))
        have RP' := Lib.hid (row_far (row_below (row_far (row_far hR.out (grown_undrew ga) HNR.out) gb HNR.out) bp) gp (fun k e => by simp at e; omega))
        have LP : Hid (((insL zs xk xv).length : Int) ≤ 4 - (k - 1)) := Lib.hid (by have := insL_le zs xk xv; have := HLL.out; omega)
        clear op op2 bp gp ga gb ca cb fN cN na nb' n1
        generalize insL zs xk xv = z2 at *
        go_wp2_with fail
        go_roundw
      all_goals first
        | exact ⟨k - 1, AP, cP, z2, by go_num, by omega, LP.out, by omega, OP, NP, CP, GP, RP'⟩
        | (simp [intOf]; omega)
    · go_wp2_with fail
      refine (once_any g A n c 2 _ hC.out).mono ?_
      rintro e w5 ⟨b, rfl, hc, hg⟩
      have C5 := Lib.hid hc
      have G5 := Lib.hid (grown_trans hG.out hg)
      have R5 := Lib.hid (row_far hR.out hg (fun k e => by simp at e; omega))
      have N5 := Lib.hid (row_far hN.out hg (fun k e => by simp at e; omega))
      have O5 := Lib.hid (own_far ho.out hg (fun b e => by have := (ho.out.lt b e).1; simp; omega))
      clear hc hg hC hG hR hN ho n1
      have m0 : ∀ (y : Nd) (hy : y = ⟨lv, zs, -1, -1, ow⟩), True := fun _ _ => trivial
      clear m0
      rcases Bool.eq_false_or_eq_true b with hb | hb
      · subst hb
        go_wp2_with fail
        refine (below_any g A n c 5 _ C5.out).mono ?_
        rintro e w6 ⟨h1, rfl, ⟨_, hh⟩, hc, hg⟩
        obtain ⟨hh0, hh1⟩ := hh (by omega)
        have C6 := Lib.hid hc
        have G6 := Lib.hid (grown_trans G5.out hg)
        have R6 := Lib.hid (row_far R5.out hg (fun k e => by simp at e; omega))
        have N6 := row_far N5.out hg (fun k e => by simp at e; omega)
        have O6 := Lib.hid (own_far O5.out hg (fun b e => by have := (O5.out.lt b e).1; simp; omega))
        have cH : w6.cell? ⟨nb, 2, none⟩ = some (.int .i64 (-1)) := by rw [cell_of_row w6 nb 2 _ _ _ N6]; rfl
        have fH : w6.frozen? ⟨nb, 2, none⟩ = false := frozen_of_row w6 nb 2 _ _ N6
        have HN6 := Lib.hid N6
        clear hc hg C5 G5 R5 N5 O5 N6 hh
        go_wp2_with fail
        generalize hHI : (20 + h1 : Int) = HI
        clear hHI
        obtain ⟨w7, hw7⟩ : ∃ w7, w7 = w6.setCell ⟨nb, 2, none⟩ (.int .i64 HI) := ⟨_, rfl⟩
        rw [← hw7]
        have g7 : w6.grownBy w7 (some nb) := by rw [hw7]; exact grown_set _ _ _ _
        have N7 : Hid (w7.heap[nb]? = some (.cells #[.int .i64 lv, .slice A' l c', .int .i64 HI, .int .i64 (-1), .int .i64 ow] 38 (0, 0))) := Lib.hid (by rw [hw7]; exact row_set (i := 2) HN6.out _)
        have O7 : Hid (w7.ownsRow (nb + 1) 55 2 (.slice A' l c') l (PL zs)) := Lib.hid (by rw [hw7]; exact ownsRow_setCell_below O6.out (by simp) _)
        have C7 := Lib.hid (C6.out.grown g7 (fun k e => by simp at e; omega))
        have G7 := Lib.hid (grown_past G6.out g7 (fun k e => by simp at e; omega))
        have R7 := Lib.hid (row_far R6.out g7 (fun k e => by simp at e; omega))
        clear hw7 g7 C6 G6 R6 HN6 O6 cH fH
        refine (below_any g A n c 9 _ C7.out).mono ?_
        rintro e w8 ⟨RI, rfl, _, hc, hg⟩
        have C8 := Lib.hid hc
        have G8 := Lib.hid (grown_trans G7.out hg)
        have R8 := Lib.hid (row_far R7.out hg (fun k e => by simp at e; omega))
        have HN8 := Lib.hid (row_far N7.out hg (fun k e => by simp at e; omega))
        have O8 := Lib.hid (own_far O7.out hg (fun b e => by have := (O7.out.lt b e).1; simp; omega))
        clear hc hg C7 G7 R7 N7 O7
        have NN := HN8.out
        have RR := R8.out
        have a0 : w8.cell? ⟨nb, 0, none⟩ = some (.int .i64 lv) := by rw [cell_of_row w8 nb 0 _ _ _ NN]; rfl
        have a1 : w8.cell? ⟨nb, 1, none⟩ = some (.slice A' l c') := by rw [cell_of_row w8 nb 1 _ _ _ NN]; rfl
        have a2 : w8.cell? ⟨nb, 2, none⟩ = some (.int .i64 HI) := by rw [cell_of_row w8 nb 2 _ _ _ NN]; rfl
        have a3 : w8.cell? ⟨nb, 3, none⟩ = some (.int .i64 (-1)) := by rw [cell_of_row w8 nb 3 _ _ _ NN]; rfl
        have a4 : w8.cell? ⟨nb, 4, none⟩ = some (.int .i64 ow) := by rw [cell_of_row w8 nb 4 _ _ _ NN]; rfl
        have fN : w8.frozen? ⟨nb, 3, none⟩ = false := frozen_of_row w8 nb 3 _ _ NN
        have q0 : w8.cell? ⟨w.heap.size, 0, none⟩ = some (.int .i64 0) := by rw [cell_of_row w8 _ 0 _ _ _ RR]; rfl
        have q1 : w8.cell? ⟨w.heap.size, 1, none⟩ = some (.slice none 0 0) := by rw [cell_of_row w8 _ 1 _ _ _ RR]; rfl
        have q2 : w8.cell? ⟨w.heap.size, 2, none⟩ = some (.int .i64 0) := by rw [cell_of_row w8 _ 2 _ _ _ RR]; rfl
        have q3 : w8.cell? ⟨w.heap.size, 3, none⟩ = some (.int .i64 0) := by rw [cell_of_row w8 _ 3 _ _ _ RR]; rfl
        have q4 : w8.cell? ⟨w.heap.size, 4, none⟩ = some (.int .i64 0) := by rw [cell_of_row w8 _ 4 _ _ _ RR]; rfl
        have fR : ∀ i, w8.frozen? ⟨w.heap.size, i, none⟩ = false := fun i => frozen_of_row w8 _ i _ _ RR
        have sR : (nb = w.heap.size) = False := by simp; omega
        have sR' : (w.heap.size = nb) = False := by simp; omega
        clear NN RR
        go_wp2
        refine bodyPost_ret (v := .agg #[.int .i64 lv, .slice A' l c', .int .i64 HI, .int .i64 RI, .int .i64 ow]) (by simp [results, Tryz.results69, go_sem, q0, q1, q2, q3, q4]) rfl ⟨⟨lv, zs, HI, RI, ow⟩, A', c', by simp only [ndV, HLL.out], ?_, by simp only [HLL.out]; exact hz4, ?_, ?_⟩
        · simp only [HLL.out]
          refine own_base' (base := nb + 1) ?_ (by omega)
          repeat (refine ownsRow_setCell_below ?_ (by simp; first | done | omega) _)
          exact O8.out
        · repeat (refine Cur.grown ?_ (grown_set _ _ _ _) (fun k e => by simp at e; omega))
          exact C8.out
        · repeat (refine grown_past ?_ (grown_set _ _ _ _) (fun k e => by simp at e; omega))
          exact G8.out
      · subst hb
        have HN5 := N5
        clear N5
        have NN := HN5.out
        have RR := R5.out
        have a0 : w5.cell? ⟨nb, 0, none⟩ = some (.int .i64 lv) := by rw [cell_of_row w5 nb 0 _ _ _ NN]; rfl
        have a1 : w5.cell? ⟨nb, 1, none⟩ = some (.slice A' l c') := by rw [cell_of_row w5 nb 1 _ _ _ NN]; rfl
        have a2 : w5.cell? ⟨nb, 2, none⟩ = some (.int .i64 (-1)) := by rw [cell_of_row w5 nb 2 _ _ _ NN]; rfl
        have a3 : w5.cell? ⟨nb, 3, none⟩ = some (.int .i64 (-1)) := by rw [cell_of_row w5 nb 3 _ _ _ NN]; rfl
        have a4 : w5.cell? ⟨nb, 4, none⟩ = some (.int .i64 ow) := by rw [cell_of_row w5 nb 4 _ _ _ NN]; rfl
        have fN : w5.frozen? ⟨nb, 3, none⟩ = false := frozen_of_row w5 nb 3 _ _ NN
        have q0 : w5.cell? ⟨w.heap.size, 0, none⟩ = some (.int .i64 0) := by rw [cell_of_row w5 _ 0 _ _ _ RR]; rfl
        have q1 : w5.cell? ⟨w.heap.size, 1, none⟩ = some (.slice none 0 0) := by rw [cell_of_row w5 _ 1 _ _ _ RR]; rfl
        have q2 : w5.cell? ⟨w.heap.size, 2, none⟩ = some (.int .i64 0) := by rw [cell_of_row w5 _ 2 _ _ _ RR]; rfl
        have q3 : w5.cell? ⟨w.heap.size, 3, none⟩ = some (.int .i64 0) := by rw [cell_of_row w5 _ 3 _ _ _ RR]; rfl
        have q4 : w5.cell? ⟨w.heap.size, 4, none⟩ = some (.int .i64 0) := by rw [cell_of_row w5 _ 4 _ _ _ RR]; rfl
        have fR : ∀ i, w5.frozen? ⟨w.heap.size, i, none⟩ = false := fun i => frozen_of_row w5 _ i _ _ RR
        have sR : (nb = w.heap.size) = False := by simp; omega
        have sR' : (w.heap.size = nb) = False := by simp; omega
        clear NN RR
        go_wp2
        refine bodyPost_ret (v := .agg #[.int .i64 lv, .slice A' l c', .int .i64 (-1), .int .i64 (-1), .int .i64 ow]) (by simp [results, Tryz.results69, go_sem, q0, q1, q2, q3, q4]) rfl ⟨⟨lv, zs, (-1), (-1), ow⟩, A', c', by simp only [ndV, HLL.out], ?_, by simp only [HLL.out]; exact hz4, ?_, ?_⟩
        · simp only [HLL.out]
          refine own_base' (base := nb + 1) ?_ (by omega)
          repeat (refine ownsRow_setCell_below ?_ (by simp; first | done | omega) _)
          exact O5.out
        · repeat (refine Cur.grown ?_ (grown_set _ _ _ _) (fun k e => by simp at e; omega))
          exact C5.out
        · repeat (refine grown_past ?_ (grown_set _ _ _ _) (fun k e => by simp at e; omega))
          exact G5.out
end Go.Proofs.YtjdbehijghjfbaaGreat
