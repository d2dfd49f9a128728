/- The walks of the model's NewTree, l3First, l3Row, RowOf. -/
import Derived.Test.YtlmhcifnikdliaaDoorA11
namespace Go.Proofs.YtlmhcifnikdliaaDoor
open Go.RowKit

def lvAt (xs : List Nd) (i : Nat) : Int := (ndAt xs i).lv
def kid0 (xs : List Nd) (i : Nat) : Nat := (vAt (ndAt xs i).ps 0).toNat
def firstF (xs : List Nd) (lev : Int) : Nat → Nat → Int
  | 0, _ => -1
  | f + 1, a => if lev < lvAt xs a ∧ 0 ≤ lev then (if lvAt xs (kid0 xs a) = lvAt xs a - 1 then firstF xs lev f (kid0 xs a) else -1) else (if lvAt xs a = lev then (a : Int) else -1)
def firstT (r : Int) (xs : List Nd) (lev : Int) : Int := firstF xs lev 7 r.toNat

structure Right (n : Nat) (r : Int) (xs : List Nd) : Prop where
  len : xs.length = n
  pos : 1 ≤ n
  most : n ≤ 40
  root : 0 ≤ r ∧ r < n
  good : ∀ i, i < n → nodeOk (ndAt xs i) = true ∧ (ndAt xs i).ri < n ∧ (0 < (ndAt xs i).lv → ∀ j, j < (ndAt xs i).ps.length → 0 ≤ vAt (ndAt xs i).ps j ∧ vAt (ndAt xs i).ps j < n)
theorem hasB_iff (n : Nat) (x : Int) : hasB n x = true ↔ (0 ≤ x ∧ x < n) := by
  unfold hasB inB
  simp only [decide_eq_true_eq]
  omega
theorem right_of {r : Int} {xs : List Nd} (h : treeOk r xs = true) : Right xs.length r xs := by
  obtain ⟨h1, h2, h3, h4⟩ := (treeOk_iff r xs).1 h
  refine ⟨rfl, h1, h2, (hasB_iff _ _).1 h3, fun i hi => ?_⟩
  have hg := h4 i hi
  unfold ndGood at hg
  simp only [Bool.and_eq_true, Bool.or_eq_true, decide_eq_true_eq, List.all_eq_true, List.mem_range] at hg
  refine ⟨hg.1.1, hg.1.2, fun hl j hj => ?_⟩
  rcases hg.2 with h' | h'
  · omega
  · exact (hasB_iff _ _).1 (h' j hj)
theorem Right.lv {n : Nat} {r : Int} {xs : List Nd} (h : Right n r xs) (i : Nat) (hi : i < n) : 0 ≤ lvAt xs i ∧ lvAt xs i ≤ 6 := by
  have := (h.good i hi).1
  unfold nodeOk inB at this
  simp only [Bool.and_eq_true, decide_eq_true_eq] at this
  exact this.1.1.1.1.1
theorem Right.kid {n : Nat} {r : Int} {xs : List Nd} (h : Right n r xs) (i : Nat) (hi : i < n) (hl : 0 < lvAt xs i) : 0 < (ndAt xs i).ps.length ∧ kid0 xs i < n ∧ vAt (ndAt xs i).ps 0 = (kid0 xs i : Int) := by
  have h1 := h.good i hi
  have h2 := nodeOk_kids h1.1 hl
  have h3 := h1.2.2 hl 0 h2
  unfold kid0
  exact ⟨h2, by omega, by omega⟩
theorem firstF_none (xs : List Nd) (lev : Int) (f a : Nat) (h : lev < lvAt xs a ∧ 0 ≤ lev) (hk : lvAt xs (kid0 xs a) ≠ lvAt xs a - 1) : firstF xs lev (f + 1) a = -1 := by
  simp only [firstF]; rw [if_pos h, if_neg hk]
theorem firstF_down (xs : List Nd) (lev : Int) (f a : Nat) (h : lev < lvAt xs a ∧ 0 ≤ lev) (hk : lvAt xs (kid0 xs a) = lvAt xs a - 1) : firstF xs lev (f + 1) a = firstF xs lev f (kid0 xs a) := by
  simp only [firstF]; rw [if_pos h, if_pos hk]
theorem firstF_here (xs : List Nd) (lev : Int) (f a : Nat) (h : ¬ (lev < lvAt xs a ∧ 0 ≤ lev)) : firstF xs lev (f + 1) a = if lvAt xs a = lev then (a : Int) else -1 := by
  simp only [firstF]; rw [if_neg h]

set_option maxRecDepth 100000 in
set_option maxHeartbeats 1000000 in
theorem first_any (r : Int) (xs : List Nd) (A : Option Addr) (n c : Nat) (lev : Int) (w : World) (h : RS w w.heap.size A n xs) (hR : Right n r xs) :
    Calls Tryd.prog 36 #[.agg #[.int .i64 r, .slice A n c], .int .i64 lev] w fun e w' => e = .returned (.int .i64 (firstT r xs lev)) ∧ Below w.heap.size w w' := by
  obtain ⟨a0, rfl, han⟩ : ∃ a0 : Nat, r = a0 ∧ a0 < n := ⟨r.toNat, by have := hR.root; omega, by have := hR.root; omega⟩
  have HR := Lib.hid hR
  have hn40 := hR.most
  obtain ⟨w0, hw0⟩ : ∃ w0, w0 = w.alloc (.cells #[.int .i64 a0, .slice A n c] 29) := ⟨_, rfl⟩
  have b0 : Below w.heap.size w w0 := by rw [hw0]; exact (Below.refl _ _).alloc (Nat.le_refl _) _
  have x0 : w0.heap[w.heap.size]? = some (.cells #[.int .i64 a0, .slice A n c] 29 (0, 0)) := by rw [hw0]; exact heap_alloc_new _ _
  have d1 : ∀ wx, Below w0.heap.size w0 wx → wx.cell? ⟨w.heap.size, 1, none⟩ = some (.slice A n c) := fun wx hb => by rw [cell_of_row _ _ 1 _ _ _ (box_on hb x0)]; rfl
  have D1 := Lib.hid d1
  have HH := Lib.hid (h.on b0)
  have B0 := Lib.hid b0
  have HW := Lib.hid hw0
  have hsz : w.heap.size < w0.heap.size := by rw [hw0]; simp
  have E0 : Hid (firstT a0 xs lev = firstF xs lev 7 a0) := Lib.hid rfl
  clear h hw0 b0 x0 hR d1
  rw [E0.out]
  go_enter Tryd.func36, Tryd.ntmps36
  go_wp2
  change Code.wp _ _ _ _ (w.alloc (.cells #[.int .i64 a0, .slice A n c] 29))
  rw [← HW.out]
  go_loopw [5] (fun i wr => ∃ a f : Nat, i = .int .i64 a ∧ a < n ∧ Hid (firstF xs lev 7 a0 = firstF xs lev f a) ∧ Hid (lvAt xs a < f) ∧ Hid (Below w0.heap.size w0 wr)) (fun i _ => (lvAt xs (intOf i).toNat).toNat)
  case atStart => exact ⟨a0, 7, rfl, han, Lib.hid rfl, Lib.hid (by have := (HR.out.lv a0 han).2; omega), Lib.hid (Below.refl _ _)⟩
  case round =>
    obtain ⟨a, f, rfl, ha, he, hf, hbw⟩ := hrel
    have hszr : w.heap.size < wr.heap.size := Nat.lt_of_lt_of_le hsz hbw.out.size
    have d1 := D1.out _ hbw.out
    have p1 := Later.of_cell d1 (Below.refl _ _) hszr
    clear han
    have hlv := HR.out.lv a ha
    obtain ⟨f, rfl⟩ : ∃ g, f = g + 1 := ⟨f - 1, by have := hf.out; omega⟩
    obtain ⟨b, off, rfl, hb, hc⟩ := HH.out.nd (by omega)
    have hbr : b < wr.heap.size := Nat.lt_of_lt_of_le hb hbw.out.size
    obtain ⟨A2, n2, c2, c0, c1, _, _, _, hP, _⟩ := (hc a ha).keep (w' := wr) hb (fun p hp => hbw.out.cell hp)
    change wr.cell? _ = some (.int .i64 (lvAt xs a)) at c0
    by_cases hgo : lev < lvAt xs a ∧ 0 ≤ lev
    · obtain ⟨g1, g2⟩ := hgo
      have q1 : decide (lev < lvAt xs a) = true := by simpa using g1
      have q2 : decide (0 ≤ lev) = true := by simpa using g2
      obtain ⟨hp0, hkn, hkv⟩ := HR.out.kid a ha (by omega)
      obtain ⟨A3, n3, c3, k0, _, _, _, _, _, _⟩ := (hc (kid0 xs a) hkn).keep (w' := wr) hb (fun p hp => hbw.out.cell hp)
      have p2 := Later.of_cell c0 (Below.refl _ _) hbr
      change wr.cell? _ = some (.int .i64 (lvAt xs (kid0 xs a))) at k0
      have hp2 : 0 < n2 := by rw [← hP.1]; exact hp0
      obtain ⟨b2, off2, rfl, hb2, hc2⟩ := hP.2 hp2
      have cv := (hc2 0 hp2).2
      rw [hkv] at cv
      simp only [Nat.zero_mul, Nat.add_zero] at cv
      have E1 : Hid (lvAt xs (kid0 xs a) ≠ lvAt xs a - 1 → firstF xs lev (f + 1) a = -1) := Lib.hid (firstF_none xs lev f a ⟨g1, g2⟩)
      have E2 : Hid (lvAt xs (kid0 xs a) = lvAt xs a - 1 → firstF xs lev (f + 1) a = firstF xs lev f (kid0 xs a)) := Lib.hid (firstF_down xs lev f a ⟨g1, g2⟩)
      have hlb : lvAt xs a ≤ 6 := hlv.2
      have hl1 : 1 ≤ lvAt xs a := by omega
      have HLV := Lib.hid hlv
      clear hc hc2 hkv hP g1 g2 hlv hp0
      have p3 := Later.of_cell k0 (Below.refl _ _) hbr
      generalize kid0 xs a = k at *
      by_cases hk : lvAt xs k = lvAt xs a - 1
      · have qk : (lvAt xs k != lvAt xs a - 1) = false := by simp [hk]
        have HK := Lib.hid hk
        clear hk
        go_wp2
        refine wp_region_later (by kernel_rfl) (by kernel_rfl) ?_
        repeat (go_big_quiet_step (fail))
        refine wpQuiet_nil ?_
        intro _ hw'
        obtain ⟨s6, rfl⟩ := hw'
        have B6 := Lib.hid (hbw.out.trans (s6.2.mono hbw.out.size))
        go_wp2
        go_roundw
        case rel => exact ⟨k, f, rfl, hkn, Lib.hid (by rw [he.out, E2.out HK.out]), Lib.hid (by have := hf.out; have := HK.out; omega), B6⟩
        case measure => simp [intOf]; have := HK.out; omega
      · have qk : (lvAt xs k != lvAt xs a - 1) = true := by simpa using hk
        have HK := Lib.hid hk
        clear hk
        go_wp2
        refine wp_region_later (by kernel_rfl) (by kernel_rfl) ?_
        repeat (go_big_quiet_step (fail))
        refine wpQuiet_nil ?_
        intro _ hw'
        obtain ⟨s6, rfl⟩ := hw'
        have B6 := Lib.hid (hbw.out.trans (s6.2.mono hbw.out.size))
        go_wp2
        go_ret
        exact ⟨ret_int (by rw [he.out, E1.out HK.out]), B0.out.trans (B6.out.mono B0.out.size)⟩
    · have E1 : Hid (firstF xs lev (f + 1) a = if lvAt xs a = lev then (a : Int) else -1) := Lib.hid (firstF_here xs lev f a hgo)
      clear hc hP
      generalize lvAt xs a = l at *
      have q3 : (decide (lev < l) && decide (0 ≤ lev)) = false := by
        rw [Bool.and_eq_false_iff]
        by_cases h1 : lev < l
        · exact .inr (by simp; omega)
        · exact .inl (by simpa using h1)
      by_cases h1 : lev < l
      · have q1 : decide (lev < l) = true := by simpa using h1
        have q2 : decide (0 ≤ lev) = false := by simp; omega
        have q4 : (l != lev) = true := by simp; omega
        have hne : ¬ l = lev := by omega
        clear hgo h1 q3
        go_wp2
        go_ret
        exact ⟨ret_int (by rw [he.out, E1.out, if_neg hne]), B0.out.trans (hbw.out.mono B0.out.size)⟩
      · have q1 : decide (lev < l) = false := by simpa using h1
        clear hgo h1 q3
        by_cases hq : l = lev
        · have q4 : (l != lev) = false := by simp [hq]
          have HQ := Lib.hid hq
          clear hq
          go_wp2
          go_ret
          exact ⟨ret_int (by rw [he.out, E1.out, if_pos HQ.out]), B0.out.trans (hbw.out.mono B0.out.size)⟩
        · have q4 : (l != lev) = true := by simpa using hq
          go_wp2
          go_ret
          exact ⟨ret_int (by rw [he.out, E1.out, if_neg hq]), B0.out.trans (hbw.out.mono B0.out.size)⟩
end Go.Proofs.YtlmhcifnikdliaaDoor
