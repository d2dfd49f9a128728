/- The code's own RowOf: the first node of a level, the way along a row. -/
import Derived.Test.YtlmhcifnikdliaaDoorC22
import Derived.Test.YtlmhcifnikdliaaDoorC12
import Derived.RangeFuncBox
import Derived.RangeFuncBound
import Derived.RangeFuncCalls
import Derived.RangeFuncLeaves
import Derived.Shelf.Abstract
import Derived.WalkKit
import Derived.OwnWalkIn
import Derived.TacticsInMore
import Derived.LoopNIn
import Derived.LoopIn
import Derived.Maps.AppendAt
import Derived.Sort.CutIn
import Derived.Stop.RegionWithIn
namespace Go.Proofs.YtlmhcifnikdliaaDoor
open Go.RowKit Go.Shelf

theorem Right.ri_ge {n : Nat} {r : Int} {xs : List Nd} (h : Right n r xs) (i : Nat) (hi : i < n) : -1 ≤ riAt xs i := by
  have := (h.good i hi).1
  unfold nodeOk numB inB at this
  simp only [Bool.and_eq_true, Bool.or_eq_true, decide_eq_true_eq] at this
  unfold riAt
  grind
theorem firstF_ge (xs : List Nd) (lev : Int) : ∀ (f a : Nat), -1 ≤ firstF xs lev f a := by
  intro f
  induction f with
  | zero => intro a; simp only [firstF]; omega
  | succ f ih =>
    intro a
    simp only [firstF]
    split
    · split
      · exact ih _
      · omega
    · split <;> omega
theorem firstT_ge (r : Int) (xs : List Nd) (lev : Int) : -1 ≤ firstT r xs lev := firstF_ge xs lev 7 _

set_option maxRecDepth 100000 in
set_option maxHeartbeats 1000000 in
theorem iFirst_any (r : Int) (xs : List Nd) (A : Option Addr) (n c : Nat) (lev : Int) (w : World) (h : RS w w.heap.size A n xs) (hR : Right n r xs) :
    Calls Tryd.prog 49 #[.agg #[.int .i64 r, .slice A n c], .int .i64 lev] w fun e w' => e = .returned (.int .i64 (firstT r xs lev)) ∧ Below w.heap.size w w' := by
  obtain ⟨a0, rfl, han⟩ : ∃ a0 : Nat, r = a0 ∧ a0 < n := ⟨r.toNat, by have := hR.root; omega, by have := hR.root; omega⟩
  have HR := Lib.hid hR
  have hn40 := hR.most
  obtain ⟨w0, hw0⟩ : ∃ w0, w0 = w.alloc (.cells #[.int .i64 a0, .slice A n c] 29) := ⟨_, rfl⟩
  have b0 : Below w.heap.size w w0 := by rw [hw0]; exact (Below.refl _ _).alloc (Nat.le_refl _) _
  have x0 : w0.heap[w.heap.size]? = some (.cells #[.int .i64 a0, .slice A n c] 29 (0, 0)) := by rw [hw0]; exact heap_alloc_new _ _
  have d1 : ∀ wx, Below w0.heap.size w0 wx → wx.cell? ⟨w.heap.size, 1, none⟩ = some (.slice A n c) := fun wx hb => by rw [cell_of_row _ _ 1 _ _ _ (box_on hb x0)]; rfl
  have D1 := Lib.hid d1
  have hh0 := h.on b0
  have HH := Lib.hid hh0
  have B0 := Lib.hid b0
  have hsz : w.heap.size < w0.heap.size := by rw [hw0]; simp
  have E0 : Hid (firstT a0 xs lev = firstF xs lev 7 a0) := Lib.hid rfl
  have hlv := hR.lv a0 han
  rw [E0.out]
  clear E0
  by_cases hneg : lev < 0
  · have g1 : decide (lev < 0) = true := by simpa using hneg
    have E1 : Hid (firstF xs lev 7 a0 = -1) := Lib.hid (by rw [firstF_here _ _ _ _ (by omega), if_neg (by omega)])
    have HW := Lib.hid hw0
    clear h hw0 b0 x0 hR d1 hlv hh0
    go_enter Tryd.func49, Tryd.ntmps49
    go_wp2
    go_ret
    exact ⟨ret_int E1.out.symm, by rw [← HW.out]; exact B0.out⟩
  have g1 : decide (lev < 0) = false := by simpa using hneg
  obtain ⟨b, off, rfl, hb, hc⟩ := hh0.nd (by omega)
  obtain ⟨_, _, _, c0, _⟩ := hc a0 han
  change w0.cell? _ = some (.int .i64 (lvAt xs a0)) at c0
  rw [hw0] at c0
  by_cases hbig : lvAt xs a0 < lev
  · have g2 : decide (lvAt xs a0 < lev) = true := by simpa using hbig
    have E1 : Hid (firstF xs lev 7 a0 = -1) := Lib.hid (by rw [firstF_here _ _ _ _ (by omega), if_neg (by omega)])
    have HW := Lib.hid hw0
    clear h hw0 b0 x0 hR d1 hh0 hc
    generalize lvAt xs a0 = l at *
    go_enter Tryd.func49, Tryd.ntmps49
    go_wp2
    go_ret
    exact ⟨ret_int E1.out.symm, by rw [← HW.out]; exact B0.out⟩
  have g2 : decide (lvAt xs a0 < lev) = false := by simpa using hbig
  have HW := Lib.hid hw0
  have hl0 : Hid (lev ≤ lvAt xs a0) := Lib.hid (by omega)
  clear h hw0 b0 x0 hR d1 hh0 hlv hbig
  have HC := Lib.hid hc
  clear hc
  go_enter Tryd.func49, Tryd.ntmps49
  go_wp2
  clear c0
  change Code.wp _ _ _ _ (w.alloc (.cells #[.int .i64 a0, .slice (some ⟨b, off, none⟩) n c] 29))
  rw [← HW.out]
  go_loopw [5, 6] (fun i l wr => ∃ a f : Nat, i = .int .i64 a ∧ l = .int .i64 (lvAt xs a) ∧ a < n ∧ Hid (lev ≤ lvAt xs a) ∧ Hid (firstF xs lev 7 a0 = firstF xs lev f a) ∧ Hid (lvAt xs a < f) ∧ Hid (Below w0.heap.size w0 wr)) (fun _ l _ => (intOf l).toNat)
  case atStart => exact ⟨a0, 7, rfl, rfl, han, hl0, Lib.hid rfl, Lib.hid (by have := (HR.out.lv a0 han).2; omega), Lib.hid (Below.refl _ _)⟩
  case round =>
    obtain ⟨a, f, rfl, rfl, ha, hle, he, hf, hbw⟩ := hrel
    have d1 := D1.out _ hbw.out
    clear han g2 hl0
    have hlv := HR.out.lv a ha
    obtain ⟨f, rfl⟩ : ∃ g, f = g + 1 := ⟨f - 1, by have := hf.out; omega⟩
    have hbr : b < wr.heap.size := Nat.lt_of_lt_of_le hb hbw.out.size
    by_cases hgo : lev < lvAt xs a
    · have q1 : decide (lev < lvAt xs a) = true := by simpa using hgo
      obtain ⟨A2, n2, c2, c0, c1, _, _, _, hP, _⟩ := (HC.out a ha).keep (w' := wr) hb (fun p hp => hbw.out.cell hp)
      change wr.cell? _ = some (.int .i64 (lvAt xs a)) at c0
      obtain ⟨hp0, hkn, hkv⟩ := HR.out.kid a ha (by omega)
      obtain ⟨A3, n3, c3, k0, _, _, _, _, _, _⟩ := (HC.out (kid0 xs a) hkn).keep (w' := wr) hb (fun p hp => hbw.out.cell hp)
      change wr.cell? _ = some (.int .i64 (lvAt xs (kid0 xs a))) at k0
      have hp2 : 0 < n2 := by rw [← hP.1]; exact hp0
      obtain ⟨b2, off2, rfl, hb2, hc2⟩ := hP.2 hp2
      have cv := (hc2 0 hp2).2
      rw [hkv] at cv
      simp only [Nat.zero_mul, Nat.add_zero] at cv
      have E1 : Hid (lvAt xs (kid0 xs a) ≠ lvAt xs a - 1 → firstF xs lev (f + 1) a = -1) := Lib.hid (firstF_none xs lev f a ⟨hgo, by omega⟩)
      have E2 : Hid (lvAt xs (kid0 xs a) = lvAt xs a - 1 → firstF xs lev (f + 1) a = firstF xs lev f (kid0 xs a)) := Lib.hid (firstF_down xs lev f a ⟨hgo, by omega⟩)
      have hlb : lvAt xs a ≤ 6 := hlv.2
      have hl1 : 1 ≤ lvAt xs a := by omega
      have HG := Lib.hid hgo
      have HLV := Lib.hid hlv
      have HKL := Lib.hid (HR.out.lv (kid0 xs a) hkn)
      clear hc2 hkv hP hgo hlv hp0
      generalize kid0 xs a = k at *
      by_cases hk : lvAt xs k = lvAt xs a - 1
      · have qk : (lvAt xs k != lvAt xs a - 1) = false := by simp [hk]
        have HK := Lib.hid hk
        clear hk
        go_wp2
        go_roundw
        case rel => exact ⟨k, f, rfl, by rw [HK.out], hkn, Lib.hid (by have := HK.out; have := HG.out; omega), Lib.hid (by rw [he.out, E2.out HK.out]), Lib.hid (by have := hf.out; have := HK.out; omega), hbw⟩
        case measure => simp [intOf]; omega
      · have qk : (lvAt xs k != lvAt xs a - 1) = true := by simpa using hk
        have HK := Lib.hid hk
        clear hk
        go_wp2
        go_ret
        exact ⟨ret_int (by rw [he.out, E1.out HK.out]), B0.out.trans (hbw.out.mono B0.out.size)⟩
    · have q1 : decide (lev < lvAt xs a) = false := by simpa using hgo
      have E1 : Hid (firstF xs lev (f + 1) a = a) := Lib.hid (by rw [firstF_here _ _ _ _ (by omega), if_pos (by have := hle.out; omega)])
      generalize lvAt xs a = l at *
      go_wp2
      go_ret
      exact ⟨ret_int (by rw [he.out, E1.out]), B0.out.trans (hbw.out.mono B0.out.size)⟩
end Go.Proofs.YtlmhcifnikdliaaDoor
