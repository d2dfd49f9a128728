/- The code's own TreeOk and NewTree. -/
import Derived.Test.YtjdbehijghjfbaaGreatQ52
import Derived.Test.YtjdbehijghjfbaaGreatQ08
import Derived.RangeFuncBox
import Derived.RangeFuncBound
import Derived.RangeFuncCalls
import Derived.RangeFuncLeaves
import Derived.Shelf.Abstract
import Derived.WalkKit
import Derived.OwnWalkIn
import Derived.TacticsInMore
import Derived.LoopNIn
import Derived.LoopIn
import Derived.Maps.AppendAt
import Derived.Sort.CutIn
import Derived.Stop.RegionWithIn
namespace Go.Proofs.YtjdbehijghjfbaaGreat
open Go.RowKit

set_option maxHeartbeats 1000000 in
theorem iIdxT_any (r : Int) (A' : Option Addr) (n' c' : Nat) (hn' : n' ≤ 1048576) (A : Option Addr) (n c : Nat) (xs : List Nd) (w : World) (h : RS w w.heap.size A n xs) (hn : n ≤ 1048576) (hp : ∀ i, i < n → (ndAt xs i).ps.length ≤ 1048576) :
    Calls Tryz.prog 72 #[.slice A n c, .func (.func 50) #[.agg #[.int .i64 r, .slice A' n' c']] #[]] w fun e w' => e = .returned (.int .i64 (ixOf (refT n') xs)) ∧ Below w.heap.size w w' := by
  have HL := Lib.hid h.1
  have HH := Lib.hid h
  have HP := Lib.hid hp
  clear h hp
  have RK := Lib.hid (fun (x : Nd) A n c w (h : RP w w.heap.size A n x.ps) (hn : n ≤ 1048576) => iRefT_any r A' n' c' hn' x A n c w h hn)
  have eg : ∀ args w, (callFunc 50 args).run Tryz.prog w = .ok (.enter 50 args) w := enters_of Tryz.func50 (by kernel_rfl) rfl
  have HX : Hid (∀ k, k < xs.length → refT n' (ndAt xs k) = true → (∀ j, j < k → refT n' (ndAt xs j) = false) → ixOf (refT n') xs = k) := Lib.hid fun k hk h1 h2 => ixNd_at (refT n') xs k hk h1 h2
  have HN : Hid ((∀ j, j < xs.length → refT n' (ndAt xs j) = false) → ixOf (refT n') xs = -1) := Lib.hid fun h1 => ixNd_none (refT n') xs h1
  generalize ixOf (refT n') xs = R at *
  generalize refT n' = q at *
  clear hn'
  generalize Value.agg #[.int .i64 r, .slice A' n' c'] = xv at *
  go_enter Tryz.func72, Tryz.ntmps72
  go_wp2
  go_loopw [8] (fun i wr => ∃ k : Nat, i = .int .i64 k ∧ k ≤ n ∧ Hid (∀ j, j < k → q (ndAt xs j) = false) ∧ Hid (Below w.heap.size w wr)) (fun i _ => n - (intOf i).toNat)
  case atStart => exact ⟨0, rfl, by omega, Lib.hid (by intro j hj; omega), Lib.hid (Below.refl _ _)⟩
  case round =>
    obtain ⟨k, rfl, hk, ho, hbw⟩ := hrel
    by_cases hlt : k < n
    · obtain ⟨b, off, rfl, hb, hc⟩ := HH.out.nd (by omega)
      obtain ⟨A2, n2, c2, k0, k1, k2, k3, k4, hR, _⟩ := (hc k hlt).keep (w' := wr) hb (fun p hp => hbw.out.cell hp)
      have hps := HP.out k hlt
      have hR2 : RP wr wr.heap.size A2 n2 (ndAt xs k).ps := hR.more hbw.out.size
      have rk := RK.out (ndAt xs k) A2 n2 c2 wr hR2 (by rw [← hR2.1]; exact hps)
      clear hc hR hR2 hps
      have F1 : Hid (q (ndAt xs k) = true → R = k) := Lib.hid fun h => HX.out k (by have := HL.out; omega) h ho.out
      have F2 : Hid (q (ndAt xs k) = false → ∀ j, j < k + 1 → q (ndAt xs j) = false) := Lib.hid fun h j hj => by
        rcases Nat.lt_or_ge j k with h' | h'
        · exact ho.out j h'
        · obtain rfl : j = k := by omega
          exact h
      generalize q (ndAt xs k) = qq at rk F1 F2
      unfold ndV at rk
      generalize (ndAt xs k).lv = e0 at *
      generalize (ndAt xs k).hi = e1 at *
      generalize (ndAt xs k).ri = e2 at *
      generalize (ndAt xs k).ow = e3 at *
      cases qq
      · go_wp2_with (go_at_fn 50; refine rk.mono ?_; rintro e w2 ⟨rfl, b2⟩)
        go_roundw
        case rel => exact ⟨k + 1, by go_num, by omega, Lib.hid (F2.out (by trivial)), Lib.hid (hbw.out.trans (b2.mono hbw.out.size))⟩
        case measure => simp [intOf]; omega
      · go_wp2_with (go_at_fn 50; refine rk.mono ?_; rintro e w2 ⟨rfl, b2⟩)
        go_ret
        exact ⟨ret_int (F1.out (by trivial)).symm, hbw.out.trans (b2.mono hbw.out.size)⟩
    · go_wp2
      go_ret
      have hz : xs.length = n := HL.out
      exact ⟨ret_int (HN.out (fun j hj => ho.out j (by omega))).symm, hbw.out⟩

theorem iContT_any (r : Int) (A' : Option Addr) (n' c' : Nat) (hn' : n' ≤ 1048576) (A : Option Addr) (n c : Nat) (xs : List Nd) (w : World) (h : RS w w.heap.size A n xs) (hn : n ≤ 1048576) (hp : ∀ i, i < n → (ndAt xs i).ps.length ≤ 1048576) :
    Calls Tryz.prog 49 #[.slice A n c, .func (.func 50) #[.agg #[.int .i64 r, .slice A' n' c']] #[]] w fun e w' => e = .returned (.bool (xs.any (refT n'))) ∧ Below w.heap.size w w' := by
  have ix := iIdxT_any r A' n' c' hn' A n c xs w h hn hp
  rw [← ixOf_any]
  clear h hp
  generalize ixOf (refT n') xs = R at *
  generalize Value.agg #[.int .i64 r, .slice A' n' c'] = xv at *
  go_enter Tryz.func49, Tryz.ntmps49
  go_wp2_with fail
  refine ix.mono ?_
  rintro e w1 ⟨rfl, b1⟩
  go_wp2
  go_ret
  exact ⟨rfl, b1⟩

theorem itok_any (r : Int) (xs : List Nd) (A : Option Addr) (n c : Nat) (w : World) (h : RS w w.heap.size A n xs) (hs : Small.sm xs) :
    Calls Tryz.prog 28 #[.agg #[.int .i64 r, .slice A n c]] w fun e w' => e = .returned (.bool (treeOk r xs)) ∧ Below w.heap.size w w' := by
  have hl := h.1
  have hn : n ≤ 1048576 := by rw [← hl]; exact hs.1
  rw [← okT_eq]
  unfold okT
  rw [hl]
  have hk := fun w => iHas_any r A n c r w hn
  have ck := fun w h => iContT_any r A n c hn A n c xs w h hn (by rw [← hl]; exact hs.2)
  generalize hasB n r = q2 at *
  generalize xs.any (refT n) = q3 at *
  obtain ⟨w0, hw0⟩ : ∃ w0, w0 = w.alloc (.cells #[.int .i64 r, .slice A n c] 26) := ⟨_, rfl⟩
  have b0 : Below w.heap.size w w0 := by rw [hw0]; exact (Below.refl _ _).alloc (Nat.le_refl _) _
  have x0 : w0.heap[w.heap.size]? = some (.cells #[.int .i64 r, .slice A n c] 26 (0, 0)) := by rw [hw0]; exact heap_alloc_new _ _
  have D : Hid (∀ wx, Below w0.heap.size w0 wx → wx.cell? ⟨w.heap.size, 0, none⟩ = some (.int .i64 r) ∧ wx.cell? ⟨w.heap.size, 1, none⟩ = some (.slice A n c)) :=
    Lib.hid (fun wx hb => ⟨by rw [cell_of_row _ _ 0 _ _ _ (box_on hb x0)]; rfl, by rw [cell_of_row _ _ 1 _ _ _ (box_on hb x0)]; rfl⟩)
  have H0 := Lib.hid (h.on b0)
  have B0 := Lib.hid b0
  have HW := Lib.hid hw0
  have HK := Lib.hid hk
  have CK := Lib.hid ck
  clear h hs hw0 b0 x0 hk ck hl
  have g6 : decide ((n : Int) ≤ 40) = decide (n ≤ 40) := by rw [Bool.eq_iff_iff]; simp; omega
  generalize decide (n ≤ 40) = q1 at *
  cases q1
  · go_enter Tryz.func28, Tryz.ntmps28
    go_wp2
    go_ret
    exact ⟨ret_bool (by simp), by rw [← HW.out]; exact B0.out⟩
  go_enter Tryz.func28, Tryz.ntmps28
  go_wp2_with fail
  rw [← HW.out]
  refine (HK.out _).mono ?_
  rintro e w1 ⟨rfl, b1⟩
  obtain ⟨d0, d1⟩ := D.out _ b1
  have B1 := Lib.hid b1
  have H1 := Lib.hid (H0.out.on b1)
  clear b1
  cases q2
  · go_wp2
    go_ret
    exact ⟨ret_bool (by simp), B0.out.trans (B1.out.mono B0.out.size)⟩
  go_wp2_with fail
  refine (CK.out _ H1.out).mono ?_
  rintro e w2 ⟨rfl, b2⟩
  have B2 := Lib.hid (B0.out.trans ((B1.out.trans (b2.mono B1.out.size)).mono B0.out.size))
  clear b2
  go_wp2
  go_ret
  exact ⟨ret_bool (by simp), B2.out⟩

theorem iTreeOk_any (r : Int) (xs : List Nd) (A : Option Addr) (n c : Nat) (w : World) (h : RS w w.heap.size A n xs) (hs : Small.sm xs) (_hc : n ≤ c) (_hc2 : c ≤ 9223372036854775807) :
    Calls Tryz.prog 11 #[.agg #[.int .i64 r, .slice A n c]] w fun e w' => e = .returned (.bool (treeOk r xs)) ∧ Below w.heap.size w w' := by
  have ok := fun w h => itok_any r xs A n c w h hs
  obtain ⟨w0, hw0⟩ : ∃ w0, w0 = w.alloc (.cells #[.int .i64 r, .slice A n c] 26) := ⟨_, rfl⟩
  have b0 : Below w.heap.size w w0 := by rw [hw0]; exact (Below.refl _ _).alloc (Nat.le_refl _) _
  have H0 := Lib.hid (h.on b0)
  have B0 := Lib.hid b0
  have HW := Lib.hid hw0
  have OK := Lib.hid ok
  clear h hs ok hw0 b0
  generalize treeOk r xs = q at *
  go_enter Tryz.func11, Tryz.ntmps11
  go_wp2_with fail
  rw [← HW.out]
  refine (OK.out _ H0.out).mono ?_
  rintro e w1 ⟨rfl, b1⟩
  have B1 := Lib.hid (B0.out.trans (b1.mono B0.out.size))
  clear b1
  go_wp2
  go_ret
  exact ⟨rfl, B1.out⟩

theorem iNewTree_any (w : World) :
    Calls Tryz.prog 14 #[] w fun e w' => ∃ A c F, e = .returned (.agg #[.int .i64 0, .slice A [newNd].length c]) ∧ OwnS w' (.slice A [newNd].length c) [newNd] F ∧ Fresh F w w' ∧ Below w.heap.size w w' := by
  go_enter Tryz.func14, Tryz.ntmps14
  go_wp2
  have hb : Below w.heap.size w ((w.alloc (Obj.cells #[.int .i64 0, .slice (some ⟨w.heap.size + 1, 0, none⟩) 1 1] 26)).alloc (Obj.cells #[.int .i64 0, .slice none 0 0, .int .i64 (-1), .int .i64 (-1), .int .i64 0] 38)) := ((Below.refl _ _).alloc (Nat.le_refl _) _).alloc (by simp) _
  have ho := World.ownsRow_lit (base := 0) (e := 38) (size := 5) (w.alloc (Obj.cells #[.int .i64 0, .slice (some ⟨w.heap.size + 1, 0, none⟩) 1 1] 26)) #[.int .i64 0, .slice none 0 0, .int .i64 (-1), .int .i64 (-1), .int .i64 0] 1 (Nat.zero_le _) (by unfold maxLen; omega) rfl
  have hs : (w.alloc (Obj.cells #[.int .i64 0, .slice (some ⟨w.heap.size + 1, 0, none⟩) 1 1] 26)).heap.size = w.heap.size + 1 := by simp
  rw [hs] at ho
  refine bodyPost_ret (v := .agg #[.int .i64 0, .slice (some ⟨w.heap.size + 1, 0, none⟩) 1 1]) (by simp [results, Tryz.results14, go_sem]) rfl ⟨some ⟨w.heap.size + 1, 0, none⟩, 1, fun k => k = w.heap.size + 1, rfl, ?_, ?_, hb⟩
  · refine ⟨[[.int .i64 0, .slice none 0 0, .int .i64 (-1), .int .i64 (-1), .int .i64 0]], fun _ _ => False, ho, rfl, fun i hi => ?_, fun i hi k hk => absurd hk id, fun i j hi hj hij k hk => absurd hk id, fun k hk => by simpa [Value.ownBlock] using hk.symm⟩
    obtain rfl : i = 0 := by simpa using hi
    exact ⟨.slice none 0 0, rfl, World.ownsRow_nil _ _ _ _, fun k hk => by simp [Value.ownBlock] at hk⟩
  · intro k hk
    subst hk
    exact ⟨by omega, by simp⟩
end Go.Proofs.YtjdbehijghjfbaaGreat
namespace Go.Proofs.YtjdbehijghjfbaaGreat
open Go.RowKit Go.Shelf

theorem Right.ri_ge {n : Nat} {r : Int} {xs : List Nd} (h : Right n r xs) (i : Nat) (hi : i < n) : -1 ≤ riAt xs i := by
  have := (h.good i hi).1
  unfold nodeOk numB inB at this
  simp only [Bool.and_eq_true, Bool.or_eq_true, decide_eq_true_eq] at this
  unfold riAt
  grind
theorem firstF_ge (xs : List Nd) (lev : Int) : ∀ (f a : Nat), -1 ≤ firstF xs lev f a := by
  intro f
  induction f with
  | zero => intro a; simp only [firstF]; omega
  | succ f ih =>
    intro a
    simp only [firstF]
    split
    · split
      · exact ih _
      · omega
    · split <;> omega
theorem firstT_ge (r : Int) (xs : List Nd) (lev : Int) : -1 ≤ firstT r xs lev := firstF_ge xs lev 7 _

set_option maxRecDepth 100000 in
set_option maxHeartbeats 1000000 in
theorem iFirst_any (r : Int) (xs : List Nd) (A : Option Addr) (n c : Nat) (lev : Int) (w : World) (h : RS w w.heap.size A n xs) (hR : Right n r xs) :
    Calls Tryz.prog 30 #[.agg #[.int .i64 r, .slice A n c], .int .i64 lev] w fun e w' => e = .returned (.int .i64 (firstT r xs lev)) ∧ Below w.heap.size w w' := by
  obtain ⟨a0, rfl, han⟩ : ∃ a0 : Nat, r = a0 ∧ a0 < n := ⟨r.toNat, by have := hR.root; omega, by have := hR.root; omega⟩
  have HR := Lib.hid hR
  have hn40 := hR.most
  obtain ⟨w0, hw0⟩ : ∃ w0, w0 = w.alloc (.cells #[.int .i64 a0, .slice A n c] 26) := ⟨_, rfl⟩
  have b0 : Below w.heap.size w w0 := by rw [hw0]; exact (Below.refl _ _).alloc (Nat.le_refl _) _
  have x0 : w0.heap[w.heap.size]? = some (.cells #[.int .i64 a0, .slice A n c] 26 (0, 0)) := by rw [hw0]; exact heap_alloc_new _ _
  have d1 : ∀ wx, Below w0.heap.size w0 wx → wx.cell? ⟨w.heap.size, 1, none⟩ = some (.slice A n c) := fun wx hb => by rw [cell_of_row _ _ 1 _ _ _ (box_on hb x0)]; rfl
  have D1 := Lib.hid d1
  have hh0 := h.on b0
  have HH := Lib.hid hh0
  have B0 := Lib.hid b0
  have hsz : w.heap.size < w0.heap.size := by rw [hw0]; simp
  have E0 : Hid (firstT a0 xs lev = firstF xs lev 7 a0) := Lib.hid rfl
  have hlv := hR.lv a0 han
  rw [E0.out]
  clear E0
  by_cases hneg : lev < 0
  · have g1 : decide (lev < 0) = true := by simpa using hneg
    have E1 : Hid (firstF xs lev 7 a0 = -1) := Lib.hid (by rw [firstF_here _ _ _ _ (by omega), if_neg (by omega)])
    have HW := Lib.hid hw0
    clear h hw0 b0 x0 hR d1 hlv hh0
    go_enter Tryz.func30, Tryz.ntmps30
    go_wp2
    go_ret
    exact ⟨ret_int E1.out.symm, by rw [← HW.out]; exact B0.out⟩
  have g1 : decide (lev < 0) = false := by simpa using hneg
  obtain ⟨b, off, rfl, hb, hc⟩ := hh0.nd (by omega)
  obtain ⟨_, _, _, c0, _⟩ := hc a0 han
  change w0.cell? _ = some (.int .i64 (lvAt xs a0)) at c0
  rw [hw0] at c0
  by_cases hbig : lvAt xs a0 < lev
  · have g2 : decide (lvAt xs a0 < lev) = true := by simpa using hbig
    have E1 : Hid (firstF xs lev 7 a0 = -1) := Lib.hid (by rw [firstF_here _ _ _ _ (by omega), if_neg (by omega)])
    have HW := Lib.hid hw0
    clear h hw0 b0 x0 hR d1 hh0 hc
    generalize lvAt xs a0 = l at *
    go_enter Tryz.func30, Tryz.ntmps30
    go_wp2
    go_ret
    exact ⟨ret_int E1.out.symm, by rw [← HW.out]; exact B0.out⟩
  have g2 : decide (lvAt xs a0 < lev) = false := by simpa using hbig
  have HW := Lib.hid hw0
  have hl0 : Hid (lev ≤ lvAt xs a0) := Lib.hid (by omega)
  clear h hw0 b0 x0 hR d1 hh0 hlv hbig
  have HC := Lib.hid hc
  clear hc
  go_enter Tryz.func30, Tryz.ntmps30
  go_wp2
  clear c0
  change Code.wp _ _ _ _ (w.alloc (.cells #[.int .i64 a0, .slice (some ⟨b, off, none⟩) n c] 26))
  rw [← HW.out]
  go_loopw [5, 6] (fun i l wr => ∃ a f : Nat, i = .int .i64 a ∧ l = .int .i64 (lvAt xs a) ∧ a < n ∧ Hid (lev ≤ lvAt xs a) ∧ Hid (firstF xs lev 7 a0 = firstF xs lev f a) ∧ Hid (lvAt xs a < f) ∧ Hid (Below w0.heap.size w0 wr)) (fun _ l _ => (intOf l).toNat)
  case atStart => exact ⟨a0, 7, rfl, rfl, han, hl0, Lib.hid rfl, Lib.hid (by have := (HR.out.lv a0 han).2; omega), Lib.hid (Below.refl _ _)⟩
  case round =>
    obtain ⟨a, f, rfl, rfl, ha, hle, he, hf, hbw⟩ := hrel
    have d1 := D1.out _ hbw.out
    clear han g2 hl0
    have hlv := HR.out.lv a ha
    obtain ⟨f, rfl⟩ : ∃ g, f = g + 1 := ⟨f - 1, by have := hf.out; omega⟩
    have hbr : b < wr.heap.size := Nat.lt_of_lt_of_le hb hbw.out.size
    by_cases hgo : lev < lvAt xs a
    · have q1 : decide (lev < lvAt xs a) = true := by simpa using hgo
      obtain ⟨A2, n2, c2, c0, c1, _, _, _, hP, _⟩ := (HC.out a ha).keep (w' := wr) hb (fun p hp => hbw.out.cell hp)
      change wr.cell? _ = some (.int .i64 (lvAt xs a)) at c0
      obtain ⟨hp0, hkn, hkv⟩ := HR.out.kid a ha (by omega)
      obtain ⟨A3, n3, c3, k0, _, _, _, _, _, _⟩ := (HC.out (kid0 xs a) hkn).keep (w' := wr) hb (fun p hp => hbw.out.cell hp)
      change wr.cell? _ = some (.int .i64 (lvAt xs (kid0 xs a))) at k0
      have hp2 : 0 < n2 := by rw [← hP.1]; exact hp0
      obtain ⟨b2, off2, rfl, hb2, hc2⟩ := hP.2 hp2
      have cv := (hc2 0 hp2).2
      rw [hkv] at cv
      simp only [Nat.zero_mul, Nat.add_zero] at cv
      have E1 : Hid (lvAt xs (kid0 xs a) ≠ lvAt xs a - 1 → firstF xs lev (f + 1) a = -1) := Lib.hid (firstF_none xs lev f a ⟨hgo, by omega⟩)
      have E2 : Hid (lvAt xs (kid0 xs a) = lvAt xs a - 1 → firstF xs lev (f + 1) a = firstF xs lev f (kid0 xs a)) := Lib.hid (firstF_down xs lev f a ⟨hgo, by omega⟩)
      have hlb : lvAt xs a ≤ 6 := hlv.2
      have hl1 : 1 ≤ lvAt xs a := by omega
      have HG := Lib.hid hgo
      have HLV := Lib.hid hlv
      have HKL := Lib.hid (HR.out.lv (kid0 xs a) hkn)
      clear hc2 hkv hP hgo hlv hp0
      generalize kid0 xs a = k at *
      by_cases hk : lvAt xs k = lvAt xs a - 1
      · have qk : (lvAt xs k != lvAt xs a - 1) = false := by simp [hk]
        have HK := Lib.hid hk
        clear hk
        go_wp2
        go_roundw
        case rel => exact ⟨k, f, rfl, by rw [HK.out], hkn, Lib.hid (by have := HK.out; have := HG.out; omega), Lib.hid (by rw [he.out, E2.out HK.out]), Lib.hid (by have := hf.out; have := HK.out; omega), hbw⟩
        case measure => simp [intOf]; omega
      · have qk : (lvAt xs k != lvAt xs a - 1) = true := by simpa using hk
        have HK := Lib.hid hk
        clear hk
        go_wp2
        go_ret
        exact ⟨ret_int (by rw [he.out, E1.out HK.out]), B0.out.trans (hbw.out.mono B0.out.size)⟩
    · have q1 : decide (lev < lvAt xs a) = false := by simpa using hgo
      have E1 : Hid (firstF xs lev (f + 1) a = a) := Lib.hid (by rw [firstF_here _ _ _ _ (by omega), if_pos (by have := hle.out; omega)])
      generalize lvAt xs a = l at *
      go_wp2
      go_ret
      exact ⟨ret_int (by rw [he.out, E1.out]), B0.out.trans (hbw.out.mono B0.out.size)⟩
end Go.Proofs.YtjdbehijghjfbaaGreat
namespace Go.Proofs.YtjdbehijghjfbaaGreat
open Go.RowKit Go.Shelf

attribute [local go_sem] Oper.semAt_some

structure KeepB (B Bt : Nat) (W W' : World) : Prop where
  size : W.heap.size ≤ W'.heap.size
  block : ∀ k, k < B ∨ k = Bt → W'.heap[k]? = W.heap[k]?
theorem KeepB.refl (B Bt : Nat) (W : World) : KeepB B Bt W W := ⟨Nat.le_refl _, fun _ _ => rfl⟩
theorem KeepB.trans {B Bt : Nat} {X Y Z : World} (h : KeepB B Bt X Y) (k : KeepB B Bt Y Z) : KeepB B Bt X Z := ⟨Nat.le_trans h.size k.size, fun i hi => (k.block i hi).trans (h.block i hi)⟩
theorem keepB_t {B Bt : Nat} {X Y Z : World} (h : KeepB B Bt X Y) (k : KeepB B Bt Y Z) : KeepB B Bt X Z := h.trans k
theorem putObj_other (W : World) (l k : Nat) (o' : Obj) (h : k ≠ l) : (W.putObj l o').heap[k]? = W.heap[k]? := by
  by_cases hk : k < W.heap.size
  · exact (grownBy_putObj' W l o').block k hk (by intro e; cases e; exact h rfl)
  · have e2 : (W.putObj l o').heap.size = W.heap.size := by simp [World.putObj]
    simp [hk, e2]
theorem keepB_b {B Bt : Nat} {w : World} (hn : B ≤ w.heap.size) (ht : Bt < w.heap.size) (W : World) (l : Nat) (o o' : Obj) (hl : w.heap.size ≤ l) (_ : W.heap[l]? = some o) (_ : o.isCells = false) (_ : o.isWalk = false) : KeepB B Bt W (W.putObj l o') :=
  ⟨(grownBy_putObj' W l o').size, fun k hk => putObj_other W l k o' (by omega)⟩
theorem KeepB.cell {B Bt : Nat} {W W' : World} (h : KeepB B Bt W W') (p : Addr) (hb : p.block < B) : W'.cell? p = W.cell? p := by
  unfold World.cell?
  rw [h.block _ (.inl hb)]

set_option maxRecDepth 100000 in
set_option maxHeartbeats 1000000 in
theorem along1_in (F : Fence) (nn : Nat) (hF : F.fn 51) (hro : F.round = none) (hnn : 1 ≤ nn) (l Bx Bt B : Nat) (r x0 : Int) (xs : List Nd) (A : Option Addr) (n c : Nat)
    (hR : Right n r xs) (hx0 : x0 < n) (hx1 : -1 ≤ x0) (J Jx : List Int → World → Prop)
    (hY : ∀ pre x W, J pre W → pre.length < 40 → YieldAt F (nn - 1) Tryz.prog l #[.int .i64 x] W fun e W' =>
      (e = .returned (.bool true) ∧ J (pre ++ [x]) W' ∧ KeepB B Bt W W') ∨ (e = .returned (.bool false) ∧ Jx (pre ++ [x]) W'))
    (W : World) (hbx : W.heap[Bx]? = some (.cells #[.int .i64 x0] 2 (0, 0))) (hbt : W.heap[Bt]? = some (.cells #[.int .i64 r, .slice A n c] 26 (0, 0)))
    (hT : RS W B A n xs) (h0 : J [] W) :
    CallsIn F nn Tryz.prog 51 #[.func (.yield l) #[] #[], .pointer (some ⟨Bx, 0, none⟩), .pointer (some ⟨Bt, 0, none⟩)] W fun e W' => (∃ v, e = .returned v) ∧
      ((∃ ys, ys = rowF xs 40 x0 ∧ J ys W') ∨ (∃ pre, pre <+: rowF xs 40 x0 ∧ Jx pre W')) := by
  have HR := Lib.hid hR
  have HT := Lib.hid hT
  have D0 : Hid (∀ wx, KeepB B Bt W wx → wx.cell? ⟨Bt, 1, none⟩ = some (.slice A n c)) := Lib.hid (fun wx hk => by rw [cell_of_row _ _ 1 _ _ _ ((hk.block _ (.inr rfl)).trans hbt)]; rfl)
  have hcx : W.cell? ⟨Bx, 0, none⟩ = some (.int .i64 x0) := by rw [cell_of_row _ _ 0 _ _ _ hbx]; rfl
  have HK : Hid (∀ wx, KeepB B Bt W wx → ∀ p : Addr, p.block < B → wx.cell? p = W.cell? p) := Lib.hid (fun wx hk p hp => hk.cell p hp)
  have HX0 := Lib.hid hx0
  have HX1 := Lib.hid hx1
  have HY := Lib.hid hY
  have H0 := Lib.hid h0
  clear hR hT hbt hbx hx0 hx1 hY h0
  refine callsIn_of_wp Tryz.func51 rfl hF ?_ hro
  simp only [Tryz.ntmps51, List.size_toArray, List.length_cons, List.length_nil, Nat.reduceAdd, Nat.reduceSub, Array.replicate_succ, Array.replicate_zero, List.push_toArray, List.append_toArray, List.nil_append, List.cons_append]
  gi_wp2
  gi_loopw [4, 6] (fun a i wr => ∃ (k : Nat) (x : Int) (pre : List Int), a = .int .i64 x ∧ i = .int .i64 k ∧ k ≤ 40 ∧ Hid (pre.length = k) ∧ Hid (rowF xs 40 x0 = pre ++ rowF xs (40 - k) x) ∧ Hid (x < n) ∧ Hid (-1 ≤ x) ∧ Hid (KeepB B Bt W wr) ∧ Hid (J pre wr))
    (fun _ i _ => 40 - (intOf i).toNat)
  case atStart => exact ⟨0, x0, [], rfl, rfl, by omega, Lib.hid rfl, Lib.hid rfl, HX0, HX1, Lib.hid (KeepB.refl _ _ _), H0⟩
  case round =>
    obtain ⟨k, x, pre, rfl, rfl, hk, hpl, hrow, hx, hx1, hkb, hJ⟩ := hrel
    clear hcx
    by_cases hk4 : k < 40
    · have g1 : decide ((k : Int) < 40) = true := by simp; omega
      by_cases hm : x = -1
      · have g2 : (x == -1) = true := by simpa using hm
        have E : Hid (rowF xs 40 x0 = pre) := Lib.hid (by rw [hrow.out, rowF_end _ _ _ (by omega)]; simp)
        clear hm
        gi_wp2
        refine ⟨fun _ h => (by cases h), ?_⟩
        gi_wp2
        refine bodyPost_ret (results_none rfl _ _ _) rfl ?_
        exact ⟨⟨_, rfl⟩, .inl ⟨pre, E.out.symm, hJ.out⟩⟩
      · have g2 : (x == -1) = false := by simpa using hm
        obtain ⟨a, rfl⟩ : ∃ a : Nat, x = a := ⟨x.toNat, by have := hx1.out; omega⟩
        have ha : a < n := by have := hx.out; omega
        obtain ⟨f, hf⟩ : ∃ f, 40 - k = f + 1 := ⟨39 - k, by omega⟩
        have hf2 : Hid (40 - (k + 1) = f) := Lib.hid (by omega)
        have E : Hid (rowF xs 40 x0 = (pre ++ [(a : Int)]) ++ rowF xs f (riAt xs a)) := Lib.hid (by rw [hrow.out, hf, rowF_go]; simp)
        clear hm hf
        obtain ⟨fn, tmps, assign, body, hy, hYR⟩ := HY.out pre (a : Int) wr hJ.out (by rw [hpl.out]; exact hk4)
        gi_wp2
        refine hYR.mono ?_
        rintro e W3 (⟨rfl, hJ3, hk3⟩ | ⟨rfl, hJx3⟩)
        · have hkW := hkb.out.trans hk3
          have d1 := D0.out _ hkW
          obtain ⟨b, off, rfl, hb, hc⟩ := HT.out.nd (by omega)
          obtain ⟨_, _, _, _, _, _, c3, _, _, _⟩ := (hc a ha).keep (w' := W3) hb (fun p hp => HK.out _ hkW p hp)
          change W3.cell? _ = some (.int .i64 (riAt xs a)) at c3
          have HJ3 := Lib.hid hJ3
          have HKW := Lib.hid hkW
          have R1 := Lib.hid (HR.out.ri a ha)
          have R2 := Lib.hid (HR.out.ri_ge a ha)
          clear hc hJ3 hkW hk3
          generalize riAt xs a = z at *
          gi_wp2
          go_roundw
          case rel => exact ⟨k + 1, z, pre ++ [(a : Int)], rfl, by go_num, by omega, Lib.hid (by rw [List.length_append, hpl.out]; rfl), Lib.hid (by rw [hf2.out]; exact E.out), R1, R2, HKW, HJ3⟩
          case measure => simp [intOf]; omega
        · gi_wp2
          refine bodyPost_ret (results_none rfl _ _ _) rfl ?_
          exact ⟨⟨_, rfl⟩, .inr ⟨pre ++ [(a : Int)], ⟨rowF xs f (riAt xs a), E.out.symm⟩, hJx3⟩⟩
    · have g1 : decide ((k : Int) < 40) = false := by simp; omega
      obtain rfl : k = 40 := by omega
      have E : Hid (rowF xs 40 x0 = pre) := Lib.hid (by rw [hrow.out]; simp [rowF])
      gi_wp2
      go_end0
      exact ⟨⟨_, rfl⟩, .inl ⟨pre, E.out.symm, hJ.out⟩⟩

set_option maxHeartbeats 1000000 in
theorem along_in (F : Fence) (nn : Nat) (hF : F.fn 29) (hro : F.round = none) (r x : Int) (A : Option Addr) (n c : Nat) (w : World) :
    CallsIn F nn Tryz.prog 29 #[.agg #[.int .i64 r, .slice A n c], .int .i64 x] w fun e w' => e = .returned (.func (.func 51) #[] #[.pointer (some ⟨w.heap.size + 1, 0, none⟩), .pointer (some ⟨w.heap.size, 0, none⟩)]) ∧
      w' = (w.alloc (.cells #[.int .i64 r, .slice A n c] 26)).alloc (.cells #[.int .i64 x] 2) := by
  refine callsIn_of_wp Tryz.func29 rfl hF ?_ hro
  simp only [Tryz.ntmps29, List.size_toArray, List.length_cons, List.length_nil, Nat.reduceAdd, Nat.reduceSub, Array.replicate_succ, Array.replicate_zero, List.push_toArray, List.append_toArray, List.nil_append, List.cons_append]
  gi_wp2
  go_ret
  exact ⟨rfl, rfl⟩

theorem along_stops (F : Fence) (nn : Nat) (hF : F.fn 51) (hro : F.round = none) (hnn : 1 ≤ nn) (Bx Bt B : Nat) (r x0 : Int) (xs : List Nd) (A : Option Addr) (n c : Nat)
    (hR : Right n r xs) (hx0 : x0 < n) (hx1 : -1 ≤ x0) (w : World) (hbx : w.heap[Bx]? = some (.cells #[.int .i64 x0] 2 (0, 0))) (hbt : w.heap[Bt]? = some (.cells #[.int .i64 r, .slice A n c] 26 (0, 0)))
    (hT : RS w B A n xs) (hB : B ≤ w.heap.size) :
    SeqStopsK F nn Tryz.prog 51 #[.pointer (some ⟨Bx, 0, none⟩), .pointer (some ⟨Bt, 0, none⟩)] (fun x : Int => #[Value.int .i64 x]) (KeepB B Bt) (fun ys => ys = rowF xs 40 x0) (fun pre => pre <+: rowF xs 40 x0) 40 w := fun l J Jx W hW _ _ hY h0 =>
  along1_in F nn hF hro hnn l Bx Bt B r x0 xs A n c hR hx0 hx1 J Jx hY W (box_on hW hbx) (box_on hW hbt) (hT.below (hW.mono hB)) h0
end Go.Proofs.YtjdbehijghjfbaaGreat
