/- The law FnNodes, walked: it returns true, and nothing that was there is turned, if the code's own functions answer as the model's. -/
import Derived.Test.YtjlbnbmniejidaaD9
namespace Go.Proofs.Ytjlbnbmniejidaa
open Go.RowKit

theorem kid_pos {x : Nd} {key : Int} (h : nodeOk x = true) (hl : 0 < x.lv) : 0 ≤ kidN x key := by
  have hk : kidN x key = vAt x.ps (kidIx x.ps key) := by unfold kidN; simp [h, hl]
  have hp := nodeOk_kids h hl
  unfold nodeOk at h
  simp only [Bool.and_eq_true, Bool.or_eq_true, decide_eq_true_eq] at h
  have hkids : kidsB x.ps = true := by
    rcases h.1.1.2 with h' | h'
    · omega
    · exact h'
  have hix : kidIx x.ps key < x.ps.length := by
    have h1 : kidIx x.ps key ≤ x.ps.tail.length := List.findIdx_le_length
    rw [List.length_tail] at h1
    omega
  have := ((kidsB_iff _).1 hkids).1 _ hix
  rw [hk]
  unfold numB inB at this
  simp at this
  exact this.1
theorem right_pos {x : Nd} (h : nodeOk x = true) (hh : x.hi ≠ -1) : 0 ≤ x.ri := by
  unfold nodeOk at h
  rw [if_neg hh] at h
  simp only [Bool.and_eq_true] at h
  have := h.2.1.2
  unfold numB inB at this
  simp at this
  exact this.1

set_option maxRecDepth 100000 in
set_option maxHeartbeats 4000000 in
theorem lawNodes_walk (A : Option Addr) (n c : Nat) (w : World) (h : Bys w w.heap.size A n) (hm : n ≤ 9223372036854775807)
    (iW : ∀ (x : Nd) (key : Int) (A : Option Addr) (n c : Nat) (w : World), RP w w.heap.size A n x.ps → n ≤ 1048576 → n ≤ c → c ≤ 9223372036854775807 → Calls Try.prog 27 #[ndV x A n c, .int .i64 key] w fun e w' => e = .returned (.bool (nodeOk x && inside x key)) ∧ Below w.heap.size w w')
    (iK : ∀ (x : Nd) (key : Int) (A : Option Addr) (n c : Nat) (w : World), RP w w.heap.size A n x.ps → n ≤ 1048576 → n ≤ c → c ≤ 9223372036854775807 → Calls Try.prog 28 #[ndV x A n c, .int .i64 key] w fun e w' => e = .returned (.int .i64 (kidN x key)) ∧ Below w.heap.size w w')
    (iN : ∀ (x : Nd) (A : Option Addr) (n c : Nat) (w : World), RP w w.heap.size A n x.ps → n ≤ 1048576 → n ≤ c → c ≤ 9223372036854775807 → Calls Try.prog 30 #[ndV x A n c] w fun e w' => e = .returned (.bool (nodeOk x)) ∧ Below w.heap.size w w') :
    Calls Try.prog 4 #[.slice A n c] w fun e w' => e = .returned (.bool true) ∧ Below w.heap.size w w' := by
  have HH := Lib.hid h
  have IW := Lib.hid iW
  have IK := Lib.hid iK
  have IN := Lib.hid iN
  clear h iW iK iN
  by_cases hn : 4096 < n
  · have hd : ∀ w, Calls Try.prog 12 #[.slice A n c] w fun e w' => e = .returned (.bool true) ∧ w = w' := fun w => by
      have := big_any A n c w hm; rwa [decide_eq_true hn] at this
    go_enter Try.func4, Try.ntmps4
    go_wp2_with (go_at_call 12; refine (hd _).mono ?_; rintro e w1 ⟨rfl, rfl⟩)
    go_ret
    exact ⟨rfl, Below.refl _ _⟩
  have hd : ∀ w, Calls Try.prog 12 #[.slice A n c] w fun e w' => e = .returned (.bool false) ∧ w = w' := fun w => by
    have := big_any A n c w hm; rwa [decide_eq_false hn] at this
  have hn : n ≤ 4096 := by omega
  have HD := Lib.hid hd
  clear hd
  go_enter Try.func4, Try.ntmps4
  go_wp2_with (go_at_call 12; refine (HD.out _).mono ?_; rintro e w1 ⟨rfl, rfl⟩)
  -- n, key
  refine (dWith_any A n c _ HH.out hn).mono ?_
  rintro e w1 ⟨⟨lv, zs, hi, ri, ow⟩, A1, c1, key, rfl, o1, hz1, b1⟩
  have cap1 := own_cap o1
  obtain ⟨cap11, cap12⟩ := cap1
  have hz1' : zs.length ≤ 41 := hz1
  have wI : ∀ w, RP w w.heap.size A1 zs.length zs → Calls Try.prog 27 #[ndV ⟨lv, zs, hi, ri, ow⟩ A1 zs.length c1, .int .i64 key] w fun e w' => e = .returned (.bool (nodeOk ⟨lv, zs, hi, ri, ow⟩ && inside ⟨lv, zs, hi, ri, ow⟩ key)) ∧ Below w.heap.size w w' := fun w hR => IW.out _ key A1 _ c1 w hR (by omega) cap11 cap12
  have wS : ∀ w, RP w w.heap.size A1 zs.length zs → Calls Try.prog 29 #[ndV ⟨lv, zs, hi, ri, ow⟩ A1 zs.length c1, .int .i64 key] w fun e w' => e = .returned (.bool (nodeOk ⟨lv, zs, hi, ri, ow⟩ && inside ⟨lv, zs, hi, ri, ow⟩ key)) ∧ Below w.heap.size w w' := fun w hR => sWithin_any _ key A1 _ c1 w hR (by omega)
  have kI : ∀ w, RP w w.heap.size A1 zs.length zs → Calls Try.prog 28 #[ndV ⟨lv, zs, hi, ri, ow⟩ A1 zs.length c1, .int .i64 key] w fun e w' => e = .returned (.int .i64 (kidN ⟨lv, zs, hi, ri, ow⟩ key)) ∧ Below w.heap.size w w' := fun w hR => IK.out _ key A1 _ c1 w hR (by omega) cap11 cap12
  have kS : ∀ w, RP w w.heap.size A1 zs.length zs → Calls Try.prog 32 #[ndV ⟨lv, zs, hi, ri, ow⟩ A1 zs.length c1, .int .i64 key] w fun e w' => e = .returned (.int .i64 (kidN ⟨lv, zs, hi, ri, ow⟩ key)) ∧ Below w.heap.size w w' := fun w hR => sKidFor_any _ key A1 _ c1 w hR (by omega)
  have nS : ∀ w, RP w w.heap.size A1 zs.length zs → Calls Try.prog 31 #[ndV ⟨lv, zs, hi, ri, ow⟩ A1 zs.length c1] w fun e w' => e = .returned (.bool (nodeOk ⟨lv, zs, hi, ri, ow⟩)) ∧ Below w.heap.size w w' := fun w hR => sNode_any _ A1 _ c1 w hR (by omega)
  have facts : (nodeOk ⟨lv, zs, hi, ri, ow⟩ = false → kidN ⟨lv, zs, hi, ri, ow⟩ key = -1) ∧ (nodeOk ⟨lv, zs, hi, ri, ow⟩ = true → 0 ≤ lv ∧ (0 < lv → 0 ≤ kidN ⟨lv, zs, hi, ri, ow⟩ key) ∧ (lv = 0 → kidN ⟨lv, zs, hi, ri, ow⟩ key = -1) ∧ (hi ≠ -1 → 0 ≤ ri)) :=
    ⟨fun h => by unfold kidN; simp [h], fun h => ⟨nodeOk_lv h, fun hl => kid_pos h hl, fun hl => by unfold kidN; simp [hl], fun hh => right_pos h hh⟩⟩
  have hin : inside ⟨lv, zs, hi, ri, ow⟩ key = (decide (hi = -1) || decide (key < hi)) := rfl
  generalize nodeOk ⟨lv, zs, hi, ri, ow⟩ = OKx at *
  generalize inside ⟨lv, zs, hi, ri, ow⟩ key = INx at *
  generalize kidN ⟨lv, zs, hi, ri, ow⟩ key = KID at *
  simp only [ndV] at *
  generalize hl : zs.length = l at *
  have HLL := Lib.hid hl
  have WI := Lib.hid wI
  have WS := Lib.hid wS
  have KI := Lib.hid kI
  have KS := Lib.hid kS
  have NS := Lib.hid nS
  have FA := Lib.hid facts
  have HIN := Lib.hid hin
  have O1 := Lib.hid o1
  have B1 := Lib.hid b1
  clear hl wI wS kI kS nS facts hin o1 b1
  go_wp2_with fail
  obtain ⟨wp, hwp⟩ : ∃ wp, wp = w1.alloc (.cells #[.int .i64 lv, .slice A1 l c1, .int .i64 hi, .int .i64 ri, .int .i64 ow] 40) := ⟨_, rfl⟩
  have bp : Below w1.heap.size w1 wp := by rw [hwp]; exact (Below.refl _ _).alloc (Nat.le_refl _) _
  have rp : wp.heap[w1.heap.size]? = some (.cells #[.int .i64 lv, .slice A1 l c1, .int .i64 hi, .int .i64 ri, .int .i64 ow] 40 (0, 0)) := by rw [hwp]; exact heap_alloc_new w1 _
  rw [← hwp]
  have X2 := Lib.hid (row_below rp (Below.refl _ _))
  have O2 := Lib.hid (own_on O1.out bp)
  have B2 := Lib.hid (bel_on B1.out bp)
  clear hwp bp rp O1 B1
  generalize w1.heap.size = xb at *
  -- k
  refine (dNode_any A n c _ (bys_on HH.out B2.out) hn).mono ?_
  rintro e w3 ⟨⟨lv', zs', hi', ri', ow'⟩, A3, c3, rfl, o3, hz3, b3⟩
  obtain ⟨cap31, cap32⟩ := own_cap o3
  have hz3' : zs'.length ≤ 41 := hz3
  have n3I : ∀ w, RP w w.heap.size A3 zs'.length zs' → Calls Try.prog 30 #[ndV ⟨lv', zs', hi', ri', ow'⟩ A3 zs'.length c3] w fun e w' => e = .returned (.bool (nodeOk ⟨lv', zs', hi', ri', ow'⟩)) ∧ Below w.heap.size w w' := fun w hR => IN.out _ A3 _ c3 w hR (by omega) cap31 cap32
  have n3S : ∀ w, RP w w.heap.size A3 zs'.length zs' → Calls Try.prog 31 #[ndV ⟨lv', zs', hi', ri', ow'⟩ A3 zs'.length c3] w fun e w' => e = .returned (.bool (nodeOk ⟨lv', zs', hi', ri', ow'⟩)) ∧ Below w.heap.size w w' := fun w hR => sNode_any _ A3 _ c3 w hR (by omega)
  generalize nodeOk ⟨lv', zs', hi', ri', ow'⟩ = OKk at *
  simp only [ndV] at *
  generalize zs'.length = l' at *
  have NI3 := Lib.hid n3I
  have NS3 := Lib.hid n3S
  have X3 := Lib.hid (row_below X2.out b3)
  have O3 := Lib.hid (own_on O2.out b3)
  have P3 := Lib.hid o3
  have B3 := Lib.hid (bel_on B2.out b3)
  clear n3I n3S o3 b3 X2 O2 B2
  obtain ⟨z0, z1, z2, z3, z4, _⟩ := five X3.out
  have sx : xb < w3.heap.size := row_lt X3.out
  go_wp2_with fail
  clear z0 z1 z2 z3 z4 sx
  obtain ⟨wq, hwq⟩ : ∃ wq, wq = w3.alloc (.cells #[.int .i64 lv', .slice A3 l' c3, .int .i64 hi', .int .i64 ri', .int .i64 ow'] 40) := ⟨_, rfl⟩
  have bq : Below w3.heap.size w3 wq := by rw [hwq]; exact (Below.refl _ _).alloc (Nat.le_refl _) _
  have rq : wq.heap[w3.heap.size]? = some (.cells #[.int .i64 lv', .slice A3 l' c3, .int .i64 hi', .int .i64 ri', .int .i64 ow'] 40 (0, 0)) := by rw [hwq]; exact heap_alloc_new w3 _
  rw [← hwq]
  have X4 := Lib.hid (row_below X3.out bq)
  have Y4 := Lib.hid (row_below rq (Below.refl _ _))
  have O4 := Lib.hid (own_on O3.out bq)
  have P4 := Lib.hid (own_on P3.out bq)
  have B4 := Lib.hid (bel_on B3.out bq)
  clear hwq bq rq X3 O3 P3 B3
  generalize w3.heap.size = yb at *
  refine (WI.out _ (RP.own O4.out)).mono ?_
  rintro e w5 ⟨rfl, b5⟩
  have X5 := Lib.hid (row_below X4.out b5)
  have Y5 := Lib.hid (row_below Y4.out b5)
  have O5 := Lib.hid (own_on O4.out b5)
  have P5 := Lib.hid (own_on P4.out b5)
  have B5 := Lib.hid (bel_on B4.out b5)
  clear b5 X4 Y4 O4 P4 B4
  obtain ⟨a0, a1, a2, a3, a4, _⟩ := five X5.out
  go_wp2_with fail
  refine (KI.out _ (RP.own O5.out)).mono ?_
  rintro e w6 ⟨rfl, b6⟩
  have X6 := Lib.hid (row_below X5.out b6)
  have Y6 := Lib.hid (row_below Y5.out b6)
  have O6 := Lib.hid (own_on O5.out b6)
  have P6 := Lib.hid (own_on P5.out b6)
  have B6 := Lib.hid (bel_on B5.out b6)
  clear b6 X5 Y5 O5 P5 B5 a0 a1 a2 a3 a4
  generalize hIS : (OKx && INx) = IS at *
  have HIS := Lib.hid hIS
  clear hIS
  have XL : ∀ s : Later w6, s.wd.heap[xb]? = some (.cells #[.int .i64 lv, .slice A1 l c1, .int .i64 hi, .int .i64 ri, .int .i64 ow] 40 (0, 0)) := fun s => row_below X6.out s.below
  have YL : ∀ s : Later w6, s.wd.heap[yb]? = some (.cells #[.int .i64 lv', .slice A3 l' c3, .int .i64 hi', .int .i64 ri', .int .i64 ow'] 40 (0, 0)) := fun s => row_below Y6.out s.below
  have x0 : ∀ s : Later w6, s.wd.cell? ⟨xb, 0, none⟩ = some (.int .i64 lv) := fun s => (five (XL s)).1
  have x1 : ∀ s : Later w6, s.wd.cell? ⟨xb, 1, none⟩ = some (.slice A1 l c1) := fun s => (five (XL s)).2.1
  have x2 : ∀ s : Later w6, s.wd.cell? ⟨xb, 2, none⟩ = some (.int .i64 hi) := fun s => (five (XL s)).2.2.1
  have x3 : ∀ s : Later w6, s.wd.cell? ⟨xb, 3, none⟩ = some (.int .i64 ri) := fun s => (five (XL s)).2.2.2.1
  have x4 : ∀ s : Later w6, s.wd.cell? ⟨xb, 4, none⟩ = some (.int .i64 ow) := fun s => (five (XL s)).2.2.2.2.1
  have y0 : ∀ s : Later w6, s.wd.cell? ⟨yb, 0, none⟩ = some (.int .i64 lv') := fun s => (five (YL s)).1
  have y1 : ∀ s : Later w6, s.wd.cell? ⟨yb, 1, none⟩ = some (.slice A3 l' c3) := fun s => (five (YL s)).2.1
  have y2 : ∀ s : Later w6, s.wd.cell? ⟨yb, 2, none⟩ = some (.int .i64 hi') := fun s => (five (YL s)).2.2.1
  have y3 : ∀ s : Later w6, s.wd.cell? ⟨yb, 3, none⟩ = some (.int .i64 ri') := fun s => (five (YL s)).2.2.2.1
  have y4 : ∀ s : Later w6, s.wd.cell? ⟨yb, 4, none⟩ = some (.int .i64 ow') := fun s => (five (YL s)).2.2.2.2.1
  have RX : Hid (∀ s : Later w6, RP s.wd s.wd.heap.size A1 l zs) := Lib.hid (fun s => (RP.own O6.out).on s.below)
  have RY : Hid (∀ s : Later w6, RP s.wd s.wd.heap.size A3 l' zs') := Lib.hid (fun s => (RP.own P6.out).on s.below)
  clear XL YL
  go_wp2_with fail
  refine wp_region_later (by kernel_rfl) (by kernel_rfl) ?_
  repeat (go_big_quiet_step ((first | (go_at_call 29; exact Calls.later (WS.out _ (RX.out _))) | (go_at_call 30; exact Calls.later (NI3.out _ (RY.out _))) | (go_at_call 31; exact Calls.later (NS3.out _ (RY.out _))) | (go_at_call 32; exact Calls.later (KS.out _ (RX.out _))))))
  refine wpQuiet_nil ?_
  intro _ hw'
  obtain ⟨s, rfl⟩ := hw'
  have X7 := Lib.hid (row_below X6.out s.below)
  have O7 := Lib.hid (own_on O6.out s.below)
  have B7 := Lib.hid (bel_on B6.out s.below)
  clear x0 x1 x2 x3 x4 y0 y1 y2 y3 y4 RX RY
  generalize s.wd = w7 at *
  obtain ⟨a0, a1, a2, a3, a4, _⟩ := five X7.out
  go_wp2_with fail
  refine (NS.out _ (RP.own O7.out)).mono ?_
  rintro e w8 ⟨rfl, b8⟩
  have X8 := Lib.hid (row_below X7.out b8)
  have B8 := Lib.hid (bel_on B7.out b8)
  clear b8 X7 O7 B7 a0 a1 a2 a3 a4
  obtain ⟨a0, a1, a2, a3, a4, _⟩ := five X8.out
  rcases Bool.eq_false_or_eq_true OKx with hO | hO
  · subst hO
    have FF := (FA.out).2 rfl
    obtain ⟨f0, f1, f2, f3⟩ := FF
    by_cases hlv : 0 < lv
    · have k0 := f1 hlv
      have g1 : decide (0 < lv) = true := by simpa using hlv
      have g2 : decide (0 ≤ KID) = true := by simpa using k0
      clear f1 f2 k0 hlv
      by_cases hh : hi = -1
      · have hI1 : IS = true := by have h1 := HIS.out; have h2 := HIN.out; rw [← h1, h2]; simp [hh]
        have e1 : (hi == -1) = true := by simpa using hh
        subst hI1
        clear hh f3
        go_wp2_with fail
        go_ret
        exact ⟨rfl, B8.out⟩
      · have e1 : (hi == -1) = false := by simpa using hh
        have r0 := f3 hh
        by_cases hk : key < hi
        · have hI1 : IS = true := by have h1 := HIS.out; have h2 := HIN.out; rw [← h1, h2]; simp [hk]
          have e2 : decide (key < hi) = true := by simpa using hk
          subst hI1
          clear hh f3 r0 hk
          go_wp2_with fail
          go_ret
          exact ⟨rfl, B8.out⟩
        · have hI1 : IS = false := by have h1 := HIS.out; have h2 := HIN.out; rw [← h1, h2]; simp [hh]; omega
          have e2 : decide (key < hi) = false := by simpa using hk
          have e3 : decide (0 ≤ ri) = true := by simpa using r0
          subst hI1
          clear hh f3 r0 hk
          go_wp2_with fail
          go_ret
          exact ⟨rfl, B8.out⟩
    · have hl0 : lv = 0 := by omega
      have k0 := f2 hl0
      subst hl0
      subst k0
      clear f1 f2 hlv
      by_cases hh : hi = -1
      · have hI1 : IS = true := by have h1 := HIS.out; have h2 := HIN.out; rw [← h1, h2]; simp [hh]
        have e1 : (hi == -1) = true := by simpa using hh
        subst hI1
        clear hh f3
        go_wp2_with fail
        go_ret
        exact ⟨rfl, B8.out⟩
      · have e1 : (hi == -1) = false := by simpa using hh
        have r0 := f3 hh
        by_cases hk : key < hi
        · have hI1 : IS = true := by have h1 := HIS.out; have h2 := HIN.out; rw [← h1, h2]; simp [hk]
          have e2 : decide (key < hi) = true := by simpa using hk
          subst hI1
          clear hh f3 r0 hk
          go_wp2_with fail
          go_ret
          exact ⟨rfl, B8.out⟩
        · have hI1 : IS = false := by have h1 := HIS.out; have h2 := HIN.out; rw [← h1, h2]; simp [hh]; omega
          have e2 : decide (key < hi) = false := by simpa using hk
          have e3 : decide (0 ≤ ri) = true := by simpa using r0
          subst hI1
          clear hh f3 r0 hk
          go_wp2_with fail
          go_ret
          exact ⟨rfl, B8.out⟩
  · subst hO
    have k0 := (FA.out).1 rfl
    subst k0
    have hI0 : IS = false := by have := HIS.out; simpa using this.symm
    subst hI0
    go_wp2_with fail
    go_ret
    exact ⟨rfl, B8.out⟩
end Go.Proofs.Ytjlbnbmniejidaa
