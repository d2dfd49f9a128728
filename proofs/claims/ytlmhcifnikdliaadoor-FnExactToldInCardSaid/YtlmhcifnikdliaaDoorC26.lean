/- The walk of the code's flaws of a row. -/
import Derived.Test.YtlmhcifnikdliaaDoorC25
import Derived.Stop.IfaceNil
namespace Go.Proofs.YtlmhcifnikdliaaDoor
open Go.RowKit

theorem Lows.run {w : World} {b m k : Nat} {f : Int → Option Int} (h : Lows w b m f k) {x : Int} (hx : (Lit.int .i64 x).wf = true) :
    (Instr.lookup 76 (.map (some b)) (.int .i64 x) false).run Tryd.prog w = .ok (.int .i64 ((f x).getD 0)) w := by
  obtain ⟨D, hown, hkeep, _⟩ := h
  obtain ⟨c, hrun, hat, _⟩ := hown.lookup_int lawJ Tryd.underlying76 Tryd.underlying2 (zeroJ w) (keyJ hx)
  rw [hrun, hkeep.at hat]
theorem Right.wfs {n : Nat} {r : Int} {xs : List Nd} (hR : Right n r xs) (a : Nat) (ha : a < n) (h : 0 < (ndAt xs a).lv) : 0 < (ndAt xs a).ps.length ∧ ∀ j, j < (ndAt xs a).ps.length → (Lit.int .i64 (vAt (ndAt xs a).ps j)).wf = true := by
  refine ⟨(hR.kid a ha h).1, fun j hj => ?_⟩
  have := (hR.good a ha).2.2 h j hj
  have := hR.most
  exact wfJ (by omega) (by omega)

set_option maxRecDepth 100000 in
set_option maxHeartbeats 4000000 in
theorem rflaw_any (r : Int) (xs : List Nd) (A : Option Addr) (n c : Nat) (row : List Int) (Ar : Option Addr) (m cr : Nat) (lev : Int) (bh mh : Nat) (bb mb kb : Nat) (f : Int → Option Int) (a0 : Addr) (w : World) (h : RS w w.heap.size A n xs) (hR : Right n r xs)
    (hr : RS w w.heap.size Ar m row) (hm : m ≤ 1048576) (hin : RowIn n row) (hH : Lows w bh mh (lowsF xs row m) (cntF xs row m)) (hB : Lows w bb mb f kb) (hg : w.cell? ⟨0, 0, none⟩ = some (.iface 128 (.pointer (some a0)))) :
    Calls Tryd.prog 45 #[.agg #[.int .i64 r, .slice A n c], .slice Ar m cr, .int .i64 lev, .map (some bh), .map (some bb)] w fun e w' => ∃ v, e = .returned v ∧ ErrV a0 (rowF7 xs row lev f) v ∧ Below w.heap.size w w' := by
  have hl : row.length = m := hr.1
  have hn : n ≤ 40 := hR.most
  have hps : ∀ a, a < n → (ndAt xs a).ps.length ≤ 1048576 := fun a ha => by
    have h2 := (hR.good a ha).1
    unfold nodeOk at h2
    simp only [Bool.and_eq_true, decide_eq_true_eq] at h2
    have := h2.1.1.1.1.2
    omega
  have HIN : Hid (∀ i, i < m → ∃ a : Nat, iAt row i = a ∧ a < n) := Lib.hid (by rw [← hl]; exact hin)
  have Y0 : Hid (m = 0 → rowF7 xs row lev f = false) := Lib.hid (fun e => rowF7_end (.inl (by omega)))
  have Y1 : Hid (twiceB row = true → rowF7 xs row lev f = false) := Lib.hid (fun e => rowF7_end (.inr (.inl e)))
  have Y2 : Hid (∀ a : Nat, iAt row (m - 1) = a → (ndAt xs a).ri ≠ -1 → rowF7 xs row lev f = false) := Lib.hid (fun a ha e => rowF7_end (.inr (.inr (by rw [hl, ha]; exact e))))
  have Y3 : Hid (∀ i a : Nat, i < m → iAt row i = a → nodeF (ndAt xs a) lev (lowAt xs row i) f = false → rowF7 xs row lev f = false) := Lib.hid (fun i a hi ha e => rowF7_no i (by omega) (by rw [ha]; exact e))
  have Y4 : Hid (∀ a : Nat, 0 < m → twiceB row = false → iAt row (m - 1) = a → (ndAt xs a).ri = -1 → (∀ i a : Nat, i < m → iAt row i = a → nodeF (ndAt xs a) lev (lowAt xs row i) f = true) → rowF7 xs row lev f = true) :=
    Lib.hid (fun a h0 h1 ha h2 h3 => rowF7_yes (by omega) h1 (by rw [hl, ha]; exact h2) (fun i hi => by
      obtain ⟨a', ha', _⟩ := HIN.out i (by omega)
      rw [ha']
      exact h3 i a' (by omega) ha'))
  have CT : Hid (decide ((cntF xs row m : Int) < (m : Int)) = twiceB row) := Lib.hid (by rw [← hl]; exact cnt_twice xs row)
  have hgb : (0 : Nat) < w.heap.size := Nat.lt_of_le_of_lt (Nat.zero_le _) hB.lt
  have US : Hid (∀ (s : ByteArray) (w' : World), Below w.heap.size w w' → Calls Tryd.prog 43 #[.string s] w' fun e w'' => e = .returned (flawV s a0) ∧ w'' = w') :=
    Lib.hid (fun s w' hb => unsound_any s a0 w' (by rw [hb.cell hgb]; exact hg))
  have LK : Hid (twiceB row = false → ∀ w', Below w.heap.size w w' → ∀ i a : Nat, i < m → iAt row i = a → (Instr.lookup 76 (.map (some bh)) (.int .i64 (a : Int)) false).run Tryd.prog w' = .ok (.int .i64 (lowAt xs row i)) w') := Lib.hid (fun ht w' hb i a hi ha => by
    obtain ⟨a', ha', han⟩ := HIN.out i hi
    have : a = a' := by omega
    subst this
    have h1 := (hH.on hb).run (x := (a : Int)) (wfJ (by omega) (by omega))
    rw [← ha, ← hl, lowsF_at _ ((twiceB_iff _).1 ht) i (by omega)] at h1
    rw [← ha]
    exact h1)
  have NK : Hid (∀ (a : Nat) (lo : Int) A2 n2 c2 w', a < n → Below w.heap.size w w' → RP w' w'.heap.size A2 n2 (ndAt xs a).ps → Calls Tryd.prog 63 #[ndV (ndAt xs a) A2 n2 c2, .int .i64 lev, .int .i64 lo, .map (some bb)] w' fun e w'' => e = .returned (errN a0 (ndAt xs a) lev lo f) ∧ Below w'.heap.size w' w'') :=
    Lib.hid (fun a lo A2 n2 c2 w' ha hb hP => nflaw_any (ndAt xs a) A2 n2 c2 lev lo bb mb kb f a0 w' hP (by rw [← hP.1]; exact hps a ha) (hB.on hb) (fun h0 h1 => by
      have := hR.wfs a ha (by omega)
      rw [hP.1] at this
      exact this) (by rw [hb.cell hgb]; exact hg))
  obtain ⟨D, hown, hkeep, hsz⟩ := hH
  obtain ⟨w0, hw0⟩ : ∃ w0, w0 = w.alloc (.cells #[.int .i64 r, .slice A n c] 29) := ⟨_, rfl⟩
  have b0 : Below w.heap.size w w0 := by rw [hw0]; exact (Below.refl _ _).alloc (Nat.le_refl _) _
  have x0 : w0.heap[w.heap.size]? = some (.cells #[.int .i64 r, .slice A n c] 29 (0, 0)) := by rw [hw0]; exact heap_alloc_new _ _
  have D0 : Hid (∀ wx, Below w0.heap.size w0 wx → wx.cell? ⟨w.heap.size, 0, none⟩ = some (.int .i64 r) ∧ wx.cell? ⟨w.heap.size, 1, none⟩ = some (.slice A n c)) := Lib.hid (fun wx hb => ⟨by rw [cell_of_row _ _ 0 _ _ _ (box_on hb x0)]; rfl, by rw [cell_of_row _ _ 1 _ _ _ (box_on hb x0)]; rfl⟩)
  have s0 : w.heap.size < w0.heap.size := by rw [hw0]; simp
  have HH := Lib.hid (h.on b0)
  have HR := Lib.hid (hr.on b0)
  have B0 := Lib.hid b0
  have HW := Lib.hid hw0
  have ON := Lib.hid (hown.alloc (.cells #[.int .i64 r, .slice A n c] 29))
  have BB : Hid (∀ w', Below w0.heap.size w0 w' → Below w.heap.size w w') := Lib.hid (fun w' hb => b0.trans (hb.mono b0.size))
  clear h hr hw0 b0 x0 hl hin hR hB hg hgb hown hkeep hps
  generalize cntF xs row m = cnt at *
  generalize rowF7 xs row lev f = q at *
  by_cases h0 : m = 0
  · obtain rfl := Y0.out h0
    have g0 : ((m : Int) == 0) = true := by simp [h0]
    clear h0
    go_enter Tryd.func45, Tryd.ntmps45
    go_wp2_with fail
    rw [← HW.out]
    refine (US.out _ _ B0.out).mono ?_
    rintro e w2 ⟨rfl, rfl⟩
    go_wp2
    go_ret
    exact ⟨_, rfl, ⟨fun h => (by cases h), fun _ => ⟨_, rfl⟩⟩, B0.out⟩
  have g0 : ((m : Int) == 0) = false := by simpa using h0
  have CT2 := CT.out
  clear CT
  cases ht : twiceB row
  rotate_left
  · obtain rfl := Y1.out ht
    rw [ht] at CT2
    have CT3 : decide (cnt < m) = true := by simpa using CT2
    clear ht
    go_enter Tryd.func45, Tryd.ntmps45
    go_wp2_with (at_len; refine wpList_len_own _ rfl _ 76 rfl 2 2 Tryd.underlying76 _ bh _ _ rfl ON.out ?_; rw [hsz])
    rw [← HW.out]
    refine (US.out _ _ B0.out).mono ?_
    rintro e w2 ⟨rfl, rfl⟩
    go_wp2
    go_ret
    exact ⟨_, rfl, ⟨fun h => (by cases h), fun _ => ⟨_, rfl⟩⟩, B0.out⟩
  rw [ht] at CT2
  have CT3 : decide (cnt < m) = false := by simpa using CT2
  have LK2 := Lib.hid (LK.out ht)
  have HT := Lib.hid ht
  clear ht LK
  obtain ⟨la, hla, hlan⟩ := HIN.out (m - 1) (by omega)
  have HLA := Lib.hid hla
  obtain ⟨b2, off2, rfl, hb2, hc2⟩ := HR.out.ints (by omega)
  obtain ⟨b, off, rfl, hb, hc⟩ := HH.out.nd (by omega)
  have HC2 := Lib.hid hc2
  have HC := Lib.hid hc
  have hml : 1 ≤ m := by omega
  have em : Hid (((m : Int) - 1) = ((m - 1 : Nat) : Int)) := Lib.hid (by omega)
  clear hla hc2 hc h0
  have p0 : ∀ s : Later w0, s.wd.cell? ⟨w.heap.size, 1, none⟩ = some (.slice (some ⟨b, off, none⟩) n c) := Later.of_cell (D0.out _ (Below.refl _ _)).2 (Below.refl _ _) s0
  have p1 : ∀ s : Later w0, s.wd.cell? ⟨b2, off2 + (m - 1), none⟩ = some (.int .i64 (la : Int)) := Later.of_cell (by rw [HC2.out (m - 1) (by omega), HLA.out]) (Below.refl _ _) hb2
  have p2 : ∀ s : Later w0, s.wd.cell? ⟨b, off + la * 5 + 3, none⟩ = some (.int .i64 (ndAt xs la).ri) := Later.of_cell (by obtain ⟨_, _, _, _, _, _, c3, _⟩ := HC.out la hlan; exact c3) (Below.refl _ _) hb
  have YL2 : Hid ((ndAt xs la).ri ≠ -1 → q = false) := Lib.hid (Y2.out la HLA.out)
  have YL4 : Hid ((ndAt xs la).ri = -1 → (∀ i a : Nat, i < m → iAt row i = a → nodeF (ndAt xs a) lev (lowAt xs row i) f = true) → q = true) := Lib.hid (fun h2 h3 => Y4.out la hml HT.out HLA.out h2 h3)
  generalize (ndAt xs la).ri = lri at *
  clear Y4 Y2
  by_cases hri : lri = -1
  rotate_left
  · obtain rfl := YL2.out hri
    have g1 : (lri != -1) = true := by simpa using hri
    clear YL4 YL2 Y1 hri
    go_enter Tryd.func45, Tryd.ntmps45
    go_wp2_with (at_len; refine wpList_len_own _ rfl _ 76 rfl 2 2 Tryd.underlying76 _ bh _ _ rfl ON.out ?_; rw [hsz])
    rw [← HW.out]
    refine wp_region_later (by kernel_rfl) (by kernel_rfl) ?_
    repeat (go_big_quiet_step (fail))
    refine wpQuiet_nil ?_
    intro _ hw'
    obtain ⟨s6, rfl⟩ := hw'
    have B6 := Lib.hid (BB.out _ s6.2)
    go_wp2_with fail
    refine (US.out _ _ B6.out).mono ?_
    rintro e w2 ⟨rfl, rfl⟩
    go_wp2
    go_ret
    exact ⟨_, rfl, ⟨fun h => (by cases h), fun _ => ⟨_, rfl⟩⟩, B6.out⟩
  have YA : Hid ((∀ i a : Nat, i < m → iAt row i = a → nodeF (ndAt xs a) lev (lowAt xs row i) f = true) → q = true) := Lib.hid (YL4.out hri)
  have g1 : (lri != -1) = false := by simp [hri]
  have HRI := Lib.hid hri
  clear YL4 YL2 Y1 hri
  go_enter Tryd.func45, Tryd.ntmps45
  go_wp2_with (at_len; refine wpList_len_own _ rfl _ 76 rfl 2 2 Tryd.underlying76 _ bh _ _ rfl ON.out ?_; rw [hsz])
  rw [← HW.out]
  refine wp_region_later (by kernel_rfl) (by kernel_rfl) ?_
  repeat (go_big_quiet_step (fail))
  refine wpQuiet_nil ?_
  intro _ hw'
  obtain ⟨s6, rfl⟩ := hw'
  obtain ⟨w6, hw6⟩ : ∃ w6, w6 = s6.wd := ⟨_, rfl⟩
  have b6 : Below w0.heap.size w0 w6 := by rw [hw6]; exact s6.2
  rw [← hw6]
  have B6 := Lib.hid b6
  clear p0 p1 p2 hw6 g1 g0 b6 CT2 CT3
  go_wp2
  go_loopw [42] (fun i wr => ∃ k : Nat, i = .int .i64 k ∧ k ≤ m ∧ Hid (∀ i a : Nat, i < k → iAt row i = a → nodeF (ndAt xs a) lev (lowAt xs row i) f = true) ∧ Hid (Below w0.heap.size w0 wr)) (fun i _ => m - (intOf i).toNat)
  case atStart => exact ⟨0, rfl, by omega, Lib.hid (by intro i a hi; omega), B6⟩
  case round =>
    obtain ⟨k, rfl, hk, ho, hbw⟩ := hrel
    by_cases hlt : k < m
    · obtain ⟨a, ha, han⟩ := HIN.out k hlt
      have hsr : w.heap.size < wr.heap.size := Nat.lt_of_lt_of_le s0 hbw.out.size
      have hbr : b < wr.heap.size := Nat.lt_of_lt_of_le hb hbw.out.size
      have d1 := (D0.out _ hbw.out).2
      have e1 := (hbw.out.cell (p := ⟨b2, off2 + k, none⟩) hb2).trans (HC2.out k hlt)
      rw [ha] at e1
      obtain ⟨A2, n2, c2, e0, e1', e2, e3, e4, hP, _⟩ := (HC.out a han).keep (w' := wr) hb (fun p hp => hbw.out.cell hp)
      have r0 := Later.of_cell e0 (Below.refl _ _) hbr
      have r1 := Later.of_cell e1' (Below.refl _ _) hbr
      have r2 := Later.of_cell e2 (Below.refl _ _) hbr
      have r3 := Later.of_cell e3 (Below.refl _ _) hbr
      have r4 := Later.of_cell e4 (Below.refl _ _) hbr
      have r5 := Later.of_cell d1 (Below.refl _ _) hsr
      have lk : ∀ s : Later wr, (Instr.lookup 76 (.map (some bh)) (.int .i64 (a : Int)) false).run Tryd.prog s.wd = .ok (.int .i64 (lowAt xs row k)) s.wd := fun s => LK2.out _ (BB.out _ (bel_on hbw.out s.2)) k a hlt ha
      have NK2 : Hid (∀ s : Later wr, Calls Tryd.prog 63 #[ndV (ndAt xs a) A2 n2 c2, .int .i64 lev, .int .i64 (lowAt xs row k), .map (some bb)] s.wd fun e w'' => e = .returned (errN a0 (ndAt xs a) lev (lowAt xs row k) f) ∧ Below s.wd.heap.size s.wd w'') :=
        Lib.hid (fun s => NK.out a _ A2 n2 c2 _ han (BB.out _ (bel_on hbw.out s.2)) ((hP.more hbw.out.size).on s.2))
      have EV : Hid (ErrV a0 (nodeF (ndAt xs a) lev (lowAt xs row k) f) (errN a0 (ndAt xs a) lev (lowAt xs row k) f)) := Lib.hid (errN_is _ _ _ _ _)
      have YK : Hid (nodeF (ndAt xs a) lev (lowAt xs row k) f = false → q = false) := Lib.hid (Y3.out k a hlt ha)
      have NX : Hid (nodeF (ndAt xs a) lev (lowAt xs row k) f = true → ∀ i a : Nat, i < k + 1 → iAt row i = a → nodeF (ndAt xs a) lev (lowAt xs row i) f = true) := Lib.hid (fun h i a' hi ha' => by
        rcases Nat.lt_or_ge i k with h' | h'
        · exact ho.out i a' h' ha'
        · obtain rfl : i = k := by omega
          have : a' = a := by omega
          subst this
          exact h)
      clear ha hP ho e0 e1' e2 e3 e4
      generalize nodeF (ndAt xs a) lev (lowAt xs row k) f = qq at *
      generalize errN a0 (ndAt xs a) lev (lowAt xs row k) f = vv at *
      generalize lowAt xs row k = low at *
      unfold ndV at NK2
      generalize (ndAt xs a).lv = nlv at *
      generalize (ndAt xs a).hi = nhi at *
      generalize (ndAt xs a).ri = nri at *
      generalize (ndAt xs a).ow = now at *
      cases qq
      · obtain ⟨s, rfl⟩ := EV.out.2 rfl
        obtain rfl := YK.out rfl
        unfold flawV at NK2
        go_wp2
        refine wp_region_later (by kernel_rfl) (by kernel_rfl) ?_
        repeat (go_big_quiet_step ((go_at_call 63; exact Calls.later (NK2.out _))))
        refine wpQuiet_nil ?_
        intro _ hw'
        obtain ⟨s7, rfl⟩ := hw'
        have B7 := Lib.hid (BB.out _ (bel_on hbw.out s7.2))
        clear lk r0 r1 r2 r3 r4 r5 d1 e1
        go_wp2
        go_ret
        exact ⟨_, rfl, ⟨fun h => (by cases h), fun _ => ⟨s, rfl⟩⟩, B7.out⟩
      · obtain rfl := EV.out.1 rfl
        go_wp2
        refine wp_region_later (by kernel_rfl) (by kernel_rfl) ?_
        repeat (go_big_quiet_step ((go_at_call 63; exact Calls.later (NK2.out _))))
        refine wpQuiet_nil ?_
        intro _ hw'
        obtain ⟨s7, rfl⟩ := hw'
        have B7 := Lib.hid (bel_on hbw.out s7.2)
        clear lk r0 r1 r2 r3 r4 r5 d1 e1
        go_wp2
        go_roundw
        case rel => exact ⟨k + 1, by go_num, by omega, Lib.hid (NX.out (by trivial)), B7⟩
        case measure => simp [intOf]; omega
    · obtain rfl : k = m := by omega
      have HQ := Lib.hid (YA.out ho.out)
      go_wp2
      go_ret
      exact ⟨_, rfl, ⟨fun _ => rfl, fun h => (by rw [HQ.out] at h; cases h)⟩, BB.out _ hbw.out⟩
end Go.Proofs.YtlmhcifnikdliaaDoor
