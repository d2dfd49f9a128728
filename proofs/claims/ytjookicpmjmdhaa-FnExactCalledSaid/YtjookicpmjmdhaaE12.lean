/- The walks of the model's CallOk, ReplyOk, HandOk. -/
import Derived.Test.YtjookicpmjmdhaaE11
namespace Go.Proofs.Ytjookicpmjmdhaa
open Go.RowKit

def hdV (h : Hd) (A : Option Addr) (n c : Nat) : Value := .agg #[.int .i64 h.pos, .int .i64 h.cc, .int .i64 h.ck, .int .i64 h.cv, .int .i64 h.cur, .int .i64 h.want, .int .i64 h.key, .int .i64 h.kid, .int .i64 h.old, .int .i64 h.next, .int .i64 h.new, .slice A n c, .int .i64 h.thn, .int .i64 h.beg, .int .i64 h.rep, .int .i64 h.out] 

theorem sCallOk_any (c k v : Int) (w : World) :
    Calls Try.prog 20 #[.agg #[.int .i64 c, .int .i64 k, .int .i64 v]] w fun e w' => e = .returned (.bool (callOk c k v)) ∧ Below w.heap.size w w' := by
  have i1 := fun w => in_any c 1 3 w
  have i2 := fun w => key_any k w
  have i3 := fun w => in_any v 0 999 w
  unfold callOk
  have B0 : Hid (Below w.heap.size w (w.alloc (.cells #[.int .i64 c, .int .i64 k, .int .i64 v] 25))) := Lib.hid ((Below.refl _ _).alloc (Nat.le_refl _) _)
  by_cases hc : c = 2
  · have g1 : (c == 2) = true := by simpa using hc
    rw [if_pos hc]
    generalize inB c 1 3 = q1 at *
    generalize inB k 0 99 = q2 at *
    generalize inB v 0 999 = q3 at *
    clear hc
    cases q1
    · go_enter Try.func20, Try.ntmps20
      go_wp2_with (go_at_call 44; refine (i1 _).mono ?_; rintro e w' ⟨rfl, rfl⟩)
      go_ret
      exact ⟨rfl, B0.out⟩
    cases q2
    · go_enter Try.func20, Try.ntmps20
      go_wp2_with (first | (go_at_call 44; refine (i1 _).mono ?_; rintro e w' ⟨rfl, rfl⟩) | (go_at_call 45; refine (i2 _).mono ?_; rintro e w' ⟨rfl, rfl⟩))
      go_ret
      exact ⟨rfl, B0.out⟩
    go_enter Try.func20, Try.ntmps20
    go_wp2_with fail
    refine (i1 _).mono ?_
    rintro e w' ⟨rfl, rfl⟩
    go_wp2_with fail
    refine (i2 _).mono ?_
    rintro e w' ⟨rfl, rfl⟩
    go_wp2_with fail
    refine (i3 _).mono ?_
    rintro e w' ⟨rfl, rfl⟩
    go_wp2
    go_ret
    exact ⟨ret_bool (by simp), B0.out⟩
  · have g1 : (c == 2) = false := by simpa using hc
    rw [if_neg hc]
    have g2 : (v == 0) = decide (v = 0) := by rw [Bool.eq_iff_iff]; simp
    generalize inB c 1 3 = q1 at *
    generalize inB k 0 99 = q2 at *
    generalize decide (v = 0) = q3 at *
    clear hc
    cases q1
    · go_enter Try.func20, Try.ntmps20
      go_wp2_with (go_at_call 44; refine (i1 _).mono ?_; rintro e w' ⟨rfl, rfl⟩)
      go_ret
      exact ⟨rfl, B0.out⟩
    cases q2
    · go_enter Try.func20, Try.ntmps20
      go_wp2_with (first | (go_at_call 44; refine (i1 _).mono ?_; rintro e w' ⟨rfl, rfl⟩) | (go_at_call 45; refine (i2 _).mono ?_; rintro e w' ⟨rfl, rfl⟩))
      go_ret
      exact ⟨rfl, B0.out⟩
    go_enter Try.func20, Try.ntmps20
    go_wp2_with fail
    refine (i1 _).mono ?_
    rintro e w' ⟨rfl, rfl⟩
    go_wp2_with fail
    refine (i2 _).mono ?_
    rintro e w' ⟨rfl, rfl⟩
    go_wp2
    go_ret
    exact ⟨ret_bool (by simp), B0.out⟩

theorem none_any (c k v : Int) (w : World) :
    Calls Try.prog 46 #[.agg #[.int .i64 c, .int .i64 k, .int .i64 v]] w fun e w' => e = .returned (.bool (decide (c = 0) && (decide (k = 0) && decide (v = 0)))) ∧ Below w.heap.size w w' := by
  go_enter Try.func46, Try.ntmps46
  go_wp2
  all_goals
    go_ret
    exact ⟨ret_bool (by simp [*]), (Below.refl _ _).alloc (Nat.le_refl _) _⟩

theorem stackOk_no {st : List Int} (h : 6 < st.length ∨ ∃ i, i < st.length ∧ numB (iAt st i) = false) : stackOk st = false := by
  unfold stackOk
  rcases h with h | ⟨i, hi, h⟩
  · rw [decide_eq_false (by omega : ¬ st.length ≤ 6)]; rfl
  · have : st.all numB = false := by
      rw [List.all_eq_false]
      refine ⟨st[i], List.getElem_mem hi, ?_⟩
      have e : iAt st i = st[i] := by unfold iAt; simp [hi]
      rw [← e, h]; simp
    rw [this]; simp
theorem stackOk_yes {st : List Int} (h0 : st.length ≤ 6) (h : ∀ i, i < st.length → numB (iAt st i) = true) : stackOk st = true := by
  unfold stackOk
  have : st.all numB = true := by
    rw [List.all_eq_true]
    intro x hx
    obtain ⟨i, hi, rfl⟩ := List.getElem_of_mem hx
    have e : iAt st i = st[i] := by unfold iAt; simp [hi]
    rw [← e]; exact h i hi
  rw [this, decide_eq_true h0]; rfl

set_option maxRecDepth 100000 in
theorem stack_any (st : List Int) (A : Option Addr) (n c : Nat) (w : World) (h : RS w w.heap.size A n st) :
    Calls Try.prog 47 #[.slice A n c] w fun e w' => e = .returned (.bool (stackOk st)) ∧ w = w' := by
  have hl : st.length = n := h.1
  have Y0 : Hid (6 < n → stackOk st = false) := Lib.hid (fun h => stackOk_no (.inl (by omega)))
  have Y1 : Hid (∀ i, i < n → numB (iAt st i) = false → stackOk st = false) := Lib.hid (fun i hi h => stackOk_no (.inr ⟨i, by omega, h⟩))
  have Y2 : Hid (n ≤ 6 → (∀ i, i < n → numB (iAt st i) = true) → stackOk st = true) := Lib.hid (fun h0 h => stackOk_yes (by omega) (fun i hi => h i (by omega)))
  have HH := Lib.hid h
  clear h hl
  generalize stackOk st = q at *
  by_cases h6 : 6 < n
  · obtain rfl := Y0.out h6
    have g1 : decide ((6 : Int) < (n : Int)) = true := by simp; omega
    have g2 : decide (6 < n) = true := by simpa using h6
    go_enter Try.func47, Try.ntmps47
    go_wp2
    go_ret
    exact ⟨rfl, rfl⟩
  have g2 : decide (6 < n) = false := by simpa using h6
  have hn6 : n ≤ 6 := by omega
  clear h6
  go_enter Try.func47, Try.ntmps47
  go_wp2
  go_loopw [3] (fun i wr => ∃ k : Nat, i = .int .i64 k ∧ k ≤ n ∧ Hid (∀ j, j < k → numB (iAt st j) = true) ∧ Hid (wr = w)) (fun i _ => n - (intOf i).toNat)
  case atStart => exact ⟨0, rfl, by omega, Lib.hid (by intro j hj; omega), Lib.hid rfl⟩
  case round =>
    obtain ⟨k, rfl, hk, ho, hw⟩ := hrel
    obtain rfl := hw.out
    by_cases hlt : k < n
    · obtain ⟨b, off, rfl, hb, hc⟩ := HH.out.ints (by omega)
      have c1 := hc k hlt
      have nk := fun w => num_is (iAt st k) w
      have YK := Lib.hid (Y1.out k hlt)
      have HO2 : Hid (numB (iAt st k) = true → ∀ j, j < k + 1 → numB (iAt st j) = true) := Lib.hid (fun h j hj => by
        rcases Nat.lt_or_ge j k with h' | h'
        · exact ho.out j h'
        · obtain rfl : j = k := by omega
          exact h)
      clear hc
      generalize numB (iAt st k) = nb at *
      generalize iAt st k = x at *
      have NK := Lib.hid nk
      clear nk
      go_wp2_with fail
      refine (NK.out _).mono ?_
      rintro e w' ⟨rfl, rfl⟩
      cases nb
      · obtain rfl := YK.out rfl
        go_wp2
        go_ret
        exact ⟨rfl, rfl⟩
      · have HN := Lib.hid (HO2.out rfl)
        go_wp2
        go_roundw
        case rel => exact ⟨k + 1, by go_num, by omega, HN, Lib.hid (by trivial)⟩
        case measure => simp [intOf]; omega
    · obtain rfl : k = n := by omega
      obtain rfl := Y2.out hn6 ho.out
      go_wp2
      go_ret
      exact ⟨rfl, rfl⟩

set_option maxRecDepth 100000 in
set_option maxHeartbeats 4000000 in
theorem sHandOk_any (h : Hd) (A : Option Addr) (n c : Nat) (w : World) (hR : RS w w.heap.size A n h.st) :
    Calls Try.prog 22 #[hdV h A n c] w fun e w' => e = .returned (.bool (handOk h)) ∧ Below w.heap.size w w' := by
  obtain ⟨pos, cc, ck, cv, cur, want, key, kid, old, next, new, st, thn, beg, rep, out⟩ := h
  unfold hdV handOk
  simp only at *
  obtain ⟨w0, hw0⟩ : ∃ w0, w0 = w.alloc (.cells #[.int .i64 pos, .int .i64 cc, .int .i64 ck, .int .i64 cv, .int .i64 cur, .int .i64 want, .int .i64 key, .int .i64 kid, .int .i64 old, .int .i64 next, .int .i64 new, .slice A n c, .int .i64 thn, .int .i64 beg, .int .i64 rep, .int .i64 out] 31) := ⟨_, rfl⟩
  have b0 : Below w.heap.size w w0 := by rw [hw0]; exact (Below.refl _ _).alloc (Nat.le_refl _) _
  have x0 : w0.heap[w.heap.size]? = some (.cells #[.int .i64 pos, .int .i64 cc, .int .i64 ck, .int .i64 cv, .int .i64 cur, .int .i64 want, .int .i64 key, .int .i64 kid, .int .i64 old, .int .i64 next, .int .i64 new, .slice A n c, .int .i64 thn, .int .i64 beg, .int .i64 rep, .int .i64 out] 31 (0, 0)) := by rw [hw0]; exact heap_alloc_new _ _
  have D0 : Hid (∀ wx, Below w0.heap.size w0 wx → wx.cell? ⟨w.heap.size, 0, none⟩ = some (.int .i64 pos) ∧ wx.cell? ⟨w.heap.size, 1, none⟩ = some (.int .i64 cc) ∧ wx.cell? ⟨w.heap.size, 2, none⟩ = some (.int .i64 ck) ∧ wx.cell? ⟨w.heap.size, 3, none⟩ = some (.int .i64 cv) ∧ wx.cell? ⟨w.heap.size, 4, none⟩ = some (.int .i64 cur) ∧ wx.cell? ⟨w.heap.size, 5, none⟩ = some (.int .i64 want) ∧ wx.cell? ⟨w.heap.size, 6, none⟩ = some (.int .i64 key) ∧ wx.cell? ⟨w.heap.size, 7, none⟩ = some (.int .i64 kid) ∧ wx.cell? ⟨w.heap.size, 8, none⟩ = some (.int .i64 old) ∧ wx.cell? ⟨w.heap.size, 9, none⟩ = some (.int .i64 next) ∧ wx.cell? ⟨w.heap.size, 10, none⟩ = some (.int .i64 new) ∧ wx.cell? ⟨w.heap.size, 11, none⟩ = some (.slice A n c) ∧ wx.cell? ⟨w.heap.size, 12, none⟩ = some (.int .i64 thn) ∧ wx.cell? ⟨w.heap.size, 13, none⟩ = some (.int .i64 beg) ∧ wx.cell? ⟨w.heap.size, 14, none⟩ = some (.int .i64 rep) ∧ wx.cell? ⟨w.heap.size, 15, none⟩ = some (.int .i64 out)) := Lib.hid (fun wx hb => ⟨by rw [cell_of_row _ _ 0 _ _ _ (box_on hb x0)]; rfl, by rw [cell_of_row _ _ 1 _ _ _ (box_on hb x0)]; rfl, by rw [cell_of_row _ _ 2 _ _ _ (box_on hb x0)]; rfl, by rw [cell_of_row _ _ 3 _ _ _ (box_on hb x0)]; rfl, by rw [cell_of_row _ _ 4 _ _ _ (box_on hb x0)]; rfl, by rw [cell_of_row _ _ 5 _ _ _ (box_on hb x0)]; rfl, by rw [cell_of_row _ _ 6 _ _ _ (box_on hb x0)]; rfl, by rw [cell_of_row _ _ 7 _ _ _ (box_on hb x0)]; rfl, by rw [cell_of_row _ _ 8 _ _ _ (box_on hb x0)]; rfl, by rw [cell_of_row _ _ 9 _ _ _ (box_on hb x0)]; rfl, by rw [cell_of_row _ _ 10 _ _ _ (box_on hb x0)]; rfl, by rw [cell_of_row _ _ 11 _ _ _ (box_on hb x0)]; rfl, by rw [cell_of_row _ _ 12 _ _ _ (box_on hb x0)]; rfl, by rw [cell_of_row _ _ 13 _ _ _ (box_on hb x0)]; rfl, by rw [cell_of_row _ _ 14 _ _ _ (box_on hb x0)]; rfl, by rw [cell_of_row _ _ 15 _ _ _ (box_on hb x0)]; rfl⟩)
  have I0 := Lib.hid (fun w => in_any pos 0 11 w)
  have I1 := Lib.hid (fun w => sCallOk_any cc ck cv w)
  have I2 := Lib.hid (fun w => none_any cc ck cv w)
  have I3 := Lib.hid (fun w h => stack_any st A n c w h)
  have J0 := Lib.hid (fun w => num_is cur w)
  have J1 := Lib.hid (fun w => num_is kid w)
  have J2 := Lib.hid (fun w => num_is old w)
  have J3 := Lib.hid (fun w => num_is next w)
  have J4 := Lib.hid (fun w => num_is new w)
  have J5 := Lib.hid (fun w => in_any want 0 6 w)
  have J6 := Lib.hid (fun w => key_any key w)
  have L0 := Lib.hid (fun w => in_any thn 0 2 w)
  have L1 := Lib.hid (fun w => in_any beg 0 20000 w)
  have L2 := Lib.hid (fun w => in_any rep 0 3 w)
  have L3 := Lib.hid (fun w => in_any out 0 999 w)
  have HR := Lib.hid (hR.on b0)
  have B0 := Lib.hid b0
  have HW := Lib.hid hw0
  have g0 : (pos == 0) = decide (pos = 0) := by rw [Bool.eq_iff_iff]; simp
  clear hw0 b0 x0 hR
  generalize inB pos 0 11 = q0 at *
  generalize callOk cc ck cv = q1 at *
  generalize (decide (cc = 0) && (decide (ck = 0) && decide (cv = 0))) = q2 at *
  generalize decide (pos = 0) = q3 at *
  generalize stackOk st = q4 at *
  generalize numB cur = n0 at *
  generalize numB kid = n1 at *
  generalize numB old = n2 at *
  generalize numB next = n3 at *
  generalize numB new = n4 at *
  generalize inB want 0 6 = n5 at *
  generalize inB key 0 99 = n6 at *
  generalize inB thn 0 2 = m0 at *
  generalize inB beg 0 20000 = m1 at *
  generalize inB rep 0 3 = m2 at *
  generalize inB out 0 999 = m3 at *
  go_enter Try.func22, Try.ntmps22
  go_wp2_with fail
  rw [← HW.out]
  refine (I0.out _).mono ?_
  rintro e wy ⟨rfl, rfl⟩
  obtain ⟨d0, d1, d2, d3, d4, d5, d6, d7, d8, d9, d10, d11, d12, d13, d14, d15⟩ := D0.out _ (Below.refl _ _)
  cases q0
  · go_wp2
    go_ret
    exact ⟨ret_bool (by simp), B0.out⟩
  go_wp2_with fail
  refine (I1.out _).mono ?_
  rintro e w1 ⟨rfl, b1⟩
  have B1 := Lib.hid b1
  clear b1 d0 d1 d2 d3 d4 d5 d6 d7 d8 d9 d10 d11 d12 d13 d14 d15
  obtain ⟨d0, d1, d2, d3, d4, d5, d6, d7, d8, d9, d10, d11, d12, d13, d14, d15⟩ := D0.out _ B1.out
  cases q1
  · cases q3
    · have BB := Lib.hid (B0.out.trans (B1.out.mono B0.out.size))
      go_wp2
      go_ret
      exact ⟨ret_bool (by simp), BB.out⟩
    go_wp2_with fail
    refine (I2.out _).mono ?_
    rintro e w2 ⟨rfl, b2⟩
    have BZ := Lib.hid (B1.out.trans (b2.mono B1.out.size))
    have BB := Lib.hid (B0.out.trans (BZ.out.mono B0.out.size))
    clear b2 d0 d1 d2 d3 d4 d5 d6 d7 d8 d9 d10 d11 d12 d13 d14 d15
    obtain ⟨d0, d1, d2, d3, d4, d5, d6, d7, d8, d9, d10, d11, d12, d13, d14, d15⟩ := D0.out _ BZ.out
    cases q2
    · go_wp2
      go_ret
      exact ⟨ret_bool (by simp), BB.out⟩
    go_wp2_with fail
    refine (I3.out _ (HR.out.on BZ.out)).mono ?_
    rintro e wy ⟨rfl, rfl⟩
    cases q4
    · go_wp2
      go_ret
      exact ⟨ret_bool (by simp), BB.out⟩
    go_wp2_with fail
    refine (J0.out _).mono ?_
    rintro e wy ⟨rfl, rfl⟩
    cases n0
    · go_wp2
      go_ret
      exact ⟨ret_bool (by simp), BB.out⟩
    go_wp2_with fail
    refine (J1.out _).mono ?_
    rintro e wy ⟨rfl, rfl⟩
    cases n1
    · go_wp2
      go_ret
      exact ⟨ret_bool (by simp), BB.out⟩
    go_wp2_with fail
    refine (J2.out _).mono ?_
    rintro e wy ⟨rfl, rfl⟩
    cases n2
    · go_wp2
      go_ret
      exact ⟨ret_bool (by simp), BB.out⟩
    go_wp2_with fail
    refine (J3.out _).mono ?_
    rintro e wy ⟨rfl, rfl⟩
    cases n3
    · go_wp2
      go_ret
      exact ⟨ret_bool (by simp), BB.out⟩
    go_wp2_with fail
    refine (J4.out _).mono ?_
    rintro e wy ⟨rfl, rfl⟩
    cases n4
    · go_wp2
      go_ret
      exact ⟨ret_bool (by simp), BB.out⟩
    go_wp2_with fail
    refine (J5.out _).mono ?_
    rintro e wy ⟨rfl, rfl⟩
    cases n5
    · go_wp2
      go_ret
      exact ⟨ret_bool (by simp), BB.out⟩
    go_wp2_with fail
    refine (J6.out _).mono ?_
    rintro e wy ⟨rfl, rfl⟩
    cases n6
    · go_wp2
      go_ret
      exact ⟨ret_bool (by simp), BB.out⟩
    go_wp2_with fail
    refine (L0.out _).mono ?_
    rintro e wy ⟨rfl, rfl⟩
    cases m0
    · go_wp2
      go_ret
      exact ⟨ret_bool (by simp), BB.out⟩
    go_wp2_with fail
    refine (L1.out _).mono ?_
    rintro e wy ⟨rfl, rfl⟩
    cases m1
    · go_wp2
      go_ret
      exact ⟨ret_bool (by simp), BB.out⟩
    go_wp2_with fail
    refine (L2.out _).mono ?_
    rintro e wy ⟨rfl, rfl⟩
    cases m2
    · go_wp2
      go_ret
      exact ⟨ret_bool (by simp), BB.out⟩
    go_wp2_with fail
    refine (L3.out _).mono ?_
    rintro e wy ⟨rfl, rfl⟩
    go_wp2
    go_ret
    exact ⟨ret_bool (by simp), BB.out⟩
  · have BZ := B1
    have BB := Lib.hid (B0.out.trans (BZ.out.mono B0.out.size))
    go_wp2_with fail
    refine (I3.out _ (HR.out.on BZ.out)).mono ?_
    rintro e wy ⟨rfl, rfl⟩
    cases q4
    · go_wp2
      go_ret
      exact ⟨ret_bool (by simp), BB.out⟩
    go_wp2_with fail
    refine (J0.out _).mono ?_
    rintro e wy ⟨rfl, rfl⟩
    cases n0
    · go_wp2
      go_ret
      exact ⟨ret_bool (by simp), BB.out⟩
    go_wp2_with fail
    refine (J1.out _).mono ?_
    rintro e wy ⟨rfl, rfl⟩
    cases n1
    · go_wp2
      go_ret
      exact ⟨ret_bool (by simp), BB.out⟩
    go_wp2_with fail
    refine (J2.out _).mono ?_
    rintro e wy ⟨rfl, rfl⟩
    cases n2
    · go_wp2
      go_ret
      exact ⟨ret_bool (by simp), BB.out⟩
    go_wp2_with fail
    refine (J3.out _).mono ?_
    rintro e wy ⟨rfl, rfl⟩
    cases n3
    · go_wp2
      go_ret
      exact ⟨ret_bool (by simp), BB.out⟩
    go_wp2_with fail
    refine (J4.out _).mono ?_
    rintro e wy ⟨rfl, rfl⟩
    cases n4
    · go_wp2
      go_ret
      exact ⟨ret_bool (by simp), BB.out⟩
    go_wp2_with fail
    refine (J5.out _).mono ?_
    rintro e wy ⟨rfl, rfl⟩
    cases n5
    · go_wp2
      go_ret
      exact ⟨ret_bool (by simp), BB.out⟩
    go_wp2_with fail
    refine (J6.out _).mono ?_
    rintro e wy ⟨rfl, rfl⟩
    cases n6
    · go_wp2
      go_ret
      exact ⟨ret_bool (by simp), BB.out⟩
    go_wp2_with fail
    refine (L0.out _).mono ?_
    rintro e wy ⟨rfl, rfl⟩
    cases m0
    · go_wp2
      go_ret
      exact ⟨ret_bool (by simp), BB.out⟩
    go_wp2_with fail
    refine (L1.out _).mono ?_
    rintro e wy ⟨rfl, rfl⟩
    cases m1
    · go_wp2
      go_ret
      exact ⟨ret_bool (by simp), BB.out⟩
    go_wp2_with fail
    refine (L2.out _).mono ?_
    rintro e wy ⟨rfl, rfl⟩
    cases m2
    · go_wp2
      go_ret
      exact ⟨ret_bool (by simp), BB.out⟩
    go_wp2_with fail
    refine (L3.out _).mono ?_
    rintro e wy ⟨rfl, rfl⟩
    go_wp2
    go_ret
    exact ⟨ret_bool (by simp), BB.out⟩
end Go.Proofs.Ytjookicpmjmdhaa
