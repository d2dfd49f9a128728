/- The walks of the code's latches, take, release, taskNumber. -/
import Derived.Test.YtbipdfeikmchcaaK1
import Derived.Test.YtbipdfeikmchcaaC3
namespace Go.Proofs.Ytbipdfeikmchcaa
open Go.RowKit

theorem lawI : Maps.Keyed Try.prog 2 := Maps.int_keyed Try.underlying2
theorem zeroI (w : World) : (zeroValue 2).run Try.prog w = .ok (.int .i64 0) w := by kernel_rfl
/-- Block b is a map of at most n latches that holds o. -/
def Held (w : World) (b n : Nat) (o : Int → Int) : Prop := ∃ D : DU, w.ownsMap Try.prog 2 (plainElem Try.prog 2) b n D ∧ Keeps D o
theorem Held.on {w w' : World} {b n : Nat} {o : Int → Int} (h : Held w b n o) (hb : Below w.heap.size w w') : Held w' b n o := by
  obtain ⟨D, h1, h2⟩ := h
  exact ⟨D, h1.kept (grown_none hb) (by simp), h2⟩
theorem Held.same {w : World} {b n : Nat} {o o' : Int → Int} (h : Held w b n o) (e : ∀ x, o' x = o x) : Held w b n o' := by
  obtain ⟨D, h1, h2⟩ := h
  exact ⟨D, h1, h2.same e⟩
theorem wf_small {x : Int} (h0 : -1 ≤ x) (h1 : x ≤ 4194304) : (Lit.int .i64 x).wf = true := WalkArith.wf_i64 (by omega)

theorem keyI {x : Int} (h0 : -1 ≤ x) (h1 : x ≤ 4194304) : keyOf Try.prog 2 (.int .i64 x) = some (.int .i64 x) := Maps.keyOf_int_mk Try.underlying2 (wf_small h0 h1)

theorem itask_any (x : Int) (w : World) : Calls Try.prog 41 #[.int .i64 x] w fun e w' => e = .returned (.bool (inB x 0 5)) ∧ w = w' := by
  by_cases h1 : 0 ≤ x
  · have g1 : decide (0 ≤ x) = true := by simpa using h1
    go_enter Try.func41, Try.ntmps41
    go_wp2
    go_ret
    exact ⟨ret_bool (by unfold inB; rw [Bool.eq_iff_iff]; simp; omega), rfl⟩
  · have g1 : decide (0 ≤ x) = false := by simpa using h1
    go_enter Try.func41, Try.ntmps41
    go_wp2
    go_ret
    exact ⟨ret_bool (by unfold inB; symm; simp; omega), rfl⟩

set_option maxRecDepth 100000 in
theorem ilatches_any (r : Int) (xs : List Nd) (A : Option Addr) (n c : Nat) (w : World) (h : RS w w.heap.size A n xs) (hn : n ≤ 1048576) (hw : ∀ i, i < n → 0 ≤ (ndAt xs i).ow ∧ (ndAt xs i).ow ≤ 6) :
    Calls Try.prog 42 #[.agg #[.int .i64 r, .slice A n c]] w fun e w' => e = .returned (.map (some (w.heap.size + 1))) ∧ Held w' (w.heap.size + 1) n (ownTo xs n) ∧ Below w.heap.size w w' := by
  obtain ⟨w0, hw0⟩ : ∃ w0, w0 = w.alloc (.cells #[.int .i64 r, .slice A n c] 29) := ⟨_, rfl⟩
  have b0 : Below w.heap.size w w0 := by rw [hw0]; exact (Below.refl _ _).alloc (Nat.le_refl _) _
  have x0 : w0.heap[w.heap.size]? = some (.cells #[.int .i64 r, .slice A n c] 29 (0, 0)) := by rw [hw0]; exact heap_alloc_new _ _
  have s0 : w0.heap.size = w.heap.size + 1 := by rw [hw0]; simp
  have d0 : ∀ wx, Below w0.heap.size w0 wx → wx.cell? ⟨w.heap.size, 0, none⟩ = some (.int .i64 r) ∧ wx.cell? ⟨w.heap.size, 1, none⟩ = some (.slice A n c) := fun wx hb => ⟨by rw [cell_of_row _ _ 0 _ _ _ (box_on hb x0)]; rfl, by rw [cell_of_row _ _ 1 _ _ _ (box_on hb x0)]; rfl⟩
  have D0 := Lib.hid d0
  have HH := Lib.hid (h.on b0)
  have B0 := Lib.hid b0
  have S0 := Lib.hid s0
  have HW := Lib.hid hw0
  have OW := Lib.hid hw
  have hmm := @run_makeMap Try.prog
  obtain ⟨w1, hw1⟩ : ∃ w1, w1 = w0.alloc (.map #[] 0) := ⟨_, rfl⟩
  have b1 : Below w0.heap.size w0 w1 := by rw [hw1]; exact (Below.refl _ _).alloc (Nat.le_refl _) _
  have m1 : Held w1 (w.heap.size + 1) 0 (ownTo xs 0) := by
    rw [← s0, hw1]
    exact ⟨_, World.ownsMap_made _ _ _ _, Keeps.empty.same (ownTo_zero xs)⟩
  have B1 := Lib.hid b1
  have M1 := Lib.hid m1
  have HW1 := Lib.hid hw1
  clear h hw hw0 b0 x0 s0 d0 hw1 b1 m1
  go_enter Try.func42, Try.ntmps42
  go_wp2
  rw [← HW.out, ← HW1.out]
  go_loopw [10] (fun i wr => ∃ k : Nat, i = .int .i64 k ∧ k ≤ n ∧ Hid (Held wr (w.heap.size + 1) k (ownTo xs k)) ∧ Hid (Below w0.heap.size w0 wr)) (fun i _ => n - (intOf i).toNat)
  case atStart => exact ⟨0, rfl, by omega, M1, B1⟩
  case round =>
    obtain ⟨k, rfl, hk, ho, hbw⟩ := hrel
    by_cases hlt : k < n
    · obtain ⟨b, off, rfl, hb, hc⟩ := HH.out.nd (by omega)
      obtain ⟨A2, n2, c2, c0, c1, c2', c3, c4, _, _⟩ := (hc k hlt).keep (w' := wr) hb (fun p hp => hbw.out.cell hp)
      have hy := OW.out k hlt
      have E1 : Hid ((ndAt xs k).ow = 0 → ∀ x, ownTo xs (k + 1) x = ownTo xs k x) := Lib.hid (ownTo_skip xs k)
      have E2 : Hid (∀ x, ownTo xs (k + 1) x = upd (ownTo xs k) k (ndAt xs k).ow x) := Lib.hid (ownTo_next xs k)
      generalize ndAt xs k = y at *
      clear hc
      obtain ⟨lv, zs, hi, ri, ow⟩ := y
      simp only at *
      obtain ⟨wb, hwb⟩ : ∃ wb, wb = wr.alloc (.cells #[.int .i64 lv, .slice A2 n2 c2, .int .i64 hi, .int .i64 ri, .int .i64 ow] 48) := ⟨_, rfl⟩
      have bb : Below wr.heap.size wr wb := by rw [hwb]; exact (Below.refl _ _).alloc (Nat.le_refl _) _
      have OB := Lib.hid (ho.out.on bb)
      have BB := Lib.hid (bel_on hbw.out bb)
      have HB := Lib.hid hwb
      clear hwb bb
      by_cases hz : ow = 0
      · subst hz
        go_wp2
        rw [← HB.out]
        go_roundw
        case rel => exact ⟨k + 1, by go_num, by omega, Lib.hid (((OB.out.same (E1.out rfl))).imp fun D hD => ⟨hD.1.mono (Nat.le_succ _), hD.2⟩), BB⟩
        case measure => simp [intOf]; omega
      · have gz : (ow != 0) = true := by simpa using hz
        have HZ := Lib.hid hz
        clear hz
        obtain ⟨D, hown, hkeep⟩ := OB.out
        have KP := Lib.hid hkeep
        have ON := Lib.hid hown
        clear hown hkeep
        rw [HB.out] at ON
        go_wp2_with (at_mapUpdate; refine wpList_mapUpdate_own _ rfl _ _ _ 61 rfl 2 2 lawI Try.underlying61 _ (w.heap.size + 1) k _ rfl ON.out (by unfold maxLen; omega) _ _ _ rfl rfl (keyI (by omega) (by omega)) _ [] (plainElem_int Try.underlying2 (wf_small (by omega) (by omega))) ?_; intro w5 hown5 hgrow5; go_frame)
        have B5 := Lib.hid ((BB.out.grown (HB.out ▸ hgrow5) (by have := BB.out.size; omega) (fun j hj => by cases hj; have := S0.out; omega)) : Below w0.heap.size w0 w5)
        have O5 : Hid (Held w5 (w.heap.size + 1) (k + 1) (ownTo xs (k + 1))) := Lib.hid (Held.same ⟨_, hown5, KP.out.put _ _ HZ.out⟩ E2.out)
        clear hown5 hgrow5
        go_roundw
        case rel => exact ⟨k + 1, by go_num, by omega, O5, B5⟩
        case measure => simp [intOf]; omega
    · obtain rfl : k = n := by omega
      go_wp2
      go_ret
      exact ⟨rfl, ho.out, B0.out.trans (hbw.out.mono B0.out.size)⟩
end Go.Proofs.Ytbipdfeikmchcaa
