/- The code's own functions of chapter 8: the small ones. -/
import Derived.Test.YtjookicpmjmdhaaE14
import Derived.Test.YtjookicpmjmdhaaE15
namespace Go.Proofs.Ytjookicpmjmdhaa
open Go.RowKit

theorem iUpTo_any (x l : Int) (w : World) :
    Calls Try.prog 61 #[.int .i64 x, .int .i64 l] w fun e w' => e = .returned (.bool (inB x 0 l)) ∧ w = w' := by
  by_cases h1 : 0 ≤ x
  · have h1' : decide (0 ≤ x) = true := by simpa using h1
    go_enter Try.func61, Try.ntmps61
    go_wp2
    go_ret
    exact ⟨ret_bool (by simp [inB, h1]), rfl⟩
  · have h1' : decide (0 ≤ x) = false := by simpa using h1
    go_enter Try.func61, Try.ntmps61
    go_wp2
    go_ret
    exact ⟨ret_bool (by simp [inB]; omega), rfl⟩

theorem callRight_any (c k v : Int) (w : World) :
    Calls Try.prog 41 #[.agg #[.int .i64 c, .int .i64 k, .int .i64 v]] w fun e w' => e = .returned (.bool (callOk c k v)) ∧ Below w.heap.size w w' := by
  have B0 : Hid (Below w.heap.size w (w.alloc (.cells #[.int .i64 c, .int .i64 k, .int .i64 v] 25))) := Lib.hid ((Below.refl _ _).alloc (Nat.le_refl _) _)
  by_cases h1 : c = 1 ∨ c = 3
  · have e0 : callOk c k v = (inB k 0 99 && decide (v = 0)) := by
      unfold callOk
      rcases h1 with rfl | rfl <;> rfl
    rw [e0]
    have K := Lib.hid (fun w => keyNumber_any k w)
    have g3 : (v == 0) = decide (v = 0) := by rw [Bool.eq_iff_iff]; simp
    generalize decide (v = 0) = q3 at *
    generalize inB k 0 99 = q1 at *
    clear e0
    rcases h1 with rfl | rfl
    all_goals
      go_enter Try.func41, Try.ntmps41
      go_wp2_with fail
      refine (K.out _).mono ?_
      rintro e w1 ⟨rfl, rfl⟩
      cases q1
      · go_wp2
        go_ret
        exact ⟨rfl, B0.out⟩
      · go_wp2
        go_ret
        exact ⟨ret_bool (by simp), B0.out⟩
  have g1 : (c == 1) = false := by simp; omega
  have g3 : (c == 3) = false := by simp; omega
  by_cases h2 : c = 2
  · have e0 : callOk c k v = rightB k v := by
      subst h2
      unfold callOk inB rightB
      rw [Bool.eq_iff_iff]
      simp
      omega
    rw [e0]
    have R := Lib.hid (fun w => right_any k v w)
    generalize rightB k v = q at *
    clear h1 e0
    have g2 : (c == 2) = true := by simpa using h2
    clear h2
    go_enter Try.func41, Try.ntmps41
    go_wp2_with fail
    refine (R.out _).mono ?_
    rintro e w1 ⟨rfl, b1⟩
    have B1 := Lib.hid (B0.out.trans (b1.mono B0.out.size))
    clear b1
    go_wp2
    go_ret
    exact ⟨rfl, B1.out⟩
  · have e0 : callOk c k v = false := by
      unfold callOk inB
      simp
      omega
    rw [e0]
    have g2 : (c == 2) = false := by simpa using h2
    clear h1 h2 e0
    go_enter Try.func41, Try.ntmps41
    go_wp2
    go_ret
    exact ⟨rfl, B0.out⟩

theorem noCall_any (c k v : Int) (w : World) :
    Calls Try.prog 62 #[.agg #[.int .i64 c, .int .i64 k, .int .i64 v]] w fun e w' => e = .returned (.bool (decide (c = 0) && (decide (k = 0) && decide (v = 0)))) ∧ Below w.heap.size w w' := by
  go_enter Try.func62, Try.ntmps62
  go_wp2
  all_goals
    go_ret
    exact ⟨ret_bool (by simp [*]), (Below.refl _ _).alloc (Nat.le_refl _) _⟩

theorem all_no {st : List Int} (h : ∃ i, i < st.length ∧ numB (iAt st i) = false) : st.all numB = false := by
  obtain ⟨i, hi, h⟩ := h
  rw [List.all_eq_false]
  refine ⟨st[i], List.getElem_mem hi, ?_⟩
  have e : iAt st i = st[i] := by unfold iAt; simp [hi]
  rw [← e, h]; simp
theorem all_yes {st : List Int} (h : ∀ i, i < st.length → numB (iAt st i) = true) : st.all numB = true := by
  rw [List.all_eq_true]
  intro x hx
  obtain ⟨i, hi, rfl⟩ := List.getElem_of_mem hx
  have e : iAt st i = st[i] := by unfold iAt; simp [hi]
  rw [← e]; exact h i hi

set_option maxRecDepth 100000 in
theorem nodeNums_any (st : List Int) (A : Option Addr) (n c : Nat) (w : World) (h : RS w w.heap.size A n st) (hn : n ≤ 1048576) :
    Calls Try.prog 63 #[.slice A n c] w fun e w' => e = .returned (.bool (st.all numB)) ∧ w = w' := by
  have hl : st.length = n := h.1
  have Y1 : Hid (∀ i, i < n → numB (iAt st i) = false → st.all numB = false) := Lib.hid (fun i hi h => all_no ⟨i, by omega, h⟩)
  have Y2 : Hid ((∀ i, i < n → numB (iAt st i) = true) → st.all numB = true) := Lib.hid (fun h => all_yes (fun i hi => h i (by omega)))
  have HH := Lib.hid h
  clear h hl
  generalize st.all numB = q at *
  go_enter Try.func63, Try.ntmps63
  go_wp2
  go_loopw [7] (fun i wr => ∃ k : Nat, i = .int .i64 k ∧ k ≤ n ∧ Hid (∀ j, j < k → numB (iAt st j) = true) ∧ Hid (wr = w)) (fun i _ => n - (intOf i).toNat)
  case atStart => exact ⟨0, rfl, by omega, Lib.hid (by intro j hj; omega), Lib.hid rfl⟩
  case round =>
    obtain ⟨k, rfl, hk, ho, hw⟩ := hrel
    obtain rfl := hw.out
    by_cases hlt : k < n
    · obtain ⟨b, off, rfl, hb, hc⟩ := HH.out.ints (by omega)
      have c1 := hc k hlt
      have nk := fun w => inum_is (iAt st k) w
      have YK := Lib.hid (Y1.out k hlt)
      have HO2 : Hid (numB (iAt st k) = true → ∀ j, j < k + 1 → numB (iAt st j) = true) := Lib.hid (fun h j hj => by
        rcases Nat.lt_or_ge j k with h' | h'
        · exact ho.out j h'
        · obtain rfl : j = k := by omega
          exact h)
      clear hc
      generalize numB (iAt st k) = nb at *
      generalize iAt st k = x at *
      have NK := Lib.hid nk
      clear nk
      go_wp2_with fail
      refine (NK.out _).mono ?_
      rintro e w' ⟨rfl, rfl⟩
      cases nb
      · obtain rfl := YK.out rfl
        go_wp2
        go_ret
        exact ⟨rfl, rfl⟩
      · have HN := Lib.hid (HO2.out rfl)
        go_wp2
        go_roundw
        case rel => exact ⟨k + 1, by go_num, by omega, HN, Lib.hid (by trivial)⟩
        case measure => simp [intOf]; omega
    · obtain rfl : k = n := by omega
      obtain rfl := Y2.out ho.out
      go_wp2
      go_ret
      exact ⟨rfl, rfl⟩
end Go.Proofs.Ytjookicpmjmdhaa
