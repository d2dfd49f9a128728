/- The walks of l1Odd, l1Min, l1Num. -/
import Derived.Test.YtokkpbjldchjpaaD2
namespace Go.Proofs.Ytokkpbjldchjpaa
open Go.RowKit

/-- A row of int64 numbers, read at a place below its length. -/
theorem ints_at {w : World} {b : Nat} {cs : Array Value} {t : TypeId} {fr : Nat × Nat} (hg : w.heap[b]? = some (.cells cs t fr)) (hall : ∀ v ∈ cs.toList, ∃ x : Int, v = .int .i64 x) (j : Nat) (hj : j < cs.size) : ∃ x : Int, w.cell? ⟨b, j, none⟩ = some (.int .i64 x) := by
  have h1 := cell_of_row w b j cs t fr hg
  rw [Array.getElem?_eq_getElem hj] at h1
  obtain ⟨x, hx⟩ := hall cs[j] (by simp)
  exact ⟨x, by rw [h1, hx]⟩

theorem odd_any (g : Nat) (A : Option Addr) (n c : Nat) (w : World) (hC : Cur w g A n c) :
    Calls Try.prog 50 #[.pointer (some ⟨g, 0, none⟩)] w (Drawn g A n c (fun _ => True) w) := by
  have HC := Lib.hid hC
  have hlt := hC.lt
  clear hC
  go_enter Try.func50, Try.ntmps50
  go_wp2_with fail
  refine (below_any g A n c 10 _ (HC.out.below ((Below.refl _ _).alloc (Nat.le_refl _) _))).mono ?_
  rintro e w1 ⟨r, rfl, ⟨_, hr⟩, hc, hg⟩
  obtain ⟨hr1, hr2⟩ := hr (by omega)
  obtain ⟨j, rfl⟩ := Int.eq_ofNat_of_zero_le hr1
  have hb := (hg.block w.heap.size (by simp) (by simp; omega)).trans (heap_alloc_new w _)
  obtain ⟨x, hx⟩ := ints_at hb (by simp) j (by simp; omega)
  have HC1 := Lib.hid hc
  have HG1 := Lib.hid (grown_trans (World.grownBy_alloc w _ (some g)) hg)
  clear hc hg hb hr
  go_wp2
  go_ret
  exact ⟨x, rfl, trivial, HC1.out, HG1.out⟩

theorem min_any (a b : Int) (w : World) :
    Calls Try.prog 51 #[.int .i64 a, .int .i64 b] w fun e w' => e = .returned (.int .i64 (if a < b then a else b)) ∧ w = w' := by
  by_cases h : a < b
  · rw [if_pos h]
    go_enter Try.func51, Try.ntmps51
    go_wp2
    go_ret
    exact ⟨rfl, rfl⟩
  · rw [if_neg h]
    go_enter Try.func51, Try.ntmps51
    go_wp2
    go_ret
    exact ⟨rfl, rfl⟩

theorem num_any (g : Nat) (A : Option Addr) (n c : Nat) (m : Int) (w : World) (hC : Cur w g A n c) (h0 : 0 ≤ m) (h1 : m ≤ 1000000000) :
    Calls Try.prog 28 #[.pointer (some ⟨g, 0, none⟩), .int .i64 m] w (Drawn g A n c (fun _ => True) w) := by
  have HC := Lib.hid hC
  have hlt := hC.lt
  have hmin : ∃ q : Int, 0 ≤ q ∧ q ≤ 4 ∧ ∀ w, Calls Try.prog 51 #[.int .i64 m, .int .i64 4] w fun e w' => e = .returned (.int .i64 q) ∧ w = w' :=
    ⟨if m < 4 then m else 4, by split <;> omega, by split <;> omega, fun w => min_any m 4 w⟩
  obtain ⟨q, q0, q1, hq⟩ := hmin
  have HQ := Lib.hid hq
  clear hC hq
  go_enter Try.func28, Try.ntmps28
  go_wp2_with fail
  refine (once_any g A n c 10 _ HC.out).mono ?_
  rintro e w1 ⟨b, rfl, hc, hg⟩
  have HC1 := Lib.hid hc
  have HG1 := Lib.hid hg
  have hlt1 : g < w1.heap.size := hc.lt
  clear hc hg
  rcases Bool.eq_false_or_eq_true b with hb | hb
  · subst hb
    go_wp2_with fail
    refine (odd_any g A n c _ HC1.out).mono ?_
    rintro e w2 ⟨o, rfl, _, hc, hg⟩
    have HC2 := Lib.hid hc
    have HG2 := Lib.hid (grown_trans HG1.out hg)
    have hlt2 : g < w2.heap.size := hc.lt
    clear hc hg HC1 HG1
    go_wp2_with fail
    refine (below_any g A n c 4 _ (HC2.out.below ((Below.refl _ _).alloc (Nat.le_refl _) _))).mono ?_
    rintro e w3 ⟨r, rfl, ⟨_, hr⟩, hc, hg⟩
    obtain ⟨hr1, hr2⟩ := hr (by omega)
    obtain ⟨j, rfl⟩ := Int.eq_ofNat_of_zero_le hr1
    have hb := (hg.block w2.heap.size (by simp) (by simp; omega)).trans (heap_alloc_new w2 _)
    obtain ⟨x, hx⟩ := ints_at hb (by simp) j (by simp; omega)
    have HC3 := Lib.hid hc
    have HG3 := Lib.hid (grown_trans HG2.out (grown_trans (World.grownBy_alloc w2 _ (some g)) hg))
    clear hc hg hb hr
    go_wp2
    go_ret
    exact ⟨x, rfl, trivial, HC3.out, HG3.out⟩
  · subst hb
    go_wp2_with fail
    refine (once_any g A n c 2 _ HC1.out).mono ?_
    rintro e w2 ⟨b, rfl, hc, hg⟩
    have HC2 := Lib.hid hc
    have HG2 := Lib.hid (grown_trans HG1.out hg)
    clear hc hg HC1 HG1
    rcases Bool.eq_false_or_eq_true b with hb | hb
    · subst hb
      go_wp2_with fail
      refine (HQ.out _).mono ?_
      rintro e w3 ⟨rfl, rfl⟩
      go_wp2_with fail
      refine (below_any g A n c (q + 1) _ HC2.out).mono ?_
      rintro e w4 ⟨r, rfl, _, hc, hg⟩
      have HC4 := Lib.hid hc
      have HG4 := Lib.hid (grown_trans HG2.out hg)
      clear hc hg
      go_wp2
      go_ret
      exact ⟨r, rfl, trivial, HC4.out, HG4.out⟩
    · subst hb
      go_wp2_with fail
      refine (below_any g A n c (m + 1) _ HC2.out).mono ?_
      rintro e w4 ⟨r, rfl, _, hc, hg⟩
      have HC4 := Lib.hid hc
      have HG4 := Lib.hid (grown_trans HG2.out hg)
      clear hc hg
      go_wp2
      go_ret
      exact ⟨r, rfl, trivial, HC4.out, HG4.out⟩
end Go.Proofs.Ytokkpbjldchjpaa
