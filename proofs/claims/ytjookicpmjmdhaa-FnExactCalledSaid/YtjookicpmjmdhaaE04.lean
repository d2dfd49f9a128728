/- The walks of the small functions: a number in bounds, a right pair, a pair made, two pairs held against each other, a pair's key. -/
import Derived.Test.YtjookicpmjmdhaaRows
import Derived.Test.YtjookicpmjmdhaaE03
import Derived.Test.YtjookicpmjmdhaaE01
namespace Go.Proofs.Ytjookicpmjmdhaa
open Go.RowKit

def inB (x lo hi : Int) : Bool := decide (lo ≤ x ∧ x ≤ hi)
def rightB (k v : Int) : Bool := decide (0 ≤ k ∧ k ≤ 99 ∧ 0 ≤ v ∧ v ≤ 999)
theorem ret_bool {a b : Bool} (h : a = b) : Ending.returned (.bool a) = .returned (.bool b) := by rw [h]
theorem ret_int {a b : Int} (h : a = b) : Ending.returned (.int .i64 a) = .returned (.int .i64 b) := by rw [h]

theorem rightB_of {k v : Int} {b : Bool} (h : b = true ↔ (0 ≤ k ∧ k ≤ 99 ∧ 0 ≤ v ∧ v ≤ 999)) : b = rightB k v := by
  rw [Bool.eq_iff_iff, h]; simp [rightB]

theorem in_any (x lo hi : Int) (w : World) :
    Calls Try.prog 44 #[.int .i64 x, .int .i64 lo, .int .i64 hi] w fun e w' => e = .returned (.bool (inB x lo hi)) ∧ w = w' := by
  by_cases h1 : lo ≤ x
  · have h1' : decide (lo ≤ x) = true := by simpa using h1
    go_enter Try.func44, Try.ntmps44
    go_wp2
    go_ret
    exact ⟨ret_bool (by simp [inB, h1]), rfl⟩
  · have h1' : decide (lo ≤ x) = false := by simpa using h1
    go_enter Try.func44, Try.ntmps44
    go_wp2
    go_ret
    exact ⟨ret_bool (by simp [inB]; omega), rfl⟩

theorem key_any (x : Int) (w : World) :
    Calls Try.prog 45 #[.int .i64 x] w fun e w' => e = .returned (.bool (inB x 0 99)) ∧ w = w' := by
  go_enter Try.func45, Try.ntmps45
  go_wp2_with (go_at_call 44; refine (in_any _ _ _ _).mono ?_; rintro e w' ⟨rfl, rfl⟩)
  go_ret
  exact ⟨rfl, rfl⟩

theorem keyNumber_any (x : Int) (w : World) :
    Calls Try.prog 64 #[.int .i64 x] w fun e w' => e = .returned (.bool (inB x 0 99)) ∧ w = w' := by
  by_cases h1 : 0 ≤ x
  · have h1' : decide (0 ≤ x) = true := by simpa using h1
    go_enter Try.func64, Try.ntmps64
    go_wp2
    go_ret
    exact ⟨ret_bool (by simp [inB, h1]), rfl⟩
  · have h1' : decide (0 ≤ x) = false := by simpa using h1
    go_enter Try.func64, Try.ntmps64
    go_wp2
    go_ret
    exact ⟨ret_bool (by simp [inB]; omega), rfl⟩

theorem right_any (k v : Int) (w : World) :
    Calls Try.prog 66 #[.agg #[.int .i64 k, .int .i64 v]] w fun e w' => e = .returned (.bool (rightB k v)) ∧ Below w.heap.size w w' := by
  by_cases h : inB k 0 99 = true
  · have c1 : ∀ w, Calls Try.prog 64 #[.int .i64 k] w fun e w' => e = .returned (.bool true) ∧ w = w' := fun w => by
      rw [← h]; exact keyNumber_any k w
    by_cases h3 : 0 ≤ v
    · have g3 : decide (0 ≤ v) = true := by simpa using h3
      go_enter Try.func66, Try.ntmps66
      go_wp2_with (go_at_call 64; refine (c1 _).mono ?_; rintro e w' ⟨rfl, rfl⟩)
      go_ret
      exact ⟨ret_bool (rightB_of (by simp [inB] at h ⊢; omega)), (Below.refl _ _).alloc (Nat.le_refl _) _⟩
    · have g3 : decide (0 ≤ v) = false := by simpa using h3
      go_enter Try.func66, Try.ntmps66
      go_wp2_with (go_at_call 64; refine (c1 _).mono ?_; rintro e w' ⟨rfl, rfl⟩)
      go_ret
      exact ⟨ret_bool (rightB_of (by simp [inB] at h ⊢; omega)), (Below.refl _ _).alloc (Nat.le_refl _) _⟩
  · have h : inB k 0 99 = false := by simpa using h
    have c1 : ∀ w, Calls Try.prog 64 #[.int .i64 k] w fun e w' => e = .returned (.bool false) ∧ w = w' := fun w => by
      rw [← h]; exact keyNumber_any k w
    go_enter Try.func66, Try.ntmps66
    go_wp2_with (go_at_call 64; refine (c1 _).mono ?_; rintro e w' ⟨rfl, rfl⟩)
    go_ret
    exact ⟨ret_bool (rightB_of (by simp [inB] at h ⊢; omega)), (Below.refl _ _).alloc (Nat.le_refl _) _⟩

end Go.Proofs.Ytjookicpmjmdhaa
namespace Go.Proofs.Ytjookicpmjmdhaa
open Go.RowKit

def pOk (zs : List Pr) : Bool := decide (zs.length ≤ 40) && (List.range zs.length).all fun j => rightB (kAt zs j) (vAt zs j) && (j == 0 || decide (kAt zs (j - 1) < kAt zs j))
end Go.Proofs.Ytjookicpmjmdhaa
