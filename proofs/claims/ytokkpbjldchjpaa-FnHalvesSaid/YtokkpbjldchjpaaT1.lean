/- Lists of nodes counted; the walks of the laws' szNodeS and szTree. -/
import Derived.Test.YtokkpbjldchjpaaG2
namespace Go.Proofs.Ytokkpbjldchjpaa
open Go.RowKit

/-- How many pairs the first k nodes hold. -/
def psTo (xs : List Nd) : Nat → Nat
  | 0 => 0
  | k + 1 => psTo xs k + (ndAt xs k).ps.length
theorem psTo_mono (xs : List Nd) : ∀ (m k : Nat), k ≤ m → psTo xs k ≤ psTo xs m := by
  intro m
  induction m with
  | zero => intro k hk; obtain rfl : k = 0 := by omega
            exact Nat.le_refl _
  | succ m ih =>
    intro k hk
    rcases Nat.lt_or_ge m k with h | h
    · obtain rfl : k = m + 1 := by omega
      exact Nat.le_refl _
    · exact Nat.le_trans (ih k h) (Nat.le_add_right _ _)
/-- What the laws count of a list of nodes. -/
def szs (xs : List Nd) : Nat := xs.length + psTo xs xs.length
theorem szs_len {xs : List Nd} (h : szs xs ≤ 1048576) : xs.length ≤ 1048576 := by unfold szs at h; omega
theorem szs_ps {xs : List Nd} (h : szs xs ≤ 1048576) (i : Nat) (hi : i < xs.length) : (ndAt xs i).ps.length ≤ 1048576 := by
  have := psTo_mono xs xs.length (i + 1) hi
  unfold szs at h
  simp only [psTo] at this
  omega
/-- What is left of L when m is taken off. -/
def leftI (L m : Nat) : Int := if m ≤ L then (L : Int) - m else -1

theorem szP_any (A : Option Addr) (n c L : Nat) (w : World) (hL : L ≤ 1048576) (hm : n ≤ 9223372036854775807) :
    Calls Try.prog 43 #[.slice A n c, .int .i64 L] w fun e w' => e = .returned (.int .i64 (leftI L n)) ∧ w = w' := by
  unfold leftI
  by_cases hn : n ≤ L
  · rw [if_pos hn]
    go_enter Try.func43, Try.ntmps43
    go_wp2
    go_ret
    exact ⟨rfl, rfl⟩
  · rw [if_neg hn]
    go_enter Try.func43, Try.ntmps43
    go_wp2
    go_ret
    exact ⟨rfl, rfl⟩
theorem szN_any (x : Nd) (A : Option Addr) (n c L : Nat) (w : World) (hL : L ≤ 1048576) (hm : n ≤ 9223372036854775807) :
    Calls Try.prog 16 #[ndV x A n c, .int .i64 L] w fun e w' => e = .returned (.int .i64 (leftI L n)) ∧ Below w.heap.size w w' := by
  obtain ⟨lv, zs, hi, ri, ow⟩ := x
  have hs := fun w => szP_any A n c L w hL hm
  by_cases hn : n ≤ L
  · have e : leftI L n = (L : Int) - n := by unfold leftI; rw [if_pos hn]
    rw [e] at hs ⊢
    have HS := Lib.hid hs
    clear hs e
    unfold ndV
    simp only
    go_enter Try.func16, Try.ntmps16
    go_wp2_with (go_at_call 43; refine (HS.out _).mono ?_; rintro e w1 ⟨rfl, rfl⟩)
    go_ret
    exact ⟨rfl, (Below.refl _ _).alloc (Nat.le_refl _) _⟩
  · have e : leftI L n = -1 := by unfold leftI; rw [if_neg hn]
    rw [e] at hs ⊢
    have HS := Lib.hid hs
    clear hs e
    unfold ndV
    simp only
    go_enter Try.func16, Try.ntmps16
    go_wp2_with (go_at_call 43; refine (HS.out _).mono ?_; rintro e w1 ⟨rfl, rfl⟩)
    go_ret
    exact ⟨rfl, (Below.refl _ _).alloc (Nat.le_refl _) _⟩

end Go.Proofs.Ytokkpbjldchjpaa
