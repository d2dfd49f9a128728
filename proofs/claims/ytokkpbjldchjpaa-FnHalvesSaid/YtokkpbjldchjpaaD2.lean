/- The walks of l1Below, l1Once, l1Num. -/
import Derived.Test.YtokkpbjldchjpaaD1
namespace Go.Proofs.Ytokkpbjldchjpaa
open Go.RowKit

/-- What l1Below may answer. -/
def BelowP (m r : Int) : Prop := (m ≤ 0 → r = 0) ∧ (0 < m → 0 ≤ r ∧ r < m)

theorem below_any (g : Nat) (A : Option Addr) (n c : Nat) (m : Int) (w : World) (hC : Cur w g A n c) :
    Calls Try.prog 25 #[.pointer (some ⟨g, 0, none⟩), .int .i64 m] w (Drawn g A n c (BelowP m) w) := by
  have HC := Lib.hid hC
  clear hC
  by_cases h0 : m ≤ 0
  · go_enter Try.func25, Try.ntmps25
    go_wp2
    go_ret
    exact ⟨0, rfl, ⟨fun _ => rfl, fun h => by omega⟩, HC.out, World.grownBy.refl _ _⟩
  · have h0 : 0 < m := by omega
    by_cases h1 : m ≤ 256
    · go_enter Try.func25, Try.ntmps25
      go_wp2_with fail
      refine (byte_any g A n c _ HC.out).mono ?_
      rintro e w1 ⟨r, rfl, ⟨r1, r2⟩, hc, hg⟩
      have HC1 := Lib.hid hc
      have HG1 := Lib.hid hg
      clear hc hg
      go_wp2
      go_ret
      exact ⟨r % m, rfl, ⟨fun h => by omega, fun _ => ⟨Int.emod_nonneg _ (by omega), Int.emod_lt_of_pos _ h0⟩⟩, HC1.out, HG1.out⟩
    · go_enter Try.func25, Try.ntmps25
      go_wp2_with fail
      refine (byte_any g A n c _ HC.out).mono ?_
      rintro e w1 ⟨x1, rfl, ⟨a1, b1⟩, hc1, hg1⟩
      have HC1 := Lib.hid hc1
      have HG1 := Lib.hid hg1
      clear hc1 hg1
      go_wp2_with fail
      refine (byte_any g A n c _ HC1.out).mono ?_
      rintro e w2 ⟨x2, rfl, ⟨a2, b2⟩, hc2, hg2⟩
      have HC2 := Lib.hid hc2
      have HG2 := Lib.hid (grown_trans HG1.out hg2)
      clear hc2 hg2 HC1 HG1
      go_wp2_with fail
      refine (byte_any g A n c _ HC2.out).mono ?_
      rintro e w3 ⟨x3, rfl, ⟨a3, b3⟩, hc3, hg3⟩
      have HC3 := Lib.hid hc3
      have HG3 := Lib.hid (grown_trans HG2.out hg3)
      clear hc3 hg3 HC2 HG2
      go_wp2_with fail
      refine (byte_any g A n c _ HC3.out).mono ?_
      rintro e w4 ⟨x4, rfl, ⟨a4, b4⟩, hc4, hg4⟩
      have HC4 := Lib.hid hc4
      have HG4 := Lib.hid (grown_trans HG3.out hg4)
      clear hc4 hg4 HC3 HG3
      go_wp2
      go_ret
      exact ⟨(x1 * 16777216 + x2 * 65536 + x3 * 256 + x4) % m, rfl, ⟨fun h => by omega, fun _ => ⟨Int.emod_nonneg _ (by omega), Int.emod_lt_of_pos _ h0⟩⟩, HC4.out, HG4.out⟩

/-- What a draw of a flag leaves. -/
def DrawnB (g : Nat) (A : Option Addr) (n c : Nat) (w : World) (e : Ending) (w' : World) : Prop := ∃ b : Bool, e = .returned (.bool b) ∧ Cur w' g A n c ∧ w.grownBy w' (some g)

theorem once_any (g : Nat) (A : Option Addr) (n c : Nat) (m : Int) (w : World) (hC : Cur w g A n c) :
    Calls Try.prog 26 #[.pointer (some ⟨g, 0, none⟩), .int .i64 m] w (DrawnB g A n c w) := by
  have HC := Lib.hid hC
  clear hC
  go_enter Try.func26, Try.ntmps26
  go_wp2_with fail
  refine (below_any g A n c m _ HC.out).mono ?_
  rintro e w1 ⟨r, rfl, _, hc, hg⟩
  have HC1 := Lib.hid hc
  have HG1 := Lib.hid hg
  clear hc hg
  go_wp2
  go_ret
  exact ⟨r == 0, rfl, HC1.out, HG1.out⟩
end Go.Proofs.Ytokkpbjldchjpaa
