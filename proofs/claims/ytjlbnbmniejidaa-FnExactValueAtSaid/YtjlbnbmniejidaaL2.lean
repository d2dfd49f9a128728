/- The law on ValueAt, walked: it returns true, and nothing that was there is turned. -/
import Derived.Test.YtjlbnbmniejidaaW6
namespace Go.Proofs.Ytjlbnbmniejidaa
open Go.RowKit

theorem lawVal_walk (A : Option Addr) (n c : Nat) (zs : List Pr) (key : Int) (w : World) (h : RP w w.heap.size A n zs) (hm : n ≤ 9223372036854775807) :
    Calls Try.prog 6 #[.slice A n c, .int .i64 key] w fun e w' => e = .returned (.bool true) ∧ Below w.heap.size w w' := by
  have HH := Lib.hid h
  clear h
  by_cases hn : 1048576 < n
  · go_enter Try.func6, Try.ntmps6
    go_wp2_with (go_at_call 33; refine (sz_no _ _ _ _ hn hm).mono ?_; rintro e w1 ⟨rfl, rfl⟩)
    go_ret
    exact ⟨rfl, Below.refl _ _⟩
  have hn : n ≤ 1048576 := by omega
  go_enter Try.func6, Try.ntmps6
  go_wp2_with (go_at_call 33; refine (sz_yes _ _ _ _ hn).mono ?_; rintro e w1 ⟨rfl, rfl⟩)
  -- w0, w1
  refine (toS_any _ _ _ _ _ HH.out hn).mono ?_
  rintro e w1 ⟨rfl, o1, b1⟩
  have R1 := Lib.hid (HH.out.on b1)
  have X1 : Hid (RP w1 w1.heap.size (some ⟨w.heap.size, 0, none⟩) n zs) := Lib.hid (by obtain ⟨A', c', e, r⟩ := RP.of_own o1; cases e; exact r)
  have B1 := Lib.hid b1
  clear o1 b1
  go_wp2_with fail
  refine (sVal_any _ _ _ zs _ _ X1.out hn).mono ?_
  rintro e w2 ⟨rfl, b2⟩
  have R2 := Lib.hid (R1.out.on b2)
  have B2 := Lib.hid (B1.out.trans (b2.mono B1.out.size))
  clear b2 B1 R1 X1
  go_wp2_with fail
  -- x0
  refine (toS_any _ _ _ _ _ R2.out hn).mono ?_
  rintro e w3 ⟨rfl, o3, b3⟩
  have R3 := Lib.hid (R2.out.on b3)
  have X3 : Hid (RP w3 w3.heap.size (some ⟨w2.heap.size, 0, none⟩) n zs) := Lib.hid (by obtain ⟨A', c', e, r⟩ := RP.of_own o3; cases e; exact r)
  have B3 := Lib.hid (B2.out.trans (b3.mono B2.out.size))
  clear o3 b3 B2 R2
  go_wp2_with fail
  refine (iVal_any _ _ _ zs _ _ X3.out hn).mono ?_
  rintro e w4 ⟨rfl, b4⟩
  have R4 := Lib.hid (R3.out.on b4)
  have X4 := Lib.hid (X3.out.on b4)
  have B4 := Lib.hid (B3.out.trans (b4.mono B3.out.size))
  clear b4 B3 R3 X3
  generalize valN zs key = vn
  generalize valB zs key = vb
  go_wp2_with fail
  refine (toS_any _ _ _ _ _ R4.out hn).mono ?_
  rintro e w5 ⟨rfl, o5, b5⟩
  have X5 := Lib.hid (X4.out.on b5)
  have Y5 : Hid (RP w5 w5.heap.size (some ⟨w4.heap.size, 0, none⟩) n zs) := Lib.hid (by obtain ⟨A', c', e, r⟩ := RP.of_own o5; cases e; exact r)
  have B5 := Lib.hid (B4.out.trans (b5.mono B4.out.size))
  clear o5 b5 B4 R4 X4
  go_wp2_with fail
  refine (eqS_yes _ _ _ _ _ _ _ X5.out Y5.out hn).mono ?_
  rintro e w6 ⟨rfl, b6⟩
  have B6 := Lib.hid (B5.out.trans (b6.mono B5.out.size))
  clear b6 B5
  go_wp2_with fail
  go_ret
  exact ⟨rfl, B6.out⟩
end Go.Proofs.Ytjlbnbmniejidaa
