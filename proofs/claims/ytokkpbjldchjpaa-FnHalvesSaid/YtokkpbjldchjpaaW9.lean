/- The walk of spliced. -/
import Derived.Test.YtokkpbjldchjpaaW8
import Derived.StillTailTactics
namespace Go.Proofs.Ytokkpbjldchjpaa
open Go.RowKit
set_option linter.unusedVariables false

/-- Concat over three lists that a call has just laid side by side. -/
theorem concat3 (w w2 : World) (A1 A2 A3 : Option Addr) (n1 n2 n3 c1 c2 c3 : Nat) (z1 z2 z3 : List Pr) (hb : Below w.heap.size w w2)
    (h1 : RP w w.heap.size A1 n1 z1) (h2 : RP w w.heap.size A2 n2 z2) (h3 : RP w w.heap.size A3 n3 z3) (hs : n1 + n2 + n3 ≤ 4194304) :
    Calls Try.prog 62 #[.slice (some ⟨w2.heap.size, 0, none⟩) 3 3] (w2.alloc (.cells #[.slice A1 n1 c1, .slice A2 n2 c2, .slice A3 n3 c3] 24)) (Gives w (z1 ++ (z2 ++ z3))) := by
  have hb3 : Below w.heap.size w (w2.alloc (.cells #[.slice A1 n1 c1, .slice A2 n2 c2, .slice A3 n3 c3] 24)) := hb.alloc hb.size _
  have hk := concat_any w2.heap.size 0 3 3 (fun i => match i with | 0 => A1 | 1 => A2 | _ => A3) (fun i => match i with | 0 => n1 | 1 => n2 | _ => n3) (fun i => match i with | 0 => c1 | 1 => c2 | _ => c3)
    (fun i => match i with | 0 => z1 | 1 => z2 | _ => z3) (w2.alloc (.cells #[.slice A1 n1 c1, .slice A2 n2 c2, .slice A3 n3 c3] 24)) (by simp) (by omega)
    (by
      intro i hi
      match i, hi with
      | 0, _ => simp
      | 1, _ => simp
      | 2, _ => simp)
    (by
      intro i hi
      match i, hi with
      | 0, _ => exact h1.on hb3
      | 1, _ => exact h2.on hb3
      | 2, _ => exact h3.on hb3)
    (by simp [sumTo]; omega)
  refine hk.mono fun e w' ⟨v, he, ho, hw⟩ => ⟨v, he, ?_, hb3.trans (hw.mono hb3.size)⟩
  have e1 : catTo (fun i => match i with | 0 => z1 | 1 => z2 | _ => z3) 3 = z1 ++ (z2 ++ z3) := by simp [catTo]
  rw [e1] at ho
  rcases ho with ⟨hl, h' | ⟨g, cap, cur, hv, hg, rest⟩⟩
  · exact ⟨hl, .inl h'⟩
  · exact ⟨hl, .inr ⟨g, cap, cur, hv, Nat.le_trans hb3.size hg, rest⟩⟩

theorem spliced_any (A A' : Option Addr) (n c m c' i j : Nat) (zs ys : List Pr) (w : World) (h : RP w w.heap.size A n zs) (h' : RP w w.heap.size A' m ys) (hij : i ≤ j) (hj : j ≤ n) (hc : n ≤ c) (hc2 : c ≤ 9223372036854775807) (hn : n ≤ 1048576) (hm : m ≤ 64) :
    Calls Try.prog 42 #[.slice A n c, .int .i64 i, .int .i64 j, .slice A' m c'] w (Gives w (zs.take i ++ ys ++ zs.drop j)) := by
  have HH := Lib.hid h
  have HH' := Lib.hid h'
  clear h h'
  have hi0 : (0 : Int) ≤ i := by omega
  have hj0 : (0 : Int) ≤ j := by omega
  have hic : (i : Int) ≤ c := by omega
  have hjn : (j : Int) ≤ n := by omega
  have hic' : i ≤ c := by omega
  by_cases hcj : c = j
  · subst hcj
    have R1 := Lib.hid (HH.out.take (k := i) (by omega))
    have R3 := Lib.hid (HH.out.drop (k := c) hj hc)
    rw [if_pos rfl, show n - c = 0 from by omega] at R3
    go_enter Try.func42, Try.ntmps42
    go_wp2_with fail
    go_still_tail 7, (by kernel_rfl)
    change wpList _ _ _ _ _ w.drew
    have HB := Lib.hid ((Below.refl w.heap.size w).drew)
    generalize w.drew = w2 at *
    go_wp2_with fail
    refine (concat3 w w2 _ _ _ _ _ _ _ _ _ _ _ _ HB.out R1.out HH'.out R3.out (by omega)).mono ?_
    rintro e w3 ⟨v, rfl, ho, hb⟩
    have HO := Lib.hid ho
    have HB3 := Lib.hid hb
    clear ho hb
    go_wp2
    go_ret
    exact ⟨_, rfl, by rw [List.append_assoc]; exact HO.out, HB3.out⟩
  · have R1 := Lib.hid (HH.out.take (k := i) (by omega))
    have R3 := Lib.hid (HH.out.drop (k := j) hj hc)
    rw [if_neg hcj] at R3
    go_enter Try.func42, Try.ntmps42
    go_wp2_with fail
    go_still_tail 7, (by kernel_rfl)
    change wpList _ _ _ _ _ w.drew
    have HB := Lib.hid ((Below.refl w.heap.size w).drew)
    generalize w.drew = w2 at *
    go_wp2_with fail
    refine (concat3 w w2 _ _ _ _ _ _ _ _ _ _ _ _ HB.out R1.out HH'.out R3.out (by omega)).mono ?_
    rintro e w3 ⟨v, rfl, ho, hb⟩
    have HO := Lib.hid ho
    have HB3 := Lib.hid hb
    clear ho hb
    go_wp2
    go_ret
    exact ⟨_, rfl, by rw [List.append_assoc]; exact HO.out, HB3.out⟩
end Go.Proofs.Ytokkpbjldchjpaa
