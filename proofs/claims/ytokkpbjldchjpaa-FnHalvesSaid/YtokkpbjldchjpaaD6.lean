/- The walks of the draws: DrawPairsOk, DrawValueAt, DrawCut, DrawPut; and of big and likePairs. -/
import Derived.Test.YtokkpbjldchjpaaD5
namespace Go.Proofs.Ytokkpbjldchjpaa
open Go.RowKit

/-- A list of the call's own of at most 41 pairs. -/
def MadeL (w : World) (A : Option Addr) (c : Nat) (zs : List Pr) (w' : World) : Prop := w'.ownsRow w.heap.size 28 2 (.slice A zs.length c) zs.length (PL zs) ∧ zs.length ≤ 41 ∧ Below w.heap.size w w'

theorem big_any (A : Option Addr) (n c : Nat) (w : World) (hn : n ≤ 9223372036854775807) :
    Calls Try.prog 6 #[.slice A n c] w fun e w' => e = .returned (.bool (decide (4096 < n))) ∧ w = w' := by
  by_cases h : 4096 < n
  · rw [decide_eq_true h]
    go_enter Try.func6, Try.ntmps6
    go_wp2
    go_ret
    exact ⟨ret_bool (by simp; omega), rfl⟩
  · rw [decide_eq_false h]
    go_enter Try.func6, Try.ntmps6
    go_wp2
    go_ret
    exact ⟨ret_bool (by simp; omega), rfl⟩

theorem like_yes (A B : Option Addr) (n c d : Nat) (zs : List Pr) (w : World) (h : RP w w.heap.size A n zs) (h' : RP w w.heap.size B n zs) (hn : n ≤ 1048576) :
    Calls Try.prog 15 #[.slice A n c, .slice B n d] w fun e w' => e = .returned (.bool true) ∧ Below w.heap.size w w' := by
  have HH := Lib.hid h
  have HH' := Lib.hid h'
  clear h h'
  go_enter Try.func15, Try.ntmps15
  go_wp2
  go_loopw [5] (fun i wr => ∃ k : Nat, i = .int .i64 k ∧ k ≤ n ∧ Hid (Below w.heap.size w wr)) (fun i _ => n - (intOf i).toNat)
  case atStart => exact ⟨0, rfl, by omega, Lib.hid (Below.refl _ _)⟩
  case round =>
    obtain ⟨k, rfl, hk, hbw⟩ := hrel
    by_cases hlt : k < n
    · obtain ⟨b, off, rfl, hb, hc⟩ := HH.out.2 (by omega)
      obtain ⟨b', off', rfl, hb', hc'⟩ := HH'.out.2 (by omega)
      have c1 := Later.of_cell (hc k hlt).1 hbw.out hb
      have c2 := Later.of_cell (hc k hlt).2 hbw.out hb
      have c3 := Later.of_cell (hc' k hlt).1 hbw.out hb'
      have c4 := Later.of_cell (hc' k hlt).2 hbw.out hb'
      clear hc hc'
      go_wp2
      refine wp_region_later (by kernel_rfl) (by kernel_rfl) ?_
      repeat (go_big_quiet_step (fail))
      refine wpQuiet_nil ?_
      intro _ hw'
      obtain ⟨s, rfl⟩ := hw'
      go_wp2
      go_roundw
      case rel => exact ⟨k + 1, by go_num, by omega, Lib.hid (s.below_of hbw.out)⟩
      case measure => simp [intOf]; omega
    · go_wp2
      go_ret
      exact ⟨rfl, hbw.out⟩
end Go.Proofs.Ytokkpbjldchjpaa
