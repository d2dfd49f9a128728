/- The walks of szPairS, toPairS, eqPairS, and of the law on PairsOk. -/
import Derived.Test.YtokkpbjldchjpaaW4
namespace Go.Proofs.Ytokkpbjldchjpaa
open Go.RowKit

theorem sz_yes (A : Option Addr) (n c : Nat) (w : World) (hn : n ≤ 1048576) :
    Calls Try.prog 43 #[.slice A n c, .int .i64 1048576] w fun e w' => e = .returned (.int .i64 (1048576 - n)) ∧ w = w' := by
  go_enter Try.func43, Try.ntmps43
  go_wp2
  go_ret
  exact ⟨rfl, rfl⟩
theorem sz_no (A : Option Addr) (n c : Nat) (w : World) (hn : 1048576 < n) (hm : n ≤ 9223372036854775807) :
    Calls Try.prog 43 #[.slice A n c, .int .i64 1048576] w fun e w' => e = .returned (.int .i64 (-1)) ∧ w = w' := by
  go_enter Try.func43, Try.ntmps43
  go_wp2
  go_ret
  exact ⟨rfl, rfl⟩

theorem pair_info : (Try.prog.info? 28).map (fun i => (i.zero, i.size, i.bytes)) = some (some (.agg #[.int .i64 0, .int .i64 0]), 2, 16) := by kernel_rfl

theorem toS_any (A : Option Addr) (n c : Nat) (zs : List Pr) (w : World) (h : RP w w.heap.size A n zs) (hn : n ≤ 1048576) :
    Calls Try.prog 44 #[.slice A n c] w fun e w' => e = .returned (.slice (some ⟨w.heap.size, 0, none⟩) n n) ∧ w'.ownsRow w.heap.size 28 2 (.slice (some ⟨w.heap.size, 0, none⟩) n n) n (PL zs) ∧ Below w.heap.size w w' := by
  have HL := Lib.hid h.1
  have HH := Lib.hid h
  clear h
  obtain ⟨i0, hi0, hz0, hz1, hz2⟩ := info_parts pair_info
  go_enter Try.func44, Try.ntmps44
  go_wp2_with (at_make; refine wpList_make_full _ rfl _ _ 24 rfl w.heap.size 28 i0 (.agg #[.int .i64 0, .int .i64 0]) 2 Try.underlying24 hi0 hz0 hz1 .i64 .i64 _ _ n rfl rfl rfl rfl (by rw [hz2]; omega) (by unfold maxLen; omega) (Nat.le_refl _) ?_)
  intro w1 hown hgrow
  have hm : (madeCells (Value.agg #[.int .i64 0, .int .i64 0]).cells (n * 2)).toList = PL (madeTo zs n 0) := by rw [madeTo_zero]; exact made_noughts n
  have hown : w1.ownsRow w.heap.size 28 2 (.slice (some ⟨w.heap.size, 0, none⟩) n n) n (PL (madeTo zs n 0)) := by rw [← hm]; exact hown
  have HO := Lib.hid hown
  have hb1 : Below w.heap.size w w1 := (Below.refl _ _).grown hgrow (Nat.le_refl _) (by intro k hk; cases hk)
  have HB := Lib.hid hb1
  clear hown hb1 hgrow hm
  go_wp2
  go_loopw [4] (fun i wr => ∃ k : Nat, i = .int .i64 k ∧ k ≤ n ∧ Hid (wr.ownsRow w.heap.size 28 2 (.slice (some ⟨w.heap.size, 0, none⟩) n n) n (PL (madeTo zs n k))) ∧ Hid (Below w.heap.size w wr)) (fun i _ => n - (intOf i).toNat)
  case atStart => exact ⟨0, rfl, by omega, HO, HB⟩
  case round =>
    obtain ⟨k, rfl, hk, ho, hbw⟩ := hrel
    clear HO HB
    by_cases hlt : k < n
    · obtain ⟨b, off, rfl, hb, hc⟩ := HH.out.2 (by omega)
      have c1 := (hbw.out.cell (p := ⟨b, off + k * 2, none⟩) hb).trans (hc k hlt).1
      have c2 := (hbw.out.cell (p := ⟨b, off + k * 2 + 1, none⟩) hb).trans (hc k hlt).2
      clear hc
      go_wp2_with fail
      refine (toPair_any _ _ _).mono ?_
      rintro e w2 ⟨rfl, hb2⟩
      have hz : zs.length = n := HL.out
      have ho2 := own_on ho.out hb2
      have f1 : w2.frozen? ⟨w.heap.size, k * 2, none⟩ = false := ho2.frozenAt _
      have f2 : w2.frozen? ⟨w.heap.size, k * 2 + 1, none⟩ = false := ho2.frozenAt _
      have d1 : w2.cell? ⟨w.heap.size, k * 2, none⟩ = some (.int .i64 (kAt (madeTo zs n k) k)) := (ho2.cellAt (k * 2) (by omega)).trans (PL_fst _ _ (by rw [madeTo_length _ _ _ hz hk]; exact hlt))
      have d2 : w2.cell? ⟨w.heap.size, k * 2 + 1, none⟩ = some (.int .i64 (vAt (madeTo zs n k) k)) := (ho2.cellAt (k * 2 + 1) (by omega)).trans (PL_snd _ _ (by rw [madeTo_length _ _ _ hz hk]; exact hlt))
      have HO2 := Lib.hid ho2
      have HB2 := Lib.hid hb2
      have HZ := Lib.hid hz
      clear ho2 hb2 hz
      go_wp2
      go_roundw
      case rel =>
        refine ⟨k + 1, by go_num, by omega, Lib.hid ?_, Lib.hid ?_⟩
        · have h1 := (HO2.out.stored (k * 2) (.int .i64 (kAt zs k))).1
          have h2 := (h1.stored (k * 2 + 1) (.int .i64 (vAt zs k))).1
          rw [PL_set, madeTo_next _ _ _ HZ.out hlt] at h2
          exact h2
        · exact ((hbw.out.trans (HB2.out.mono hbw.out.size)).setCell (Nat.le_refl _) _).setCell (Nat.le_refl _) _
      case measure => simp [intOf]; omega
    · have hkn : k = n := by omega
      have HK := Lib.hid hkn
      clear hkn
      go_wp2
      go_ret
      refine ⟨rfl, ?_, hbw.out⟩
      have h1 := ho.out
      rw [HK.out, madeTo_all _ _ HL.out] at h1
      exact h1

theorem eqS_yes (A B : Option Addr) (n c d : Nat) (zs : List Pr) (w : World) (h : RP w w.heap.size A n zs) (h' : RP w w.heap.size B n zs) (hn : n ≤ 1048576) :
    Calls Try.prog 45 #[.slice A n c, .slice B n d] w fun e w' => e = .returned (.bool true) ∧ Below w.heap.size w w' := by
  have HH := Lib.hid h
  have HH' := Lib.hid h'
  clear h h'
  go_enter Try.func45, Try.ntmps45
  go_wp2
  go_loopw [5] (fun i wr => ∃ k : Nat, i = .int .i64 k ∧ k ≤ n ∧ Hid (Below w.heap.size w wr)) (fun i _ => n - (intOf i).toNat)
  case atStart => exact ⟨0, rfl, by omega, Lib.hid (Below.refl _ _)⟩
  case round =>
    obtain ⟨k, rfl, hk, hbw⟩ := hrel
    by_cases hlt : k < n
    · obtain ⟨b, off, rfl, hb, hc⟩ := HH.out.2 (by omega)
      obtain ⟨b', off', rfl, hb', hc'⟩ := HH'.out.2 (by omega)
      have c1 := Later.of_cell (hc k hlt).1 hbw.out hb
      have c2 := Later.of_cell (hc k hlt).2 hbw.out hb
      have c3 := Later.of_cell (hc' k hlt).1 hbw.out hb'
      have c4 := Later.of_cell (hc' k hlt).2 hbw.out hb'
      clear hc hc'
      go_wp2
      refine wp_region_later (by kernel_rfl) (by kernel_rfl) ?_
      repeat (go_big_quiet_step ((go_at_call 63; exact Calls.later (eqPair_yes _ _ _))))
      refine wpQuiet_nil ?_
      intro _ hw'
      obtain ⟨s, rfl⟩ := hw'
      go_wp2
      go_roundw
      case rel => exact ⟨k + 1, by go_num, by omega, Lib.hid (s.below_of hbw.out)⟩
      case measure => simp [intOf]; omega
    · go_wp2
      go_ret
      exact ⟨rfl, hbw.out⟩
end Go.Proofs.Ytokkpbjldchjpaa
