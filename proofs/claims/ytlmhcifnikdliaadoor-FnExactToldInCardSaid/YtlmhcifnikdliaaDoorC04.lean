/- The walk of the code's own look at a list: rising keys, right pairs. -/
import Derived.Test.YtlmhcifnikdliaaDoorC03
namespace Go.Proofs.YtlmhcifnikdliaaDoor
open Go.RowKit

def riseTo (zs : List Pr) (k : Nat) : Prop := ∀ j, j < k → 0 < j → kAt zs (j - 1) < kAt zs j
def risesB (zs : List Pr) : Bool := (List.range zs.length).all fun j => j == 0 || decide (kAt zs (j - 1) < kAt zs j)

theorem risesB_true {zs : List Pr} (h : riseTo zs zs.length) : risesB zs = true := by
  unfold risesB
  simp only [List.all_eq_true, List.mem_range, Bool.or_eq_true, beq_iff_eq, decide_eq_true_eq]
  intro j hj
  rcases Nat.eq_zero_or_pos j with h0 | h0
  · exact .inl h0
  · exact .inr (h j hj h0)
theorem risesB_iff (zs : List Pr) : risesB zs = true ↔ riseTo zs zs.length := by
  refine ⟨fun h => ?_, risesB_true⟩
  unfold risesB at h
  simp only [List.all_eq_true, List.mem_range, Bool.or_eq_true, beq_iff_eq, decide_eq_true_eq] at h
  intro j hj h0
  rcases h j hj with h' | h'
  · omega
  · exact h'
theorem risesB_false {zs : List Pr} (h : ∃ j, j < zs.length ∧ 0 < j ∧ ¬ kAt zs (j - 1) < kAt zs j) : risesB zs = false := by
  obtain ⟨j, h1, h2, h3⟩ := h
  cases e : risesB zs with
  | false => rfl
  | true => exact absurd ((risesB_iff zs).1 e j h1 h2) h3
theorem riseTo_snoc {zs : List Pr} {k : Nat} (h : riseTo zs k) (hl : kAt zs (k - 1) < kAt zs k) : riseTo zs (k + 1) := by
  intro j hj h0
  rcases Nat.lt_or_ge j k with h' | h'
  · exact h j h' h0
  · obtain rfl : j = k := by omega
    exact hl

theorem meth_key (k v : Int) (w : World) : (method 261 53 (.agg #[.int .i64 k, .int .i64 v]) "loop.example/g00796/impl.key").run Tryd.prog w = .ok (104, .agg #[.int .i64 k, .int .i64 v]) w := by kernel_rfl

theorem rises_any (A : Option Addr) (n c : Nat) (zs : List Pr) (w : World) (h : RP w w.heap.size A n zs) (hn : n ≤ 1048576) :
    Calls Tryd.prog 84 #[.slice A n c] w fun e w' => e = .returned (.bool (risesB zs)) ∧ Below w.heap.size w w' := by
  have hl := h.1
  have HL := Lib.hid hl
  clear hl
  have HH := Lib.hid h
  clear h
  go_enter Tryd.func84, Tryd.ntmps84
  go_wp2
  go_loopw [3] (fun i wr => ∃ k : Nat, i = .int .i64 k ∧ 1 ≤ k ∧ (k ≤ n ∨ k = 1) ∧ Hid (riseTo zs k) ∧ Hid (Below w.heap.size w wr)) (fun i _ => n + 1 - (intOf i).toNat)
  case atStart => exact ⟨1, rfl, by omega, by omega, Lib.hid (by intro j hj; omega), Lib.hid (Below.refl _ _)⟩
  case round =>
    obtain ⟨k, rfl, hk1, hk, ho, hbw⟩ := hrel
    by_cases hlt : k < n
    · obtain ⟨b, off, rfl, hb, hc⟩ := HH.out.2 (by omega)
      have c1 := Later.of_cell (hc k hlt).1 hbw.out hb
      have c2 := Later.of_cell (hc k hlt).2 hbw.out hb
      have c3 := Later.of_cell (hc (k - 1) (by omega)).1 hbw.out hb
      have c4 := Later.of_cell (hc (k - 1) (by omega)).2 hbw.out hb
      clear hc
      have m1 := meth_key
      go_wp2
      refine wp_region_later (by kernel_rfl) (by kernel_rfl) ?_
      repeat (go_big_quiet_step ((go_at_call 104; exact Calls.later (rkey_any _ _ _))))
      refine wpQuiet_nil ?_
      intro _ hw'
      obtain ⟨s, rfl⟩ := hw'
      go_wp2
      · go_ret
        refine ⟨ret_bool ?_, s.below_of hbw.out⟩
        have hge : kAt zs k ≤ kAt zs (k - 1) := by assumption
        exact (risesB_false ⟨k, by have := HL.out; omega, by omega, by omega⟩).symm
      · go_roundw
        have hge : kAt zs (k - 1) < kAt zs k := by assumption
        case rel => exact ⟨k + 1, by go_num, by omega, by omega, Lib.hid (riseTo_snoc ho.out hge), Lib.hid (s.below_of hbw.out)⟩
        case measure => simp [intOf]; omega
    · go_wp2
      go_ret
      refine ⟨ret_bool (risesB_true ?_).symm, hbw.out⟩
      have hz : zs.length = n := HL.out
      intro j hj h0
      exact ho.out j (by omega) h0

def rightTo (zs : List Pr) (k : Nat) : Prop := ∀ j, j < k → rightB (kAt zs j) (vAt zs j) = true
theorem rightTo_snoc {zs : List Pr} {k : Nat} (h : rightTo zs k) (hr : rightB (kAt zs k) (vAt zs k) = true) : rightTo zs (k + 1) := by
  intro j hj
  rcases Nat.lt_or_ge j k with h' | h'
  · exact h j h'
  · obtain rfl : j = k := by omega
    exact hr
theorem pOk_of (zs : List Pr) (h : rightTo zs zs.length) (hl : zs.length ≤ 40) : risesB zs = pOk zs := by
  rw [Bool.eq_iff_iff, pOk_iff, risesB_iff]
  exact ⟨fun hr => ⟨fun j hj => ⟨h j hj, hr j hj⟩, hl⟩, fun hh j hj => (hh.1 j hj).2⟩

theorem iOk_any (A : Option Addr) (n c : Nat) (zs : List Pr) (w : World) (h : RP w w.heap.size A n zs) (hn : n ≤ 1048576) :
    Calls Tryd.prog 79 #[.slice A n c] w fun e w' => e = .returned (.bool (pOk zs)) ∧ Below w.heap.size w w' := by
  have hl := h.1
  have HL := Lib.hid hl
  clear hl
  have HH := Lib.hid h
  clear h
  by_cases h40 : 40 < n
  · go_enter Tryd.func79, Tryd.ntmps79
    go_wp2
    go_ret
    exact ⟨ret_bool (pOk_false zs (fun h => by have := HL.out; omega)).symm, Below.refl _ _⟩
  have h40' : n ≤ 40 := by omega
  clear h40
  go_enter Tryd.func79, Tryd.ntmps79
  go_wp2
  go_loopw [10] (fun i wr => ∃ k : Nat, i = .int .i64 k ∧ k ≤ n ∧ Hid (rightTo zs k) ∧ Hid (Below w.heap.size w wr)) (fun i _ => n - (intOf i).toNat)
  case atStart => exact ⟨0, rfl, by omega, Lib.hid (by intro j hj; omega), Lib.hid (Below.refl _ _)⟩
  case round =>
    obtain ⟨k, rfl, hk, ho, hbw⟩ := hrel
    by_cases hlt : k < n
    · obtain ⟨b, off, rfl, hb, hc⟩ := HH.out.2 (by omega)
      have c1 := (hbw.out.cell (p := ⟨b, off + k * 2, none⟩) hb).trans (hc k hlt).1
      have c2 := (hbw.out.cell (p := ⟨b, off + k * 2 + 1, none⟩) hb).trans (hc k hlt).2
      clear hc
      go_wp2_with (go_at_call 83; refine (right_any _ _ _).mono ?_; rintro e w1 ⟨rfl, hb1⟩)
      · go_ret
        have hr' : (!rightB (kAt zs k) (vAt zs k)) = true := by assumption
        have hr : rightB (kAt zs k) (vAt zs k) = false := by simpa using hr'
        exact ⟨ret_bool (pOk_false zs (fun h => by have := (h.1 k (by have := HL.out; omega)).1; rw [hr] at this; cases this)).symm,
          hbw.out.trans (((Below.refl _ _).alloc (Nat.le_refl _) _).trans (hb1.mono (by simp)) |>.mono hbw.out.size)⟩
      · go_roundw
        have hr' : (!rightB (kAt zs k) (vAt zs k)) = false := by assumption
        have hr : rightB (kAt zs k) (vAt zs k) = true := by simpa using hr'
        case rel => exact ⟨k + 1, by go_num, by omega, Lib.hid (rightTo_snoc ho.out hr), Lib.hid (hbw.out.trans (((Below.refl _ _).alloc (Nat.le_refl _) _).trans (hb1.mono (by simp)) |>.mono hbw.out.size))⟩
        case measure => simp [intOf]; omega
    · have hz : zs.length = n := HL.out
      have hR : RP wr wr.heap.size A n zs := HH.out.on hbw.out
      have HR := Lib.hid hR
      have HZ := Lib.hid hz
      clear hR hz
      go_wp2_with (go_at_call 84; refine (rises_any _ _ _ _ _ HR.out (by omega)).mono ?_; rintro e w1 ⟨rfl, hb1⟩)
      go_ret
      refine ⟨ret_bool (pOk_of zs (fun j hj => ho.out j (by have := HZ.out; omega)) (by have := HZ.out; omega)), hbw.out.trans (hb1.mono hbw.out.size)⟩
end Go.Proofs.YtlmhcifnikdliaaDoor
namespace Go.Proofs.YtlmhcifnikdliaaDoor
open Go.RowKit

theorem pair_info : (Tryd.prog.info? 53).map (fun i => (i.zero, i.size, i.bytes)) = some (some (.agg #[.int .i64 0, .int .i64 0]), 2, 16) := by kernel_rfl

theorem toS_any (A : Option Addr) (n c : Nat) (zs : List Pr) (w : World) (h : RP w w.heap.size A n zs) (hn : n ≤ 1048576) :
    Calls Tryd.prog 59 #[.slice A n c] w fun e w' => e = .returned (.slice (some ⟨w.heap.size, 0, none⟩) n n) ∧ w'.ownsRow w.heap.size 53 2 (.slice (some ⟨w.heap.size, 0, none⟩) n n) n (PL zs) ∧ Below w.heap.size w w' := by
  have HL := Lib.hid h.1
  have HH := Lib.hid h
  clear h
  obtain ⟨i0, hi0, hz0, hz1, hz2⟩ := info_parts pair_info
  go_enter Tryd.func59, Tryd.ntmps59
  go_wp2_with (at_make; refine wpList_make_full _ rfl _ _ 33 rfl w.heap.size 53 i0 (.agg #[.int .i64 0, .int .i64 0]) 2 Tryd.underlying33 hi0 hz0 hz1 .i64 .i64 _ _ n rfl rfl rfl rfl (by rw [hz2]; omega) (by unfold maxLen; omega) (Nat.le_refl _) ?_)
  intro w1 hown hgrow
  have hm : (madeCells (Value.agg #[.int .i64 0, .int .i64 0]).cells (n * 2)).toList = PL (madeTo zs n 0) := by rw [madeTo_zero]; exact made_noughts n
  have hown : w1.ownsRow w.heap.size 53 2 (.slice (some ⟨w.heap.size, 0, none⟩) n n) n (PL (madeTo zs n 0)) := by rw [← hm]; exact hown
  have HO := Lib.hid hown
  have hb1 : Below w.heap.size w w1 := (Below.refl _ _).grown hgrow (Nat.le_refl _) (by intro k hk; cases hk)
  have HB := Lib.hid hb1
  clear hown hb1 hgrow hm
  go_wp2
  go_loopw [4] (fun i wr => ∃ k : Nat, i = .int .i64 k ∧ k ≤ n ∧ Hid (wr.ownsRow w.heap.size 53 2 (.slice (some ⟨w.heap.size, 0, none⟩) n n) n (PL (madeTo zs n k))) ∧ Hid (Below w.heap.size w wr)) (fun i _ => n - (intOf i).toNat)
  case atStart => exact ⟨0, rfl, by omega, HO, HB⟩
  case round =>
    obtain ⟨k, rfl, hk, ho, hbw⟩ := hrel
    clear HO HB
    by_cases hlt : k < n
    · obtain ⟨b, off, rfl, hb, hc⟩ := HH.out.2 (by omega)
      have c1 := (hbw.out.cell (p := ⟨b, off + k * 2, none⟩) hb).trans (hc k hlt).1
      have c2 := (hbw.out.cell (p := ⟨b, off + k * 2 + 1, none⟩) hb).trans (hc k hlt).2
      clear hc
      go_wp2_with fail
      refine (toPair_any _ _ _).mono ?_
      rintro e w2 ⟨rfl, hb2⟩
      have hz : zs.length = n := HL.out
      have ho2 := own_on ho.out hb2
      have f1 : w2.frozen? ⟨w.heap.size, k * 2, none⟩ = false := ho2.frozenAt _
      have f2 : w2.frozen? ⟨w.heap.size, k * 2 + 1, none⟩ = false := ho2.frozenAt _
      have d1 : w2.cell? ⟨w.heap.size, k * 2, none⟩ = some (.int .i64 (kAt (madeTo zs n k) k)) := (ho2.cellAt (k * 2) (by omega)).trans (PL_fst _ _ (by rw [madeTo_length _ _ _ hz hk]; exact hlt))
      have d2 : w2.cell? ⟨w.heap.size, k * 2 + 1, none⟩ = some (.int .i64 (vAt (madeTo zs n k) k)) := (ho2.cellAt (k * 2 + 1) (by omega)).trans (PL_snd _ _ (by rw [madeTo_length _ _ _ hz hk]; exact hlt))
      have HO2 := Lib.hid ho2
      have HB2 := Lib.hid hb2
      have HZ := Lib.hid hz
      clear ho2 hb2 hz
      go_wp2
      go_roundw
      case rel =>
        refine ⟨k + 1, by go_num, by omega, Lib.hid ?_, Lib.hid ?_⟩
        · have h1 := (HO2.out.stored (k * 2) (.int .i64 (kAt zs k))).1
          have h2 := (h1.stored (k * 2 + 1) (.int .i64 (vAt zs k))).1
          rw [PL_set, madeTo_next _ _ _ HZ.out hlt] at h2
          exact h2
        · exact ((hbw.out.trans (HB2.out.mono hbw.out.size)).setCell (Nat.le_refl _) _).setCell (Nat.le_refl _) _
      case measure => simp [intOf]; omega
    · have hkn : k = n := by omega
      have HK := Lib.hid hkn
      clear hkn
      go_wp2
      go_ret
      refine ⟨rfl, ?_, hbw.out⟩
      have h1 := ho.out
      rw [HK.out, madeTo_all _ _ HL.out] at h1
      exact h1

theorem eqS_yes (A B : Option Addr) (n c d : Nat) (zs : List Pr) (w : World) (h : RP w w.heap.size A n zs) (h' : RP w w.heap.size B n zs) (hn : n ≤ 1048576) :
    Calls Tryd.prog 13 #[.slice A n c, .slice B n d] w fun e w' => e = .returned (.bool true) ∧ Below w.heap.size w w' := by
  have HH := Lib.hid h
  have HH' := Lib.hid h'
  clear h h'
  go_enter Tryd.func13, Tryd.ntmps13
  go_wp2
  go_loopw [5] (fun i wr => ∃ k : Nat, i = .int .i64 k ∧ k ≤ n ∧ Hid (Below w.heap.size w wr)) (fun i _ => n - (intOf i).toNat)
  case atStart => exact ⟨0, rfl, by omega, Lib.hid (Below.refl _ _)⟩
  case round =>
    obtain ⟨k, rfl, hk, hbw⟩ := hrel
    by_cases hlt : k < n
    · obtain ⟨b, off, rfl, hb, hc⟩ := HH.out.2 (by omega)
      obtain ⟨b', off', rfl, hb', hc'⟩ := HH'.out.2 (by omega)
      have c1 := Later.of_cell (hc k hlt).1 hbw.out hb
      have c2 := Later.of_cell (hc k hlt).2 hbw.out hb
      have c3 := Later.of_cell (hc' k hlt).1 hbw.out hb'
      have c4 := Later.of_cell (hc' k hlt).2 hbw.out hb'
      clear hc hc'
      go_wp2
      refine wp_region_later (by kernel_rfl) (by kernel_rfl) ?_
      repeat (go_big_quiet_step ((go_at_call 29; exact Calls.later (eqPair_yes _ _ _))))
      refine wpQuiet_nil ?_
      intro _ hw'
      obtain ⟨s, rfl⟩ := hw'
      go_wp2
      go_roundw
      case rel => exact ⟨k + 1, by go_num, by omega, Lib.hid (s.below_of hbw.out)⟩
      case measure => simp [intOf]; omega
    · go_wp2
      go_ret
      exact ⟨rfl, hbw.out⟩
end Go.Proofs.YtlmhcifnikdliaaDoor
