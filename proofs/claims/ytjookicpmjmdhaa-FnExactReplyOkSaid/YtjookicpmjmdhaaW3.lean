/- The walk of the model's PairsOk. -/
import Derived.Test.YtjookicpmjmdhaaW2
namespace Go.Proofs.Ytjookicpmjmdhaa
open Go.RowKit

/-- Right at each place below k, and rising. -/
def okTo (zs : List Pr) (k : Nat) : Prop := ∀ j, j < k → rightB (kAt zs j) (vAt zs j) = true ∧ (0 < j → kAt zs (j - 1) < kAt zs j)
def pOk (zs : List Pr) : Bool := decide (zs.length ≤ 40) && (List.range zs.length).all fun j => rightB (kAt zs j) (vAt zs j) && (j == 0 || decide (kAt zs (j - 1) < kAt zs j))
theorem pOk_iff (zs : List Pr) : pOk zs = true ↔ (okTo zs zs.length ∧ zs.length ≤ 40) := by
  unfold pOk okTo
  simp only [Bool.and_eq_true, decide_eq_true_eq, List.all_eq_true, List.mem_range, Bool.or_eq_true, beq_iff_eq]
  constructor
  · rintro ⟨h1, h2⟩
    exact ⟨fun j hj => ⟨(h2 j hj).1, fun h0 => by rcases (h2 j hj).2 with h | h; omega; exact h⟩, h1⟩
  · rintro ⟨h1, h2⟩
    exact ⟨h2, fun j hj => ⟨(h1 j hj).1, by rcases Nat.eq_zero_or_pos j with h | h; exact .inl h; exact .inr ((h1 j hj).2 h)⟩⟩
theorem pOk_false (zs : List Pr) (h : ¬ (okTo zs zs.length ∧ zs.length ≤ 40)) : pOk zs = false := by
  cases e : pOk zs with
  | false => rfl
  | true => exact absurd ((pOk_iff zs).1 e) h

theorem okTo_snoc {zs : List Pr} {k : Nat} (h : okTo zs k) (hr : rightB (kAt zs k) (vAt zs k) = true) (hl : 0 < k → kAt zs (k - 1) < kAt zs k) : okTo zs (k + 1) := by
  intro j hj
  rcases Nat.lt_or_ge j k with h' | h'
  · exact h j h'
  · obtain rfl : j = k := by omega
    exact ⟨hr, hl⟩

theorem spOk_any (A : Option Addr) (n c : Nat) (zs : List Pr) (w : World) (h : RP w w.heap.size A n zs) (hn : n ≤ 1048576) :
    Calls Try.prog 89 #[.slice A n c] w fun e w' => e = .returned (.bool (pOk zs)) ∧ Below w.heap.size w w' := by
  have hl := h.1
  have HL := Lib.hid hl
  clear hl
  have HH := Lib.hid h
  clear h
  go_enter Try.func89, Try.ntmps89
  go_wp2
  go_loopw [3] (fun i wr => ∃ k : Nat, i = .int .i64 k ∧ k ≤ n ∧ Hid (okTo zs k) ∧ Hid (Below w.heap.size w wr)) (fun i _ => n - (intOf i).toNat)
  case atStart => exact ⟨0, rfl, by omega, Lib.hid (by intro j hj; omega), Lib.hid (Below.refl _ _)⟩
  case round =>
    obtain ⟨k, rfl, hk, ho, hbw⟩ := hrel
    by_cases hlt : k < n
    · obtain ⟨b, off, rfl, hb, hc⟩ := HH.out.2 (by omega)
      have c1 := hc k hlt
      have c2 := Later.of_cell c1.1 hbw.out hb
      have c3 := Later.of_cell c1.2 hbw.out hb
      clear c1
      by_cases hr : rightB (kAt zs k) (vAt zs k) = true
      · have p1 : ∀ w, Calls Try.prog 105 #[.agg #[.int .i64 (kAt zs k), .int .i64 (vAt zs k)]] w fun e w' => e = .returned (.bool true) ∧ Below w.heap.size w w' := fun w => by
          rw [← hr]; exact pair_any _ _ w
        by_cases hk0 : 0 < k
        · have g0 : decide (0 < k) = true := by simpa using hk0
          have c4 := Later.of_cell (hc (k - 1) (by omega)).1 hbw.out hb
          clear hc
          by_cases hle : kAt zs k ≤ kAt zs (k - 1)
          · have g1 : decide (kAt zs k ≤ kAt zs (k - 1)) = true := by simpa using hle
            go_wp2
            refine wp_region_later (by kernel_rfl) (by kernel_rfl) ?_
            repeat (go_big_quiet_step ((go_at_call 105; exact Calls.later (p1 _))))
            refine wpQuiet_nil ?_
            intro _ hw'
            obtain ⟨s, rfl⟩ := hw'
            go_wp2
            go_ret
            exact ⟨ret_bool (pOk_false zs (fun h => by have := (h.1 k (by have := HL.out; omega)).2 hk0; omega)).symm, s.below_of hbw.out⟩
          · have g1 : decide (kAt zs k ≤ kAt zs (k - 1)) = false := by simpa using hle
            go_wp2
            refine wp_region_later (by kernel_rfl) (by kernel_rfl) ?_
            repeat (go_big_quiet_step ((go_at_call 105; exact Calls.later (p1 _))))
            refine wpQuiet_nil ?_
            intro _ hw'
            obtain ⟨s, rfl⟩ := hw'
            go_wp2
            go_roundw
            case rel => exact ⟨k + 1, by go_num, by omega, Lib.hid (okTo_snoc ho.out hr (fun _ => by omega)), Lib.hid (s.below_of hbw.out)⟩
            case measure => simp [intOf]; omega
        · have g0 : decide (0 < k) = false := by simpa using hk0
          clear hc
          go_wp2
          refine wp_region_later (by kernel_rfl) (by kernel_rfl) ?_
          repeat (go_big_quiet_step ((go_at_call 105; exact Calls.later (p1 _))))
          refine wpQuiet_nil ?_
          intro _ hw'
          obtain ⟨s, rfl⟩ := hw'
          go_wp2
          go_roundw
          case rel => exact ⟨k + 1, by go_num, by omega, Lib.hid (okTo_snoc ho.out hr (fun h => absurd h hk0)), Lib.hid (s.below_of hbw.out)⟩
          case measure => simp [intOf]; omega
      · have hr : rightB (kAt zs k) (vAt zs k) = false := by simpa using hr
        have p1 : ∀ w, Calls Try.prog 105 #[.agg #[.int .i64 (kAt zs k), .int .i64 (vAt zs k)]] w fun e w' => e = .returned (.bool false) ∧ Below w.heap.size w w' := fun w => by
          rw [← hr]; exact pair_any _ _ w
        clear hc
        go_wp2
        refine wp_region_later (by kernel_rfl) (by kernel_rfl) ?_
        repeat (go_big_quiet_step ((go_at_call 105; exact Calls.later (p1 _))))
        refine wpQuiet_nil ?_
        intro _ hw'
        obtain ⟨s, rfl⟩ := hw'
        go_wp2
        go_ret
        exact ⟨ret_bool (pOk_false zs (fun h => by have := (h.1 k (by have := HL.out; omega)).1; rw [hr] at this; cases this)).symm, s.below_of hbw.out⟩
    · go_wp2
      go_ret
      have hz : zs.length = n := HL.out
      have hk' : k = zs.length := by omega
      refine ⟨ret_bool ?_, hbw.out⟩
      rw [Bool.eq_iff_iff, pOk_iff]
      simp only [decide_eq_true_eq]
      exact ⟨fun h => ⟨by rw [← hk']; exact ho.out, by omega⟩, fun h => by omega⟩
end Go.Proofs.Ytjookicpmjmdhaa
