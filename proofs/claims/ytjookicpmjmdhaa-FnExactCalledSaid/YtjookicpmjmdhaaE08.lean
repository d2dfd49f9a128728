/- The walks of eqInt64S, markInt64S, heldInt64S, markNodeS, heldNodeS, markTree, heldTree. -/
import Derived.Test.YtjookicpmjmdhaaE07
namespace Go.Proofs.Ytjookicpmjmdhaa
open Go.RowKit


def iAt (xs : List Int) (i : Nat) : Int := xs.getD i 0
theorem RS.ints {w : World} {B n : Nat} {A : Option Addr} {xs : List Int} (h : RS w B A n xs) (hn : 0 < n) :
    ∃ b off, A = some ⟨b, off, none⟩ ∧ b < B ∧ ∀ i, i < n → w.cell? ⟨b, off + i, none⟩ = some (.int .i64 (iAt xs i)) := by
  obtain ⟨b, off, e, hb, hc⟩ := h.2 hn
  refine ⟨b, off, e, hb, fun i hi => ?_⟩
  obtain ⟨cs, h1, h2⟩ := hc i hi
  have h1' : cs = [.int .i64 (xs.getD i 0)] := h1
  subst h1'
  have := h2 0 _ rfl
  rwa [show off + i * encInt.sz + 0 = off + i from by show off + i * 1 + 0 = off + i; omega] at this

theorem eqI_yes (A B : Option Addr) (n c d : Nat) (xs : List Int) (w : World) (h : RS w w.heap.size A n xs) (h' : RS w w.heap.size B n xs) (hn : n ≤ 1048576) :
    Calls Try.prog 53 #[.slice A n c, .slice B n d] w fun e w' => e = .returned (.bool true) ∧ Below w.heap.size w w' := by
  have HH := Lib.hid h
  have HH' := Lib.hid h'
  clear h h'
  go_enter Try.func53, Try.ntmps53
  go_wp2
  go_loopw [5] (fun i wr => ∃ k : Nat, i = .int .i64 k ∧ k ≤ n ∧ Hid (Below w.heap.size w wr)) (fun i _ => n - (intOf i).toNat)
  case atStart => exact ⟨0, rfl, by omega, Lib.hid (Below.refl _ _)⟩
  case round =>
    obtain ⟨k, rfl, hk, hbw⟩ := hrel
    by_cases hlt : k < n
    · obtain ⟨b, off, rfl, hb, hc⟩ := HH.out.ints (by omega)
      obtain ⟨b', off', rfl, hb', hc'⟩ := HH'.out.ints (by omega)
      have c1 := Later.of_cell (hc k hlt) hbw.out hb
      have c2 := Later.of_cell (hc' k hlt) hbw.out hb'
      clear hc hc'
      go_wp2
      refine wp_region_later (by kernel_rfl) (by kernel_rfl) ?_
      repeat (go_big_quiet_step (fail))
      refine wpQuiet_nil ?_
      intro _ hw'
      obtain ⟨s, rfl⟩ := hw'
      go_wp2
      go_roundw
      case rel => exact ⟨k + 1, by go_num, by omega, Lib.hid (s.below_of hbw.out)⟩
      case measure => simp [intOf]; omega
    · go_wp2
      go_ret
      exact ⟨rfl, hbw.out⟩

theorem cntI (xs : List Int) : cntS xs = xs.length := by
  unfold cntS
  induction xs with
  | nil => rfl
  | cons x r ih =>
    simp only [List.map_cons, List.sum_cons, List.length_cons]
    rw [ih]
    show 1 + _ = _
    omega
theorem markI_any (v : Value) (k : Nat) (xs : List Int) (F : FP) (w : World) (h : OwnS w v xs F) (hn : xs.length ≤ 1048576) (hk : k ≤ 1125899906842624) :
    Calls Try.prog 54 #[v, .int .i64 k] w fun e w' => e = .returned (.int .i64 ((k + cntS xs : Nat) : Int)) ∧ OwnS w' v (mkS k xs) F ∧ Only F w w' := by
  obtain ⟨A, c, rfl, hc, hm⟩ := h.form
  rcases Nat.eq_zero_or_pos xs.length with h0 | h0
  · have hz : xs = [] := List.eq_nil_of_length_eq_zero h0
    subst hz
    have HO := Lib.hid h
    clear h hc h0
    simp only [List.length_nil]
    go_enter Try.func54, Try.ntmps54
    go_wp2
    refine wp_loop_rounds 1 ?_
    rw [rounds_succ]
    go_wp2
    go_ret
    exact ⟨rfl, HO.out, Only.refl _ _⟩
  · obtain ⟨n, hl⟩ : ∃ n, xs.length = n := ⟨_, rfl⟩
    rw [hl] at h hc hn h0
    have HO : Hid (OwnS w (.slice A n c) (mkTo k xs 0) F) := Lib.hid (by rw [mkTo_zero]; exact h)
    have HL := Lib.hid hl
    clear h hl
    rw [cntI, HL.out]
    go_enter Try.func54, Try.ntmps54
    go_wp2
    go_loopw [1, 5] (fun q i wr => ∃ j : Nat, i = .int .i64 j ∧ j ≤ n ∧ q = .int .i64 (k + j) ∧ Hid (OwnS wr (.slice A n c) (mkTo k xs j) F) ∧ Hid (Only F w wr)) (fun _ i _ => n - (intOf i).toNat)
    case atStart => exact ⟨0, rfl, by omega, by simp, HO, Lib.hid (Only.refl _ _)⟩
    case round =>
      obtain ⟨j, rfl, hj, rfl, ho, hg⟩ := hrel
      clear HO
      by_cases hjn : j < n
      · obtain ⟨g, cap, pre, cs, post, Fi, hv, hFg, hgl, hrow, hpre, hcl, hown, hFi, hclose⟩ := ho.out.open j (by rw [mkTo_length]; have := HL.out; omega)
        rw [mkTo_length, HL.out] at hv hrow hclose
        obtain ⟨rfl, rfl⟩ : A = some ⟨g, 0, none⟩ ∧ c = cap := by simpa using hv
        have hrow1 : wr.ownsRow 0 2 1 (.slice (some ⟨g, 0, none⟩) n c) n (pre ++ cs ++ post) := hrow
        have hpre1 : pre.length = j := by rw [hpre]; show j * 1 = j; omega
        have hcl1 : cs.length = 1 := hcl
        clear hv hrow hpre hcl hown
        match cs, hcl1 with
        | [u0], _ =>
        have f1 : wr.frozen? ⟨g, j, none⟩ = false := hrow1.frozenAt _
        have d1 : wr.cell? ⟨g, j, none⟩ = some u0 := by rw [hrow1.cellAt _ (by omega), ← Nat.add_zero j, mid_get hpre1 (by simp)]; rfl
        have HROW := Lib.hid hrow1
        have HPRE := Lib.hid hpre1
        have HCL := Lib.hid hclose
        have HFG := Lib.hid hFg
        clear hrow1 hpre1 hclose hFi hFg
        go_wp2
        go_roundw
        case rel =>
          refine ⟨j + 1, by go_num, by omega, by go_num, Lib.hid ?_, Lib.hid (hg.out.setCell HFG.out _)⟩
          have r0 := own_mid HROW.out HPRE.out (j := 0) (by simp) (.int .i64 (k + j))
          have h5 := HCL.out _ _ ((k + j : Nat) : Int) (fun _ => False) r0 (by rw [Int.natCast_add]; rfl) (fun i _ hi _ _ => Below.heap_setCell _ _ _ _ hi) (fun i hi => absurd hi id)
          have e : (mkTo k xs j).set j ((k + j : Nat) : Int) = mkTo k xs (j + 1) := by
            rw [← mkTo_next k xs j 0 (by have := HL.out; omega)]
            have : cntS (xs.take j) = j := by rw [cntI, List.length_take]; have := HL.out; omega
            rw [this]
            rfl
          rw [e] at h5
          exact h5.more (fun i hi => by rcases hi with h | h; exact h; exact absurd h id)
        case measure => simp [intOf]; omega
      · obtain rfl : j = n := by omega
        go_wp2
        go_ret
        have h1 := ho.out
        rw [← HL.out, mkTo_all, HL.out] at h1
        exact ⟨ret_int (by omega), h1, hg.out⟩

theorem heldI_any (A : Option Addr) (n c k : Nat) (xs : List Int) (w : World) (h : RS w w.heap.size A n (mkS k xs)) (hn : n ≤ 1048576) (hk : k ≤ 1125899906842624) :
    Calls Try.prog 55 #[.slice A n c, .int .i64 k] w fun e w' => e = .returned (.int .i64 ((k + cntS xs : Nat) : Int)) ∧ w = w' := by
  have hl : xs.length = n := by have := h.1; rw [mkS_length] at this; exact this
  have HH := Lib.hid h
  have HL := Lib.hid hl
  rw [cntI, hl]
  clear h hl
  go_enter Try.func55, Try.ntmps55
  go_wp2
  go_loop [1, 5] (fun q i => ∃ j : Nat, i = .int .i64 j ∧ j ≤ n ∧ q = .int .i64 (k + j)) (fun _ i => n - (intOf i).toNat)
  case atStart => exact ⟨0, rfl, by omega, by simp⟩
  case round =>
    obtain ⟨j, rfl, hj, rfl⟩ := hrel
    by_cases hjn : j < n
    · obtain ⟨b, off, rfl, hb, hc⟩ := HH.out.ints (by omega)
      have c1 := hc j hjn
      have e : iAt (mkS k xs) j = k + j := by
        unfold iAt
        rw [mkS_get k xs j 0 (by have := HL.out; omega), cntI, List.length_take]
        show ((k + min j xs.length : Nat) : Int) = k + j
        have := HL.out
        omega
      rw [e] at c1
      clear hc e
      go_wp2
      go_round
      case rel => exact ⟨j + 1, by go_num, by omega, by go_num⟩
      case measure => simp [intOf]; omega
    · obtain rfl : j = n := by omega
      go_wp2
      go_ret
      exact ⟨ret_int (by omega), rfl⟩


theorem cntNd_take (xs : List Nd) (j : Nat) (hj : j < xs.length) : cntS (xs.take (j + 1)) = cntS (xs.take j) + (4 + 2 * (ndAt xs j).ps.length) := cntS_take xs j ⟨0, [], 0, 0, 0⟩ hj

end Go.Proofs.Ytjookicpmjmdhaa
