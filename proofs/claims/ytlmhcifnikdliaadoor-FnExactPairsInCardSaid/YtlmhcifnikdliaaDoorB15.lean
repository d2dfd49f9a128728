/- The walks of the model's soundness, the small ones: l7Lows, l7Twice. -/
import Derived.Test.YtlmhcifnikdliaaDoorB14
namespace Go.Proofs.YtlmhcifnikdliaaDoor
open Go.RowKit

def RowIn (n : Nat) (row : List Int) : Prop := ∀ i, i < row.length → ∃ a : Nat, iAt row i = a ∧ a < n
theorem rowF_in {n : Nat} {r : Int} {xs : List Nd} (h : Right n r xs) : ∀ (f : Nat) (x : Int), x < n → RowIn n (rowF xs f x) := by
  intro f
  induction f with
  | zero => intro x _ i hi; simp [rowF] at hi
  | succ f ih =>
    intro x hx i hi
    by_cases h0 : 0 ≤ x
    · obtain ⟨a, rfl⟩ : ∃ a : Nat, x = a := ⟨x.toNat, by omega⟩
      rw [rowF_go] at hi ⊢
      cases i with
      | zero => exact ⟨a, rfl, by omega⟩
      | succ i =>
        have := ih (riAt xs a) (h.ri a (by omega)) i (by simpa using hi)
        simpa [iAt] using this
    · rw [rowF_end _ _ _ h0] at hi
      simp at hi
theorem rowT_in {n : Nat} {r : Int} {xs : List Nd} (h : Right n r xs) (lev : Int) : RowIn n (rowT r xs lev) := rowF_in h 40 _ (firstT_lt h lev)
theorem rowT_len (r : Int) (xs : List Nd) (lev : Int) : (rowT r xs lev).length ≤ 40 := rowF_len xs 40 _

def lowsTo (xs : List Nd) (row : List Int) (k : Nat) : List Int := (List.range k).map (lowAt xs row)
theorem lowsTo_next (xs : List Nd) (row : List Int) (k : Nat) : lowsTo xs row (k + 1) = lowsTo xs row k ++ [lowAt xs row k] := by
  unfold lowsTo
  rw [List.range_succ, List.map_append]
  rfl
theorem lowsTo_at (xs : List Nd) (row : List Int) (k i : Nat) (h : i < k) : iAt (lowsTo xs row k) i = lowAt xs row i := by
  unfold lowsTo iAt
  simp [h]

set_option maxRecDepth 100000 in
set_option maxHeartbeats 1000000 in
theorem lows_any (r : Int) (xs : List Nd) (A : Option Addr) (n c : Nat) (row : List Int) (Ar : Option Addr) (m cr : Nat) (w : World) (h : RS w w.heap.size A n xs) (hr : RS w w.heap.size Ar m row) (hm : m ≤ 1048576) (hin : RowIn n row) :
    Calls Tryd.prog 38 #[.agg #[.int .i64 r, .slice A n c], .slice Ar m cr] w fun e w' => ∃ v, e = .returned v ∧ w'.ownsRow w.heap.size 2 1 v m (IL (lowsTo xs row m)) ∧ Below w.heap.size w w' := by
  have hl : row.length = m := hr.1
  have HIN : Hid (∀ i, i < m → ∃ a : Nat, iAt row i = a ∧ a < n) := Lib.hid (by rw [← hl]; exact hin)
  obtain ⟨w0, hw0⟩ : ∃ w0, w0 = w.alloc (.cells #[.int .i64 r, .slice A n c] 29) := ⟨_, rfl⟩
  have b0 : Below w.heap.size w w0 := by rw [hw0]; exact (Below.refl _ _).alloc (Nat.le_refl _) _
  have x0 : w0.heap[w.heap.size]? = some (.cells #[.int .i64 r, .slice A n c] 29 (0, 0)) := by rw [hw0]; exact heap_alloc_new _ _
  have D0 : Hid (∀ wx, Below w0.heap.size w0 wx → wx.cell? ⟨w.heap.size, 1, none⟩ = some (.slice A n c)) := Lib.hid (fun wx hb => by rw [cell_of_row _ _ 1 _ _ _ (box_on hb x0)]; rfl)
  have s0 : w.heap.size < w0.heap.size := by rw [hw0]; simp
  have HH := Lib.hid (h.on b0)
  have HR := Lib.hid (hr.on b0)
  have B0 := Lib.hid b0
  have HW := Lib.hid hw0
  clear h hr hw0 b0 x0 hl hin
  go_enter Tryd.func38, Tryd.ntmps38
  go_wp2_with fail
  obtain ⟨w1, hw1⟩ : ∃ w1, w1 = w0.alloc (.cells #[] 2) := ⟨_, rfl⟩
  have b1 : Below w0.heap.size w0 w1 := by rw [hw1]; exact (Below.refl _ _).alloc (Nat.le_refl _) _
  have o1 : w1.ownsRow w0.heap.size 2 1 (.slice (some ⟨w.heap.size + 1, 0, none⟩) 0 0) 0 (IL []) := by
    have h1 := World.ownsRow_made (e := 2) (size := 1) w0 #[] 0 (Nat.le_refl _) (by unfold maxLen; omega) (by simp)
    have hs : w0.heap.size = w.heap.size + 1 := by rw [HW.out]; simp
    rw [hw1, ← hs]
    exact h1
  rw [← HW.out, ← hw1]
  have O1 := Lib.hid o1
  have B1 := Lib.hid b1
  clear hw1 o1 b1
  go_loopw [5, 6, 7] (fun o l i wr => ∃ (Ao : Option Addr) (k co : Nat), o = .slice Ao k co ∧ l = .int .i64 (lowAt xs row k) ∧ i = .int .i64 k ∧ k ≤ m ∧ Hid (wr.ownsRow w0.heap.size 2 1 (.slice Ao k co) k (IL (lowsTo xs row k))) ∧ Hid (Below w0.heap.size w0 wr))
    (fun _ _ i _ => m - (intOf i).toNat)
  case atStart => exact ⟨_, 0, 0, rfl, rfl, rfl, by omega, O1, B1⟩
  case round =>
    obtain ⟨Ao, k, co, rfl, rfl, rfl, hk, ho, hbw⟩ := hrel
    clear O1
    by_cases hlt : k < m
    · obtain ⟨a, ha, han⟩ := HIN.out k hlt
      have E1 : Hid (lowsTo xs row (k + 1) = lowsTo xs row k ++ [lowAt xs row k]) := Lib.hid (lowsTo_next xs row k)
      have E2 : Hid (lowAt xs row (k + 1) = (ndAt xs a).hi) := Lib.hid (by unfold lowAt; simp [ha])
      generalize lowAt xs row k = lo at *
      have hst : w.heap.size ≤ wr.heap.size := Nat.le_trans B0.out.size hbw.out.size
      have HA := Lib.hid ha
      clear ha
      go_wp2_with (at_builtin; refine wpList_appI rfl (.tmp 15) (.tmp 17) rfl w0.heap.size _ k (lowsTo xs row k) rfl (ho.out.alloc _) wr.heap.size lo rfl (by simp) (by omega) (by have := hbw.out.size; simp; omega) ?_)
      intro v5 w5 o5 g5
      obtain ⟨A5, c5, rfl, _, _⟩ := own_shape o5
      have B5 := Lib.hid (((hbw.out.alloc hbw.out.size _).grown g5 (by have := hbw.out.size; simp; omega) (fun q hq => (ho.out.lt q hq).1)) : Below w0.heap.size w0 w5)
      have O5 := Lib.hid o5
      clear o5 g5
      have hs5 : w.heap.size < w5.heap.size := Nat.lt_of_lt_of_le s0 B5.out.size
      have p1 := Later.of_cell (D0.out _ B5.out) (Below.refl _ _) hs5
      obtain ⟨b2, off2, rfl, hb2, hc2⟩ := HR.out.ints (by omega)
      have p2 := Later.of_cell (((B5.out.cell (p := ⟨b2, off2 + k, none⟩) hb2)).trans (hc2 k hlt)) (Below.refl _ _) (Nat.lt_of_lt_of_le hb2 B5.out.size)
      rw [HA.out] at p2
      obtain ⟨b, off, rfl, hb, hc⟩ := HH.out.nd (by omega)
      obtain ⟨_, _, _, _, _, c2, _⟩ := (hc a han).keep (w' := w5) hb (fun p hp => B5.out.cell hp)
      have p3 := Later.of_cell c2 (Below.refl _ _) (Nat.lt_of_lt_of_le hb B5.out.size)
      generalize (ndAt xs a).hi = z at *
      clear hc hc2 c2
      go_wp2
      refine wp_region_later (by kernel_rfl) (by kernel_rfl) ?_
      repeat (go_big_quiet_step (fail))
      refine wpQuiet_nil ?_
      intro _ hw'
      obtain ⟨s6, rfl⟩ := hw'
      have B6 := Lib.hid (bel_on B5.out s6.2)
      have O6 := Lib.hid (own_on O5.out s6.2)
      go_wp2
      go_roundw
      case rel => exact ⟨A5, k + 1, c5, rfl, by rw [E2.out], by go_num, by omega, Lib.hid (by rw [E1.out]; exact O6.out), B6⟩
      case measure => simp [intOf]; omega
    · obtain rfl : k = m := by omega
      go_wp2
      go_ret
      exact ⟨_, rfl, own_base ho.out B0.out.size, B0.out.trans (hbw.out.mono B0.out.size)⟩


def twiceTo (row : List Int) (i : Nat) : Prop := ∀ j, j < i → ∀ k, k < j → iAt row j ≠ iAt row k
theorem twiceB_yes {row : List Int} (i k : Nat) (hi : i < row.length) (hk : k < i) (h : iAt row i = iAt row k) : twiceB row = true := by
  unfold twiceB
  rw [List.any_eq_true]
  refine ⟨i, List.mem_range.2 hi, ?_⟩
  rw [List.any_eq_true]
  exact ⟨k, List.mem_range.2 hk, by simpa using h⟩
theorem twiceB_no {row : List Int} (h : twiceTo row row.length) : twiceB row = false := by
  unfold twiceB
  rw [List.any_eq_false]
  intro i hi
  rw [Bool.not_eq_true, List.any_eq_false]
  intro k hk
  simpa using h i (List.mem_range.1 hi) k (List.mem_range.1 hk)
theorem twiceB_iff (row : List Int) : twiceB row = false ↔ twiceTo row row.length := by
  refine ⟨fun h i hi k hk e => ?_, twiceB_no⟩
  rw [twiceB_yes i k hi hk e] at h
  cases h

set_option maxRecDepth 100000 in
set_option maxHeartbeats 1000000 in
theorem twice_any (row : List Int) (Ar : Option Addr) (m cr : Nat) (w : World) (hr : RS w w.heap.size Ar m row) (hm : m ≤ 1048576) :
    Calls Tryd.prog 37 #[.slice Ar m cr] w fun e w' => e = .returned (.bool (twiceB row)) ∧ Below w.heap.size w w' := by
  have hl : row.length = m := hr.1
  have HY : Hid (∀ i k, i < m → k < i → iAt row i = iAt row k → twiceB row = true) := Lib.hid (fun i k hi hk e => twiceB_yes i k (by rw [hl]; exact hi) hk e)
  have HN : Hid (twiceTo row m → twiceB row = false) := Lib.hid (fun h => twiceB_no (by rw [hl]; exact h))
  have HR := Lib.hid hr
  clear hr hl
  generalize twiceB row = q at *
  go_enter Tryd.func37, Tryd.ntmps37
  go_wp2
  go_loopw [3] (fun i wr => ∃ k : Nat, i = .int .i64 k ∧ k ≤ m ∧ Hid (twiceTo row k) ∧ Hid (Below w.heap.size w wr)) (fun i _ => m - (intOf i).toNat)
  case atStart => exact ⟨0, rfl, by omega, Lib.hid (by intro j hj; omega), Lib.hid (Below.refl _ _)⟩
  case round =>
    obtain ⟨i, rfl, hi, ht, hbw⟩ := hrel
    by_cases hlt : i < m
    · obtain ⟨b2, off2, rfl, hb2, hc2⟩ := HR.out.ints (by omega)
      have HC := Lib.hid hc2
      clear hc2
      go_wp2
      go_loopw [4] (fun k w2 => ∃ j : Nat, k = .int .i64 j ∧ j ≤ i ∧ Hid (∀ l, l < j → iAt row i ≠ iAt row l) ∧ Hid (Below w.heap.size w w2)) (fun k _ => i - (intOf k).toNat)
      case atStart => exact ⟨0, rfl, by omega, Lib.hid (by intro l hl; omega), hbw⟩
      case round =>
        obtain ⟨j, rfl, hj, hn, hb⟩ := hrel
        by_cases hji : j < i
        · rename_i wq
          have p1 := Later.of_cell (((hb.out.cell (p := ⟨b2, off2 + i, none⟩) hb2)).trans (HC.out i hlt)) (Below.refl _ _) (Nat.lt_of_lt_of_le hb2 hb.out.size)
          have p2 := Later.of_cell (((hb.out.cell (p := ⟨b2, off2 + j, none⟩) hb2)).trans (HC.out j (by omega))) (Below.refl _ _) (Nat.lt_of_lt_of_le hb2 hb.out.size)
          by_cases he : iAt row i = iAt row j
          · have hq := HY.out i j hlt hji he
            have g1 : (iAt row i == iAt row j) = true := by simpa using he
            have HQ := Lib.hid hq
            clear he hq
            generalize iAt row i = x1 at *
            generalize iAt row j = x2 at *
            go_wp2
            refine wp_region_later (by kernel_rfl) (by kernel_rfl) ?_
            repeat (go_big_quiet_step (fail))
            refine wpQuiet_nil ?_
            intro _ hw'
            obtain ⟨s6, rfl⟩ := hw'
            have B6 := Lib.hid (hb.out.trans (s6.2.mono hb.out.size))
            go_wp2
            go_ret
            exact ⟨ret_bool HQ.out.symm, B6.out⟩
          · have g1 : (iAt row i == iAt row j) = false := by simpa using he
            have HN2 : Hid (∀ l, l < j + 1 → iAt row i ≠ iAt row l) := Lib.hid (by
              intro l hl
              rcases Nat.lt_or_ge l j with h | h
              · exact hn.out l h
              · obtain rfl : l = j := by omega
                exact he)
            clear he
            generalize iAt row i = x1 at *
            generalize iAt row j = x2 at *
            go_wp2
            refine wp_region_later (by kernel_rfl) (by kernel_rfl) ?_
            repeat (go_big_quiet_step (fail))
            refine wpQuiet_nil ?_
            intro _ hw'
            obtain ⟨s6, rfl⟩ := hw'
            have B6 := Lib.hid (hb.out.trans (s6.2.mono hb.out.size))
            go_wp2
            go_roundw
            case rel => exact ⟨j + 1, by go_num, by omega, HN2, B6⟩
            case measure => simp [intOf]; omega
        · obtain rfl : j = i := by omega
          have HT : Hid (twiceTo row (j + 1)) := Lib.hid (by
            intro a ha b hb'
            rcases Nat.lt_or_ge a j with h | h
            · exact ht.out a h b hb'
            · obtain rfl : a = j := by omega
              exact hn.out b hb')
          go_wp2
          go_roundw
          case rel => exact ⟨j + 1, by go_num, by omega, HT, hb⟩
          case measure => simp [intOf]; omega
    · obtain rfl : i = m := by omega
      go_wp2
      go_ret
      exact ⟨ret_bool (HN.out ht.out).symm, hbw.out⟩
end Go.Proofs.YtlmhcifnikdliaaDoor
