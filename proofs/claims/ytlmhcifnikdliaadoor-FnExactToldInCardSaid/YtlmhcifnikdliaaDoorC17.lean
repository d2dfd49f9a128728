/- The walks of the model's l7Told and ToldIn. -/
import Derived.Test.YtlmhcifnikdliaaDoorC16
import Derived.Sort.AtCall
namespace Go.Proofs.YtlmhcifnikdliaaDoor
open Go.RowKit

def pairTo (ps : List Pr) (a : Int) (j : Nat) : Bool := (ps.take j).any fun p => p.2 == a
theorem pairTo_next (ps : List Pr) (a : Int) (j : Nat) (h : j < ps.length) : pairTo ps a (j + 1) = (pairTo ps a j || vAt ps j == a) := by
  unfold pairTo
  rw [List.take_succ_eq_append_getElem h, List.any_append, vAt_eq _ _ h]
  simp
def hasTo (xs : List Nd) (above : List Int) (a : Int) (k : Nat) : Bool := (List.range k).any fun k => (ndAt xs (iAt above k).toNat).ps.any fun p => p.2 == a
theorem hasTo_next {xs : List Nd} {above : List Int} {a : Int} {k b : Nat} (hb : iAt above k = b) : hasTo xs above a (k + 1) = (hasTo xs above a k || pairTo (ndAt xs b).ps a (ndAt xs b).ps.length) := by
  unfold hasTo pairTo
  rw [List.range_succ, List.any_append, List.take_length]
  simp [hb]
theorem toldRow_no {xs : List Nd} {row above : List Int} (i : Nat) (hi : i < row.length) (h : hasTo xs above (iAt row i) above.length = false) : toldRow xs row above = false := by
  unfold toldRow
  rw [List.all_eq_false]
  refine ⟨i, List.mem_range.2 hi, ?_⟩
  have : hasPair xs above (iAt row i) = hasTo xs above (iAt row i) above.length := rfl
  rw [this, h]; simp
theorem toldRow_yes {xs : List Nd} {row above : List Int} (h : ∀ i, i < row.length → hasTo xs above (iAt row i) above.length = true) : toldRow xs row above = true := by
  unfold toldRow
  rw [List.all_eq_true]
  intro i hi
  exact h i (List.mem_range.1 hi)

set_option maxRecDepth 100000 in
set_option maxHeartbeats 4000000 in
theorem l7Told_any (r : Int) (xs : List Nd) (A : Option Addr) (n c : Nat) (row : List Int) (Ar : Option Addr) (m cr : Nat) (above : List Int) (Ab : Option Addr) (mb cb : Nat) (w : World) (h : RS w w.heap.size A n xs) (hp : ∀ i, i < n → (ndAt xs i).ps.length ≤ 1048576) (hr : RS w w.heap.size Ar m row) (hm : m ≤ 1048576)
    (hb : RS w w.heap.size Ab mb above) (hmb : mb ≤ 1048576) (hinb : RowIn n above) :
    Calls Tryd.prog 31 #[.agg #[.int .i64 r, .slice A n c], .slice Ar m cr, .slice Ab mb cb] w fun e w' => e = .returned (.bool (toldRow xs row above)) ∧ Below w.heap.size w w' := by
  have hl : row.length = m := hr.1
  have hlb : above.length = mb := hb.1
  have HIN : Hid (∀ i, i < mb → ∃ a : Nat, iAt above i = a ∧ a < n) := Lib.hid (by rw [← hlb]; exact hinb)
  have Y1 : Hid (∀ i, i < m → hasTo xs above (iAt row i) mb = false → toldRow xs row above = false) := Lib.hid (fun i hi h => toldRow_no i (by omega) (by rw [hlb]; exact h))
  have Y2 : Hid ((∀ i, i < m → hasTo xs above (iAt row i) mb = true) → toldRow xs row above = true) := Lib.hid (fun h => toldRow_yes (fun i hi => by rw [hlb]; exact h i (by omega)))
  obtain ⟨w0, hw0⟩ : ∃ w0, w0 = w.alloc (.cells #[.int .i64 r, .slice A n c] 29) := ⟨_, rfl⟩
  have b0 : Below w.heap.size w w0 := by rw [hw0]; exact (Below.refl _ _).alloc (Nat.le_refl _) _
  have x0 : w0.heap[w.heap.size]? = some (.cells #[.int .i64 r, .slice A n c] 29 (0, 0)) := by rw [hw0]; exact heap_alloc_new _ _
  have D0 : Hid (∀ wx, Below w0.heap.size w0 wx → wx.cell? ⟨w.heap.size, 1, none⟩ = some (.slice A n c)) := Lib.hid (fun wx hb => by rw [cell_of_row _ _ 1 _ _ _ (box_on hb x0)]; rfl)
  have HH := Lib.hid (h.on b0)
  have HR := Lib.hid (hr.on b0)
  have HB := Lib.hid (hb.on b0)
  have B0 := Lib.hid b0
  have HW := Lib.hid hw0
  have HPS := Lib.hid hp
  clear h hr hb hw0 b0 x0 hl hlb hinb hp
  generalize toldRow xs row above = q at *
  go_enter Tryd.func31, Tryd.ntmps31
  go_wp2_with fail
  rw [← HW.out]
  go_loopw [7] (fun i wr => ∃ k : Nat, i = .int .i64 k ∧ k ≤ m ∧ Hid (∀ j, j < k → hasTo xs above (iAt row j) mb = true) ∧ Hid (Below w0.heap.size w0 wr)) (fun i _ => m - (intOf i).toNat)
  case atStart => exact ⟨0, rfl, by omega, Lib.hid (by intro j hj; omega), Lib.hid (Below.refl _ _)⟩
  case round =>
    obtain ⟨i, rfl, hi, hd, hbw⟩ := hrel
    by_cases hlt : i < m
    · obtain ⟨b2, off2, rfl, hb2, hc2⟩ := HR.out.ints (by omega)
      have HC2 := Lib.hid (hc2 i hlt)
      have YF := Lib.hid (Y1.out i hlt)
      have HD2 : Hid (hasTo xs above (iAt row i) mb = true → ∀ j, j < i + 1 → hasTo xs above (iAt row j) mb = true) := Lib.hid (fun h j hj => by
        rcases Nat.lt_or_ge j i with h' | h'
        · exact hd.out j h'
        · obtain rfl : j = i := by omega
          exact h)
      generalize ha : iAt row i = a at HC2 YF HD2
      clear hc2 ha
      go_wp2
      go_loopw [8, 9] (fun u k w2 => ∃ kk : Nat, u = .bool (hasTo xs above a kk) ∧ k = .int .i64 kk ∧ kk ≤ mb ∧ Hid (Below w0.heap.size w0 w2)) (fun _ k _ => mb - (intOf k).toNat)
      case atStart => exact ⟨0, rfl, rfl, by omega, hbw⟩
      case round =>
        obtain ⟨kk, rfl, rfl, hkk, hb9⟩ := hrel
        by_cases hlk : kk < mb
        · rename_i w9 _ _
          obtain ⟨bn, hbn, hbnn⟩ := HIN.out kk hlk
          obtain ⟨b3, off3, rfl, hb3, hc3⟩ := HB.out.ints (by omega)
          obtain ⟨b, off, rfl, hb, hc⟩ := HH.out.nd (by omega)
          obtain ⟨A2, n2, c2, _, e1, _, _, _, hP, _⟩ := hc bn hbnn
          have hn2 : n2 ≤ 1048576 := by rw [← hP.1]; exact HPS.out bn hbnn
          have NX := Lib.hid (hasTo_next (xs := xs) (a := a) hbn)
          have p0 := fun s : Later wr => D0.out _ (bel_on hb9.out s.2)
          have p1 := fun s : Later wr => ((bel_on hb9.out s.2).cell (p := ⟨b3, off3 + kk, none⟩) hb3).trans (by rw [hc3 kk hlk, hbn])
          have p2 := fun s : Later wr => ((bel_on hb9.out s.2).cell (p := ⟨b, off + bn * 5 + 1, none⟩) hb).trans e1
          change ∀ s : Later wr, s.wd.cell? _ = _ at p0 p1 p2
          have HP := Lib.hid hP
          clear hc3 hc e1 hP hbn
          generalize (ndAt xs bn).ps = ps at *
          generalize hh0 : hasTo xs above a kk = h0 at *
          clear hh0
          go_wp2
          refine wp_region_later (by kernel_rfl) (by kernel_rfl) ?_
          repeat (go_big_quiet_step (fail))
          refine wpQuiet_nil ?_
          intro w8 hw'
          obtain ⟨s8, hs8⟩ := hw'
          have b8 : Below wr.heap.size wr s8.wd := s8.2
          rw [← hs8] at b8
          clear hs8
          have B8 := Lib.hid (hb9.out.trans (b8.mono hb9.out.size))
          clear b8 p0 p1 p2
          go_wp2
          go_loopw [8, 11] (fun u j w3 => ∃ jj : Nat, u = .bool (h0 || pairTo ps a jj) ∧ j = .int .i64 jj ∧ jj ≤ n2 ∧ Hid (Below w0.heap.size w0 w3)) (fun _ j _ => n2 - (intOf j).toNat)
          case atStart => exact ⟨0, by simp [pairTo], rfl, by omega, B8⟩
          case round =>
            obtain ⟨jj, rfl, rfl, hjj, h11⟩ := hrel
            by_cases hlj : jj < n2
            · obtain ⟨b4, off4, rfl, hb4, hc4⟩ := HP.out.2 (by omega)
              have PN : Hid (pairTo ps a (jj + 1) = (pairTo ps a jj || vAt ps jj == a)) := Lib.hid (pairTo_next ps a jj (by rw [HP.out.1]; exact hlj))
              have p3 := fun s : Later wr => ((bel_on h11.out s.2).cell (p := ⟨b4, off4 + jj * 2 + 1, none⟩) hb4).trans (hc4 jj hlj).2
              have p4 := fun s : Later wr => ((bel_on h11.out s.2).cell (p := ⟨b2, off2 + i, none⟩) hb2).trans HC2.out
              change ∀ s : Later wr, s.wd.cell? _ = _ at p3 p4
              clear hc4
              generalize pairTo ps a jj = h1 at *
              generalize vAt ps jj = x at *
              by_cases hor : (h0 || h1) = true
              · rw [hor]
                have PN2 : Hid ((h0 || pairTo ps a (jj + 1)) = true) := Lib.hid (by rw [PN.out]; cases h0 <;> cases h1 <;> simp_all)
                clear hor
                go_wp2
                refine wp_region_later (by kernel_rfl) (by kernel_rfl) ?_
                repeat (go_big_quiet_step (fail))
                refine wpQuiet_nil ?_
                intro _ hw'
                obtain ⟨s6, rfl⟩ := hw'
                have B6 := Lib.hid (h11.out.trans (s6.2.mono h11.out.size))
                go_wp2
                go_roundw
                case rel => exact ⟨jj + 1, by rw [PN2.out], by go_num, by omega, B6⟩
                case measure => simp [intOf]; omega
              · have hor2 : (h0 || h1) = false := by simpa using hor
                rw [hor2]
                by_cases hx : x = a
                · have g1 : (x == a) = true := by simpa using hx
                  have PN2 : Hid ((h0 || pairTo ps a (jj + 1)) = true) := Lib.hid (by rw [PN.out, g1]; simp)
                  clear hor hor2 hx
                  go_wp2
                  refine wp_region_later (by kernel_rfl) (by kernel_rfl) ?_
                  repeat (go_big_quiet_step (fail))
                  refine wpQuiet_nil ?_
                  intro _ hw'
                  obtain ⟨s6, rfl⟩ := hw'
                  have B6 := Lib.hid (h11.out.trans (s6.2.mono h11.out.size))
                  go_wp2
                  go_roundw
                  case rel => exact ⟨jj + 1, by rw [PN2.out], by go_num, by omega, B6⟩
                  case measure => simp [intOf]; omega
                · have g1 : (x == a) = false := by simpa using hx
                  have PN2 : Hid ((h0 || pairTo ps a (jj + 1)) = false) := Lib.hid (by rw [PN.out, g1]; cases h0 <;> cases h1 <;> simp_all)
                  clear hor hor2 hx
                  go_wp2
                  refine wp_region_later (by kernel_rfl) (by kernel_rfl) ?_
                  repeat (go_big_quiet_step (fail))
                  refine wpQuiet_nil ?_
                  intro _ hw'
                  obtain ⟨s6, rfl⟩ := hw'
                  have B6 := Lib.hid (h11.out.trans (s6.2.mono h11.out.size))
                  go_wp2
                  go_roundw
                  case rel => exact ⟨jj + 1, by rw [PN2.out], by go_num, by omega, B6⟩
                  case measure => simp [intOf]; omega
            · obtain rfl : jj = n2 := by omega
              have NX2 : Hid (hasTo xs above a (kk + 1) = (h0 || pairTo ps a jj)) := Lib.hid (by rw [NX.out, HP.out.1])
              go_wp2
              go_roundw
              case rel => exact ⟨kk + 1, by rw [NX2.out], by go_num, by omega, h11⟩
              case measure => simp [intOf]; omega
        · obtain rfl : kk = mb := by omega
          generalize hasTo xs above a kk = h0 at *
          cases h0
          · have HQ := Lib.hid (YF.out rfl)
            go_wp2
            go_ret
            exact ⟨ret_bool HQ.out.symm, B0.out.trans (hb9.out.mono B0.out.size)⟩
          · have HDN := Lib.hid (HD2.out rfl)
            go_wp2
            go_roundw
            case rel => exact ⟨i + 1, by go_num, by omega, HDN, hb9⟩
            case measure => simp [intOf]; omega
    · obtain rfl : i = m := by omega
      have HQ := Lib.hid (Y2.out hd.out)
      go_wp2
      go_ret
      exact ⟨ret_bool HQ.out.symm, B0.out.trans (hbw.out.mono B0.out.size)⟩
end Go.Proofs.YtlmhcifnikdliaaDoor
