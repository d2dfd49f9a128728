/- The walk of the model's PairsIn. -/
import Derived.Test.YtlmhcifnikdliaaDoorB18
import Derived.StillTailTactics
import Derived.Sort.AtCall
import Derived.Test.YtlmhcifnikdliaaDoorB13
namespace Go.Proofs.YtlmhcifnikdliaaDoor
open Go.RowKit

def psRow (xs : List Nd) (row : List Int) (k : Nat) : List Pr := ((row.take k).map fun a => (ndAt xs a.toNat).ps).flatten
theorem psRow_next {xs : List Nd} {row : List Int} {k a : Nat} (hk : k < row.length) (ha : iAt row k = a) : psRow xs row (k + 1) = psRow xs row k ++ (ndAt xs a).ps := by
  unfold psRow
  have e : row[k] = (a : Int) := by rw [← ha]; unfold iAt; simp [hk]
  rw [List.take_succ_eq_append_getElem hk, List.map_append, List.flatten_append, e]
  simp
theorem psRow_len {n : Nat} {r : Int} {xs : List Nd} (hR : Right n r xs) {row : List Int} (hin : RowIn n row) : ∀ k, k ≤ row.length → (psRow xs row k).length ≤ 4 * k := by
  intro k
  induction k with
  | zero => intro _; simp [psRow]
  | succ k ih =>
    intro hk
    obtain ⟨a, ha, han⟩ := hin k (by omega)
    rw [psRow_next (by omega) ha, List.length_append]
    have h1 := ih (by omega)
    have h2 := (hR.good a han).1
    unfold nodeOk at h2
    simp only [Bool.and_eq_true, decide_eq_true_eq] at h2
    have := h2.1.1.1.1.2
    omega
theorem pairsT_yes {r : Int} {xs : List Nd} (h : soundB r xs = true) : pairsT r xs = psRow xs (rowT r xs 0) (rowT r xs 0).length := by
  unfold pairsT psRow
  rw [if_pos h, List.take_length]
theorem sound_ok {r : Int} {xs : List Nd} (h : soundB r xs = true) : treeOk r xs = true := by
  unfold soundB at h
  simp only [Bool.and_eq_true] at h
  exact h.1
theorem pairsT_sm (r : Int) (xs : List Nd) : Small.sm (pairsT r xs) := by
  show (pairsT r xs).length ≤ 1048576
  by_cases h : soundB r xs = true
  · have hR := right_of (sound_ok h)
    rw [pairsT_yes h]
    have := psRow_len hR (rowT_in hR 0) _ (Nat.le_refl _)
    have := rowT_len r xs 0
    omega
  · unfold pairsT
    rw [if_neg h]
    simp

theorem own_apart {w : World} {b1 b2 : Nat} {e1 e2 : TypeId} {s1 s2 n1 n2 : Nat} {v1 v2 : Value} {xs1 xs2 : List Value} (h1 : w.ownsRow b1 e1 s1 v1 n1 xs1) (h2 : w.ownsRow b2 e2 s2 v2 n2 xs2) (he : e1 ≠ e2) : v1.ownBlock = none ∨ v1.ownBlock ≠ v2.ownBlock := by
  rcases h1.2 with ⟨rfl, _⟩ | ⟨g, cap, cur, rfl, _, hg, _⟩
  · exact .inl rfl
  · refine .inr fun e => ?_
    rcases h2.2 with ⟨rfl, _⟩ | ⟨g2, cap2, cur2, rfl, _, hg2, _⟩
    · simp [Value.ownBlock] at e
    · obtain rfl : g = g2 := by simpa [Value.ownBlock] using e
      rw [hg] at hg2
      cases hg2
      exact he rfl

set_option maxRecDepth 100000 in
set_option maxHeartbeats 4000000 in
theorem sPairsIn_any (r : Int) (xs : List Nd) (A : Option Addr) (n c : Nat) (w : World) (h : RS w w.heap.size A n xs) (hs : Small.sm xs) :
    Calls Tryd.prog 11 #[.agg #[.int .i64 r, .slice A n c]] w fun e w' => ∃ A' c' F, e = .returned (.slice A' (pairsT r xs).length c') ∧ OwnS w' (.slice A' (pairsT r xs).length c') (pairsT r xs) F ∧ Fresh F w w' ∧ Below w.heap.size w w' := by
  have hl := h.1
  have sk : ∀ w, RS w w.heap.size A n xs → Calls Tryd.prog 7 #[.agg #[.int .i64 r, .slice A n c]] w fun e w' => e = .returned (.bool (soundB r xs)) ∧ Below w.heap.size w w' := fun w h => sSound_any r xs A n c w h hs
  have RT : Hid (soundB r xs = true → Right n r xs) := Lib.hid (fun hq => by rw [← hl]; exact right_of (sound_ok hq))
  have P1 : Hid (soundB r xs = true → pairsT r xs = psRow xs (rowT r xs 0) (rowT r xs 0).length) := Lib.hid pairsT_yes
  have P0 : Hid (soundB r xs = false → pairsT r xs = []) := Lib.hid (fun h => by unfold pairsT; rw [h]; rfl)
  suffices hmain : Calls Tryd.prog 11 #[.agg #[.int .i64 r, .slice A n c]] w (Gives w (pairsT r xs)) by
    refine hmain.mono ?_
    intro e w' hg
    obtain ⟨A', c', rfl, ho, hb⟩ := own_form hg
    exact ⟨A', c', blkF _, rfl, OwnS.of_pairs ho (fun k hk => hk), fresh_blk ho (Nat.le_refl _), hb⟩
  generalize pairsT r xs = out at *
  generalize soundB r xs = q at *
  obtain ⟨w0, hw0⟩ : ∃ w0, w0 = w.alloc (.cells #[.int .i64 r, .slice A n c] 29) := ⟨_, rfl⟩
  have b0 : Below w.heap.size w w0 := by rw [hw0]; exact (Below.refl _ _).alloc (Nat.le_refl _) _
  have x0 : w0.heap[w.heap.size]? = some (.cells #[.int .i64 r, .slice A n c] 29 (0, 0)) := by rw [hw0]; exact heap_alloc_new _ _
  have D0 : Hid (∀ wx, Below w0.heap.size w0 wx → wx.cell? ⟨w.heap.size, 0, none⟩ = some (.int .i64 r) ∧ wx.cell? ⟨w.heap.size, 1, none⟩ = some (.slice A n c)) := Lib.hid (fun wx hb => ⟨by rw [cell_of_row _ _ 0 _ _ _ (box_on hb x0)]; rfl, by rw [cell_of_row _ _ 1 _ _ _ (box_on hb x0)]; rfl⟩)
  have HH := Lib.hid (h.on b0)
  have B0 := Lib.hid b0
  have HW := Lib.hid hw0
  have SK := Lib.hid sk
  clear h hs hw0 b0 x0 sk hl
  obtain ⟨w1, hw1⟩ : ∃ w1, w1 = w0.alloc (.cells #[] 53) := ⟨_, rfl⟩
  have b1 : Below w0.heap.size w0 w1 := by rw [hw1]; exact (Below.refl _ _).alloc (Nat.le_refl _) _
  have o1 : w1.ownsRow w0.heap.size 53 2 (.slice (some ⟨w.heap.size + 1, 0, none⟩) 0 0) 0 (PL []) := by
    have h1 := World.ownsRow_made (e := 53) (size := 2) w0 #[] 0 (Nat.le_refl _) (by unfold maxLen; omega) (by simp)
    have hs : w0.heap.size = w.heap.size + 1 := by rw [HW.out]; simp
    rw [hw1, ← hs]
    exact h1
  have O1 := Lib.hid o1
  have B1 := Lib.hid b1
  have HW1 := Lib.hid hw1
  clear hw1 o1 b1
  go_enter Tryd.func11, Tryd.ntmps11
  go_wp2_with fail
  rw [← HW.out, ← HW1.out]
  refine (SK.out _ (HH.out.on B1.out)).mono ?_
  rintro e w2 ⟨rfl, b2⟩
  have B2 := Lib.hid (bel_on B1.out b2)
  have O2 := Lib.hid (own_on O1.out b2)
  clear b2
  cases q
  · obtain rfl := P0.out rfl
    go_wp2
    go_ret
    exact ⟨_, rfl, own_base O2.out B0.out.size, B0.out.trans (B2.out.mono B0.out.size)⟩
  have hR := RT.out rfl
  have hP := P1.out rfl
  have rk := fun w h => row_any r xs A n c 0 w h hR
  have RIN : Hid (∀ i, i < (rowT r xs 0).length → ∃ a : Nat, iAt (rowT r xs 0) i = a ∧ a < n) := Lib.hid (rowT_in hR 0)
  have NXT : Hid (∀ k a : Nat, k < (rowT r xs 0).length → iAt (rowT r xs 0) k = a → psRow xs (rowT r xs 0) (k + 1) = psRow xs (rowT r xs 0) k ++ (ndAt xs a).ps) := Lib.hid (fun k a hk ha => psRow_next hk ha)
  have LEN : Hid (∀ k, k ≤ (rowT r xs 0).length → (psRow xs (rowT r xs 0) k).length ≤ 4 * k) := Lib.hid (psRow_len hR (rowT_in hR 0))
  have L4 : Hid (∀ a, a < n → (ndAt xs a).ps.length ≤ 4) := Lib.hid (fun a ha => by
    have h2 := (hR.good a ha).1
    unfold nodeOk at h2
    simp only [Bool.and_eq_true, decide_eq_true_eq] at h2
    exact h2.1.1.1.1.2)
  have h40 := rowT_len r xs 0
  have PZ : Hid (psRow xs (rowT r xs 0) 0 = []) := Lib.hid rfl
  generalize rowT r xs 0 = row at *
  have RK := Lib.hid rk
  have HP := Lib.hid hP
  generalize hm : row.length = m at *
  have HM := Lib.hid hm
  clear hR hP rk RT P0 P1 hm
  obtain ⟨d0, d1⟩ := D0.out _ B2.out
  go_wp2_with fail
  refine (RK.out _ (HH.out.on B2.out)).mono ?_
  rintro e w3 ⟨v3, rfl, o3, b3⟩
  obtain ⟨A3, c3, rfl, _, _⟩ := own_shape o3
  have R3 : Hid (w3.ownsRow 0 2 1 (.slice A3 m c3) m (IL row)) := Lib.hid (own_zero o3)
  have B3 := Lib.hid (bel_on B2.out b3)
  have O3 := Lib.hid (own_on O2.out b3)
  clear b3 o3 d0 d1 O2 O1
  go_wp2
  go_loopw [3, 5] (fun o i wr => ∃ (Ao : Option Addr) (k no co : Nat), o = .slice Ao no co ∧ i = .int .i64 k ∧ k ≤ m ∧ no ≤ 160 ∧ Hid (no = (psRow xs row k).length) ∧ Hid (wr.ownsRow w0.heap.size 53 2 (.slice Ao no co) no (PL (psRow xs row k))) ∧ Hid (Below w0.heap.size w0 wr) ∧ Hid (wr.ownsRow 0 2 1 (.slice A3 m c3) m (IL row)))
    (fun _ i _ => m - (intOf i).toNat)
  case atStart => exact ⟨_, 0, 0, 0, rfl, rfl, by omega, by omega, Lib.hid (by rw [PZ.out]; rfl), O3, B3, R3⟩
  case round =>
    obtain ⟨Ao, k, no, co, rfl, rfl, hk, hno, hne, ho, hbw, hrw⟩ := hrel
    by_cases hlt : k < m
    · obtain ⟨a, ha, han⟩ := RIN.out k hlt
      have hrs : RS wr wr.heap.size A3 m row := by
        have := (OwnS.of_ints hrw.out (F := blkF _) (fun k hk => hk)).rd
        exact this
      obtain ⟨b2, off2, rfl, hb2, hc2⟩ := hrs.ints (by omega)
      obtain ⟨b, off, rfl, hb, hc⟩ := HH.out.nd (by omega)
      obtain ⟨A4, n4, c4, _, e1, _, _, _, hP4, _⟩ := hc a han
      have d1 := (D0.out _ hbw.out).2
      have d2 := hc2 k hlt
      rw [ha] at d2
      have d3 := (hbw.out.cell (p := ⟨b, off + a * 5 + 1, none⟩) hb).trans e1
      have hn4 : n4 ≤ 4 := by rw [← hP4.1]; exact L4.out a han
      have HP4 := Lib.hid hP4
      have NX := Lib.hid (NXT.out k a hlt ha)
      have LN := Lib.hid (LEN.out (k + 1) (by omega))
      have HA := Lib.hid ha
      clear hc2 hc e1 hP4 ha hrs
      generalize (ndAt xs a).ps = ps at *
      go_wp2_with fail
      go_still_tail 10, (by kernel_rfl)
      change wpList _ _ _ _ _ wr.drew
      have BD : Hid (Below wr.heap.size wr wr.drew) := Lib.hid (Below.refl _ _).drew
      obtain ⟨wd, hwd⟩ : ∃ wd, wd = wr.drew := ⟨_, rfl⟩
      rw [← hwd] at BD ⊢
      have OD := Lib.hid (own_on ho.out BD.out)
      have RD := Lib.hid (own_on hrw.out BD.out)
      have BWD := Lib.hid (bel_on hbw.out BD.out)
      have HPD := Lib.hid (HP4.out.below (BWD.out))
      clear hwd d1 d2 d3
      go_wp2_with (at_builtin; refine wpList_app rfl (.tmp 19) (.tmp 28) rfl w0.heap.size _ no (psRow xs row k) rfl OD.out _ A4 n4 c4 ps rfl HPD.out (by omega) (by have := BWD.out.size; omega) ?_)
      intro v5 w5 o5 g5
      obtain ⟨A5, c5, rfl, _, _⟩ := own_shape o5
      have B5 := Lib.hid ((BWD.out.grown g5 BWD.out.size (fun q hq => (OD.out.lt q hq).1)) : Below w0.heap.size w0 w5)
      have R5 := Lib.hid (RD.out.kept g5 (own_apart RD.out OD.out (by decide)))
      have O5 : Hid (w5.ownsRow w0.heap.size 53 2 (.slice A5 (no + n4) c5) (no + n4) (PL (psRow xs row (k + 1)))) := Lib.hid (by rw [NX.out]; exact o5)
      have N5 : Hid (no + n4 = (psRow xs row (k + 1)).length) := Lib.hid (by rw [NX.out, List.length_append, ← hne.out, HP4.out.1])
      have hno5 : no + n4 ≤ 160 := by have := N5.out; have := LN.out; omega
      clear o5 g5
      go_wp2
      go_roundw
      case rel => exact ⟨A5, k + 1, no + n4, c5, rfl, by go_num, by omega, hno5, N5, O5, B5, R5⟩
      case measure => simp [intOf]; omega
    · obtain rfl : k = m := by omega
      go_wp2
      go_ret
      refine ⟨_, rfl, ?_, B0.out.trans (hbw.out.mono B0.out.size)⟩
      rw [HP.out, ← hne.out]
      exact own_base ho.out B0.out.size
end Go.Proofs.YtlmhcifnikdliaaDoor
namespace Go.Proofs.YtlmhcifnikdliaaDoor
open Go.RowKit

def pairTo (ps : List Pr) (a : Int) (j : Nat) : Bool := (ps.take j).any fun p => p.2 == a
theorem pairTo_next (ps : List Pr) (a : Int) (j : Nat) (h : j < ps.length) : pairTo ps a (j + 1) = (pairTo ps a j || vAt ps j == a) := by
  unfold pairTo
  rw [List.take_succ_eq_append_getElem h, List.any_append, vAt_eq _ _ h]
  simp
def hasTo (xs : List Nd) (above : List Int) (a : Int) (k : Nat) : Bool := (List.range k).any fun k => (ndAt xs (iAt above k).toNat).ps.any fun p => p.2 == a
theorem toldRow_no {xs : List Nd} {row above : List Int} (i : Nat) (hi : i < row.length) (h : hasTo xs above (iAt row i) above.length = false) : toldRow xs row above = false := by
  unfold toldRow
  rw [List.all_eq_false]
  refine ⟨i, List.mem_range.2 hi, ?_⟩
  have : hasPair xs above (iAt row i) = hasTo xs above (iAt row i) above.length := rfl
  rw [this, h]; simp
theorem toldRow_yes {xs : List Nd} {row above : List Int} (h : ∀ i, i < row.length → hasTo xs above (iAt row i) above.length = true) : toldRow xs row above = true := by
  unfold toldRow
  rw [List.all_eq_true]
  intro i hi
  exact h i (List.mem_range.1 hi)

end Go.Proofs.YtlmhcifnikdliaaDoor
namespace Go.Proofs.YtlmhcifnikdliaaDoor
open Go.RowKit

theorem toldB_no {r : Int} {xs : List Nd} (l : Nat) (hl : (l : Int) < lvAt xs r.toNat) (h : toldRow xs (rowT r xs l) (rowT r xs ((l : Int) + 1)) = false) : toldB r xs = false := by
  unfold toldB
  have : (List.range (lvAt xs r.toNat).toNat).all (fun l : Nat => toldRow xs (rowT r xs l) (rowT r xs ((l : Int) + 1))) = false := by
    rw [List.all_eq_false]
    exact ⟨l, List.mem_range.2 (by omega), by simp [h]⟩
  rw [this]; simp
theorem toldB_yes {r : Int} {xs : List Nd} (h0 : soundB r xs = true) (h : ∀ l : Nat, (l : Int) < lvAt xs r.toNat → toldRow xs (rowT r xs l) (rowT r xs ((l : Int) + 1)) = true) : toldB r xs = true := by
  unfold toldB
  have : (List.range (lvAt xs r.toNat).toNat).all (fun l : Nat => toldRow xs (rowT r xs l) (rowT r xs ((l : Int) + 1))) = true := by
    rw [List.all_eq_true]
    intro l hl
    rw [List.mem_range] at hl
    exact h l (by omega)
  rw [this, h0]; rfl

end Go.Proofs.YtlmhcifnikdliaaDoor
namespace Go.Proofs.YtlmhcifnikdliaaDoor
open Go.RowKit

section
variable {α : Type}
def ixOf (q : α → Bool) (zs : List α) : Int := if zs.findIdx q < zs.length then (zs.findIdx q : Int) else -1
theorem ixOf_at (q : α → Bool) (d : α) (zs : List α) (k : Nat) (hk : k < zs.length) (h : q (zs.getD k d) = true) (hn : ∀ j, j < k → q (zs.getD j d) = false) : ixOf q zs = k := by
  have e : zs.findIdx q = k := by
    rw [List.findIdx_eq hk]
    refine ⟨by simpa [hk] using h, fun j hj => ?_⟩
    have := hn j hj
    have hj' : j < zs.length := by omega
    simpa [hj'] using this
  unfold ixOf
  rw [e, if_pos hk]
theorem ixOf_none (q : α → Bool) (d : α) (zs : List α) (hn : ∀ j, j < zs.length → q (zs.getD j d) = false) : ixOf q zs = -1 := by
  have e : zs.findIdx q = zs.length := by
    rw [List.findIdx_eq_length]
    intro p hp
    obtain ⟨j, hj, rfl⟩ := List.getElem_of_mem hp
    have := hn j hj
    simpa [hj] using this
  unfold ixOf
  rw [e, if_neg (by omega)]
theorem ixOf_any (q : α → Bool) (zs : List α) : decide (0 ≤ ixOf q zs) = zs.any q := by
  unfold ixOf
  by_cases h : zs.findIdx q < zs.length
  · rw [if_pos h]
    have := List.findIdx_lt_length.1 h
    rw [List.any_eq_true.2 this]
    simp
  · rw [if_neg h]
    have h2 : zs.any q = false := by
      rw [List.any_eq_false]
      intro p hp hq
      exact h (List.findIdx_lt_length.2 ⟨p, hp, hq⟩)
    rw [h2]
    simp
end

theorem ixNd_at (q : Nd → Bool) (xs : List Nd) (k : Nat) (hk : k < xs.length) (h : q (ndAt xs k) = true) (hn : ∀ j, j < k → q (ndAt xs j) = false) : ixOf q xs = k := ixOf_at q _ xs k hk h hn
theorem ixNd_none (q : Nd → Bool) (xs : List Nd) (hn : ∀ j, j < xs.length → q (ndAt xs j) = false) : ixOf q xs = -1 := ixOf_none q _ xs hn

def lackB (n : Nat) (p : Pr) : Bool := !hasB n p.2
def refT (n : Nat) (x : Nd) : Bool := !nodeOk x || ((x.ri != -1) && !hasB n x.ri) || (decide (0 < x.lv) && x.ps.any (lackB n))

theorem refT_good (n : Nat) (x : Nd) : (!refT n x) = ndGood n x := by
  unfold refT ndGood
  by_cases h : nodeOk x = true
  · rw [h]
    have hr : -1 ≤ x.ri := by
      have := h
      unfold nodeOk at this
      simp only [Bool.and_eq_true, Bool.or_eq_true, decide_eq_true_eq] at this
      unfold numB inB at this
      simp only [decide_eq_true_eq] at this
      grind
    have e1 : ((x.ri != -1) && !hasB n x.ri) = !decide (x.ri < (n : Int)) := by
      unfold hasB inB
      rw [Bool.eq_iff_iff]
      simp
      omega
    have e2 : (decide (0 < x.lv) && x.ps.any (lackB n)) = !(decide (x.lv ≤ 0) || (List.range x.ps.length).all (fun j => hasB n (vAt x.ps j))) := by
      have e3 : x.ps.any (lackB n) = !(List.range x.ps.length).all (fun j => hasB n (vAt x.ps j)) := by
        rw [Bool.eq_iff_iff]
        unfold lackB
        simp only [List.any_eq_true, Bool.not_eq_true', List.all_eq_false, List.mem_range, Bool.not_eq_true]
        refine ⟨fun ⟨p, hp, hq⟩ => ?_, fun ⟨j, hj, hq⟩ => ?_⟩
        · obtain ⟨j, hj, rfl⟩ := List.getElem_of_mem hp
          exact ⟨j, hj, by rw [vAt_eq _ _ hj]; exact hq⟩
        · exact ⟨x.ps[j], List.getElem_mem hj, by rw [vAt_eq _ _ hj] at hq; exact hq⟩
      rw [e3]
      by_cases hl : 0 < x.lv
      · rw [decide_eq_true hl, decide_eq_false (by omega : ¬ x.lv ≤ 0)]; simp
      · rw [decide_eq_false hl, decide_eq_true (by omega : x.lv ≤ 0)]; simp
    rw [e1, e2]
    simp
  · simp only [Bool.not_eq_true] at h
    rw [h]; simp

def okT (r : Int) (xs : List Nd) : Bool := decide (xs.length ≤ 40) && (hasB xs.length r && !xs.any (refT xs.length))
theorem okT_eq (r : Int) (xs : List Nd) : okT r xs = treeOk r xs := by
  have e : (!xs.any (refT xs.length)) = (List.range xs.length).all (fun i => ndGood xs.length (ndAt xs i)) := by
    rw [Bool.eq_iff_iff]
    simp only [Bool.not_eq_true', List.any_eq_false, List.all_eq_true, List.mem_range, Bool.not_eq_true]
    refine ⟨fun h i hi => ?_, fun h x hx => ?_⟩
    · rw [ndAt_eq _ _ hi, ← refT_good, h _ (List.getElem_mem hi)]; rfl
    · obtain ⟨i, hi, rfl⟩ := List.getElem_of_mem hx
      have := h i hi
      rw [ndAt_eq _ _ hi, ← refT_good] at this
      simpa using this
  unfold okT treeOk
  rw [e]
  by_cases h1 : hasB xs.length r = true
  · have h2 : 1 ≤ xs.length := by
      unfold hasB inB at h1
      simp at h1
      omega
    rw [h1, decide_eq_true h2]
    simp
  · simp only [Bool.not_eq_true] at h1
    rw [h1]; simp
end Go.Proofs.YtlmhcifnikdliaaDoor
