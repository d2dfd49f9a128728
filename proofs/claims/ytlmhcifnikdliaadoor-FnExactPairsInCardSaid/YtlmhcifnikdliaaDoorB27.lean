/- The walks of maps.Clone at lows and of the code's allTold. -/
import Derived.Test.YtlmhcifnikdliaaDoorB26
import Derived.Shelf.SlMaps.Clone
import Derived.Test.YtlmhcifnikdliaaDoorB22
import Derived.Test.YtlmhcifnikdliaaDoorB14
import Derived.RangeFuncBox
import Derived.RangeFuncBound
import Derived.RangeFuncCalls
import Derived.RangeFuncLeaves
import Derived.Shelf.Abstract
import Derived.WalkKit
import Derived.OwnWalkIn
import Derived.TacticsInMore
import Derived.LoopNIn
import Derived.LoopIn
import Derived.Maps.AppendAt
import Derived.Sort.CutIn
import Derived.Stop.RegionWithIn
namespace Go.Proofs.YtlmhcifnikdliaaDoor
open Go.RowKit

theorem Lows.empty_of {w : World} {b m k : Nat} {f : Int → Option Int} (h : Lows w b m f k) (hf : ∀ x, f x = none) : k = 0 := by
  obtain ⟨D, ⟨es, clock, hb, F, hs, rfl⟩, hkeep, hsz⟩ := h
  rw [Maps.size_eq] at hsz
  match hL : (es.toList.map (WideElems.rg Tryd.prog 2 (plainElem (H := Unit) Tryd.prog 2))).foldr DataW.insert [], hsz with
  | [], hsz => exact hsz.symm
  | p :: l, _ =>
    exfalso
    have hp : p ∈ (es.toList.map (WideElems.rg Tryd.prog 2 (plainElem (H := Unit) Tryd.prog 2))).foldr DataW.insert [] := by rw [hL]; simp
    have hp2 := (Go.WideShapes.sorted_perm _).mem_iff.1 hp
    obtain ⟨v, hv⟩ := Maps.fit_keys F p hp2
    obtain ⟨x, _, hx, _⟩ := Maps.keyOf_int_inv Tryd.underlying2 hv
    have h1 := hkeep.has x
    rw [hf x, Maps.has_eq, hL] at h1
    simp [hx, Lit.sameKey] at h1
theorem Lows.none_of {w : World} {b m : Nat} {f : Int → Option Int} (h : Lows w b m f 0) (x : Int) : f x = none := by
  obtain ⟨D, _, hkeep, hsz⟩ := h
  exact hkeep.none hsz x

set_option maxRecDepth 100000 in
set_option maxHeartbeats 2000000 in
theorem clone7_any (b m k : Nat) (f : Int → Option Int) (w : World) (h : Lows w b m f k) :
    Calls Tryd.prog 64 #[.map (some b)] w fun e w' => e = .returned (.map (some w.heap.size)) ∧ Lows w' w.heap.size m f k ∧ Below w.heap.size w w' := by
  obtain ⟨D, ⟨es, clock, hb, F, hs, hD⟩, hkeep, hsz⟩ := h
  have hq := fun w => run_eql_map_nil_sl (P := Tryd.prog) w 76 _ _ (some b) Tryd.underlying76
  have hB : Below w.heap.size w (w.alloc (.map es clock)) := (Below.refl _ w).alloc (Nat.le_refl _) _
  have hO : Lows (w.alloc (.map es clock)) w.heap.size m f k := ⟨D, ⟨es, clock, (MapKept.heap_alloc w _).1, F, hs, hD⟩, hkeep, hsz⟩
  have HO := Lib.hid hO
  have HB := Lib.hid hB
  clear F hs hD hkeep hsz hO hB
  go_enter Tryd.func64, Tryd.ntmps64
  go_wp2
  rw [run_callFunc_extern Tryd.func76 (by kernel_rfl) (by kernel_rfl) (by kernel_rfl) (e := Extern.MapsClone.clone) (by kernel_rfl), run_maps_clone_sl w 76 hb]
  simp only [Result.andThen]
  rw [Oper.upon_value]
  go_wp2
  rw [run_typeAssert_map_sl _ 76 20 _ _ _ Tryd.underlying76]
  simp only [Result.andThen]
  rw [Oper.upon_value]
  go_wp2
  go_ret
  exact ⟨rfl, HO.out, HB.out⟩

set_option maxRecDepth 100000 in
set_option maxHeartbeats 4000000 in
theorem allTold_any (r : Int) (xs : List Nd) (A : Option Addr) (n c : Nat) (row : List Int) (Ar : Option Addr) (m cr : Nat) (bb mb kb : Nat) (f : Int → Option Int) (w : World) (h : RS w w.heap.size A n xs) (hR : Right n r xs)
    (hr : RS w w.heap.size Ar m row) (hm : m ≤ 1048576) (hin : RowIn n row) (hB : Lows w bb mb f kb) :
    Calls Tryd.prog 46 #[.agg #[.int .i64 r, .slice A n c], .slice Ar m cr, .map (some bb)] w fun e w' => ∃ q : Bool, e = .returned (.bool q) ∧ (q = true ↔ ∀ x, strikeF xs row f m x = none) ∧ Below w.heap.size w w' := by
  have hl : row.length = m := hr.1
  have hn : n ≤ 40 := hR.most
  have HPS : Hid (∀ a, a < n → (ndAt xs a).ps.length ≤ 4 ∧ ∀ j, j < (ndAt xs a).ps.length → (Lit.int .i64 (vAt (ndAt xs a).ps j)).wf = true) := Lib.hid (fun a ha => by
    have h2 := (hR.good a ha).1
    unfold nodeOk at h2
    simp only [Bool.and_eq_true, decide_eq_true_eq] at h2
    refine ⟨h2.1.1.1.1.2, fun j hj => ?_⟩
    have h3 := (pOk_iff _).1 h2.1.1.1.2
    have h4 := (h3.1 j hj).1
    unfold rightB at h4
    simp only [decide_eq_true_eq] at h4
    exact wfJ (by omega) (by omega))
  have HIN : Hid (∀ i, i < m → ∃ a : Nat, iAt row i = a ∧ a < n) := Lib.hid (by rw [← hl]; exact hin)
  obtain ⟨w0, hw0⟩ : ∃ w0, w0 = w.alloc (.cells #[.int .i64 r, .slice A n c] 29) := ⟨_, rfl⟩
  have b0 : Below w.heap.size w w0 := by rw [hw0]; exact (Below.refl _ _).alloc (Nat.le_refl _) _
  have x0 : w0.heap[w.heap.size]? = some (.cells #[.int .i64 r, .slice A n c] 29 (0, 0)) := by rw [hw0]; exact heap_alloc_new _ _
  have D0 : Hid (∀ wx, Below w0.heap.size w0 wx → wx.cell? ⟨w.heap.size, 0, none⟩ = some (.int .i64 r) ∧ wx.cell? ⟨w.heap.size, 1, none⟩ = some (.slice A n c)) := Lib.hid (fun wx hb => ⟨by rw [cell_of_row _ _ 0 _ _ _ (box_on hb x0)]; rfl, by rw [cell_of_row _ _ 1 _ _ _ (box_on hb x0)]; rfl⟩)
  have s0 : w.heap.size < w0.heap.size := by rw [hw0]; simp
  have HH := Lib.hid (h.on b0)
  have HR := Lib.hid (hr.on b0)
  have HB := Lib.hid (hB.on b0)
  have B0 := Lib.hid b0
  have HW := Lib.hid hw0
  clear h hr hw0 b0 x0 hl hin hR hB
  go_enter Tryd.func46, Tryd.ntmps46
  go_wp2_with fail
  rw [← HW.out]
  refine (clone7_any bb mb kb f w0 HB.out).mono ?_
  rintro e w1 ⟨rfl, o1, b1⟩
  obtain ⟨bu, hbu⟩ : ∃ bu, bu = w0.heap.size := ⟨_, rfl⟩
  have HBU := Lib.hid hbu
  rw [← hbu] at o1 ⊢
  have O1 : Hid (∃ kk, Lows w1 bu mb (strikeF xs row f 0) kk) := Lib.hid ⟨_, o1⟩
  have B1 := Lib.hid b1
  clear o1 b1 hbu
  go_wp2
  go_loopw [16] (fun i wr => ∃ k : Nat, i = .int .i64 k ∧ k ≤ m ∧ Hid (∃ kk, Lows wr bu mb (strikeF xs row f k) kk) ∧ Hid (Below w0.heap.size w0 wr)) (fun i _ => m - (intOf i).toNat)
  case atStart => exact ⟨0, rfl, by omega, O1, B1⟩
  case round =>
    obtain ⟨k, rfl, hk, ho, hbw⟩ := hrel
    clear O1 B1
    by_cases hlt : k < m
    · obtain ⟨a, ha, han⟩ := HIN.out k hlt
      obtain ⟨b2, off2, rfl, hb2, hc2⟩ := HR.out.ints (by omega)
      have e1 := (hbw.out.cell (p := ⟨b2, off2 + k, none⟩) hb2).trans (hc2 k hlt)
      rw [ha] at e1
      obtain ⟨b, off, rfl, hb, hc⟩ := HH.out.nd (by omega)
      obtain ⟨A2, n2, c2, _, e2', _, _, _, hP, _⟩ := hc a han
      have e2 := (hbw.out.cell (p := ⟨b, off + a * 5 + 1, none⟩) hb).trans e2'
      have d1 := (D0.out _ hbw.out).2
      obtain ⟨hn4, hwf⟩ := HPS.out a han
      have E3 : Hid (strikeF xs row f (k + 1) = strikeP (strikeF xs row f k) (ndAt xs a).ps (ndAt xs a).ps.length) := Lib.hid (by rw [← Int.toNat_natCast a, ← ha]; rfl)
      rw [hP.1] at hn4 hwf
      have HWF := Lib.hid hwf
      have HP := Lib.hid hP
      clear hc hc2 ha hP hwf e2'
      obtain ⟨g0, hg0⟩ : ∃ g0, g0 = strikeF xs row f k := ⟨_, rfl⟩
      rw [← hg0] at ho E3
      clear hg0
      generalize (ndAt xs a).ps = ps at *
      go_wp2
      go_loopw [27] (fun i wq => ∃ j : Nat, i = .int .i64 j ∧ j ≤ n2 ∧ Hid (∃ kk, Lows wq bu mb (strikeP g0 ps j) kk) ∧ Hid (Below w0.heap.size w0 wq)) (fun i _ => n2 - (intOf i).toNat)
      case atStart => exact ⟨0, rfl, by omega, ho, hbw⟩
      case round =>
        clear e1 e2 d1
        obtain ⟨j, rfl, hj, ho2, hbw2⟩ := hrel
        by_cases hlj : j < n2
        · obtain ⟨b4, off4, rfl, hb4, hc4⟩ := HP.out.2 (by omega)
          have c1 := (hbw2.out.cell (p := ⟨b4, off4 + j * 2, none⟩) hb4).trans (hc4 j hlj).1
          have c2' := (hbw2.out.cell (p := ⟨b4, off4 + j * 2 + 1, none⟩) hb4).trans (hc4 j hlj).2
          have hx := HWF.out j hlj
          have EN : Hid (strikeP g0 ps (j + 1) = delF (strikeP g0 ps j) (vAt ps j)) := Lib.hid rfl
          obtain ⟨kk, D, hown, hkeep, hsz⟩ := ho2.out
          clear hc4 ho ho2
          generalize kAt ps j = pk at *
          obtain ⟨pv, hpv⟩ : ∃ pv, pv = vAt ps j := ⟨_, rfl⟩
          rw [← hpv] at c2' hx EN
          clear hpv
          obtain ⟨wb, hwb⟩ : ∃ wb, wb = wr.alloc (.cells #[.int .i64 pk, .int .i64 pv] 53) := ⟨_, rfl⟩
          have bb' : Below w0.heap.size w0 wb := by rw [hwb]; exact hbw2.out.alloc hbw2.out.size _
          have ON := Lib.hid (hown.alloc (.cells #[.int .i64 pk, .int .i64 pv] 53))
          have UPD : Hid (∀ w5, w5.ownsMap Tryd.prog 2 (plainElem Tryd.prog 2) bu mb (D.del (.int .i64 pv)) → wb.mapTurned w5 bu → (∃ kk, Lows w5 bu mb (strikeP g0 ps (j + 1)) kk) ∧ Below w0.heap.size w0 w5) := Lib.hid (fun w5 h5 g5 =>
            ⟨⟨_, _, h5, by rw [EN.out]; exact hkeep.del _, rfl⟩, bb'.grown g5.grown (by have := bb'.size; omega) (fun q hq => by cases hq; have := HBU.out; omega)⟩)
          rw [hwb] at UPD
          clear hown hkeep hwb bb'
          go_wp2_with (at_delete; refine wpList_delete_own _ rfl _ _ 76 2 rfl 2 lawJ Tryd.underlying76 _ bu _ _ rfl ON.out _ _ rfl (keyJ hx) ?_; intro w5 hown5 hturn5; obtain ⟨O5, B5⟩ := UPD.out w5 hown5 hturn5; clear hown5 hturn5; replace O5 := Lib.hid O5; replace B5 := Lib.hid B5; go_frame)
          go_roundw
          case rel => exact ⟨j + 1, by go_num, by omega, O5, B5⟩
          case measure => simp [intOf]; omega
        · obtain rfl : j = n2 := by omega
          have HG : Hid (∃ kk, Lows wr bu mb (strikeF xs row f (k + 1)) kk) := Lib.hid (by rw [E3.out, HP.out.1]; exact ho2.out)
          go_wp2
          go_roundw
          case rel => exact ⟨k + 1, by go_num, by omega, HG, hbw2⟩
          case measure => simp [intOf]; omega
    · obtain rfl : k = m := by omega
      obtain ⟨kk, hL⟩ := ho.out
      have HL := Lib.hid hL
      obtain ⟨D, hown, hkeep, hsz⟩ := hL
      have ON := Lib.hid hown
      clear hown hkeep
      go_wp2_with (at_len; refine wpList_len_own _ rfl _ 76 rfl 2 2 Tryd.underlying76 _ bu _ _ rfl ON.out ?_; rw [hsz])
      go_ret
      refine ⟨_, rfl, ⟨fun h => ?_, fun h => ?_⟩, B0.out.trans (hbw.out.mono B0.out.size)⟩
      · have h0 : kk = 0 := by simpa using h
        subst h0
        exact fun x => HL.out.none_of x
      · have h0 := HL.out.empty_of h
        simp [h0]
end Go.Proofs.YtlmhcifnikdliaaDoor
namespace Go.Proofs.YtlmhcifnikdliaaDoor
open Go.RowKit Go.Shelf

theorem Right.ri_ge {n : Nat} {r : Int} {xs : List Nd} (h : Right n r xs) (i : Nat) (hi : i < n) : -1 ≤ riAt xs i := by
  have := (h.good i hi).1
  unfold nodeOk numB inB at this
  simp only [Bool.and_eq_true, Bool.or_eq_true, decide_eq_true_eq] at this
  unfold riAt
  grind
theorem firstF_ge (xs : List Nd) (lev : Int) : ∀ (f a : Nat), -1 ≤ firstF xs lev f a := by
  intro f
  induction f with
  | zero => intro a; simp only [firstF]; omega
  | succ f ih =>
    intro a
    simp only [firstF]
    split
    · split
      · exact ih _
      · omega
    · split <;> omega
theorem firstT_ge (r : Int) (xs : List Nd) (lev : Int) : -1 ≤ firstT r xs lev := firstF_ge xs lev 7 _

set_option maxRecDepth 100000 in
set_option maxHeartbeats 1000000 in
theorem iFirst_any (r : Int) (xs : List Nd) (A : Option Addr) (n c : Nat) (lev : Int) (w : World) (h : RS w w.heap.size A n xs) (hR : Right n r xs) :
    Calls Tryd.prog 49 #[.agg #[.int .i64 r, .slice A n c], .int .i64 lev] w fun e w' => e = .returned (.int .i64 (firstT r xs lev)) ∧ Below w.heap.size w w' := by
  obtain ⟨a0, rfl, han⟩ : ∃ a0 : Nat, r = a0 ∧ a0 < n := ⟨r.toNat, by have := hR.root; omega, by have := hR.root; omega⟩
  have HR := Lib.hid hR
  have hn40 := hR.most
  obtain ⟨w0, hw0⟩ : ∃ w0, w0 = w.alloc (.cells #[.int .i64 a0, .slice A n c] 29) := ⟨_, rfl⟩
  have b0 : Below w.heap.size w w0 := by rw [hw0]; exact (Below.refl _ _).alloc (Nat.le_refl _) _
  have x0 : w0.heap[w.heap.size]? = some (.cells #[.int .i64 a0, .slice A n c] 29 (0, 0)) := by rw [hw0]; exact heap_alloc_new _ _
  have d1 : ∀ wx, Below w0.heap.size w0 wx → wx.cell? ⟨w.heap.size, 1, none⟩ = some (.slice A n c) := fun wx hb => by rw [cell_of_row _ _ 1 _ _ _ (box_on hb x0)]; rfl
  have D1 := Lib.hid d1
  have hh0 := h.on b0
  have HH := Lib.hid hh0
  have B0 := Lib.hid b0
  have hsz : w.heap.size < w0.heap.size := by rw [hw0]; simp
  have E0 : Hid (firstT a0 xs lev = firstF xs lev 7 a0) := Lib.hid rfl
  have hlv := hR.lv a0 han
  rw [E0.out]
  clear E0
  by_cases hneg : lev < 0
  · have g1 : decide (lev < 0) = true := by simpa using hneg
    have E1 : Hid (firstF xs lev 7 a0 = -1) := Lib.hid (by rw [firstF_here _ _ _ _ (by omega), if_neg (by omega)])
    have HW := Lib.hid hw0
    clear h hw0 b0 x0 hR d1 hlv hh0
    go_enter Tryd.func49, Tryd.ntmps49
    go_wp2
    go_ret
    exact ⟨ret_int E1.out.symm, by rw [← HW.out]; exact B0.out⟩
  have g1 : decide (lev < 0) = false := by simpa using hneg
  obtain ⟨b, off, rfl, hb, hc⟩ := hh0.nd (by omega)
  obtain ⟨_, _, _, c0, _⟩ := hc a0 han
  change w0.cell? _ = some (.int .i64 (lvAt xs a0)) at c0
  rw [hw0] at c0
  by_cases hbig : lvAt xs a0 < lev
  · have g2 : decide (lvAt xs a0 < lev) = true := by simpa using hbig
    have E1 : Hid (firstF xs lev 7 a0 = -1) := Lib.hid (by rw [firstF_here _ _ _ _ (by omega), if_neg (by omega)])
    have HW := Lib.hid hw0
    clear h hw0 b0 x0 hR d1 hh0 hc
    generalize lvAt xs a0 = l at *
    go_enter Tryd.func49, Tryd.ntmps49
    go_wp2
    go_ret
    exact ⟨ret_int E1.out.symm, by rw [← HW.out]; exact B0.out⟩
  have g2 : decide (lvAt xs a0 < lev) = false := by simpa using hbig
  have HW := Lib.hid hw0
  have hl0 : Hid (lev ≤ lvAt xs a0) := Lib.hid (by omega)
  clear h hw0 b0 x0 hR d1 hh0 hlv hbig
  have HC := Lib.hid hc
  clear hc
  go_enter Tryd.func49, Tryd.ntmps49
  go_wp2
  clear c0
  change Code.wp _ _ _ _ (w.alloc (.cells #[.int .i64 a0, .slice (some ⟨b, off, none⟩) n c] 29))
  rw [← HW.out]
  go_loopw [5, 6] (fun i l wr => ∃ a f : Nat, i = .int .i64 a ∧ l = .int .i64 (lvAt xs a) ∧ a < n ∧ Hid (lev ≤ lvAt xs a) ∧ Hid (firstF xs lev 7 a0 = firstF xs lev f a) ∧ Hid (lvAt xs a < f) ∧ Hid (Below w0.heap.size w0 wr)) (fun _ l _ => (intOf l).toNat)
  case atStart => exact ⟨a0, 7, rfl, rfl, han, hl0, Lib.hid rfl, Lib.hid (by have := (HR.out.lv a0 han).2; omega), Lib.hid (Below.refl _ _)⟩
  case round =>
    obtain ⟨a, f, rfl, rfl, ha, hle, he, hf, hbw⟩ := hrel
    have d1 := D1.out _ hbw.out
    clear han g2 hl0
    have hlv := HR.out.lv a ha
    obtain ⟨f, rfl⟩ : ∃ g, f = g + 1 := ⟨f - 1, by have := hf.out; omega⟩
    have hbr : b < wr.heap.size := Nat.lt_of_lt_of_le hb hbw.out.size
    by_cases hgo : lev < lvAt xs a
    · have q1 : decide (lev < lvAt xs a) = true := by simpa using hgo
      obtain ⟨A2, n2, c2, c0, c1, _, _, _, hP, _⟩ := (HC.out a ha).keep (w' := wr) hb (fun p hp => hbw.out.cell hp)
      change wr.cell? _ = some (.int .i64 (lvAt xs a)) at c0
      obtain ⟨hp0, hkn, hkv⟩ := HR.out.kid a ha (by omega)
      obtain ⟨A3, n3, c3, k0, _, _, _, _, _, _⟩ := (HC.out (kid0 xs a) hkn).keep (w' := wr) hb (fun p hp => hbw.out.cell hp)
      change wr.cell? _ = some (.int .i64 (lvAt xs (kid0 xs a))) at k0
      have hp2 : 0 < n2 := by rw [← hP.1]; exact hp0
      obtain ⟨b2, off2, rfl, hb2, hc2⟩ := hP.2 hp2
      have cv := (hc2 0 hp2).2
      rw [hkv] at cv
      simp only [Nat.zero_mul, Nat.add_zero] at cv
      have E1 : Hid (lvAt xs (kid0 xs a) ≠ lvAt xs a - 1 → firstF xs lev (f + 1) a = -1) := Lib.hid (firstF_none xs lev f a ⟨hgo, by omega⟩)
      have E2 : Hid (lvAt xs (kid0 xs a) = lvAt xs a - 1 → firstF xs lev (f + 1) a = firstF xs lev f (kid0 xs a)) := Lib.hid (firstF_down xs lev f a ⟨hgo, by omega⟩)
      have hlb : lvAt xs a ≤ 6 := hlv.2
      have hl1 : 1 ≤ lvAt xs a := by omega
      have HG := Lib.hid hgo
      have HLV := Lib.hid hlv
      have HKL := Lib.hid (HR.out.lv (kid0 xs a) hkn)
      clear hc2 hkv hP hgo hlv hp0
      generalize kid0 xs a = k at *
      by_cases hk : lvAt xs k = lvAt xs a - 1
      · have qk : (lvAt xs k != lvAt xs a - 1) = false := by simp [hk]
        have HK := Lib.hid hk
        clear hk
        go_wp2
        go_roundw
        case rel => exact ⟨k, f, rfl, by rw [HK.out], hkn, Lib.hid (by have := HK.out; have := HG.out; omega), Lib.hid (by rw [he.out, E2.out HK.out]), Lib.hid (by have := hf.out; have := HK.out; omega), hbw⟩
        case measure => simp [intOf]; omega
      · have qk : (lvAt xs k != lvAt xs a - 1) = true := by simpa using hk
        have HK := Lib.hid hk
        clear hk
        go_wp2
        go_ret
        exact ⟨ret_int (by rw [he.out, E1.out HK.out]), B0.out.trans (hbw.out.mono B0.out.size)⟩
    · have q1 : decide (lev < lvAt xs a) = false := by simpa using hgo
      have E1 : Hid (firstF xs lev (f + 1) a = a) := Lib.hid (by rw [firstF_here _ _ _ _ (by omega), if_pos (by have := hle.out; omega)])
      generalize lvAt xs a = l at *
      go_wp2
      go_ret
      exact ⟨ret_int (by rw [he.out, E1.out]), B0.out.trans (hbw.out.mono B0.out.size)⟩
end Go.Proofs.YtlmhcifnikdliaaDoor
