/- The walks of maps.Clone at lows and of the code's allTold. -/
import Derived.Test.YtlmhcifnikdliaaDoorA25
import Derived.Shelf.SlMaps.Clone
namespace Go.Proofs.YtlmhcifnikdliaaDoor
open Go.RowKit

theorem Lows.empty_of {w : World} {b m k : Nat} {f : Int → Option Int} (h : Lows w b m f k) (hf : ∀ x, f x = none) : k = 0 := by
  obtain ⟨D, ⟨es, clock, hb, F, hs, rfl⟩, hkeep, hsz⟩ := h
  rw [Maps.size_eq] at hsz
  match hL : (es.toList.map (WideElems.rg Tryd.prog 2 (plainElem (H := Unit) Tryd.prog 2))).foldr DataW.insert [], hsz with
  | [], hsz => exact hsz.symm
  | p :: l, _ =>
    exfalso
    have hp : p ∈ (es.toList.map (WideElems.rg Tryd.prog 2 (plainElem (H := Unit) Tryd.prog 2))).foldr DataW.insert [] := by rw [hL]; simp
    have hp2 := (Go.WideShapes.sorted_perm _).mem_iff.1 hp
    obtain ⟨v, hv⟩ := Maps.fit_keys F p hp2
    obtain ⟨x, _, hx, _⟩ := Maps.keyOf_int_inv Tryd.underlying2 hv
    have h1 := hkeep.has x
    rw [hf x, Maps.has_eq, hL] at h1
    simp [hx, Lit.sameKey] at h1
theorem Lows.none_of {w : World} {b m : Nat} {f : Int → Option Int} (h : Lows w b m f 0) (x : Int) : f x = none := by
  obtain ⟨D, _, hkeep, hsz⟩ := h
  exact hkeep.none hsz x

set_option maxRecDepth 100000 in
set_option maxHeartbeats 2000000 in
theorem clone7_any (b m k : Nat) (f : Int → Option Int) (w : World) (h : Lows w b m f k) :
    Calls Tryd.prog 64 #[.map (some b)] w fun e w' => e = .returned (.map (some w.heap.size)) ∧ Lows w' w.heap.size m f k ∧ Below w.heap.size w w' := by
  obtain ⟨D, ⟨es, clock, hb, F, hs, hD⟩, hkeep, hsz⟩ := h
  have hq := fun w => run_eql_map_nil_sl (P := Tryd.prog) w 76 _ _ (some b) Tryd.underlying76
  have hB : Below w.heap.size w (w.alloc (.map es clock)) := (Below.refl _ w).alloc (Nat.le_refl _) _
  have hO : Lows (w.alloc (.map es clock)) w.heap.size m f k := ⟨D, ⟨es, clock, (MapKept.heap_alloc w _).1, F, hs, hD⟩, hkeep, hsz⟩
  have HO := Lib.hid hO
  have HB := Lib.hid hB
  clear F hs hD hkeep hsz hO hB
  go_enter Tryd.func64, Tryd.ntmps64
  go_wp2
  rw [run_callFunc_extern Tryd.func76 (by kernel_rfl) (by kernel_rfl) (by kernel_rfl) (e := Extern.MapsClone.clone) (by kernel_rfl), run_maps_clone_sl w 76 hb]
  simp only [Result.andThen]
  rw [Oper.upon_value]
  go_wp2
  rw [run_typeAssert_map_sl _ 76 20 _ _ _ Tryd.underlying76]
  simp only [Result.andThen]
  rw [Oper.upon_value]
  go_wp2
  go_ret
  exact ⟨rfl, HO.out, HB.out⟩

set_option maxRecDepth 100000 in
set_option maxHeartbeats 4000000 in
theorem allTold_any (r : Int) (xs : List Nd) (A : Option Addr) (n c : Nat) (row : List Int) (Ar : Option Addr) (m cr : Nat) (bb mb kb : Nat) (f : Int → Option Int) (w : World) (h : RS w w.heap.size A n xs) (hR : Right n r xs)
    (hr : RS w w.heap.size Ar m row) (hm : m ≤ 1048576) (hin : RowIn n row) (hB : Lows w bb mb f kb) :
    Calls Tryd.prog 46 #[.agg #[.int .i64 r, .slice A n c], .slice Ar m cr, .map (some bb)] w fun e w' => ∃ q : Bool, e = .returned (.bool q) ∧ (q = true ↔ ∀ x, strikeF xs row f m x = none) ∧ Below w.heap.size w w' := by
  have hl : row.length = m := hr.1
  have hn : n ≤ 40 := hR.most
  have HPS : Hid (∀ a, a < n → (ndAt xs a).ps.length ≤ 4 ∧ ∀ j, j < (ndAt xs a).ps.length → (Lit.int .i64 (vAt (ndAt xs a).ps j)).wf = true) := Lib.hid (fun a ha => by
    have h2 := (hR.good a ha).1
    unfold nodeOk at h2
    simp only [Bool.and_eq_true, decide_eq_true_eq] at h2
    refine ⟨h2.1.1.1.1.2, fun j hj => ?_⟩
    have h3 := (pOk_iff _).1 h2.1.1.1.2
    have h4 := (h3.1 j hj).1
    unfold rightB at h4
    simp only [decide_eq_true_eq] at h4
    exact wfJ (by omega) (by omega))
  have HIN : Hid (∀ i, i < m → ∃ a : Nat, iAt row i = a ∧ a < n) := Lib.hid (by rw [← hl]; exact hin)
  obtain ⟨w0, hw0⟩ : ∃ w0, w0 = w.alloc (.cells #[.int .i64 r, .slice A n c] 29) := ⟨_, rfl⟩
  have b0 : Below w.heap.size w w0 := by rw [hw0]; exact (Below.refl _ _).alloc (Nat.le_refl _) _
  have x0 : w0.heap[w.heap.size]? = some (.cells #[.int .i64 r, .slice A n c] 29 (0, 0)) := by rw [hw0]; exact heap_alloc_new _ _
  have D0 : Hid (∀ wx, Below w0.heap.size w0 wx → wx.cell? ⟨w.heap.size, 0, none⟩ = some (.int .i64 r) ∧ wx.cell? ⟨w.heap.size, 1, none⟩ = some (.slice A n c)) := Lib.hid (fun wx hb => ⟨by rw [cell_of_row _ _ 0 _ _ _ (box_on hb x0)]; rfl, by rw [cell_of_row _ _ 1 _ _ _ (box_on hb x0)]; rfl⟩)
  have s0 : w.heap.size < w0.heap.size := by rw [hw0]; simp
  have HH := Lib.hid (h.on b0)
  have HR := Lib.hid (hr.on b0)
  have HB := Lib.hid (hB.on b0)
  have B0 := Lib.hid b0
  have HW := Lib.hid hw0
  clear h hr hw0 b0 x0 hl hin hR hB
  go_enter Tryd.func46, Tryd.ntmps46
  go_wp2_with fail
  rw [← HW.out]
  refine (clone7_any bb mb kb f w0 HB.out).mono ?_
  rintro e w1 ⟨rfl, o1, b1⟩
  obtain ⟨bu, hbu⟩ : ∃ bu, bu = w0.heap.size := ⟨_, rfl⟩
  have HBU := Lib.hid hbu
  rw [← hbu] at o1 ⊢
  have O1 : Hid (∃ kk, Lows w1 bu mb (strikeF xs row f 0) kk) := Lib.hid ⟨_, o1⟩
  have B1 := Lib.hid b1
  clear o1 b1 hbu
  go_wp2
  go_loopw [16] (fun i wr => ∃ k : Nat, i = .int .i64 k ∧ k ≤ m ∧ Hid (∃ kk, Lows wr bu mb (strikeF xs row f k) kk) ∧ Hid (Below w0.heap.size w0 wr)) (fun i _ => m - (intOf i).toNat)
  case atStart => exact ⟨0, rfl, by omega, O1, B1⟩
  case round =>
    obtain ⟨k, rfl, hk, ho, hbw⟩ := hrel
    clear O1 B1
    by_cases hlt : k < m
    · obtain ⟨a, ha, han⟩ := HIN.out k hlt
      obtain ⟨b2, off2, rfl, hb2, hc2⟩ := HR.out.ints (by omega)
      have e1 := (hbw.out.cell (p := ⟨b2, off2 + k, none⟩) hb2).trans (hc2 k hlt)
      rw [ha] at e1
      obtain ⟨b, off, rfl, hb, hc⟩ := HH.out.nd (by omega)
      obtain ⟨A2, n2, c2, _, e2', _, _, _, hP, _⟩ := hc a han
      have e2 := (hbw.out.cell (p := ⟨b, off + a * 5 + 1, none⟩) hb).trans e2'
      have d1 := (D0.out _ hbw.out).2
      obtain ⟨hn4, hwf⟩ := HPS.out a han
      have E3 : Hid (strikeF xs row f (k + 1) = strikeP (strikeF xs row f k) (ndAt xs a).ps (ndAt xs a).ps.length) := Lib.hid (by rw [← Int.toNat_natCast a, ← ha]; rfl)
      rw [hP.1] at hn4 hwf
      have HWF := Lib.hid hwf
      have HP := Lib.hid hP
      clear hc hc2 ha hP hwf e2'
      obtain ⟨g0, hg0⟩ : ∃ g0, g0 = strikeF xs row f k := ⟨_, rfl⟩
      rw [← hg0] at ho E3
      clear hg0
      generalize (ndAt xs a).ps = ps at *
      go_wp2
      go_loopw [27] (fun i wq => ∃ j : Nat, i = .int .i64 j ∧ j ≤ n2 ∧ Hid (∃ kk, Lows wq bu mb (strikeP g0 ps j) kk) ∧ Hid (Below w0.heap.size w0 wq)) (fun i _ => n2 - (intOf i).toNat)
      case atStart => exact ⟨0, rfl, by omega, ho, hbw⟩
      case round =>
        clear e1 e2 d1
        obtain ⟨j, rfl, hj, ho2, hbw2⟩ := hrel
        by_cases hlj : j < n2
        · obtain ⟨b4, off4, rfl, hb4, hc4⟩ := HP.out.2 (by omega)
          have c1 := (hbw2.out.cell (p := ⟨b4, off4 + j * 2, none⟩) hb4).trans (hc4 j hlj).1
          have c2' := (hbw2.out.cell (p := ⟨b4, off4 + j * 2 + 1, none⟩) hb4).trans (hc4 j hlj).2
          have hx := HWF.out j hlj
          have EN : Hid (strikeP g0 ps (j + 1) = delF (strikeP g0 ps j) (vAt ps j)) := Lib.hid rfl
          obtain ⟨kk, D, hown, hkeep, hsz⟩ := ho2.out
          clear hc4 ho ho2
          generalize kAt ps j = pk at *
          obtain ⟨pv, hpv⟩ : ∃ pv, pv = vAt ps j := ⟨_, rfl⟩
          rw [← hpv] at c2' hx EN
          clear hpv
          obtain ⟨wb, hwb⟩ : ∃ wb, wb = wr.alloc (.cells #[.int .i64 pk, .int .i64 pv] 53) := ⟨_, rfl⟩
          have bb' : Below w0.heap.size w0 wb := by rw [hwb]; exact hbw2.out.alloc hbw2.out.size _
          have ON := Lib.hid (hown.alloc (.cells #[.int .i64 pk, .int .i64 pv] 53))
          have UPD : Hid (∀ w5, w5.ownsMap Tryd.prog 2 (plainElem Tryd.prog 2) bu mb (D.del (.int .i64 pv)) → wb.mapTurned w5 bu → (∃ kk, Lows w5 bu mb (strikeP g0 ps (j + 1)) kk) ∧ Below w0.heap.size w0 w5) := Lib.hid (fun w5 h5 g5 =>
            ⟨⟨_, _, h5, by rw [EN.out]; exact hkeep.del _, rfl⟩, bb'.grown g5.grown (by have := bb'.size; omega) (fun q hq => by cases hq; have := HBU.out; omega)⟩)
          rw [hwb] at UPD
          clear hown hkeep hwb bb'
          go_wp2_with (at_delete; refine wpList_delete_own _ rfl _ _ 76 2 rfl 2 lawJ Tryd.underlying76 _ bu _ _ rfl ON.out _ _ rfl (keyJ hx) ?_; intro w5 hown5 hturn5; obtain ⟨O5, B5⟩ := UPD.out w5 hown5 hturn5; clear hown5 hturn5; replace O5 := Lib.hid O5; replace B5 := Lib.hid B5; go_frame)
          go_roundw
          case rel => exact ⟨j + 1, by go_num, by omega, O5, B5⟩
          case measure => simp [intOf]; omega
        · obtain rfl : j = n2 := by omega
          have HG : Hid (∃ kk, Lows wr bu mb (strikeF xs row f (k + 1)) kk) := Lib.hid (by rw [E3.out, HP.out.1]; exact ho2.out)
          go_wp2
          go_roundw
          case rel => exact ⟨k + 1, by go_num, by omega, HG, hbw2⟩
          case measure => simp [intOf]; omega
    · obtain rfl : k = m := by omega
      obtain ⟨kk, hL⟩ := ho.out
      have HL := Lib.hid hL
      obtain ⟨D, hown, hkeep, hsz⟩ := hL
      have ON := Lib.hid hown
      clear hown hkeep
      go_wp2_with (at_len; refine wpList_len_own _ rfl _ 76 rfl 2 2 Tryd.underlying76 _ bu _ _ rfl ON.out ?_; rw [hsz])
      go_ret
      refine ⟨_, rfl, ⟨fun h => ?_, fun h => ?_⟩, B0.out.trans (hbw.out.mono B0.out.size)⟩
      · have h0 : kk = 0 := by simpa using h
        subst h0
        exact fun x => HL.out.none_of x
      · have h0 := HL.out.empty_of h
        simp [h0]
end Go.Proofs.YtlmhcifnikdliaaDoor
