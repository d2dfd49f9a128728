/- The walks of the code's chapter 7, the small ones: unsound, lowsOf, lacks, what holds one that lacks, the flaws of a node. -/
import Derived.Test.YtlmhcifnikdliaaDoorB23
namespace Go.Proofs.YtlmhcifnikdliaaDoor
open Go.RowKit

theorem lawJ : Maps.Keyed Tryd.prog 2 := Maps.int_keyed Tryd.underlying2
theorem zeroJ (w : World) : (zeroValue 2).run Tryd.prog w = .ok (.int .i64 0) w := by kernel_rfl
theorem wfJ {x : Int} (h0 : -1 ≤ x) (h1 : x ≤ 4194304) : (Lit.int .i64 x).wf = true := WalkArith.wf_i64 (by omega)
theorem keyJ {x : Int} (hx : (Lit.int .i64 x).wf = true) : keyOf Tryd.prog 2 (.int .i64 x) = some (.int .i64 x) := Maps.keyOf_int_mk Tryd.underlying2 hx
def Lows (w : World) (b m : Nat) (f : Int → Option Int) (k : Nat) : Prop := ∃ D : DV, w.ownsMap Tryd.prog 2 (plainElem Tryd.prog 2) b m D ∧ KeepF D f ∧ Maps.size D = k
theorem Lows.on {w w' : World} {b m k : Nat} {f : Int → Option Int} (h : Lows w b m f k) (hb : Below w.heap.size w w') : Lows w' b m f k := by
  obtain ⟨D, h1, h2⟩ := h
  exact ⟨D, h1.kept (grown_none hb) (by simp), h2⟩
theorem Lows.lt {w : World} {b m k : Nat} {f : Int → Option Int} (h : Lows w b m f k) : b < w.heap.size := by
  obtain ⟨D, h1, _⟩ := h
  exact h1.lt

set_option maxRecDepth 100000 in
theorem unsound_any (s : ByteArray) (a : Addr) (w : World) (hg : w.cell? ⟨0, 0, none⟩ = some (.iface 128 (.pointer (some a)))) :
    Calls Tryd.prog 43 #[.string s] w fun e w' => e = .returned (flawV s a) ∧ w' = w := by
  go_enter Tryd.func43, Tryd.ntmps43
  go_wp2
  go_ret
  exact ⟨rfl, rfl⟩

set_option maxRecDepth 100000 in
theorem lacks_any (b m k : Nat) (f : Int → Option Int) (p : Pr) (w : World) (h : Lows w b m f k) (hx : (Lit.int .i64 p.2).wf = true) :
    Calls Tryd.prog 75 #[.map (some b), .agg #[.int .i64 p.1, .int .i64 p.2]] w fun e w' => e = .returned (.bool (lacksF f p)) ∧ Below w.heap.size w w' := by
  obtain ⟨D, hown, hkeep, _⟩ := h
  obtain ⟨p1, p2⟩ := p
  simp only at hx ⊢
  have hbl : b < w.heap.size := hown.lt
  have ON := Lib.hid (hown.alloc (.cells #[.int .i64 p1, .int .i64 p2] 53))
  have B0 : Hid (Below w.heap.size w (w.alloc (.cells #[.int .i64 p1, .int .i64 p2] 53))) := Lib.hid ((Below.refl _ _).alloc (Nat.le_refl _) _)
  have LK : Hid (∀ c : Int, D.atKey (.int .i64 p2) (.lit (.int .i64 0)) = .lit (.int .i64 c) → (f p2).getD 0 = c) := Lib.hid (fun c hc => hkeep.at hc)
  have hh := hkeep.has p2
  clear hown hkeep hbl
  unfold lacksF
  simp only
  cases hf : f p2 with
  | none =>
    rw [hf] at hh
    change _ = false at hh
    clear LK hf
    go_enter Tryd.func75, Tryd.ntmps75
    go_wp2_with (at_lookup; refine wpList_lookup_own_ok_int _ rfl _ _ 76 rfl 2 2 .i64 lawJ Tryd.underlying76 Tryd.underlying2 (zeroJ _) b _ _ rfl ON.out _ _ rfl (keyJ hx) ?_; intro c hat hwc; clear hat hwc)
    go_ret
    exact ⟨rfl, B0.out⟩
  | some v =>
    rw [hf] at hh LK
    change _ = true at hh
    clear hf
    by_cases e : v = p1
    · have gz : (v != p1) = false := by simpa using e
      have E := Lib.hid e
      clear e
      go_enter Tryd.func75, Tryd.ntmps75
      go_wp2_with (at_lookup; refine wpList_lookup_own_ok_int _ rfl _ _ 76 rfl 2 2 .i64 lawJ Tryd.underlying76 Tryd.underlying2 (zeroJ _) b _ _ rfl ON.out _ _ rfl (keyJ hx) ?_; intro c hat hwc; obtain rfl := (LK.out c hat).symm; clear hat hwc)
      go_ret
      exact ⟨ret_bool (by simp [E.out]), B0.out⟩
    · have gz : (v != p1) = true := by simpa using e
      have E := Lib.hid e
      clear e
      go_enter Tryd.func75, Tryd.ntmps75
      go_wp2_with (at_lookup; refine wpList_lookup_own_ok_int _ rfl _ _ 76 rfl 2 2 .i64 lawJ Tryd.underlying76 Tryd.underlying2 (zeroJ _) b _ _ rfl ON.out _ _ rfl (keyJ hx) ?_; intro c hat hwc; obtain rfl := (LK.out c hat).symm; clear hat hwc)
      go_ret
      exact ⟨ret_bool (by simp [E.out]), B0.out⟩

set_option maxRecDepth 100000 in
theorem idxL_any (b m kk : Nat) (f : Int → Option Int) (A : Option Addr) (n c : Nat) (zs : List Pr) (w : World) (h : RP w w.heap.size A n zs) (hn : n ≤ 1048576) (hL : Lows w b m f kk) (hwf : ∀ j, j < n → (Lit.int .i64 (vAt zs j)).wf = true) :
    Calls Tryd.prog 81 #[.slice A n c, .func (.func 75) #[.map (some b)] #[]] w fun e w' => e = .returned (.int .i64 (ixOf (lacksF f) zs)) ∧ Below w.heap.size w w' := by
  have HL := Lib.hid h.1
  have HH := Lib.hid h
  have RK : Hid (∀ k, k < n → ∀ w', Below w.heap.size w w' → Calls Tryd.prog 75 #[.map (some b), .agg #[.int .i64 (kAt zs k), .int .i64 (vAt zs k)]] w' fun e w'' => e = .returned (.bool (lacksF f (zs.getD k (0, 0)))) ∧ Below w'.heap.size w' w'') :=
    Lib.hid (fun k hk w' hb => lacks_any b m kk f (zs.getD k (0, 0)) w' (hL.on hb) (hwf k hk))
  clear h hL hwf
  have eg : ∀ args w, (callFunc 75 args).run Tryd.prog w = .ok (.enter 75 args) w := enters_of Tryd.func75 (by kernel_rfl) rfl
  have HX : Hid (∀ k, k < zs.length → lacksF f (zs.getD k (0, 0)) = true → (∀ j, j < k → lacksF f (zs.getD j (0, 0)) = false) → ixOf (lacksF f) zs = k) := Lib.hid fun k hk h1 h2 => ixOf_at _ _ _ k hk h1 h2
  have HN : Hid ((∀ j, j < zs.length → lacksF f (zs.getD j (0, 0)) = false) → ixOf (lacksF f) zs = -1) := Lib.hid fun h1 => ixOf_none _ _ _ h1
  generalize ixOf (lacksF f) zs = R at *
  generalize lacksF f = q at *
  generalize Value.map (some b) = xv at *
  go_enter Tryd.func81, Tryd.ntmps81
  go_wp2
  go_loopw [8] (fun i wr => ∃ k : Nat, i = .int .i64 k ∧ k ≤ n ∧ Hid (∀ j, j < k → q (zs.getD j (0, 0)) = false) ∧ Hid (Below w.heap.size w wr)) (fun i _ => n - (intOf i).toNat)
  case atStart => exact ⟨0, rfl, by omega, Lib.hid (by intro j hj; omega), Lib.hid (Below.refl _ _)⟩
  case round =>
    obtain ⟨k, rfl, hk, ho, hbw⟩ := hrel
    by_cases hlt : k < n
    · obtain ⟨b, off, rfl, hb, hc⟩ := HH.out.2 (by omega)
      have c1 := (hbw.out.cell (p := ⟨b, off + k * 2, none⟩) hb).trans (hc k hlt).1
      have c2 := (hbw.out.cell (p := ⟨b, off + k * 2 + 1, none⟩) hb).trans (hc k hlt).2
      clear hc
      have rk := RK.out k hlt wr hbw.out
      have F1 : Hid (q (zs.getD k (0, 0)) = true → R = k) := Lib.hid fun h => HX.out k (by have := HL.out; omega) h ho.out
      have F2 : Hid (q (zs.getD k (0, 0)) = false → ∀ j, j < k + 1 → q (zs.getD j (0, 0)) = false) := Lib.hid fun h j hj => by
        rcases Nat.lt_or_ge j k with h' | h'
        · exact ho.out j h'
        · obtain rfl : j = k := by omega
          exact h
      generalize q (zs.getD k (0, 0)) = qq at rk F1 F2
      cases qq
      · go_wp2_with (go_at_fn 75; refine rk.mono ?_; rintro e w2 ⟨rfl, b2⟩)
        go_roundw
        case rel => exact ⟨k + 1, by go_num, by omega, Lib.hid (F2.out (by trivial)), Lib.hid (hbw.out.trans (b2.mono hbw.out.size))⟩
        case measure => simp [intOf]; omega
      · go_wp2_with (go_at_fn 75; refine rk.mono ?_; rintro e w2 ⟨rfl, b2⟩)
        go_ret
        exact ⟨ret_int (F1.out (by trivial)).symm, hbw.out.trans (b2.mono hbw.out.size)⟩
    · go_wp2
      go_ret
      have hz : zs.length = n := HL.out
      exact ⟨ret_int (HN.out (fun j hj => ho.out j (by omega))).symm, hbw.out⟩

theorem contL_any (b m kk : Nat) (f : Int → Option Int) (A : Option Addr) (n c : Nat) (zs : List Pr) (w : World) (h : RP w w.heap.size A n zs) (hn : n ≤ 1048576) (hL : Lows w b m f kk) (hwf : ∀ j, j < n → (Lit.int .i64 (vAt zs j)).wf = true) :
    Calls Tryd.prog 72 #[.slice A n c, .func (.func 75) #[.map (some b)] #[]] w fun e w' => e = .returned (.bool (zs.any (lacksF f))) ∧ Below w.heap.size w w' := by
  have ix := idxL_any b m kk f A n c zs w h hn hL hwf
  rw [← ixOf_any]
  clear h hL hwf
  generalize ixOf (lacksF f) zs = R at *
  generalize Value.map (some b) = xv at *
  go_enter Tryd.func72, Tryd.ntmps72
  go_wp2_with fail
  refine ix.mono ?_
  rintro e w1 ⟨rfl, b1⟩
  go_wp2
  go_ret
  exact ⟨rfl, b1⟩

set_option maxRecDepth 100000 in
set_option maxHeartbeats 1000000 in
theorem lowsOf_any (r : Int) (xs : List Nd) (A : Option Addr) (n c : Nat) (row : List Int) (Ar : Option Addr) (m cr : Nat) (w : World) (h : RS w w.heap.size A n xs) (hr : RS w w.heap.size Ar m row) (hn : n ≤ 1048576) (hm : m ≤ 1048576) (hin : RowIn n row)
    (hhi : ∀ a, a < n → -1 ≤ (ndAt xs a).hi ∧ (ndAt xs a).hi ≤ 4194304) :
    Calls Tryd.prog 44 #[.agg #[.int .i64 r, .slice A n c], .slice Ar m cr] w fun e w' => e = .returned (.map (some (w.heap.size + 1))) ∧ Lows w' (w.heap.size + 1) m (lowsF xs row m) (cntF xs row m) ∧ Below w.heap.size w w' := by
  have hl : row.length = m := hr.1
  have HIN : Hid (∀ i, i < m → ∃ a : Nat, iAt row i = a ∧ a < n) := Lib.hid (by rw [← hl]; exact hin)
  obtain ⟨w0, hw0⟩ : ∃ w0, w0 = w.alloc (.cells #[.int .i64 r, .slice A n c] 29) := ⟨_, rfl⟩
  have b0 : Below w.heap.size w w0 := by rw [hw0]; exact (Below.refl _ _).alloc (Nat.le_refl _) _
  have x0 : w0.heap[w.heap.size]? = some (.cells #[.int .i64 r, .slice A n c] 29 (0, 0)) := by rw [hw0]; exact heap_alloc_new _ _
  have s0 : w0.heap.size = w.heap.size + 1 := by rw [hw0]; simp
  have D0 : Hid (∀ wx, Below w0.heap.size w0 wx → wx.cell? ⟨w.heap.size, 1, none⟩ = some (.slice A n c)) := Lib.hid (fun wx hb => by rw [cell_of_row _ _ 1 _ _ _ (box_on hb x0)]; rfl)
  have HH := Lib.hid (h.on b0)
  have HR := Lib.hid (hr.on b0)
  have B0 := Lib.hid b0
  have S0 := Lib.hid s0
  have HW := Lib.hid hw0
  have HHI := Lib.hid hhi
  have hmm := @run_makeMap Tryd.prog
  obtain ⟨w1, hw1⟩ : ∃ w1, w1 = w0.alloc (.map #[] 0) := ⟨_, rfl⟩
  have b1 : Below w0.heap.size w0 w1 := by rw [hw1]; exact (Below.refl _ _).alloc (Nat.le_refl _) _
  have m1 : Lows w1 (w.heap.size + 1) 0 (lowsF xs row 0) (cntF xs row 0) := by
    rw [← s0, hw1]
    exact ⟨_, World.ownsMap_made _ _ _ _, KeepF.empty, rfl⟩
  have B1 := Lib.hid b1
  have M1 := Lib.hid m1
  have HW1 := Lib.hid hw1
  clear h hr hw0 b0 x0 s0 hl hin hhi hw1 b1 m1
  go_enter Tryd.func44, Tryd.ntmps44
  go_wp2
  rw [← HW.out, ← HW1.out]
  go_loopw [6, 12] (fun lo i wr => ∃ k : Nat, lo = .int .i64 (lowAt xs row k) ∧ i = .int .i64 k ∧ k ≤ m ∧ Hid (Lows wr (w.heap.size + 1) k (lowsF xs row k) (cntF xs row k)) ∧ Hid (Below w0.heap.size w0 wr)) (fun _ i _ => m - (intOf i).toNat)
  case atStart => exact ⟨0, rfl, rfl, by omega, M1, B1⟩
  case round =>
    obtain ⟨k, rfl, rfl, hk, ho, hbw⟩ := hrel
    clear M1
    by_cases hlt : k < m
    · obtain ⟨a, ha, han⟩ := HIN.out k hlt
      have E2 : Hid (lowAt xs row (k + 1) = (ndAt xs a).hi) := Lib.hid (by unfold lowAt; simp [ha])
      have WL : Hid ((Lit.int .i64 (lowAt xs row k)).wf = true) := Lib.hid (by
        unfold lowAt
        split
        · rfl
        · obtain ⟨a', ha', han'⟩ := HIN.out (k - 1) (by omega)
          rw [ha', Int.toNat_natCast]
          exact wfJ (HHI.out a' han').1 (HHI.out a' han').2)
      have E3 : Hid (lowsF xs row (k + 1) = putF (lowsF xs row k) (a : Int) (lowAt xs row k)) := Lib.hid (by rw [← ha]; rfl)
      have E4 : Hid (cntF xs row (k + 1) = if (lowsF xs row k (a : Int)).isSome then cntF xs row k else cntF xs row k + 1) := Lib.hid (by rw [← ha]; rfl)
      obtain ⟨D, hown, hkeep, hsz⟩ := ho.out
      have ON := Lib.hid hown
      have UPD : Hid (∀ w5, w5.ownsMap Tryd.prog 2 (plainElem Tryd.prog 2) (w.heap.size + 1) (k + 1) (D.put (.int .i64 (a : Int)) (.lit (.int .i64 (lowAt xs row k)))) → wr.grownBy w5 (some (w.heap.size + 1)) →
          Lows w5 (w.heap.size + 1) (k + 1) (lowsF xs row (k + 1)) (cntF xs row (k + 1)) ∧ Below w0.heap.size w0 w5) := Lib.hid (fun w5 h5 g5 =>
        ⟨⟨_, h5, by rw [E3.out]; exact hkeep.put _ _, by rw [hkeep.size_put, hsz, E4.out]⟩, hbw.out.grown g5 (by have := hbw.out.size; omega) (fun j hj => by cases hj; have := S0.out; omega)⟩)
      obtain ⟨b2, off2, rfl, hb2, hc2⟩ := HR.out.ints (by omega)
      have p2 := (hbw.out.cell (p := ⟨b2, off2 + k, none⟩) hb2).trans (hc2 k hlt)
      rw [ha] at p2
      obtain ⟨b, off, rfl, hb, hc⟩ := HH.out.nd (by omega)
      have HI2 : Hid (∀ w5, Below w0.heap.size w0 w5 → w5.cell? ⟨b, off + a * 5 + 2, none⟩ = some (.int .i64 (ndAt xs a).hi)) := Lib.hid (fun w5 B5 => by
        obtain ⟨_, _, _, _, _, c2, _⟩ := (hc a han).keep (w' := w5) hb (fun p hp => B5.cell hp)
        exact c2)
      clear hown hkeep hsz ho hc hc2 ha E3 E4
      generalize (ndAt xs a).hi = z at *
      generalize lowAt xs row k = lo at *
      go_wp2_with (at_mapUpdate; refine wpList_mapUpdate_own _ rfl _ _ _ 76 rfl 2 2 lawJ Tryd.underlying76 _ (w.heap.size + 1) k _ rfl ON.out (by unfold maxLen; omega) _ _ _ rfl rfl (keyJ (wfJ (by omega) (by omega))) _ [] (plainElem_int Tryd.underlying2 WL.out) ?_; intro w5 hown5 hgrow5; obtain ⟨O5, B5⟩ := UPD.out w5 hown5 hgrow5; clear hown5 hgrow5; have e1 := D0.out _ B5; have e2 := HI2.out _ B5; replace O5 := Lib.hid O5; replace B5 := Lib.hid B5; go_frame)
      go_roundw
      case rel => exact ⟨k + 1, by rw [E2.out], by go_num, by omega, O5, B5⟩
      case measure => simp [intOf]; omega
    · obtain rfl : k = m := by omega
      go_wp2
      go_ret
      exact ⟨rfl, ho.out, B0.out.trans (hbw.out.mono B0.out.size)⟩
end Go.Proofs.YtlmhcifnikdliaaDoor
