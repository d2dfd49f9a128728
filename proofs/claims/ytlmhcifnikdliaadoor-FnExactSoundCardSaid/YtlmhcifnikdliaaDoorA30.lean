/- The walk of the code's flaws of a tree. -/
import Derived.Test.YtlmhcifnikdliaaDoorA26
import Derived.Test.YtlmhcifnikdliaaDoorA29
namespace Go.Proofs.YtlmhcifnikdliaaDoor
open Go.RowKit

def belowF (r : Int) (xs : List Nd) (l : Nat) (f : Int → Option Int) : Prop := (l = 0 → f = fun _ => none) ∧ ∀ j : Nat, l = j + 1 → f = lowsF xs (rowT r xs j) (rowT r xs j).length
def toldTo (r : Int) (xs : List Nd) (l : Nat) : Prop := ∀ j : Nat, j + 1 < l → toldRow xs (rowT r xs j) (rowT r xs ((j : Int) + 1)) = true
def lateV (a : Addr) (r : Int) (xs : List Nd) (l : Nat) (v : Value) : Prop := (toldTo r xs l → v = .nilIface) ∧ (¬ toldTo r xs l → ∃ s, v = flawV s a)
theorem belowF.start (r : Int) (xs : List Nd) : belowF r xs 0 (fun _ => none) := ⟨fun _ => rfl, fun j h => by omega⟩
theorem belowF.next (r : Int) (xs : List Nd) (l : Nat) : belowF r xs (l + 1) (lowsF xs (rowT r xs l) (rowT r xs l).length) := ⟨fun h => by omega, fun j h => by
  obtain rfl : l = j := by omega
  rfl⟩
theorem lateV.start (a : Addr) (r : Int) (xs : List Nd) : lateV a r xs 0 .nilIface := ⟨fun _ => rfl, fun h => absurd (fun j hj => absurd hj (by omega)) h⟩
theorem level7 {r : Int} {xs : List Nd} {l : Nat} {f : Int → Option Int} (hf : belowF r xs l f) (ho : ∀ j, j < l → levelB r xs j = true) : rowF7 xs (rowT r xs l) l f = levelB r xs l := by
  refine rowF7_level l f (fun h => ?_)
  obtain ⟨j, rfl⟩ : ∃ j, l = j + 1 := ⟨l - 1, by omega⟩
  have e : (((j + 1 : Nat) : Int) - 1) = (j : Int) := by omega
  rw [e]
  exact ⟨level_once (ho j (by omega)), hf.2 j rfl⟩
theorem late_next {a : Addr} {r : Int} {xs : List Nd} {l : Nat} {f : Int → Option Int} {v : Value} {q : Bool} (hv : lateV a r xs l v) (hf : belowF r xs l f) (hq : q = true ↔ ∀ x, strikeF xs (rowT r xs l) f (rowT r xs l).length x = none) :
    (q = true → lateV a r xs (l + 1) v) ∧ (q = false → ∀ s, lateV a r xs (l + 1) (flawV s a)) := by
  have key : q = true ↔ ∀ j : Nat, l = j + 1 → toldRow xs (rowT r xs j) (rowT r xs ((j : Int) + 1)) = true := by
    rw [hq]
    constructor
    · rintro h j rfl
      rw [hf.2 j rfl] at h
      exact told_none h
    · intro h x
      cases l with
      | zero =>
        rw [hf.1 rfl, strikeF_is]
        split <;> rfl
      | succ j =>
        rw [hf.2 j rfl]
        exact told_all (h j rfl) x
  have split : toldTo r xs (l + 1) ↔ (toldTo r xs l ∧ q = true) := by
    rw [key]
    constructor
    · intro h
      exact ⟨fun j hj => h j (by omega), fun j hj => h j (by omega)⟩
    · rintro ⟨h1, h2⟩ j hj
      rcases Nat.lt_or_ge (j + 1) l with h' | h'
      · exact h1 j h'
      · exact h2 j (by omega)
  refine ⟨fun h => ⟨fun ht => hv.1 (split.1 ht).1, fun ht => hv.2 (fun h' => ht (split.2 ⟨h', h⟩))⟩, fun h s => ⟨fun ht => ?_, fun _ => ⟨s, rfl⟩⟩⟩
  have := (split.1 ht).2
  rw [h] at this
  cases this
structure FlawT (a0 a1 : Addr) (r : Int) (xs : List Nd) (v : Value) : Prop where
  bad : soundB r xs = false → ∃ s, v = flawV s a0
  late : soundB r xs = true → toldB r xs = false → ∃ s, v = flawV s a1
  good : soundB r xs = true → toldB r xs = true → v = .nilIface
theorem FlawT.no {a0 a1 : Addr} {r : Int} {xs : List Nd} (h : soundB r xs = false) (s : ByteArray) : FlawT a0 a1 r xs (flawV s a0) := ⟨fun _ => ⟨s, rfl⟩, fun h' => (by rw [h] at h'; cases h'), fun h' => (by rw [h] at h'; cases h')⟩
theorem FlawT.yes {a0 a1 : Addr} {r : Int} {xs : List Nd} {L : Nat} {v : Value} (h0 : treeOk r xs = true) (hL : lvAt xs r.toNat = L) (h1 : ∀ j, j < L + 1 → levelB r xs j = true) (hv : lateV a1 r xs (L + 1) v) : FlawT a0 a1 r xs v := by
  have hs : soundB r xs = true := soundB_yes h0 (by omega) (fun l hl => h1 l (by omega))
  refine ⟨fun h => (by rw [hs] at h; cases h), fun _ ht => hv.2 (fun hto => ?_), fun _ ht => hv.1 (fun j hj => ?_)⟩
  · rw [toldB_yes hs (fun l hl => hto l (by omega))] at ht
    cases ht
  · cases hq : toldRow xs (rowT r xs j) (rowT r xs ((j : Int) + 1))
    · rw [toldB_no j (by omega) hq] at ht
      cases ht
    · rfl

set_option maxRecDepth 100000 in
set_option maxHeartbeats 4000000 in
theorem tflaw_any (r : Int) (xs : List Nd) (A : Option Addr) (n c : Nat) (a0 a1 : Addr) (w : World) (h : RS w w.heap.size A n xs) (hs : Small.sm xs) (hc : n ≤ c) (hc2 : c ≤ 9223372036854775807)
    (hg0 : w.cell? ⟨0, 0, none⟩ = some (.iface 128 (.pointer (some a0)))) (hg1 : w.cell? ⟨1, 0, none⟩ = some (.iface 128 (.pointer (some a1)))) (hgb : 1 < w.heap.size) :
    Calls Tryd.prog 26 #[.agg #[.int .i64 r, .slice A n c]] w fun e w' => ∃ v, e = .returned v ∧ FlawT a0 a1 r xs v ∧ Below w.heap.size w w' := by
  have hl := h.1
  have OK := Lib.hid (fun w h => itok_any r xs A n c w h hs)
  have US : Hid (∀ (s : ByteArray) (w' : World), Below w.heap.size w w' → Calls Tryd.prog 43 #[.string s] w' fun e w'' => e = .returned (flawV s a0) ∧ w'' = w') :=
    Lib.hid (fun s w' hb => unsound_any s a0 w' (by rw [hb.cell (p := ⟨0, 0, none⟩) (by simpa using Nat.lt_trans Nat.zero_lt_one hgb)]; exact hg0))
  have G0 : Hid (∀ w', Below w.heap.size w w' → w'.cell? ⟨0, 0, none⟩ = some (.iface 128 (.pointer (some a0)))) := Lib.hid (fun w' hb => by rw [hb.cell (p := ⟨0, 0, none⟩) (by simpa using Nat.lt_trans Nat.zero_lt_one hgb)]; exact hg0)
  have G1 : Hid (∀ w', Below w.heap.size w w' → w'.cell? ⟨1, 0, none⟩ = some (.iface 128 (.pointer (some a1)))) := Lib.hid (fun w' hb => by rw [hb.cell (p := ⟨1, 0, none⟩) hgb]; exact hg1)
  obtain ⟨w0, hw0⟩ : ∃ w0, w0 = w.alloc (.cells #[.int .i64 r, .slice A n c] 29) := ⟨_, rfl⟩
  have b0 : Below w.heap.size w w0 := by rw [hw0]; exact (Below.refl _ _).alloc (Nat.le_refl _) _
  have x0 : w0.heap[w.heap.size]? = some (.cells #[.int .i64 r, .slice A n c] 29 (0, 0)) := by rw [hw0]; exact heap_alloc_new _ _
  have D0 : Hid (∀ wx, Below w0.heap.size w0 wx → wx.cell? ⟨w.heap.size, 0, none⟩ = some (.int .i64 r) ∧ wx.cell? ⟨w.heap.size, 1, none⟩ = some (.slice A n c)) := Lib.hid (fun wx hb => ⟨by rw [cell_of_row _ _ 0 _ _ _ (box_on hb x0)]; rfl, by rw [cell_of_row _ _ 1 _ _ _ (box_on hb x0)]; rfl⟩)
  have HH := Lib.hid (h.on b0)
  have B0 := Lib.hid b0
  have HW := Lib.hid hw0
  have BB : Hid (∀ w', Below w0.heap.size w0 w' → Below w.heap.size w w') := Lib.hid (fun w' hb => b0.trans (hb.mono b0.size))
  cases hok : treeOk r xs
  · have HN := Lib.hid (soundB_not hok)
    rw [hok] at OK
    clear h hs hw0 b0 x0 hl hg0 hg1 hok
    go_enter Tryd.func26, Tryd.ntmps26
    go_wp2_with fail
    rw [← HW.out]
    refine (OK.out _ HH.out).mono ?_
    rintro e w1 ⟨rfl, b1⟩
    have B1 := Lib.hid (BB.out _ b1)
    clear b1
    go_wp2_with fail
    refine (US.out _ _ B1.out).mono ?_
    rintro e w2 ⟨rfl, rfl⟩
    go_wp2
    go_ret
    exact ⟨_, rfl, FlawT.no HN.out _, B1.out⟩
  have hR : Right n r xs := by rw [← hl]; exact right_of hok
  have hn40 := hR.most
  obtain ⟨a, rfl⟩ : ∃ a : Nat, r = a := ⟨r.toNat, by have := hR.root; omega⟩
  have han : a < n := by have := hR.root; omega
  obtain ⟨L, hL⟩ : ∃ L : Nat, (ndAt xs a).lv = L := ⟨(lvAt xs a).toNat, by have := (hR.lv a han).1; show lvAt xs a = _; omega⟩
  have hL6 : L ≤ 6 := by have := (hR.lv a han).2; have : lvAt xs a = L := hL; omega
  have hhi : ∀ a, a < n → -1 ≤ (ndAt xs a).hi ∧ (ndAt xs a).hi ≤ 4194304 := fun a ha => by
    have h2 := (hR.good a ha).1
    unfold nodeOk at h2
    simp only [Bool.and_eq_true] at h2
    have h3 := h2.2
    split at h3
    · omega
    · simp only [Bool.and_eq_true] at h3
      have h4 := h3.1.1
      unfold inB at h4
      simp only [decide_eq_true_eq] at h4
      omega
  have RW : Hid (∀ (l : Nat) w', RS w' w'.heap.size A n xs → Calls Tryd.prog 28 #[.agg #[.int .i64 (a : Int), .slice A n c], .int .i64 (l : Int)] w' fun e w'' => ∃ A' c', e = .returned (.slice A' (rowT a xs l).length c') ∧ RS w'' w''.heap.size A' (rowT a xs l).length (rowT a xs l) ∧ Below w'.heap.size w' w'') :=
    Lib.hid (fun l w' h' => (iRowOf_any a xs A n c l w' h' hs hc hc2).mono fun e w'' ⟨A', c', F, he, ho, _, hb⟩ => by
      have e : rowOfT (a : Int) xs l = rowT a xs l := by unfold rowOfT; rw [if_pos hok]
      rw [e] at he ho
      exact ⟨A', c', he, ho.rd, hb⟩)
  have LO : Hid (∀ (l : Nat) A' c' w', RS w' w'.heap.size A n xs → RS w' w'.heap.size A' (rowT a xs l).length (rowT a xs l) → Calls Tryd.prog 44 #[.agg #[.int .i64 (a : Int), .slice A n c], .slice A' (rowT a xs l).length c'] w' fun e w'' => ∃ bh, e = .returned (.map (some bh)) ∧ Lows w'' bh (rowT a xs l).length (lowsF xs (rowT a xs l) (rowT a xs l).length) (cntF xs (rowT a xs l) (rowT a xs l).length) ∧ Below w'.heap.size w' w'') :=
    Lib.hid (fun l A' c' w' h1 h2 => (lowsOf_any a xs A n c _ A' _ c' w' h1 h2 (by omega) (by have := rowT_len a xs l; omega) (rowT_in hR l) hhi).mono fun e w'' ⟨he, ho, hb⟩ => ⟨_, he, ho, hb⟩)
  have RF : Hid (∀ (l : Nat) A' c' bh mh bb mb kb f w', Below w.heap.size w w' → RS w' w'.heap.size A n xs → RS w' w'.heap.size A' (rowT a xs l).length (rowT a xs l) → Lows w' bh mh (lowsF xs (rowT a xs l) (rowT a xs l).length) (cntF xs (rowT a xs l) (rowT a xs l).length) → Lows w' bb mb f kb →
      Calls Tryd.prog 45 #[.agg #[.int .i64 (a : Int), .slice A n c], .slice A' (rowT a xs l).length c', .int .i64 (l : Int), .map (some bh), .map (some bb)] w' fun e w'' => ∃ v, e = .returned v ∧ ErrV a0 (rowF7 xs (rowT a xs l) l f) v ∧ Below w'.heap.size w' w'') :=
    Lib.hid (fun l A' c' bh mh bb mb kb f w' hb h1 h2 h3 h4 => rflaw_any a xs A n c _ A' _ c' l bh mh bb mb kb f a0 w' h1 hR h2 (by have := rowT_len a xs l; omega) (rowT_in hR l) h3 h4 (G0.out _ hb))
  have AT : Hid (∀ (l : Nat) A' c' bb mb kb f w', RS w' w'.heap.size A n xs → RS w' w'.heap.size A' (rowT a xs l).length (rowT a xs l) → Lows w' bb mb f kb →
      Calls Tryd.prog 46 #[.agg #[.int .i64 (a : Int), .slice A n c], .slice A' (rowT a xs l).length c', .map (some bb)] w' fun e w'' => ∃ q : Bool, e = .returned (.bool q) ∧ (q = true ↔ ∀ x, strikeF xs (rowT a xs l) f (rowT a xs l).length x = none) ∧ Below w'.heap.size w' w'') :=
    Lib.hid (fun l A' c' bb mb kb f w' h1 h2 h3 => allTold_any a xs A n c _ A' _ c' bb mb kb f w' h1 hR h2 (by have := rowT_len a xs l; omega) (rowT_in hR l) h3)
  have FY : Hid (∀ v, (∀ j, j < L + 1 → levelB a xs j = true) → lateV a1 a xs (L + 1) v → FlawT a0 a1 a xs v) := Lib.hid (fun v h1 h2 => FlawT.yes hok (by show (ndAt xs (Int.toNat a)).lv = L; rw [Int.toNat_natCast]; exact hL) h1 h2)
  have FN : Hid (∀ l : Nat, l < L + 1 → levelB a xs l = false → soundB a xs = false) := Lib.hid (fun l h1 h2 => soundB_no l (by show (l : Int) ≤ (ndAt xs (Int.toNat a)).lv; rw [Int.toNat_natCast, hL]; omega) h2)
  obtain ⟨b, off, rfl, hb, hcn⟩ := HH.out.nd (by omega)
  obtain ⟨_, _, _, e0, _⟩ := hcn a han
  rw [hL] at e0
  have E0 := Lib.hid e0
  rw [hok] at OK
  have hmm := @run_makeMap Tryd.prog
  clear h hs hw0 b0 x0 hl hg0 hg1 hok hR hhi hcn e0 hc hc2
  go_enter Tryd.func26, Tryd.ntmps26
  go_wp2_with fail
  rw [← HW.out]
  refine (OK.out _ HH.out).mono ?_
  rintro e w1 ⟨rfl, b1⟩
  have B1 := Lib.hid b1
  have e1 := (b1.cell (p := ⟨b, off + a * 5, none⟩) hb).trans E0.out
  have d1 := D0.out _ b1
  clear b1
  obtain ⟨w2, hw2⟩ : ∃ w2, w2 = w1.alloc (.map #[] 0) := ⟨_, rfl⟩
  have b2 : Below w0.heap.size w0 w2 := by rw [hw2]; exact B1.out.alloc B1.out.size _
  have m2 : Lows w2 w1.heap.size 0 (fun _ => none) 0 := by
    rw [hw2]
    exact ⟨_, World.ownsMap_made _ _ _ _, KeepF.empty, rfl⟩
  have B2 := Lib.hid b2
  have M2 := Lib.hid m2
  have HW2 := Lib.hid hw2
  obtain ⟨d0, d1⟩ := d1
  have e2 : w2.cell? ⟨b, off + a * 5, none⟩ = some (.int .i64 (L : Int)) := (b2.cell (p := ⟨b, off + a * 5, none⟩) hb).trans E0.out
  obtain ⟨d20, d21⟩ := D0.out _ b2
  rw [hw2] at e2 d20 d21
  clear hw2 b2 m2
  go_wp2
  rw [← HW2.out]
  clear e1 d0 d1 e2 d20 d21
  go_loopw [3, 4, 22] (fun la be i wr => ∃ (l : Nat) (bb mb kb : Nat) (f : Int → Option Int), i = .int .i64 (l : Int) ∧ be = .map (some bb) ∧ l ≤ L + 1 ∧ Hid (lateV a1 a xs l la) ∧ Hid (belowF a xs l f) ∧ Hid (Lows wr bb mb f kb) ∧ Hid (∀ j, j < l → levelB a xs j = true) ∧ Hid (Below w0.heap.size w0 wr)) (fun _ _ i _ => L + 1 - (intOf i).toNat)
  case atStart => exact ⟨0, _, 0, 0, fun _ => none, rfl, rfl, by omega, Lib.hid (lateV.start _ _ _), Lib.hid (belowF.start _ _), M2, Lib.hid (by intro j hj; omega), B2⟩
  case round =>
    obtain ⟨l, bb, mb, kb, f, rfl, rfl, hl, hla, hbe, hlo, hlv, hbw⟩ := hrel
    clear M2 B2 HW2 B1
    by_cases hlt : l < L + 1
    · obtain ⟨d0, d1⟩ := D0.out _ hbw.out
      go_wp2_with fail
      refine (RW.out l _ (HH.out.on hbw.out)).mono ?_
      rintro e w3 ⟨A3, c3, rfl, r3, b3⟩
      have B3 := Lib.hid (bel_on hbw.out b3)
      have R3 := Lib.hid r3
      have L3 := Lib.hid (hlo.out.on b3)
      clear r3 b3 hlo d0 d1
      obtain ⟨d0, d1⟩ := D0.out _ B3.out
      go_wp2_with fail
      refine (LO.out l A3 c3 _ (HH.out.on B3.out) R3.out).mono ?_
      rintro e w4 ⟨bh, rfl, h4, b4⟩
      have B4 := Lib.hid (bel_on B3.out b4)
      have R4 := Lib.hid (R3.out.on b4)
      have L4 := Lib.hid (L3.out.on b4)
      have H4 := Lib.hid h4
      clear h4 b4 L3 R3 d0 d1
      obtain ⟨d0, d1⟩ := D0.out _ B4.out
      go_wp2_with fail
      refine (RF.out l A3 c3 bh _ bb mb kb f _ (BB.out _ B4.out) (HH.out.on B4.out) R4.out H4.out L4.out).mono ?_
      rintro e w5 ⟨v5, rfl, ev, b5⟩
      have B5 := Lib.hid (bel_on B4.out b5)
      have R5 := Lib.hid (R4.out.on b5)
      have L5 := Lib.hid (L4.out.on b5)
      have H5 := Lib.hid (H4.out.on b5)
      have EV := Lib.hid ev
      have LV : Hid (rowF7 xs (rowT a xs l) l f = levelB a xs l) := Lib.hid (level7 hbe.out hlv.out)
      clear ev b5 L4 R4 H4 d0 d1
      cases hq : levelB a xs l
      · have HN := Lib.hid (FN.out l hlt hq)
        obtain ⟨s, rfl⟩ := EV.out.2 (LV.out.trans hq)
        clear EV LV hq
        unfold flawV
        go_wp2
        go_ret
        exact ⟨_, rfl, FlawT.no HN.out s, BB.out _ B5.out⟩
      · obtain rfl := EV.out.1 (LV.out.trans hq)
        have HL2 : Hid (∀ j, j < l + 1 → levelB a xs j = true) := Lib.hid (fun j hj => by
          rcases Nat.lt_or_ge j l with h' | h'
          · exact hlv.out j h'
          · obtain rfl : j = l := by omega
            exact hq)
        clear EV LV hq hlv
        obtain ⟨d0, d1⟩ := D0.out _ B5.out
        go_wp2_with fail
        refine (AT.out l A3 c3 bb mb kb f _ (HH.out.on B5.out) R5.out L5.out).mono ?_
        rintro e w6 ⟨q, rfl, hq, b6⟩
        have B6 := Lib.hid (bel_on B5.out b6)
        have H6 := Lib.hid (H5.out.on b6)
        have NX := Lib.hid (late_next hla.out hbe.out hq)
        have NB := Lib.hid (belowF.next a xs l)
        clear b6 hq L5 R5 H5 d0 d1 hla hbe
        cases q
        · have hg1 := G1.out _ (BB.out _ B6.out)
          go_wp2
          go_roundw
          case rel => exact ⟨l + 1, bh, _, _, _, by go_num, rfl, by omega, Lib.hid (NX.out.2 (by trivial) mLate), NB, H6, HL2, B6⟩
          case measure => simp [intOf]; omega
        · go_wp2
          go_roundw
          case rel => exact ⟨l + 1, bh, _, _, _, by go_num, rfl, by omega, Lib.hid (NX.out.1 (by trivial)), NB, H6, HL2, B6⟩
          case measure => simp [intOf]; omega
    · obtain rfl : l = L + 1 := by omega
      have HF := Lib.hid (FY.out _ hlv.out hla.out)
      go_wp2
      go_ret
      exact ⟨_, rfl, HF.out, BB.out _ hbw.out⟩
end Go.Proofs.YtlmhcifnikdliaaDoor
