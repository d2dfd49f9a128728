/- The code's own functions of chapter 7: Sound, PairsIn, ToldIn: what they answer, where the flaws' variables hold what the program's text lays. -/
import Derived.Test.YtlmhcifnikdliaaDoorB31
import Derived.Deep.RegionHeld3
import Derived.Deep.RegionWith
namespace Go.Proofs.YtlmhcifnikdliaaDoor
open Go.RowKit

theorem OwnS.ints7 {w : World} {v : Value} {xs : List Int} {F : FP} (h : OwnS w v xs F) : w.ownsRow 0 2 1 v xs.length (IL xs) ∧ ∀ k, v.ownBlock = some k → F k := by
  obtain ⟨css, f, h1, h2, h3, h4, h5, h6⟩ := h
  refine ⟨?_, h6⟩
  have e : css.flatten = IL xs := by
    have h7 : ∀ (cs : List (List Value)) (ys : List Int), cs.length = ys.length → (∀ i, i < ys.length → cs.getD i [] = [.int .i64 (ys.getD i 0)]) → cs.flatten = IL ys := by
      intro cs ys
      induction ys generalizing cs with
      | nil => intro hl _; rw [List.eq_nil_of_length_eq_zero hl]; rfl
      | cons y r ih =>
        intro hl hg
        cases cs with
        | nil => simp at hl
        | cons c r' =>
          have h0 := hg 0 (by simp)
          simp only [List.getD_cons_zero] at h0
          subst h0
          have := ih r' (by simpa using hl) (fun i hi => by have := hg (i + 1) (by simpa using hi); simpa using this)
          simp [IL, this] at *
    exact h7 css xs h2 (fun i hi => h3 i hi)
  rw [← e]
  exact h1

structure Gl (a0 a1 : Addr) (w : World) : Prop where
  g0 : w.cell? ⟨0, 0, none⟩ = some (.iface 128 (.pointer (some a0)))
  g1 : w.cell? ⟨1, 0, none⟩ = some (.iface 128 (.pointer (some a1)))
  lt : 1 < w.heap.size
  ne : a0 ≠ a1
  h0 : ∃ c t, w.heap[a0.block]? = some (.cells c t (0, 0))
  h1 : ∃ c t, w.heap[a1.block]? = some (.cells c t (0, 0))
theorem Gl.on {a0 a1 : Addr} {w w' : World} (h : Gl a0 a1 w) (hb : Below w.heap.size w w') : Gl a0 a1 w' := by
  have hl := h.lt
  refine ⟨by rw [hb.cell (p := ⟨0, 0, none⟩) (by show 0 < _; omega)]; exact h.g0, by rw [hb.cell (p := ⟨1, 0, none⟩) (by show 1 < _; omega)]; exact h.g1, Nat.lt_of_lt_of_le hl hb.size, h.ne, ?_, ?_⟩
  · obtain ⟨c, t, e⟩ := h.h0
    exact ⟨c, t, box_on hb e⟩
  · obtain ⟨c, t, e⟩ := h.h1
    exact ⟨c, t, box_on hb e⟩
def Ge (w : World) : Prop := w.cell? ⟨2, 0, none⟩ = some (.iface 101 (.agg #[.pointer (some ⟨3, 48, none⟩)])) ∧ 2 < w.heap.size
theorem Ge.on {w w' : World} (h : Ge w) (hb : Below w.heap.size w w') : Ge w' := ⟨by rw [hb.cell (p := ⟨2, 0, none⟩) h.2]; exact h.1, Nat.lt_of_lt_of_le h.2 hb.size⟩

theorem is7_flawT {a0 a1 : Addr} {r : Int} {xs : List Nd} {v : Value} {w : World} (h : FlawT a0 a1 r xs v) (hg : Gl a0 a1 w) :
    Calls Tryd.prog 25 #[v, .iface 128 (.pointer (some a0))] w fun e w' => e = .returned (.bool (!soundB r xs)) ∧ Below w.heap.size w w' := by
  cases hs : soundB r xs
  · obtain ⟨s, rfl⟩ := h.bad hs
    exact is7_same s a0 w
  · cases ht : toldB r xs
    · obtain ⟨s, rfl⟩ := h.late hs ht
      obtain ⟨c0, t0, e0⟩ := hg.h0
      obtain ⟨c1, t1, e1⟩ := hg.h1
      exact is7_other s a1 a0 c1 c0 t1 t0 w hg.ne.symm e1 e0
    · obtain rfl := h.good hs ht
      exact is7_nil a0 w
set_option maxRecDepth 100000 in
set_option maxHeartbeats 1000000 in
theorem iSound_any (r : Int) (xs : List Nd) (A : Option Addr) (n c : Nat) (a0 a1 : Addr) (w : World) (h : RS w w.heap.size A n xs) (hs : Small.sm xs) (hc : n ≤ c) (hc2 : c ≤ 9223372036854775807) (hg : Gl a0 a1 w) :
    Calls Tryd.prog 9 #[.agg #[.int .i64 r, .slice A n c]] w fun e w' => e = .returned (.bool (soundB r xs)) ∧ Below w.heap.size w w' := by
  obtain ⟨w0, hw0⟩ : ∃ w0, w0 = w.alloc (.cells #[.int .i64 r, .slice A n c] 29) := ⟨_, rfl⟩
  have b0 : Below w.heap.size w w0 := by rw [hw0]; exact (Below.refl _ _).alloc (Nat.le_refl _) _
  have x0 : w0.heap[w.heap.size]? = some (.cells #[.int .i64 r, .slice A n c] 29 (0, 0)) := by rw [hw0]; exact heap_alloc_new _ _
  have D0 : Hid (∀ wx, Below w0.heap.size w0 wx → wx.cell? ⟨w.heap.size, 0, none⟩ = some (.int .i64 r) ∧ wx.cell? ⟨w.heap.size, 1, none⟩ = some (.slice A n c)) := Lib.hid (fun wx hb => ⟨by rw [cell_of_row _ _ 0 _ _ _ (box_on hb x0)]; rfl, by rw [cell_of_row _ _ 1 _ _ _ (box_on hb x0)]; rfl⟩)
  have GL := Lib.hid (hg.on b0)
  have TK : Hid (∀ w', Below w0.heap.size w0 w' → Calls Tryd.prog 26 #[.agg #[.int .i64 r, .slice A n c]] w' fun e w'' => ∃ v, e = .returned v ∧ FlawT a0 a1 r xs v ∧ Below w'.heap.size w' w'') := Lib.hid (fun w' hb =>
    have g := GL.out.on hb
    tflaw_any r xs A n c a0 a1 w' ((h.on b0).on hb) hs hc hc2 g.g0 g.g1 (by have := g.lt; omega))
  have IK : Hid (∀ w' v, Below w0.heap.size w0 w' → FlawT a0 a1 r xs v → Calls Tryd.prog 25 #[v, .iface 128 (.pointer (some a0))] w' fun e w'' => e = .returned (.bool (!soundB r xs)) ∧ Below w'.heap.size w' w'') := Lib.hid (fun w' v hb hv => is7_flawT hv (GL.out.on hb))
  have K : Hid (∀ wx, Below w0.heap.size w0 wx → wx.cell? ⟨w.heap.size, 0, none⟩ = some (.int .i64 r) ∧ wx.cell? ⟨w.heap.size, 1, none⟩ = some (.slice A n c) ∧ wx.cell? ⟨0, 0, none⟩ = some (.iface 128 (.pointer (some a0)))) := Lib.hid (fun wx hb => ⟨(D0.out _ hb).1, (D0.out _ hb).2, (GL.out.on hb).g0⟩)
  have B0 := Lib.hid b0
  have HW := Lib.hid hw0
  clear h hs hc hc2 hg hw0 b0 x0
  generalize soundB r xs = q at *
  go_enter Tryd.func9, Tryd.ntmps9
  go_wp2_with fail
  rw [← HW.out]
  obtain ⟨d0, d1, d2⟩ := K.out _ (Below.refl _ _)
  go_region_held3 (fun w' => w'.cell? ⟨w.heap.size, 0, none⟩ = some (.int .i64 r) ∧ w'.cell? ⟨w.heap.size, 1, none⟩ = some (.slice A n c) ∧ w'.cell? ⟨0, 0, none⟩ = some (.iface 128 (.pointer (some a0))))
    (first
      | exact K.out _ (Below.refl _ _)
      | exact K.out _ (Below.refl _ _).drew
      | exact K.out _ (bel_on (bel_drew b4) b5)
      | exact K.out _ (bel_drew b4))
    (first
      | (go_at_call 26; refine (TK.out _ (Below.refl _ _).drew).mono ?_; rintro e w4 ⟨v4, rfl, f4, b4⟩)
      | (go_at_call 25; refine (IK.out _ _ (bel_drew b4) f4).mono ?_; rintro e w5 ⟨rfl, b5⟩))
  have B6 := Lib.hid (B0.out.trans ((bel_on (bel_drew b4) b5).mono B0.out.size))
  clear b4 b5 f4 d0 d1 d2 TK IK K
  go_wp2
  go_ret
  exact ⟨rfl, B6.out⟩

set_option maxRecDepth 100000 in
set_option maxHeartbeats 4000000 in
theorem iPairsIn_any (r : Int) (xs : List Nd) (A : Option Addr) (n c : Nat) (a0 a1 : Addr) (w : World) (h : RS w w.heap.size A n xs) (hs : Small.sm xs) (hc : n ≤ c) (hc2 : c ≤ 9223372036854775807) (hg : Gl a0 a1 w) :
    Calls Tryd.prog 12 #[.agg #[.int .i64 r, .slice A n c]] w fun e w' => ∃ A' c' F, e = .returned (.slice A' (pairsT r xs).length c') ∧ OwnS w' (.slice A' (pairsT r xs).length c') (pairsT r xs) F ∧ Fresh F w w' ∧ Below w.heap.size w w' := by
  have hl := h.1
  have RT : Hid (soundB r xs = true → Right n r xs) := Lib.hid (fun hq => by rw [← hl]; exact right_of (sound_ok hq))
  have OKT : Hid (soundB r xs = true → rowOfT r xs 0 = rowT r xs 0) := Lib.hid (fun hq => by unfold rowOfT; rw [if_pos (sound_ok hq)])
  have P1 : Hid (soundB r xs = true → pairsT r xs = psRow xs (rowT r xs 0) (rowT r xs 0).length) := Lib.hid pairsT_yes
  have P0 : Hid (soundB r xs = false → pairsT r xs = []) := Lib.hid (fun h => by unfold pairsT; rw [h]; rfl)
  suffices hmain : Calls Tryd.prog 12 #[.agg #[.int .i64 r, .slice A n c]] w (Gives w (pairsT r xs)) by
    refine hmain.mono ?_
    intro e w' hg
    obtain ⟨A', c', rfl, ho, hb⟩ := own_form hg
    exact ⟨A', c', blkF _, rfl, OwnS.of_pairs ho (fun k hk => hk), fresh_blk ho (Nat.le_refl _), hb⟩
  obtain ⟨w0, hw0⟩ : ∃ w0, w0 = w.alloc (.cells #[.int .i64 r, .slice A n c] 29) := ⟨_, rfl⟩
  have b0 : Below w.heap.size w w0 := by rw [hw0]; exact (Below.refl _ _).alloc (Nat.le_refl _) _
  have x0 : w0.heap[w.heap.size]? = some (.cells #[.int .i64 r, .slice A n c] 29 (0, 0)) := by rw [hw0]; exact heap_alloc_new _ _
  have D0 : Hid (∀ wx, Below w0.heap.size w0 wx → wx.cell? ⟨w.heap.size, 0, none⟩ = some (.int .i64 r) ∧ wx.cell? ⟨w.heap.size, 1, none⟩ = some (.slice A n c)) := Lib.hid (fun wx hb => ⟨by rw [cell_of_row _ _ 0 _ _ _ (box_on hb x0)]; rfl, by rw [cell_of_row _ _ 1 _ _ _ (box_on hb x0)]; rfl⟩)
  have SK : Hid (∀ w', Below w0.heap.size w0 w' → Calls Tryd.prog 9 #[.agg #[.int .i64 r, .slice A n c]] w' fun e w'' => e = .returned (.bool (soundB r xs)) ∧ Below w'.heap.size w' w'') := Lib.hid (fun w' hb => iSound_any r xs A n c a0 a1 w' ((h.on b0).on hb) hs hc hc2 ((hg.on b0).on hb))
  have RK : Hid (∀ w', Below w0.heap.size w0 w' → Calls Tryd.prog 28 #[.agg #[.int .i64 r, .slice A n c], .int .i64 0] w' fun e w'' => ∃ A' c' F, e = .returned (.slice A' (rowOfT r xs 0).length c') ∧ OwnS w'' (.slice A' (rowOfT r xs 0).length c') (rowOfT r xs 0) F ∧ Fresh F w' w'' ∧ Below w'.heap.size w' w'') :=
    Lib.hid (fun w' hb => iRowOf_any r xs A n c 0 w' ((h.on b0).on hb) hs hc hc2)
  generalize pairsT r xs = out at *
  generalize soundB r xs = q at *
  have HH := Lib.hid (h.on b0)
  have B0 := Lib.hid b0
  have HW := Lib.hid hw0
  clear h hs hw0 b0 x0 hl hc hc2 hg
  obtain ⟨w1, hw1⟩ : ∃ w1, w1 = w0.alloc (.cells #[] 53) := ⟨_, rfl⟩
  have b1 : Below w0.heap.size w0 w1 := by rw [hw1]; exact (Below.refl _ _).alloc (Nat.le_refl _) _
  have o1 : w1.ownsRow w0.heap.size 53 2 (.slice (some ⟨w.heap.size + 1, 0, none⟩) 0 0) 0 (PL []) := by
    have h1 := World.ownsRow_made (e := 53) (size := 2) w0 #[] 0 (Nat.le_refl _) (by unfold maxLen; omega) (by simp)
    have hs : w0.heap.size = w.heap.size + 1 := by rw [HW.out]; simp
    rw [hw1, ← hs]
    exact h1
  have O1 := Lib.hid o1
  have B1 := Lib.hid b1
  have HW1 := Lib.hid hw1
  obtain ⟨d0, d1⟩ := D0.out _ b1
  rw [hw1, HW.out] at d0 d1
  clear hw1 o1 b1
  go_enter Tryd.func12, Tryd.ntmps12
  go_wp2_with fail
  rw [← HW.out, ← HW1.out]
  refine (SK.out _ B1.out).mono ?_
  rintro e w2 ⟨rfl, b2⟩
  have B2 := Lib.hid (bel_on B1.out b2)
  have O2 := Lib.hid (own_on O1.out b2)
  clear b2 d0 d1
  cases q
  · obtain rfl := P0.out rfl
    go_wp2
    go_ret
    exact ⟨_, rfl, own_base O2.out B0.out.size, B0.out.trans (B2.out.mono B0.out.size)⟩
  have hR := RT.out rfl
  have hP := P1.out rfl
  rw [OKT.out rfl] at RK
  have RIN : Hid (∀ i, i < (rowT r xs 0).length → ∃ a : Nat, iAt (rowT r xs 0) i = a ∧ a < n) := Lib.hid (rowT_in hR 0)
  have NXT : Hid (∀ k a : Nat, k < (rowT r xs 0).length → iAt (rowT r xs 0) k = a → psRow xs (rowT r xs 0) (k + 1) = psRow xs (rowT r xs 0) k ++ (ndAt xs a).ps) := Lib.hid (fun k a hk ha => psRow_next hk ha)
  have LEN : Hid (∀ k, k ≤ (rowT r xs 0).length → (psRow xs (rowT r xs 0) k).length ≤ 4 * k) := Lib.hid (psRow_len hR (rowT_in hR 0))
  have L4 : Hid (∀ a, a < n → (ndAt xs a).ps.length ≤ 4) := Lib.hid (fun a ha => by
    have h2 := (hR.good a ha).1
    unfold nodeOk at h2
    simp only [Bool.and_eq_true, decide_eq_true_eq] at h2
    exact h2.1.1.1.1.2)
  have h40 := rowT_len r xs 0
  have PZ : Hid (psRow xs (rowT r xs 0) 0 = []) := Lib.hid rfl
  generalize rowT r xs 0 = row at *
  have HP := Lib.hid hP
  generalize hm : row.length = m at *
  have HM := Lib.hid hm
  clear hR hP RT P0 P1 hm OKT
  obtain ⟨d0, d1⟩ := D0.out _ B2.out
  go_wp2_with fail
  refine (RK.out _ B2.out).mono ?_
  rintro e w3 ⟨A3, c3, F3, rfl, o3, f3, b3⟩
  have R3 : Hid (w3.ownsRow 0 2 1 (.slice A3 m c3) m (IL row)) := Lib.hid (by have := o3.ints7.1; rw [HM.out] at this; exact this)
  have B3 := Lib.hid (bel_on B2.out b3)
  have O3 := Lib.hid (own_on O2.out b3)
  clear b3 o3 f3 d0 d1 O2 O1
  go_wp2
  go_loopw [3, 14] (fun o i wr => ∃ (Ao : Option Addr) (k no co : Nat), o = .slice Ao no co ∧ i = .int .i64 k ∧ k ≤ m ∧ no ≤ 160 ∧ Hid (no = (psRow xs row k).length) ∧ Hid (wr.ownsRow w0.heap.size 53 2 (.slice Ao no co) no (PL (psRow xs row k))) ∧ Hid (Below w0.heap.size w0 wr) ∧ Hid (wr.ownsRow 0 2 1 (.slice A3 m c3) m (IL row)))
    (fun _ i _ => m - (intOf i).toNat)
  case atStart => exact ⟨_, 0, 0, 0, rfl, rfl, by omega, by omega, Lib.hid (by rw [PZ.out]; rfl), O3, B3, R3⟩
  case round =>
    obtain ⟨Ao, k, no, co, rfl, rfl, hk, hno, hne, ho, hbw, hrw⟩ := hrel
    by_cases hlt : k < m
    · obtain ⟨a, ha, han⟩ := RIN.out k hlt
      have hrs : RS wr wr.heap.size A3 m row := by
        have := (OwnS.of_ints hrw.out (F := blkF _) (fun k hk => hk)).rd
        exact this
      obtain ⟨b2, off2, rfl, hb2, hc2⟩ := hrs.ints (by omega)
      obtain ⟨b, off, rfl, hb, hc⟩ := HH.out.nd (by omega)
      obtain ⟨A4, n4, c4, _, e1, _, _, _, hP4, _⟩ := hc a han
      have d1 := (D0.out _ hbw.out).2
      have d2 := hc2 k hlt
      rw [ha] at d2
      have d3 := (hbw.out.cell (p := ⟨b, off + a * 5 + 1, none⟩) hb).trans e1
      have hn4 : n4 ≤ 4 := by rw [← hP4.1]; exact L4.out a han
      have HP4 := Lib.hid (hP4.below hbw.out)
      have NX := Lib.hid (NXT.out k a hlt ha)
      have LN := Lib.hid (LEN.out (k + 1) (by omega))
      have HA := Lib.hid ha
      clear hc2 hc e1 hP4 ha hrs
      generalize (ndAt xs a).ps = ps at *
      go_wp2_with (at_builtin; refine wpList_app rfl (.tmp 18) (.tmp 24) rfl w0.heap.size _ no (psRow xs row k) rfl ho.out _ A4 n4 c4 ps rfl HP4.out (by omega) (by have := hbw.out.size; omega) ?_)
      intro v5 w5 o5 g5
      obtain ⟨A5, c5, rfl, _, _⟩ := own_shape o5
      have B5 := Lib.hid ((hbw.out.grown g5 hbw.out.size (fun q hq => (ho.out.lt q hq).1)) : Below w0.heap.size w0 w5)
      have R5 := Lib.hid (hrw.out.kept g5 (own_apart hrw.out ho.out (by decide)))
      have O5 : Hid (w5.ownsRow w0.heap.size 53 2 (.slice A5 (no + n4) c5) (no + n4) (PL (psRow xs row (k + 1)))) := Lib.hid (by rw [NX.out]; exact o5)
      have N5 : Hid (no + n4 = (psRow xs row (k + 1)).length) := Lib.hid (by rw [NX.out, List.length_append, ← hne.out, HP4.out.1])
      have hno5 : no + n4 ≤ 160 := by have := N5.out; have := LN.out; omega
      clear o5 g5 d1 d2 d3
      go_wp2
      go_roundw
      case rel => exact ⟨A5, k + 1, no + n4, c5, rfl, by go_num, by omega, hno5, N5, O5, B5, R5⟩
      case measure => simp [intOf]; omega
    · obtain rfl : k = m := by omega
      go_wp2
      go_ret
      refine ⟨_, rfl, ?_, B0.out.trans (hbw.out.mono B0.out.size)⟩
      rw [HP.out, ← hne.out]
      exact own_base ho.out B0.out.size
end Go.Proofs.YtlmhcifnikdliaaDoor
