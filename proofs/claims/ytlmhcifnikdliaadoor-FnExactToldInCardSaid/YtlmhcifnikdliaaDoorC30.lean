/- The code's own RowOf: what it answers. -/
import Derived.Test.YtlmhcifnikdliaaDoorC29
namespace Go.Proofs.YtlmhcifnikdliaaDoor
open Go.RowKit Go.Shelf

attribute [local go_sem] Oper.semAt_some

theorem int_info2 : (Tryd.prog.info? 2).map (fun i => (i.zero, i.size, i.bytes)) = some (some (.int .i64 0), 1, 8) := by kernel_rfl

def RowNew (w : World) (ys : List Int) (e : Ending) (w' : World) : Prop := ∃ A' c' F, e = .returned (.slice A' ys.length c') ∧ OwnS w' (.slice A' ys.length c') ys F ∧ Fresh F w w' ∧ Below w.heap.size w w'
theorem RowNew.of {w w' : World} {v : Value} {ys : List Int} (h : w'.ownsRow w.heap.size 2 1 v ys.length (IL ys)) (hb : Below w.heap.size w w') : RowNew w ys (.returned v) w' := by
  obtain ⟨A', c', rfl, _, _⟩ := own_shape h
  exact ⟨_, _, blkF _, rfl, OwnS.of_ints h (fun k hk => hk), fresh_blk h (Nat.le_refl _), hb⟩

theorem not_row2 {W : World} {B : Nat} {t e : TypeId} {u : Array Value} (h : W.heap[B]? = some (.cells u t (0, 0))) (hte : t ≠ e) {base size k : Nat} {v : Value} {xs : List Value} (hr : W.ownsRow base e size v k xs) : ∀ g, v.ownBlock = some g → B ≠ g := by
  intro g hg hB
  subst hB
  rcases hr.2 with ⟨rfl, _⟩ | ⟨g', cap, cur, rfl, _, hgb, _⟩
  · simp [Value.ownBlock] at hg
  · obtain rfl : g' = B := by simpa [Value.ownBlock] using hg
    rw [h] at hgb
    cases hgb
    exact hte rfl
theorem cells_own {β : Type} (B : Nat) (t : TypeId) (u : Array Value) : Own (fun (_ : β) W => W.heap[B]? = some (.cells u t (0, 0))) := fun s X Y row hs hg hrow =>
  (hg.block B (Array.getElem?_eq_some_iff.1 hs).1 (fun e' => by obtain ⟨o, ho, hc⟩ := hrow B e'.symm; rw [show X.heap[B]? = _ from hs] at ho; cases ho; cases hc)).trans hs

set_option maxRecDepth 100000 in
set_option maxHeartbeats 2000000 in
theorem iRowOf_new (r : Int) (xs : List Nd) (A : Option Addr) (n c : Nat) (lev : Int) (w : World) (h : RS w w.heap.size A n xs) (hs : Small.sm xs) (_hc : n ≤ c) (_hc2 : c ≤ 9223372036854775807) :
    Calls Tryd.prog 28 #[.agg #[.int .i64 r, .slice A n c], .int .i64 lev] w (RowNew w (rowOfT r xs lev)) := by
  have ok := fun w h => itok_any r xs A n c w h hs
  have RT : Hid (treeOk r xs = true → Right n r xs) := Lib.hid (fun hq => by rw [← h.1]; exact right_of hq)
  have fi : Right n r xs → ∀ w, RS w w.heap.size A n xs → Calls Tryd.prog 49 #[.agg #[.int .i64 r, .slice A n c], .int .i64 lev] w fun e w' => e = .returned (.int .i64 (firstT r xs lev)) ∧ Below w.heap.size w w' := fun hR w h => iFirst_any r xs A n c lev w h hR
  unfold rowOfT rowT
  have F1 : Hid (Right n r xs → firstT r xs lev < n) := Lib.hid (fun hR => firstT_lt hR lev)
  have F2 := Lib.hid (firstT_ge r xs lev)
  generalize treeOk r xs = q at *
  generalize firstT r xs lev = x0 at *
  have Y1 : Hid (q = false → (if q = true then rowF xs 40 x0 else []) = []) := Lib.hid (by intro h; rw [h]; rfl)
  have Y2 : Hid (q = true → (if q = true then rowF xs 40 x0 else []) = rowF xs 40 x0) := Lib.hid (by intro h; rw [h]; rfl)
  generalize (if q = true then rowF xs 40 x0 else []) = ys at *
  have OK := Lib.hid ok
  have FI := Lib.hid fi
  have HH := Lib.hid h
  obtain ⟨w3, hw3⟩ : ∃ w3, w3 = ((w.alloc (.cells #[.int .i64 r, .slice A n c] 29)).alloc (.cells #[] 2)).alloc (.cells #[.slice (some ⟨w.heap.size + 1, 0, none⟩) 0 0] 41) := ⟨_, rfl⟩
  have b3 : Below w.heap.size w w3 := by rw [hw3]; exact (((Below.refl _ _).alloc (Nat.le_refl _) _).alloc (by simp) _).alloc (by simp; omega) _
  have x0b : w3.heap[w.heap.size]? = some (.cells #[.int .i64 r, .slice A n c] 29 (0, 0)) := by
    rw [hw3, Below.heap_alloc _ _ _ (by simp; omega), Below.heap_alloc _ _ _ (by simp)]; exact heap_alloc_new _ _
  have sz3 : w3.heap.size = w.heap.size + 3 := by rw [hw3]; simp
  have bR : Boxed w3 (w.heap.size + 2) 41 (.slice (some ⟨w.heap.size + 1, 0, none⟩) 0 0) := by
    rw [hw3]
    have := Boxed.new ((w.alloc (.cells #[.int .i64 r, .slice A n c] 29)).alloc (.cells #[] 2)) 41 (.slice (some ⟨w.heap.size + 1, 0, none⟩) 0 0)
    simpa using this
  have o3 : w3.ownsRow w.heap.size 2 1 (.slice (some ⟨w.heap.size + 1, 0, none⟩) 0 0) 0 (IL []) := by
    have h1 := World.ownsRow_made (e := 2) (size := 1) (w.alloc (.cells #[.int .i64 r, .slice A n c] 29)) #[] 0 (Nat.le_refl _) (by unfold maxLen; omega) (by simp)
    have h2 := own_on h1 ((Below.refl _ _).alloc (Nat.le_refl _) (.cells #[.slice (some ⟨w.heap.size + 1, 0, none⟩) 0 0] 41))
    rw [hw3]
    have h3 := own_base h2 (show w.heap.size ≤ _ by simp)
    have hz : (w.alloc (.cells #[.int .i64 r, .slice A n c] 29)).heap.size = w.heap.size + 1 := by simp
    rw [hz] at h3
    exact h3
  have HW := Lib.hid hw3
  have B3 := Lib.hid b3
  have O3 := Lib.hid o3
  have X0 := Lib.hid x0b
  have BR := Lib.hid bR
  have SZ := Lib.hid sz3
  clear ok fi h hs hw3 b3 o3 x0b bR sz3
  refine (callsIn_wide (n := 4)).1 ?_
  refine callsIn_of_wp_marks Tryd.func28 rfl trivial ?_ rfl
  simp only [Tryd.ntmps28, List.size_toArray, List.length_cons, List.length_nil, Nat.reduceAdd, Nat.reduceSub, Array.replicate_succ, Array.replicate_zero, List.push_toArray, List.append_toArray, List.nil_append, List.cons_append]
  gi_wp2_with fail
  rw [show w.heap.size + 1 + 1 = w.heap.size + 2 from rfl, ← HW.out]
  refine ⟨trivial, (callsIn_wide.2 (OK.out _ (HH.out.on B3.out))).mono ?_⟩
  rintro e w4 ⟨rfl, b4⟩
  have B4 := Lib.hid b4
  have d0 : w4.cell? ⟨w.heap.size, 0, none⟩ = some (.int .i64 r) := by rw [cell_of_row _ _ 0 _ _ _ (box_on b4 X0.out)]; rfl
  have d1 : w4.cell? ⟨w.heap.size, 1, none⟩ = some (.slice A n c) := by rw [cell_of_row _ _ 1 _ _ _ (box_on b4 X0.out)]; rfl
  have d2 : w4.cell? ⟨w.heap.size + 2, 0, none⟩ = some (.slice (some ⟨w.heap.size + 1, 0, none⟩) 0 0) := Boxed.cell (box_on b4 BR.out)
  clear b4
  cases q
  · obtain rfl := Y1.out (by trivial)
    gi_wp2_with fail
    exact ⟨_, results_tmp rfl _ _ _, RowNew.of (ys := []) (own_on O3.out B4.out) (B3.out.trans (B4.out.mono B3.out.size))⟩
  have hR := RT.out (by trivial)
  have hx0 := F1.out hR
  have fi := FI.out hR
  have HR := Lib.hid hR
  have FI2 := Lib.hid fi
  have HX0 := Lib.hid hx0
  have H4 := Lib.hid ((HH.out.on B3.out).on B4.out)
  have K : Hid (∀ wx, Below w4.heap.size w4 wx → wx.cell? ⟨w.heap.size, 0, none⟩ = some (.int .i64 r) ∧ wx.cell? ⟨w.heap.size, 1, none⟩ = some (.slice A n c)) :=
    Lib.hid (fun wx hb => ⟨by rw [cell_of_row _ _ 0 _ _ _ (box_on hb (box_on B4.out X0.out))]; rfl, by rw [cell_of_row _ _ 1 _ _ _ (box_on hb (box_on B4.out X0.out))]; rfl⟩)
  clear hR fi hx0
  have Y := Lib.hid (Y2.out (by trivial))
  gi_wp2
  gi_cut [16] from 23 (fun u wc => ∃ wa, Below w4.heap.size w4 wa ∧ u = .func (.func 65) #[] #[.pointer (some ⟨wa.heap.size + 1, 0, none⟩), .pointer (some ⟨wa.heap.size, 0, none⟩)] ∧ wc = (wa.alloc (.cells #[.int .i64 r, .slice A n c] 29)).alloc (.cells #[.int .i64 x0] 2))
  case first =>
    first | gi_region_with (first
      | (refine ⟨trivial, ?_⟩; gi_at_call 49; refine (callsIn_wide.2 (FI2.out _ (H4.out.on (Below.refl _ _).drew))).mono ?_; rintro e w5 ⟨rfl, b5⟩; obtain ⟨e0, e1⟩ := K.out _ (bel_drew b5))
      | (refine ⟨trivial, ?_⟩; gi_at_call 48; refine (along_in Fence.wide _ trivial rfl r x0 A n c _).mono ?_; rintro e w6 ⟨rfl, rfl⟩)) | fail
    all_goals
      gi_step
      gi_step
      gi_meet
      case rel => exact ⟨_, by first | exact bel_drew b5 | exact b5, rfl, rfl⟩
  case rest =>
    obtain ⟨wa, ba, rfl, hwc⟩ := hcut
    have bac : Below wa.heap.size wa wc := by rw [hwc]; exact ((Below.refl _ _).alloc (Nat.le_refl _) _).alloc (by simp) _
    have b4c : Below w4.heap.size w4 wc := bel_on ba bac
    have b3c : Below w3.heap.size w3 wc := bel_on B4.out b4c
    have bwc : Below w.heap.size w wc := bel_on B3.out b3c
    have hbt : wc.heap[wa.heap.size]? = some (.cells #[.int .i64 r, .slice A n c] 29 (0, 0)) := by
      rw [hwc, Below.heap_alloc _ _ _ (by simp)]; exact heap_alloc_new _ _
    have hbx : wc.heap[wa.heap.size + 1]? = some (.cells #[.int .i64 x0] 2 (0, 0)) := by
      have hz := heap_alloc_new (wa.alloc (.cells #[.int .i64 r, .slice A n c] 29)) (.cells #[.int .i64 x0] 2)
      rw [hwc]
      rwa [show (wa.alloc (.cells #[.int .i64 r, .slice A n c] 29)).heap.size = wa.heap.size + 1 from by simp] at hz
    have szc : wc.heap.size = wa.heap.size + 2 := by rw [hwc]; simp
    have sza : w.heap.size + 3 ≤ wa.heap.size := by have := SZ.out; have := B4.out.size; have := ba.size; omega
    have bRc : Boxed wc (w.heap.size + 2) 41 (.slice (some ⟨w.heap.size + 1, 0, none⟩) 0 0) := box_on b3c BR.out
    have oc : wc.ownsRow w.heap.size 2 1 (.slice (some ⟨w.heap.size + 1, 0, none⟩) 0 0) 0 (IL []) := own_on O3.out b3c
    clear hwc d0 d1 d2
    obtain ⟨i0, hi, hz0, hz1, hz2⟩ := info_parts int_info2
    have hl40 := rowF_len xs 40 x0
    gi_wp2
    refine wpIn_rangeFunc_ownG rfl (by omega) (gf := 65) (lb := #[.pointer (some ⟨wa.heap.size + 1, 0, none⟩), .pointer (some ⟨wa.heap.size, 0, none⟩)]) rfl trivial (enters_of Tryd.func65 (by kernel_rfl) rfl)
      (along_stops Fence.wide 3 trivial rfl (by omega) (wa.heap.size + 1) wa.heap.size w.heap.size r x0 xs A n c HR.out HX0.out F2.out wc hbx hbt (HH.out.below bwc) bwc.size) keepB_t (keepB_b bwc.size (by omega)) (Below.refl _ _) (fun _ => rfl)
      (fun pre W => ((∃ v, Boxed W (w.heap.size + 2) 41 v ∧ W.ownsRow w.heap.size 2 1 v pre.length (IL pre) ∧ True) ∧ W.heap[wa.heap.size]? = some (.cells #[.int .i64 r, .slice A n c] 29 (0, 0))) ∧ Below w.heap.size w W)
      (fun _ _ _ => False)
      (OwnFrom.and (OwnFrom.and (Own.from (holdsRow_own w.heap.size (w.heap.size + 2) 41 2 1 (fun pre : List Int => pre.length) (fun pre => IL pre) (fun _ _ => True)) _) (Own.from (cells_own wa.heap.size 29 #[.int .i64 r, .slice A n c]) _)) (ownFrom_below (Nat.le_refl _) bwc.size))
      (fun _ _ _ _ _ hs _ _ => hs)
      ⟨⟨⟨_, bRc, oc, trivial⟩, hbt⟩, bwc⟩
      (fun x => { tmps := #[.agg #[.int .i64 r, .slice A n c], .int .i64 lev, .pointer (some ⟨w.heap.size, 0, none⟩), undef, .slice none 0 0, .pointer (some ⟨w.heap.size + 2, 0, none⟩), .int .i64 x, .slice (some ⟨w.heap.size + 1, 0, none⟩) 0 0, .agg #[.int .i64 r, .slice A n c], .bool true, .bool false, undef, u12, u13, u14, u15,
        .func (.func 65) #[] #[.pointer (some ⟨wa.heap.size + 1, 0, none⟩), .pointer (some ⟨wa.heap.size, 0, none⟩)], .int .i64 x, undef, undef, undef, undef, undef], defers := [] }) ?assign ?body ?done ?stop
    case assign =>
      intro l x W K hK
      gi_wp2
      exact hK
    case body =>
      rintro l pre x W ⟨⟨⟨v, hv, hrow, _⟩, ht⟩, hB⟩ hlt
      have hc := hv.cell
      gi_wp2_with (gi_at_builtin; refine wpListIn_append_own _ rfl _ _ 41 rfl w.heap.size 2 i0 (.int .i64 0) 1 8 Tryd.underlying41 hi hz0 hz1 hz2 rfl (by decide) _ _ _ rfl (hrow.alloc _) ⟨W.heap.size, 0, none⟩ 1 1 [.int .i64 x] rfl rfl (cell_one_new _ _ _) (by simp [Value.oneCell']) (by unfold maxLen; omega) (by omega) (by have := hB.size; simp; omega) ?_; intro v' w1 hown' hgrow _; obtain ⟨g', cap', rfl⟩ := ownsRow_succ hown'; obtain ⟨hv1, hv2, hr2, hk2, hb2⟩ := hv.appended (by decide) hrow hB.size (by omega) hown' hgrow; have hc1 := hv1.cell; have hf1 := hv1.frozen)
      have hb3 : KeepB w.heap.size wa.heap.size W (w1.setCell ⟨w.heap.size + 2, 0, none⟩ (.slice (some ⟨g', 0, none⟩) (pre.length + 1) cap')) := by
        refine ⟨hb2.size, fun k hk => ?_⟩
        rcases hk with hk | rfl
        · exact hb2.block k hk
        · have hlt : wa.heap.size < W.heap.size := (Array.getElem?_eq_some_iff.1 ht).1
          rw [Below.heap_setCell _ _ _ _ (by simp; omega)]
          rw [hgrow.block _ (by simp; omega) (fun e => not_row2 ht (by decide) hrow _ e.symm rfl)]
          exact Below.heap_alloc _ _ _ hlt
      exact ⟨hk2.from _, hb3, ⟨⟨_, hv2, by rw [IL_append]; simpa [IL] using hr2, trivial⟩, (hb3.block _ (.inr rfl)).trans ht⟩, hB.trans hb2⟩
    case done =>
      rintro D zs W hD rfl ⟨⟨⟨v, hv, hrow, _⟩, ht⟩, hB⟩ hK
      have hc := hv.cell
      gi_wp2
      refine ⟨by simp, .inl ⟨_, _, rfl, run_takeDeferred hK, ?_⟩⟩
      refine ⟨_, results_tmp rfl _ _ _, ?_⟩
      rw [Y.out]
      exact RowNew.of (ownsRow_putObj hrow _ hK rfl) (hB.trans (belowK_b (w := w) (Nat.le_refl _) W D _ _ (by omega) hK rfl rfl))
    case stop =>
      rintro D c pre W _ _ h _
      exact h.elim

theorem iRowOf_any (r : Int) (xs : List Nd) (A : Option Addr) (n c : Nat) (lev : Int) (w : World) (h : RS w w.heap.size A n xs) (hs : Small.sm xs) (hc : n ≤ c) (hc2 : c ≤ 9223372036854775807) :
    Calls Tryd.prog 28 #[.agg #[.int .i64 r, .slice A n c], .int .i64 lev] w fun e w' => ∃ A' c' F, e = .returned (.slice A' (rowOfT r xs lev).length c') ∧ OwnS w' (.slice A' (rowOfT r xs lev).length c') (rowOfT r xs lev) F ∧ Fresh F w w' ∧ Below w.heap.size w w' :=
  (iRowOf_new r xs A n c lev w h hs hc hc2).mono fun _ _ h => h
end Go.Proofs.YtlmhcifnikdliaaDoor
