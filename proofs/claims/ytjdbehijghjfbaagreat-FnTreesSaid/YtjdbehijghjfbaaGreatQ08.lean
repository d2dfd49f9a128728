/- The walks of the model's NewTree, l3First, l3Row, RowOf. -/
import Derived.Test.YtjdbehijghjfbaaGreatQ07
import Derived.Test.YtjdbehijghjfbaaGreatQ05
import Derived.Deep.LoopGhost
namespace Go.Proofs.YtjdbehijghjfbaaGreat
open Go.RowKit

def newNd : Nd := ⟨0, [], -1, -1, 0⟩

theorem sNewTree_any (w : World) :
    Calls Tryz.prog 15 #[] w fun e w' => ∃ A c F, e = .returned (.agg #[.int .i64 0, .slice A [newNd].length c]) ∧ OwnS w' (.slice A [newNd].length c) [newNd] F ∧ Fresh F w w' ∧ Below w.heap.size w w' := by
  go_enter Tryz.func15, Tryz.ntmps15
  go_wp2
  have hb : Below w.heap.size w ((w.alloc (Obj.cells #[.int .i64 0, .slice (some ⟨w.heap.size + 1, 0, none⟩) 1 1] 26)).alloc (Obj.cells #[.int .i64 0, .slice none 0 0, .int .i64 (-1), .int .i64 (-1), .int .i64 0] 38)) := ((Below.refl _ _).alloc (Nat.le_refl _) _).alloc (by simp) _
  have ho := World.ownsRow_lit (base := 0) (e := 38) (size := 5) (w.alloc (Obj.cells #[.int .i64 0, .slice (some ⟨w.heap.size + 1, 0, none⟩) 1 1] 26)) #[.int .i64 0, .slice none 0 0, .int .i64 (-1), .int .i64 (-1), .int .i64 0] 1 (Nat.zero_le _) (by unfold maxLen; omega) rfl
  have hs : (w.alloc (Obj.cells #[.int .i64 0, .slice (some ⟨w.heap.size + 1, 0, none⟩) 1 1] 26)).heap.size = w.heap.size + 1 := by simp
  rw [hs] at ho
  refine bodyPost_ret (v := .agg #[.int .i64 0, .slice (some ⟨w.heap.size + 1, 0, none⟩) 1 1]) (by simp [results, Tryz.results15, go_sem]) rfl ⟨some ⟨w.heap.size + 1, 0, none⟩, 1, fun k => k = w.heap.size + 1, rfl, ?_, ?_, hb⟩
  · refine ⟨[[.int .i64 0, .slice none 0 0, .int .i64 (-1), .int .i64 (-1), .int .i64 0]], fun _ _ => False, ho, rfl, fun i hi => ?_, fun i hi k hk => absurd hk id, fun i j hi hj hij k hk => absurd hk id, fun k hk => by simpa [Value.ownBlock] using hk.symm⟩
    obtain rfl : i = 0 := by simpa using hi
    exact ⟨.slice none 0 0, rfl, World.ownsRow_nil _ _ _ _, fun k hk => by simp [Value.ownBlock] at hk⟩
  · intro k hk
    subst hk
    exact ⟨by omega, by simp⟩


def lvAt (xs : List Nd) (i : Nat) : Int := (ndAt xs i).lv
def kid0 (xs : List Nd) (i : Nat) : Nat := (vAt (ndAt xs i).ps 0).toNat
def firstF (xs : List Nd) (lev : Int) : Nat → Nat → Int
  | 0, _ => -1
  | f + 1, a => if lev < lvAt xs a ∧ 0 ≤ lev then (if lvAt xs (kid0 xs a) = lvAt xs a - 1 then firstF xs lev f (kid0 xs a) else -1) else (if lvAt xs a = lev then (a : Int) else -1)
def firstT (r : Int) (xs : List Nd) (lev : Int) : Int := firstF xs lev 7 r.toNat

structure Right (n : Nat) (r : Int) (xs : List Nd) : Prop where
  len : xs.length = n
  pos : 1 ≤ n
  most : n ≤ 40
  root : 0 ≤ r ∧ r < n
  good : ∀ i, i < n → nodeOk (ndAt xs i) = true ∧ (ndAt xs i).ri < n ∧ (0 < (ndAt xs i).lv → ∀ j, j < (ndAt xs i).ps.length → 0 ≤ vAt (ndAt xs i).ps j ∧ vAt (ndAt xs i).ps j < n)
theorem hasB_iff (n : Nat) (x : Int) : hasB n x = true ↔ (0 ≤ x ∧ x < n) := by
  unfold hasB inB
  simp only [decide_eq_true_eq]
  omega
theorem right_of {r : Int} {xs : List Nd} (h : treeOk r xs = true) : Right xs.length r xs := by
  obtain ⟨h1, h2, h3, h4⟩ := (treeOk_iff r xs).1 h
  refine ⟨rfl, h1, h2, (hasB_iff _ _).1 h3, fun i hi => ?_⟩
  have hg := h4 i hi
  unfold ndGood at hg
  simp only [Bool.and_eq_true, Bool.or_eq_true, decide_eq_true_eq, List.all_eq_true, List.mem_range] at hg
  refine ⟨hg.1.1, hg.1.2, fun hl j hj => ?_⟩
  rcases hg.2 with h' | h'
  · omega
  · exact (hasB_iff _ _).1 (h' j hj)
theorem Right.lv {n : Nat} {r : Int} {xs : List Nd} (h : Right n r xs) (i : Nat) (hi : i < n) : 0 ≤ lvAt xs i ∧ lvAt xs i ≤ 6 := by
  have := (h.good i hi).1
  unfold nodeOk inB at this
  simp only [Bool.and_eq_true, decide_eq_true_eq] at this
  exact this.1.1.1.1.1
theorem Right.kid {n : Nat} {r : Int} {xs : List Nd} (h : Right n r xs) (i : Nat) (hi : i < n) (hl : 0 < lvAt xs i) : 0 < (ndAt xs i).ps.length ∧ kid0 xs i < n ∧ vAt (ndAt xs i).ps 0 = (kid0 xs i : Int) := by
  have h1 := h.good i hi
  have h2 := nodeOk_kids h1.1 hl
  have h3 := h1.2.2 hl 0 h2
  unfold kid0
  exact ⟨h2, by omega, by omega⟩
theorem firstF_none (xs : List Nd) (lev : Int) (f a : Nat) (h : lev < lvAt xs a ∧ 0 ≤ lev) (hk : lvAt xs (kid0 xs a) ≠ lvAt xs a - 1) : firstF xs lev (f + 1) a = -1 := by
  simp only [firstF]; rw [if_pos h, if_neg hk]
theorem firstF_down (xs : List Nd) (lev : Int) (f a : Nat) (h : lev < lvAt xs a ∧ 0 ≤ lev) (hk : lvAt xs (kid0 xs a) = lvAt xs a - 1) : firstF xs lev (f + 1) a = firstF xs lev f (kid0 xs a) := by
  simp only [firstF]; rw [if_pos h, if_pos hk]
theorem firstF_here (xs : List Nd) (lev : Int) (f a : Nat) (h : ¬ (lev < lvAt xs a ∧ 0 ≤ lev)) : firstF xs lev (f + 1) a = if lvAt xs a = lev then (a : Int) else -1 := by
  simp only [firstF]; rw [if_neg h]

set_option maxRecDepth 100000 in
set_option maxHeartbeats 1000000 in
theorem first_any (r : Int) (xs : List Nd) (A : Option Addr) (n c : Nat) (lev : Int) (w : World) (h : RS w w.heap.size A n xs) (hR : Right n r xs) :
    Calls Tryz.prog 52 #[.agg #[.int .i64 r, .slice A n c], .int .i64 lev] w fun e w' => e = .returned (.int .i64 (firstT r xs lev)) ∧ Below w.heap.size w w' := by
  obtain ⟨a0, rfl, han⟩ : ∃ a0 : Nat, r = a0 ∧ a0 < n := ⟨r.toNat, by have := hR.root; omega, by have := hR.root; omega⟩
  have HR := Lib.hid hR
  have hn40 := hR.most
  obtain ⟨w0, hw0⟩ : ∃ w0, w0 = w.alloc (.cells #[.int .i64 a0, .slice A n c] 26) := ⟨_, rfl⟩
  have b0 : Below w.heap.size w w0 := by rw [hw0]; exact (Below.refl _ _).alloc (Nat.le_refl _) _
  have x0 : w0.heap[w.heap.size]? = some (.cells #[.int .i64 a0, .slice A n c] 26 (0, 0)) := by rw [hw0]; exact heap_alloc_new _ _
  have d1 : ∀ wx, Below w0.heap.size w0 wx → wx.cell? ⟨w.heap.size, 1, none⟩ = some (.slice A n c) := fun wx hb => by rw [cell_of_row _ _ 1 _ _ _ (box_on hb x0)]; rfl
  have D1 := Lib.hid d1
  have HH := Lib.hid (h.on b0)
  have B0 := Lib.hid b0
  have HW := Lib.hid hw0
  have hsz : w.heap.size < w0.heap.size := by rw [hw0]; simp
  have E0 : Hid (firstT a0 xs lev = firstF xs lev 7 a0) := Lib.hid rfl
  clear h hw0 b0 x0 hR d1
  rw [E0.out]
  go_enter Tryz.func52, Tryz.ntmps52
  go_wp2
  change Code.wp _ _ _ _ (w.alloc (.cells #[.int .i64 a0, .slice A n c] 26))
  rw [← HW.out]
  go_loopw [5] (fun i wr => ∃ a f : Nat, i = .int .i64 a ∧ a < n ∧ Hid (firstF xs lev 7 a0 = firstF xs lev f a) ∧ Hid (lvAt xs a < f) ∧ Hid (Below w0.heap.size w0 wr)) (fun i _ => (lvAt xs (intOf i).toNat).toNat)
  case atStart => exact ⟨a0, 7, rfl, han, Lib.hid rfl, Lib.hid (by have := (HR.out.lv a0 han).2; omega), Lib.hid (Below.refl _ _)⟩
  case round =>
    obtain ⟨a, f, rfl, ha, he, hf, hbw⟩ := hrel
    have hszr : w.heap.size < wr.heap.size := Nat.lt_of_lt_of_le hsz hbw.out.size
    have d1 := D1.out _ hbw.out
    have p1 := Later.of_cell d1 (Below.refl _ _) hszr
    clear han
    have hlv := HR.out.lv a ha
    obtain ⟨f, rfl⟩ : ∃ g, f = g + 1 := ⟨f - 1, by have := hf.out; omega⟩
    obtain ⟨b, off, rfl, hb, hc⟩ := HH.out.nd (by omega)
    have hbr : b < wr.heap.size := Nat.lt_of_lt_of_le hb hbw.out.size
    obtain ⟨A2, n2, c2, c0, c1, _, _, _, hP, _⟩ := (hc a ha).keep (w' := wr) hb (fun p hp => hbw.out.cell hp)
    change wr.cell? _ = some (.int .i64 (lvAt xs a)) at c0
    by_cases hgo : lev < lvAt xs a ∧ 0 ≤ lev
    · obtain ⟨g1, g2⟩ := hgo
      have q1 : decide (lev < lvAt xs a) = true := by simpa using g1
      have q2 : decide (0 ≤ lev) = true := by simpa using g2
      obtain ⟨hp0, hkn, hkv⟩ := HR.out.kid a ha (by omega)
      obtain ⟨A3, n3, c3, k0, _, _, _, _, _, _⟩ := (hc (kid0 xs a) hkn).keep (w' := wr) hb (fun p hp => hbw.out.cell hp)
      have p2 := Later.of_cell c0 (Below.refl _ _) hbr
      change wr.cell? _ = some (.int .i64 (lvAt xs (kid0 xs a))) at k0
      have hp2 : 0 < n2 := by rw [← hP.1]; exact hp0
      obtain ⟨b2, off2, rfl, hb2, hc2⟩ := hP.2 hp2
      have cv := (hc2 0 hp2).2
      rw [hkv] at cv
      simp only [Nat.zero_mul, Nat.add_zero] at cv
      have E1 : Hid (lvAt xs (kid0 xs a) ≠ lvAt xs a - 1 → firstF xs lev (f + 1) a = -1) := Lib.hid (firstF_none xs lev f a ⟨g1, g2⟩)
      have E2 : Hid (lvAt xs (kid0 xs a) = lvAt xs a - 1 → firstF xs lev (f + 1) a = firstF xs lev f (kid0 xs a)) := Lib.hid (firstF_down xs lev f a ⟨g1, g2⟩)
      have hlb : lvAt xs a ≤ 6 := hlv.2
      have hl1 : 1 ≤ lvAt xs a := by omega
      have HLV := Lib.hid hlv
      clear hc hc2 hkv hP g1 g2 hlv hp0
      have p3 := Later.of_cell k0 (Below.refl _ _) hbr
      generalize kid0 xs a = k at *
      by_cases hk : lvAt xs k = lvAt xs a - 1
      · have qk : (lvAt xs k != lvAt xs a - 1) = false := by simp [hk]
        have HK := Lib.hid hk
        clear hk
        go_wp2
        refine wp_region_later (by kernel_rfl) (by kernel_rfl) ?_
        repeat (go_big_quiet_step (fail))
        refine wpQuiet_nil ?_
        intro _ hw'
        obtain ⟨s6, rfl⟩ := hw'
        have B6 := Lib.hid (hbw.out.trans (s6.2.mono hbw.out.size))
        go_wp2
        go_roundw
        case rel => exact ⟨k, f, rfl, hkn, Lib.hid (by rw [he.out, E2.out HK.out]), Lib.hid (by have := hf.out; have := HK.out; omega), B6⟩
        case measure => simp [intOf]; have := HK.out; omega
      · have qk : (lvAt xs k != lvAt xs a - 1) = true := by simpa using hk
        have HK := Lib.hid hk
        clear hk
        go_wp2
        refine wp_region_later (by kernel_rfl) (by kernel_rfl) ?_
        repeat (go_big_quiet_step (fail))
        refine wpQuiet_nil ?_
        intro _ hw'
        obtain ⟨s6, rfl⟩ := hw'
        have B6 := Lib.hid (hbw.out.trans (s6.2.mono hbw.out.size))
        go_wp2
        go_ret
        exact ⟨ret_int (by rw [he.out, E1.out HK.out]), B0.out.trans (B6.out.mono B0.out.size)⟩
    · have E1 : Hid (firstF xs lev (f + 1) a = if lvAt xs a = lev then (a : Int) else -1) := Lib.hid (firstF_here xs lev f a hgo)
      clear hc hP
      generalize lvAt xs a = l at *
      have q3 : (decide (lev < l) && decide (0 ≤ lev)) = false := by
        rw [Bool.and_eq_false_iff]
        by_cases h1 : lev < l
        · exact .inr (by simp; omega)
        · exact .inl (by simpa using h1)
      by_cases h1 : lev < l
      · have q1 : decide (lev < l) = true := by simpa using h1
        have q2 : decide (0 ≤ lev) = false := by simp; omega
        have q4 : (l != lev) = true := by simp; omega
        have hne : ¬ l = lev := by omega
        clear hgo h1 q3
        go_wp2
        go_ret
        exact ⟨ret_int (by rw [he.out, E1.out, if_neg hne]), B0.out.trans (hbw.out.mono B0.out.size)⟩
      · have q1 : decide (lev < l) = false := by simpa using h1
        clear hgo h1 q3
        by_cases hq : l = lev
        · have q4 : (l != lev) = false := by simp [hq]
          have HQ := Lib.hid hq
          clear hq
          go_wp2
          go_ret
          exact ⟨ret_int (by rw [he.out, E1.out, if_pos HQ.out]), B0.out.trans (hbw.out.mono B0.out.size)⟩
        · have q4 : (l != lev) = true := by simpa using hq
          go_wp2
          go_ret
          exact ⟨ret_int (by rw [he.out, E1.out, if_neg hq]), B0.out.trans (hbw.out.mono B0.out.size)⟩
end Go.Proofs.YtjdbehijghjfbaaGreat
namespace Go.Proofs.YtjdbehijghjfbaaGreat
open Go.RowKit


def IL (xs : List Int) : List Value := xs.map fun x => .int .i64 x
theorem IL_append (a b : List Int) : IL (a ++ b) = IL a ++ IL b := by simp [IL]
theorem IL_flat (xs : List Int) : IL xs = (xs.map fun x => [Value.int .i64 x]).flatten := by
  induction xs with
  | nil => rfl
  | cons x r ih => unfold IL at *; simp [ih]
theorem OwnS.of_ints {w : World} {base : Nat} {v : Value} {n : Nat} {xs : List Int} {F : FP} (h : w.ownsRow base 2 1 v n (IL xs)) (hF : ∀ k, v.ownBlock = some k → F k) : OwnS w v xs F := by
  have hl : xs.length = n := by have := h.1; unfold IL at this; simpa using this
  refine ⟨xs.map fun x => [Value.int .i64 x], fun _ _ => False, by rw [← IL_flat, hl]; exact own_zero h, by simp, fun i hi => ?_, fun i hi k hk => absurd hk id, fun i j hi hj hij k hk => absurd hk id, hF⟩
  show (xs.map fun x => [Value.int .i64 x]).getD i [] = [.int .i64 (xs.getD i 0)]
  simp [hi]
theorem int_info : (Tryz.prog.info? 2).map (fun i => (i.zero, i.size, i.bytes)) = some (some (.int .i64 0), 1, 8) := by kernel_rfl
theorem wpList_appI {w : World} {ops : Array Oper} {rest : List Oper} {o : Oper} {a : Act} {Q : Exit → Act → World → Prop} (hgd : o.guard = none) (s x : Operand)
    (ho : o.op = .call { callee := .builtin .append, args := #[s, x], argTypes := #[29, 29] })
    (base : Nat) (v : Value) (n : Nat) (xs : List Int) (hs : a.eval s = v) (hown : w.ownsRow base 2 1 v n (IL xs))
    (g : Nat) (y : Int) (hx : a.eval x = .slice (some ⟨g, 0, none⟩) 1 1) (hc : w.cell? ⟨g, 0, none⟩ = some (.int .i64 y)) (hsz : n ≤ 4194304) (hbase : base ≤ w.heap.size)
    (h : ∀ v' w', w'.ownsRow base 2 1 v' (n + 1) (IL (xs ++ [y])) → w.grownBy w' v.ownBlock → wpList Tryz.prog ops Q rest (a.put o.dst v') w') : wpList Tryz.prog ops Q (o :: rest) a w := by
  obtain ⟨i0, hi0, hz0, hz1, hz2⟩ := info_parts int_info
  refine wpList_append_own w hgd s x 29 ho base 2 i0 _ 1 8 Tryz.underlying29 hi0 hz0 hz1 hz2 rfl (by omega) v n (IL xs) hs hown ⟨g, 0, none⟩ 1 1 [.int .i64 y] hx rfl
    (fun j u hu => by
      match j, hu with
      | 0, hu => cases hu; exact hc
      | j + 1, hu => simp at hu) (by simp [Value.oneCell']) (by unfold maxLen; omega) (by omega) hbase (fun v' w' h1 h2 _ => h v' w' ?_ h2)
  rw [IL_append]
  exact h1


def riAt (xs : List Nd) (i : Nat) : Int := (ndAt xs i).ri
def rowF (xs : List Nd) : Nat → Int → List Int
  | 0, _ => []
  | f + 1, a => if 0 ≤ a then a :: rowF xs f (riAt xs a.toNat) else []
def rowT (r : Int) (xs : List Nd) (lev : Int) : List Int := rowF xs 40 (firstT r xs lev)
theorem rowF_end (xs : List Nd) (f : Nat) (a : Int) (h : ¬ 0 ≤ a) : rowF xs f a = [] := by
  cases f with
  | zero => rfl
  | succ f => simp only [rowF]; rw [if_neg h]
theorem rowF_go (xs : List Nd) (f a : Nat) : rowF xs (f + 1) a = (a : Int) :: rowF xs f (riAt xs a) := by
  simp only [rowF]; rw [if_pos (by omega), Int.toNat_natCast]
theorem Right.ri {n : Nat} {r : Int} {xs : List Nd} (h : Right n r xs) (i : Nat) (hi : i < n) : riAt xs i < n := (h.good i hi).2.1
theorem firstF_lt {n : Nat} {r : Int} {xs : List Nd} (h : Right n r xs) (lev : Int) : ∀ (f a : Nat), a < n → firstF xs lev f a < n := by
  intro f
  induction f with
  | zero => intro a ha; simp only [firstF]; omega
  | succ f ih =>
    intro a ha
    by_cases hg : lev < lvAt xs a ∧ 0 ≤ lev
    · by_cases hk : lvAt xs (kid0 xs a) = lvAt xs a - 1
      · rw [firstF_down xs lev f a hg hk]
        exact ih _ (h.kid a ha (by omega)).2.1
      · rw [firstF_none xs lev f a hg hk]; omega
    · rw [firstF_here xs lev f a hg]
      split <;> omega
theorem firstT_lt {n : Nat} {r : Int} {xs : List Nd} (h : Right n r xs) (lev : Int) : firstT r xs lev < n := firstF_lt h lev 7 _ (by have := h.root; omega)

set_option maxRecDepth 100000 in
set_option maxHeartbeats 1000000 in
theorem row_any (r : Int) (xs : List Nd) (A : Option Addr) (n c : Nat) (lev : Int) (w : World) (h : RS w w.heap.size A n xs) (hR : Right n r xs) :
    Calls Tryz.prog 31 #[.agg #[.int .i64 r, .slice A n c], .int .i64 lev] w fun e w' => ∃ v, e = .returned v ∧ w'.ownsRow w.heap.size 2 1 v (rowT r xs lev).length (IL (rowT r xs lev)) ∧ Below w.heap.size w w' := by
  have HR := Lib.hid hR
  have hn40 := hR.most
  have hft := firstT_lt hR lev
  have fk : ∀ w, RS w w.heap.size A n xs → Calls Tryz.prog 52 #[.agg #[.int .i64 r, .slice A n c], .int .i64 lev] w fun e w' => e = .returned (.int .i64 (firstT r xs lev)) ∧ Below w.heap.size w w' := fun w h => first_any r xs A n c lev w h hR
  unfold rowT
  generalize firstT r xs lev = a0 at *
  have FK := Lib.hid fk
  obtain ⟨w0, hw0⟩ : ∃ w0, w0 = w.alloc (.cells #[.int .i64 r, .slice A n c] 26) := ⟨_, rfl⟩
  have b0 : Below w.heap.size w w0 := by rw [hw0]; exact (Below.refl _ _).alloc (Nat.le_refl _) _
  have x0 : w0.heap[w.heap.size]? = some (.cells #[.int .i64 r, .slice A n c] 26 (0, 0)) := by rw [hw0]; exact heap_alloc_new _ _
  have D0 : Hid (∀ wx, Below w0.heap.size w0 wx → wx.cell? ⟨w.heap.size, 0, none⟩ = some (.int .i64 r) ∧ wx.cell? ⟨w.heap.size, 1, none⟩ = some (.slice A n c)) := Lib.hid (fun wx hb => ⟨by rw [cell_of_row _ _ 0 _ _ _ (box_on hb x0)]; rfl, by rw [cell_of_row _ _ 1 _ _ _ (box_on hb x0)]; rfl⟩)
  have HH := Lib.hid (h.on b0)
  have B0 := Lib.hid b0
  have HW := Lib.hid hw0
  have HFT := Lib.hid hft
  clear h hw0 b0 x0 hR fk hft
  go_enter Tryz.func31, Tryz.ntmps31
  go_wp2_with fail
  obtain ⟨w1, hw1⟩ : ∃ w1, w1 = w0.alloc (.cells #[] 2) := ⟨_, rfl⟩
  have b1 : Below w0.heap.size w0 w1 := by rw [hw1]; exact (Below.refl _ _).alloc (Nat.le_refl _) _
  have o1 : w1.ownsRow w0.heap.size 2 1 (.slice (some ⟨w.heap.size + 1, 0, none⟩) 0 0) 0 (IL []) := by
    have h1 := World.ownsRow_made (e := 2) (size := 1) w0 #[] 0 (Nat.le_refl _) (by unfold maxLen; omega) (by simp)
    have hs : w0.heap.size = w.heap.size + 1 := by rw [HW.out]; simp
    rw [hw1, ← hs]
    exact h1
  rw [← HW.out, ← hw1]
  refine (FK.out _ (HH.out.on b1)).mono ?_
  rintro e w2 ⟨rfl, b2⟩
  have O2 : Hid (w2.ownsRow w0.heap.size 2 1 (.slice (some ⟨w.heap.size + 1, 0, none⟩) 0 0) 0 (IL [])) := Lib.hid (own_on o1 b2)
  have B2 := Lib.hid (bel_on b1 b2)
  clear b1 b2 o1 hw1
  go_wp2
  go_loopg [5, 6] 40 (fun f o a wr => ∃ (Ao : Option Addr) (m co : Nat) (x : Int) (l : List Int), o = .slice Ao m co ∧ a = .int .i64 x ∧ m + f = 40 ∧ Hid (wr.ownsRow w0.heap.size 2 1 (.slice Ao m co) m (IL l)) ∧ Hid (rowF xs 40 a0 = l ++ rowF xs f x) ∧ Hid (x < n) ∧ Hid (Below w0.heap.size w0 wr))
  case atStart => exact ⟨_, 0, 0, a0, [], rfl, rfl, rfl, O2, Lib.hid rfl, HFT, B2⟩
  case round =>
    obtain ⟨Ao, m, co, x, l, rfl, rfl, hm, ho, hl, hx, hbw⟩ := hrel
    clear O2
    have d1 := (D0.out _ hbw.out).2
    by_cases hx0 : 0 ≤ x
    · obtain ⟨k, rfl⟩ : ∃ k : Nat, x = k := ⟨x.toNat, by omega⟩
      by_cases hm4 : m < 40
      · have hk : k < n := by have := hx.out; omega
        have g4 : decide ((m : Int) < 40) = true := by simp; omega
        obtain ⟨f, rfl⟩ : ∃ f, gk = f + 1 := ⟨gk - 1, by omega⟩
        have hst : w.heap.size ≤ wr.heap.size := Nat.le_trans B0.out.size hbw.out.size
        go_wp2_with (at_builtin; refine wpList_appI rfl (.tmp 24) (.tmp 26) rfl w0.heap.size _ m l rfl (ho.out.alloc _) wr.heap.size k rfl (by simp) (by omega) (by have := hbw.out.size; simp; omega) ?_)
        intro v5 w5 o5 g5
        obtain ⟨A5, c5, rfl, _, _⟩ := own_shape o5
        have B5 := Lib.hid (((hbw.out.alloc hbw.out.size _).grown g5 (by have := hbw.out.size; simp; omega) (fun q hq => (ho.out.lt q hq).1)) : Below w0.heap.size w0 w5)
        have O5 := Lib.hid o5
        clear o5 g5 d1
        have d1 := (D0.out _ B5.out).2
        obtain ⟨b, off, rfl, hb, hc⟩ := HH.out.nd (by omega)
        obtain ⟨_, _, _, _, _, _, c3, _, _, _⟩ := (hc k hk).keep (w' := w5) hb (fun p hp => B5.out.cell hp)
        change w5.cell? _ = some (.int .i64 (riAt xs k)) at c3
        have hrk := HR.out.ri k hk
        have HRK := Lib.hid hrk
        have HLL : Hid (rowF xs 40 a0 = (l ++ [(k : Int)]) ++ rowF xs f (riAt xs k)) := Lib.hid (by rw [hl.out, rowF_go]; simp)
        generalize riAt xs k = z at *
        clear hc hrk
        go_wp2
        go_roundg f
        case measure => omega
        case rel => exact ⟨A5, m + 1, c5, z, l ++ [(k : Int)], rfl, rfl, by omega, O5, HLL, HRK, B5⟩
      · have g4 : decide ((m : Int) < 40) = false := by simp; omega
        obtain rfl : gk = 0 := by omega
        go_wp2
        go_ret
        have e : rowF xs 40 a0 = l := by rw [hl.out]; simp [rowF]
        have e2 : l.length = m := by have := ho.out.1; unfold IL at this; simpa using this
        refine ⟨_, rfl, ?_, B0.out.trans (hbw.out.mono B0.out.size)⟩
        rw [e, e2]
        exact own_base ho.out B0.out.size
    · have g3 : decide ((0 : Int) ≤ x) = false := by simpa using hx0
      go_wp2
      go_ret
      have e : rowF xs 40 a0 = l := by rw [hl.out, rowF_end _ _ _ (by omega)]; simp
      have e2 : l.length = m := by have := ho.out.1; unfold IL at this; simpa using this
      refine ⟨_, rfl, ?_, B0.out.trans (hbw.out.mono B0.out.size)⟩
      rw [e, e2]
      exact own_base ho.out B0.out.size

def rowOfT (r : Int) (xs : List Nd) (lev : Int) : List Int := if treeOk r xs then rowT r xs lev else []
theorem rowF_len (xs : List Nd) : ∀ (f : Nat) (a : Int), (rowF xs f a).length ≤ f := by
  intro f
  induction f with
  | zero => intro a; simp [rowF]
  | succ f ih =>
    intro a
    simp only [rowF]
    split
    · have := ih (riAt xs a.toNat)
      simp; omega
    · simp
theorem sRowOf_any (r : Int) (xs : List Nd) (A : Option Addr) (n c : Nat) (lev : Int) (w : World) (h : RS w w.heap.size A n xs) (hs : Small.sm xs) :
    Calls Tryz.prog 10 #[.agg #[.int .i64 r, .slice A n c], .int .i64 lev] w fun e w' => ∃ A' c' F, e = .returned (.slice A' (rowOfT r xs lev).length c') ∧ OwnS w' (.slice A' (rowOfT r xs lev).length c') (rowOfT r xs lev) F ∧ Fresh F w w' ∧ Below w.heap.size w w' := by
  have hl := h.1
  have tk : ∀ w, RS w w.heap.size A n xs → Calls Tryz.prog 12 #[.agg #[.int .i64 r, .slice A n c]] w fun e w' => e = .returned (.bool (treeOk r xs)) ∧ Below w.heap.size w w' := fun w h => sTreeOk_any r xs A n c w h hs
  have rk : treeOk r xs = true → ∀ w, RS w w.heap.size A n xs → Calls Tryz.prog 31 #[.agg #[.int .i64 r, .slice A n c], .int .i64 lev] w fun e w' => ∃ v, e = .returned v ∧ w'.ownsRow w.heap.size 2 1 v (rowT r xs lev).length (IL (rowT r xs lev)) ∧ Below w.heap.size w w' := fun ht w h => row_any r xs A n c lev w h (hl ▸ right_of ht)
  unfold rowOfT
  generalize treeOk r xs = q at *
  generalize rowT r xs lev = ys at *
  obtain ⟨w0, hw0⟩ : ∃ w0, w0 = w.alloc (.cells #[.int .i64 r, .slice A n c] 26) := ⟨_, rfl⟩
  have b0 : Below w.heap.size w w0 := by rw [hw0]; exact (Below.refl _ _).alloc (Nat.le_refl _) _
  have x0 : w0.heap[w.heap.size]? = some (.cells #[.int .i64 r, .slice A n c] 26 (0, 0)) := by rw [hw0]; exact heap_alloc_new _ _
  have HH := Lib.hid (h.on b0)
  have X0 := Lib.hid x0
  have B0 := Lib.hid b0
  have HW := Lib.hid hw0
  have TK := Lib.hid tk
  have RK := Lib.hid rk
  clear h hw0 b0 x0 tk rk hl
  cases q
  · simp only [Bool.false_eq_true, ↓reduceIte]
    go_enter Tryz.func10, Tryz.ntmps10
    go_wp2_with fail
    rw [← HW.out]
    refine (TK.out _ HH.out).mono ?_
    rintro e w1 ⟨rfl, b1⟩
    have B1 := Lib.hid (bel_on B0.out b1)
    clear b1
    go_wp2
    go_ret
    have hb := B1.out.alloc B1.out.size (.cells #[] 2)
    have h1 := World.ownsRow_made (e := 2) (size := 1) w1 #[] 0 (Nat.le_refl _) (by unfold maxLen; omega) (by simp)
    exact ⟨_, _, blkF _, rfl, OwnS.of_ints (xs := []) h1 (fun k hk => hk), fresh_blk h1 B1.out.size, hb⟩
  · simp only [↓reduceIte]
    go_enter Tryz.func10, Tryz.ntmps10
    go_wp2_with fail
    rw [← HW.out]
    refine (TK.out _ HH.out).mono ?_
    rintro e w1 ⟨rfl, b1⟩
    have B1 := Lib.hid (bel_on B0.out b1)
    have H1 := Lib.hid (HH.out.on b1)
    have d0 : w1.cell? ⟨w.heap.size, 0, none⟩ = some (.int .i64 r) := by rw [cell_of_row _ _ 0 _ _ _ (box_on b1 X0.out)]; rfl
    have d1 : w1.cell? ⟨w.heap.size, 1, none⟩ = some (.slice A n c) := by rw [cell_of_row _ _ 1 _ _ _ (box_on b1 X0.out)]; rfl
    clear b1
    go_wp2_with fail
    refine (RK.out (by trivial) _ H1.out).mono ?_
    rintro e w2 ⟨v, rfl, o2, b2⟩
    obtain ⟨A', c', rfl, _, _⟩ := own_shape o2
    have O2 := Lib.hid o2
    have B2 := Lib.hid (B1.out.trans (b2.mono B1.out.size))
    clear b2 o2
    go_wp2
    go_ret
    exact ⟨_, _, blkF _, rfl, OwnS.of_ints O2.out (fun k hk => hk), fresh_blk O2.out B1.out.size, B2.out⟩
theorem newNd_sm : Small.sm [newNd] := ⟨by simp, fun i hi => by
  obtain rfl : i = 0 := by simpa using hi
  show ([] : List Pr).length ≤ 1048576
  simp⟩
end Go.Proofs.YtjdbehijghjfbaaGreat
