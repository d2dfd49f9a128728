/- The laws' own words on calls, lists of numbers and hands: made anew, compared, marked, asked. -/
import Derived.Test.YtjookicpmjmdhaaE14
import Derived.Test.YtjookicpmjmdhaaE10
namespace Go.Proofs.Ytjookicpmjmdhaa
open Go.RowKit

theorem toC_any (c k v : Int) (w : World) :
    Calls Try.prog 26 #[.agg #[.int .i64 c, .int .i64 k, .int .i64 v]] w fun e w' => e = .returned (.agg #[.int .i64 c, .int .i64 k, .int .i64 v]) ∧ Below w.heap.size w w' := by
  go_enter Try.func26, Try.ntmps26
  go_wp2
  exact bodyPost_ret (v := .agg #[.int .i64 c, .int .i64 k, .int .i64 v]) (by simp [results, Try.results26, go_sem]) rfl ⟨rfl, (((Below.refl _ _).alloc (Nat.le_refl _) _).alloc (by simp) _).alloc (by simp; omega) _⟩
theorem eqC_yes (c k v : Int) (w : World) :
    Calls Try.prog 52 #[.agg #[.int .i64 c, .int .i64 k, .int .i64 v], .agg #[.int .i64 c, .int .i64 k, .int .i64 v]] w fun e w' => e = .returned (.bool true) ∧ Below w.heap.size w w' := by
  have g1 : (c != c) = false := by simp
  have g2 : (k != k) = false := by simp
  have g3 : (v != v) = false := by simp
  go_enter Try.func52, Try.ntmps52
  go_wp2
  go_ret
  exact ⟨rfl, ((Below.refl _ _).alloc (Nat.le_refl _) _).alloc (by simp) _⟩


theorem szI_any (A : Option Addr) (n c L : Nat) (w : World) (hL : L ≤ 1048576) (hm : n ≤ 9223372036854775807) :
    Calls Try.prog 50 #[.slice A n c, .int .i64 L] w fun e w' => e = .returned (.int .i64 (leftI L n)) ∧ w = w' := by
  unfold leftI
  by_cases hn : n ≤ L
  · rw [if_pos hn]
    go_enter Try.func50, Try.ntmps50
    go_wp2
    go_ret
    exact ⟨rfl, rfl⟩
  · rw [if_neg hn]
    go_enter Try.func50, Try.ntmps50
    go_wp2
    go_ret
    exact ⟨rfl, rfl⟩

def madeI (zs : List Int) (n k : Nat) : List Int := zs.take k ++ List.replicate (n - k) 0
theorem madeI_len (zs : List Int) (n k : Nat) (h : zs.length = n) (hk : k ≤ n) : (madeI zs n k).length = n := by simp [madeI]; omega
theorem madeI_all (zs : List Int) (n : Nat) (h : zs.length = n) : madeI zs n n = zs := by subst h; simp [madeI]
theorem madeI_next (zs : List Int) (n k : Nat) (h : zs.length = n) (hk : k < n) : (madeI zs n k).set k (iAt zs k) = madeI zs n (k + 1) := by
  unfold madeI
  have e0 : iAt zs k = zs[k] := by unfold iAt; simp [show k < zs.length from by omega]
  have e : zs.take (k + 1) = zs.take k ++ [iAt zs k] := by
    rw [e0, List.take_succ_eq_append_getElem (by omega)]
  rw [e, List.set_append_right _ _ (by simp; omega), List.length_take, Nat.min_eq_left (by omega), Nat.sub_self,
    show n - k = n - (k + 1) + 1 from by omega, List.replicate_succ, List.set_cons_zero, List.append_assoc]
  rfl
theorem IL_set (zs : List Int) (k : Nat) (x : Int) : (IL zs).set k (.int .i64 x) = IL (zs.set k x) := by
  unfold IL
  rw [List.map_set]
theorem madeI_zero (n : Nat) : (madeCells #[Value.int .i64 0] n).toList = IL (madeI [] n 0) := by
  unfold madeI IL
  apply List.ext_getElem?
  intro j
  by_cases hj : j < n
  · simp [madeCells, hj, Nat.mod_one]
  · simp [madeCells, hj]
theorem madeI_start (zs : List Int) (n : Nat) : madeI zs n 0 = madeI [] n 0 := by simp [madeI]

theorem toI_any (st : List Int) (A : Option Addr) (n c : Nat) (w : World) (h : RS w w.heap.size A n st) (hn : n ≤ 1048576) :
    Calls Try.prog 51 #[.slice A n c] w fun e w' => e = .returned (.slice (some ⟨w.heap.size, 0, none⟩) n n) ∧ w'.ownsRow w.heap.size 2 1 (.slice (some ⟨w.heap.size, 0, none⟩) n n) n (IL st) ∧ Below w.heap.size w w' := by
  have HL := Lib.hid h.1
  have HH := Lib.hid h
  clear h
  obtain ⟨i0, hi0, hz0, hz1, hz2⟩ := info_parts int_info
  go_enter Try.func51, Try.ntmps51
  go_wp2_with (at_make; refine wpList_make_full _ rfl _ _ 29 rfl w.heap.size 2 i0 (.int .i64 0) 1 Try.underlying29 hi0 hz0 hz1 .i64 .i64 _ _ n rfl rfl rfl rfl (by rw [hz2]; omega) (by unfold maxLen; omega) (Nat.le_refl _) ?_)
  intro w1 hown hgrow
  have hown : w1.ownsRow w.heap.size 2 1 (.slice (some ⟨w.heap.size, 0, none⟩) n n) n (IL (madeI st n 0)) := by rw [madeI_start, ← madeI_zero]; exact hown
  have HO := Lib.hid hown
  have hb1 : Below w.heap.size w w1 := (Below.refl _ _).grown hgrow (Nat.le_refl _) (by intro k hk; cases hk)
  have HB := Lib.hid hb1
  clear hown hb1 hgrow
  go_wp2
  go_loopw [4] (fun i wr => ∃ k : Nat, i = .int .i64 k ∧ k ≤ n ∧ Hid (wr.ownsRow w.heap.size 2 1 (.slice (some ⟨w.heap.size, 0, none⟩) n n) n (IL (madeI st n k))) ∧ Hid (Below w.heap.size w wr)) (fun i _ => n - (intOf i).toNat)
  case atStart => exact ⟨0, rfl, by omega, HO, HB⟩
  case round =>
    obtain ⟨k, rfl, hk, ho, hbw⟩ := hrel
    clear HO HB
    by_cases hlt : k < n
    · obtain ⟨b, off, rfl, hb, hc⟩ := HH.out.ints (by omega)
      have c1 := (hbw.out.cell (p := ⟨b, off + k, none⟩) hb).trans (hc k hlt)
      have hz : st.length = n := HL.out
      have f1 : wr.frozen? ⟨w.heap.size, k, none⟩ = false := ho.out.frozenAt _
      have d1 : wr.cell? ⟨w.heap.size, k, none⟩ = some (.int .i64 (iAt (madeI st n k) k)) := (ho.out.cellAt k (by omega)).trans (by
        unfold IL iAt
        rw [List.getElem?_map]
        have : k < (madeI st n k).length := by rw [madeI_len _ _ _ hz hk]; exact hlt
        simp [this])
      have HZ := Lib.hid hz
      have HS : Hid ((IL (madeI st n k)).set k (.int .i64 (iAt st k)) = IL (madeI st n (k + 1))) := Lib.hid (by rw [IL_set, madeI_next _ _ _ hz hlt])
      clear hc hz
      generalize iAt st k = x at *
      generalize iAt (madeI st n k) k = y at *
      go_wp2
      go_roundw
      case rel =>
        refine ⟨k + 1, by go_num, by omega, Lib.hid ?_, Lib.hid ?_⟩
        · rw [← HS.out]
          exact (ho.out.stored k (.int .i64 x)).1
        · exact hbw.out.setCell (by simp) _
      case measure => simp [intOf]; omega
    · obtain rfl : k = n := by omega
      go_wp2
      go_ret
      refine ⟨rfl, ?_, hbw.out⟩
      have := ho.out
      rw [madeI_all _ _ HL.out] at this
      exact this

theorem setCells_chain (w : World) (g : Nat) (t : TypeId) : ∀ (l : List (Nat × Value)) (cs : Array Value), w.heap[g]? = some (.cells cs t (0, 0)) →
    ∀ w0 : World, w0.heap[g]? = some (.cells cs t (0, 0)) → l.foldl (fun w p => w.setCell ⟨g, p.1, none⟩ p.2) w0 = w0.setRow g (l.foldl (fun c p => c.setIfInBounds p.1 p.2) cs)
  | [], cs, _, w0, h => (setRow_self w0 g cs t (0, 0) h).symm
  | (i, v) :: l, cs, _, w0, h => by
    have h1 : w0.setCell ⟨g, i, none⟩ v = w0.setRow g (cs.setIfInBounds i v) := setCell_eq_setRow w0 g i cs t (0, 0) v h
    have h2 : (w0.setCell ⟨g, i, none⟩ v).heap[g]? = some (.cells (cs.setIfInBounds i v) t (0, 0)) := by rw [h1]; exact setRow_heap w0 g cs _ t (0, 0) h
    simp only [List.foldl_cons]
    rw [setCells_chain (w0.setCell ⟨g, i, none⟩ v) g t l _ h2 _ h2, h1, setRow_setRow]

set_option maxRecDepth 100000 in
set_option maxHeartbeats 4000000 in
theorem toH_any (h : Hd) (A : Option Addr) (n c : Nat) (w : World) (hR : RS w w.heap.size A n h.st) (hn : n ≤ 1048576) :
    Calls Try.prog 28 #[hdV h A n c] w (GivesH w h) := by
  have hl : h.st.length = n := hR.1
  have ti := fun w hR => toI_any h.st A n c w hR hn
  have tc := fun w => toC_any h.cc h.ck h.cv w
  obtain ⟨w3, hw3⟩ : ∃ w3, w3 = ((w.alloc (.cells #[.int .i64 h.pos, .int .i64 h.cc, .int .i64 h.ck, .int .i64 h.cv, .int .i64 h.cur, .int .i64 h.want, .int .i64 h.key, .int .i64 h.kid, .int .i64 h.old, .int .i64 h.next, .int .i64 h.new, .slice A n c, .int .i64 h.thn, .int .i64 h.beg, .int .i64 h.rep, .int .i64 h.out] 49)).alloc (.cells #[.int .i64 0, .int .i64 0, .int .i64 0, .int .i64 0, .int .i64 0, .int .i64 0, .int .i64 0, .int .i64 0, .int .i64 0, .int .i64 0, .int .i64 0, .slice none 0 0, .int .i64 0, .int .i64 0, .int .i64 0, .int .i64 0] 31)).alloc (.cells #[.int .i64 h.pos, .int .i64 0, .int .i64 0, .int .i64 0, .int .i64 0, .int .i64 0, .int .i64 0, .int .i64 0, .int .i64 0, .int .i64 0, .int .i64 0, .slice none 0 0, .int .i64 0, .int .i64 0, .int .i64 0, .int .i64 0] 31) := ⟨_, rfl⟩
  have b3 : Below w.heap.size w w3 := by rw [hw3]; exact (((Below.refl _ _).alloc (Nat.le_refl _) _).alloc (by simp) _).alloc (by simp; omega) _
  have s3 : w3.heap.size = w.heap.size + 3 := by rw [hw3]; simp
  have x0 : w3.heap[w.heap.size]? = some (.cells #[.int .i64 h.pos, .int .i64 h.cc, .int .i64 h.ck, .int .i64 h.cv, .int .i64 h.cur, .int .i64 h.want, .int .i64 h.key, .int .i64 h.kid, .int .i64 h.old, .int .i64 h.next, .int .i64 h.new, .slice A n c, .int .i64 h.thn, .int .i64 h.beg, .int .i64 h.rep, .int .i64 h.out] 49 (0, 0)) := by rw [hw3, Below.heap_alloc _ _ _ (by simp; omega), Below.heap_alloc _ _ _ (by simp)]; exact heap_alloc_new _ _
  have x1 : w3.heap[w.heap.size + 1]? = some (.cells #[.int .i64 0, .int .i64 0, .int .i64 0, .int .i64 0, .int .i64 0, .int .i64 0, .int .i64 0, .int .i64 0, .int .i64 0, .int .i64 0, .int .i64 0, .slice none 0 0, .int .i64 0, .int .i64 0, .int .i64 0, .int .i64 0] 31 (0, 0)) := by
    have hz := heap_alloc_new (w.alloc (.cells #[.int .i64 h.pos, .int .i64 h.cc, .int .i64 h.ck, .int .i64 h.cv, .int .i64 h.cur, .int .i64 h.want, .int .i64 h.key, .int .i64 h.kid, .int .i64 h.old, .int .i64 h.next, .int .i64 h.new, .slice A n c, .int .i64 h.thn, .int .i64 h.beg, .int .i64 h.rep, .int .i64 h.out] 49)) (.cells #[.int .i64 0, .int .i64 0, .int .i64 0, .int .i64 0, .int .i64 0, .int .i64 0, .int .i64 0, .int .i64 0, .int .i64 0, .int .i64 0, .int .i64 0, .slice none 0 0, .int .i64 0, .int .i64 0, .int .i64 0, .int .i64 0] 31)
    rw [hw3, Below.heap_alloc _ _ _ (by simp)]
    rwa [show (w.alloc (.cells #[.int .i64 h.pos, .int .i64 h.cc, .int .i64 h.ck, .int .i64 h.cv, .int .i64 h.cur, .int .i64 h.want, .int .i64 h.key, .int .i64 h.kid, .int .i64 h.old, .int .i64 h.next, .int .i64 h.new, .slice A n c, .int .i64 h.thn, .int .i64 h.beg, .int .i64 h.rep, .int .i64 h.out] 49)).heap.size = w.heap.size + 1 from by simp] at hz
  have x2 : w3.heap[w.heap.size + 1 + 1]? = some (.cells #[.int .i64 h.pos, .int .i64 0, .int .i64 0, .int .i64 0, .int .i64 0, .int .i64 0, .int .i64 0, .int .i64 0, .int .i64 0, .int .i64 0, .int .i64 0, .slice none 0 0, .int .i64 0, .int .i64 0, .int .i64 0, .int .i64 0] 31 (0, 0)) := by
    have hz := heap_alloc_new ((w.alloc (.cells #[.int .i64 h.pos, .int .i64 h.cc, .int .i64 h.ck, .int .i64 h.cv, .int .i64 h.cur, .int .i64 h.want, .int .i64 h.key, .int .i64 h.kid, .int .i64 h.old, .int .i64 h.next, .int .i64 h.new, .slice A n c, .int .i64 h.thn, .int .i64 h.beg, .int .i64 h.rep, .int .i64 h.out] 49)).alloc (.cells #[.int .i64 0, .int .i64 0, .int .i64 0, .int .i64 0, .int .i64 0, .int .i64 0, .int .i64 0, .int .i64 0, .int .i64 0, .int .i64 0, .int .i64 0, .slice none 0 0, .int .i64 0, .int .i64 0, .int .i64 0, .int .i64 0] 31)) (.cells #[.int .i64 h.pos, .int .i64 0, .int .i64 0, .int .i64 0, .int .i64 0, .int .i64 0, .int .i64 0, .int .i64 0, .int .i64 0, .int .i64 0, .int .i64 0, .slice none 0 0, .int .i64 0, .int .i64 0, .int .i64 0, .int .i64 0] 31)
    rw [hw3]
    rwa [show ((w.alloc (.cells #[.int .i64 h.pos, .int .i64 h.cc, .int .i64 h.ck, .int .i64 h.cv, .int .i64 h.cur, .int .i64 h.want, .int .i64 h.key, .int .i64 h.kid, .int .i64 h.old, .int .i64 h.next, .int .i64 h.new, .slice A n c, .int .i64 h.thn, .int .i64 h.beg, .int .i64 h.rep, .int .i64 h.out] 49)).alloc (.cells #[.int .i64 0, .int .i64 0, .int .i64 0, .int .i64 0, .int .i64 0, .int .i64 0, .int .i64 0, .int .i64 0, .int .i64 0, .int .i64 0, .int .i64 0, .slice none 0 0, .int .i64 0, .int .i64 0, .int .i64 0, .int .i64 0] 31)).heap.size = w.heap.size + 1 + 1 from by simp] at hz
  have HR := Lib.hid hR
  have HL := Lib.hid hl
  have TI := Lib.hid ti
  have TC := Lib.hid tc
  have X0 := Lib.hid x0
  have X1 := Lib.hid x1
  have X2 := Lib.hid x2
  have B3 := Lib.hid b3
  have S3 := Lib.hid s3
  have HW := Lib.hid hw3
  clear hR hl ti tc x0 x1 x2 b3 s3 hw3
  unfold hdV
  go_enter Try.func28, Try.ntmps28
  go_wp2_with fail
  rw [← HW.out]
  refine (TC.out _).mono ?_
  rintro e w4 ⟨rfl, b4⟩
  have y0 := box_on b4 X0.out
  have y2 := box_on b4 X2.out
  have p0 : w4.cell? ⟨w.heap.size, 0, none⟩ = some (.int .i64 h.pos) := by rw [cell_of_row _ _ 0 _ _ _ y0]; rfl
  have p1 : w4.cell? ⟨w.heap.size, 1, none⟩ = some (.int .i64 h.cc) := by rw [cell_of_row _ _ 1 _ _ _ y0]; rfl
  have p2 : w4.cell? ⟨w.heap.size, 2, none⟩ = some (.int .i64 h.ck) := by rw [cell_of_row _ _ 2 _ _ _ y0]; rfl
  have p3 : w4.cell? ⟨w.heap.size, 3, none⟩ = some (.int .i64 h.cv) := by rw [cell_of_row _ _ 3 _ _ _ y0]; rfl
  have p4 : w4.cell? ⟨w.heap.size, 4, none⟩ = some (.int .i64 h.cur) := by rw [cell_of_row _ _ 4 _ _ _ y0]; rfl
  have p5 : w4.cell? ⟨w.heap.size, 5, none⟩ = some (.int .i64 h.want) := by rw [cell_of_row _ _ 5 _ _ _ y0]; rfl
  have p6 : w4.cell? ⟨w.heap.size, 6, none⟩ = some (.int .i64 h.key) := by rw [cell_of_row _ _ 6 _ _ _ y0]; rfl
  have p7 : w4.cell? ⟨w.heap.size, 7, none⟩ = some (.int .i64 h.kid) := by rw [cell_of_row _ _ 7 _ _ _ y0]; rfl
  have p8 : w4.cell? ⟨w.heap.size, 8, none⟩ = some (.int .i64 h.old) := by rw [cell_of_row _ _ 8 _ _ _ y0]; rfl
  have p9 : w4.cell? ⟨w.heap.size, 9, none⟩ = some (.int .i64 h.next) := by rw [cell_of_row _ _ 9 _ _ _ y0]; rfl
  have p10 : w4.cell? ⟨w.heap.size, 10, none⟩ = some (.int .i64 h.new) := by rw [cell_of_row _ _ 10 _ _ _ y0]; rfl
  have p11 : w4.cell? ⟨w.heap.size, 11, none⟩ = some (.slice A n c) := by rw [cell_of_row _ _ 11 _ _ _ y0]; rfl
  have p12 : w4.cell? ⟨w.heap.size, 12, none⟩ = some (.int .i64 h.thn) := by rw [cell_of_row _ _ 12 _ _ _ y0]; rfl
  have p13 : w4.cell? ⟨w.heap.size, 13, none⟩ = some (.int .i64 h.beg) := by rw [cell_of_row _ _ 13 _ _ _ y0]; rfl
  have p14 : w4.cell? ⟨w.heap.size, 14, none⟩ = some (.int .i64 h.rep) := by rw [cell_of_row _ _ 14 _ _ _ y0]; rfl
  have p15 : w4.cell? ⟨w.heap.size, 15, none⟩ = some (.int .i64 h.out) := by rw [cell_of_row _ _ 15 _ _ _ y0]; rfl
  have q0 : w4.cell? ⟨w.heap.size + 1 + 1, 0, none⟩ = some (.int .i64 h.pos) := by rw [cell_of_row _ _ 0 _ _ _ y2]; rfl
  have q1 : w4.cell? ⟨w.heap.size + 1 + 1, 1, none⟩ = some (.int .i64 0) := by rw [cell_of_row _ _ 1 _ _ _ y2]; rfl
  have q2 : w4.cell? ⟨w.heap.size + 1 + 1, 2, none⟩ = some (.int .i64 0) := by rw [cell_of_row _ _ 2 _ _ _ y2]; rfl
  have q3 : w4.cell? ⟨w.heap.size + 1 + 1, 3, none⟩ = some (.int .i64 0) := by rw [cell_of_row _ _ 3 _ _ _ y2]; rfl
  have q4 : w4.cell? ⟨w.heap.size + 1 + 1, 4, none⟩ = some (.int .i64 0) := by rw [cell_of_row _ _ 4 _ _ _ y2]; rfl
  have q5 : w4.cell? ⟨w.heap.size + 1 + 1, 5, none⟩ = some (.int .i64 0) := by rw [cell_of_row _ _ 5 _ _ _ y2]; rfl
  have q6 : w4.cell? ⟨w.heap.size + 1 + 1, 6, none⟩ = some (.int .i64 0) := by rw [cell_of_row _ _ 6 _ _ _ y2]; rfl
  have q7 : w4.cell? ⟨w.heap.size + 1 + 1, 7, none⟩ = some (.int .i64 0) := by rw [cell_of_row _ _ 7 _ _ _ y2]; rfl
  have q8 : w4.cell? ⟨w.heap.size + 1 + 1, 8, none⟩ = some (.int .i64 0) := by rw [cell_of_row _ _ 8 _ _ _ y2]; rfl
  have q9 : w4.cell? ⟨w.heap.size + 1 + 1, 9, none⟩ = some (.int .i64 0) := by rw [cell_of_row _ _ 9 _ _ _ y2]; rfl
  have q10 : w4.cell? ⟨w.heap.size + 1 + 1, 10, none⟩ = some (.int .i64 0) := by rw [cell_of_row _ _ 10 _ _ _ y2]; rfl
  have q11 : w4.cell? ⟨w.heap.size + 1 + 1, 11, none⟩ = some (.slice none 0 0) := by rw [cell_of_row _ _ 11 _ _ _ y2]; rfl
  have q12 : w4.cell? ⟨w.heap.size + 1 + 1, 12, none⟩ = some (.int .i64 0) := by rw [cell_of_row _ _ 12 _ _ _ y2]; rfl
  have q13 : w4.cell? ⟨w.heap.size + 1 + 1, 13, none⟩ = some (.int .i64 0) := by rw [cell_of_row _ _ 13 _ _ _ y2]; rfl
  have q14 : w4.cell? ⟨w.heap.size + 1 + 1, 14, none⟩ = some (.int .i64 0) := by rw [cell_of_row _ _ 14 _ _ _ y2]; rfl
  have q15 : w4.cell? ⟨w.heap.size + 1 + 1, 15, none⟩ = some (.int .i64 0) := by rw [cell_of_row _ _ 15 _ _ _ y2]; rfl
  have fr : ∀ i, w4.frozen? ⟨w.heap.size + 1 + 1, i, none⟩ = false := fun i => frozen_of_row w4 _ i _ _ y2
  have Y0 := Lib.hid y0
  have Y1 := Lib.hid (box_on b4 X1.out)
  have Y2 := Lib.hid y2
  have B4 := Lib.hid b4
  clear b4 y0 y2
  go_wp2_with fail
  have hch := setCells_chain w4 (w.heap.size + 1 + 1) 31 [(1, .int .i64 h.cc), (2, .int .i64 h.ck), (3, .int .i64 h.cv), (4, .int .i64 h.cur), (5, .int .i64 h.want), (6, .int .i64 h.key), (7, .int .i64 h.kid), (8, .int .i64 h.old), (9, .int .i64 h.next), (10, .int .i64 h.new)] #[.int .i64 h.pos, .int .i64 0, .int .i64 0, .int .i64 0, .int .i64 0, .int .i64 0, .int .i64 0, .int .i64 0, .int .i64 0, .int .i64 0, .int .i64 0, .slice none 0 0, .int .i64 0, .int .i64 0, .int .i64 0, .int .i64 0] Y2.out w4 Y2.out
  simp only [List.foldl_cons, List.foldl_nil] at hch
  rw [hch]
  clear hch
  simp only [List.setIfInBounds_toArray, List.set_cons_succ, List.set_cons_zero]
  obtain ⟨w5, hw5⟩ : ∃ w5, w5 = w4.setRow (w.heap.size + 1 + 1) #[.int .i64 h.pos, .int .i64 h.cc, .int .i64 h.ck, .int .i64 h.cv, .int .i64 h.cur, .int .i64 h.want, .int .i64 h.key, .int .i64 h.kid, .int .i64 h.old, .int .i64 h.next, .int .i64 h.new, .slice none 0 0, .int .i64 0, .int .i64 0, .int .i64 0, .int .i64 0] := ⟨_, rfl⟩
  rw [← hw5]
  have o5 : Only (fun k => k = w.heap.size + 1 + 1) w4 w5 := by rw [hw5]; exact only_setRow _ _ _
  have z0 : w5.heap[w.heap.size]? = some (.cells #[.int .i64 h.pos, .int .i64 h.cc, .int .i64 h.ck, .int .i64 h.cv, .int .i64 h.cur, .int .i64 h.want, .int .i64 h.key, .int .i64 h.kid, .int .i64 h.old, .int .i64 h.next, .int .i64 h.new, .slice A n c, .int .i64 h.thn, .int .i64 h.beg, .int .i64 h.rep, .int .i64 h.out] 49 (0, 0)) := box_off o5 Y0.out (by omega)
  have z1 : w5.heap[w.heap.size + 1]? = some (.cells #[.int .i64 0, .int .i64 0, .int .i64 0, .int .i64 0, .int .i64 0, .int .i64 0, .int .i64 0, .int .i64 0, .int .i64 0, .int .i64 0, .int .i64 0, .slice none 0 0, .int .i64 0, .int .i64 0, .int .i64 0, .int .i64 0] 31 (0, 0)) := box_off o5 Y1.out (by omega)
  have z2 : w5.heap[w.heap.size + 1 + 1]? = some (.cells #[.int .i64 h.pos, .int .i64 h.cc, .int .i64 h.ck, .int .i64 h.cv, .int .i64 h.cur, .int .i64 h.want, .int .i64 h.key, .int .i64 h.kid, .int .i64 h.old, .int .i64 h.next, .int .i64 h.new, .slice none 0 0, .int .i64 0, .int .i64 0, .int .i64 0, .int .i64 0] 31 (0, 0)) := by rw [hw5]; exact setRow_heap _ _ _ _ _ _ Y2.out
  have B5 : Hid (Below w.heap.size w w5) := Lib.hid (bel_only (B3.out.trans (B4.out.mono B3.out.size)) o5 (B3.out.trans (B4.out.mono B3.out.size)).size (fun k hk => by omega))
  have R5 : Hid (RS w5 w5.heap.size A n h.st) := Lib.hid (HR.out.on B5.out)
  clear p0 q0 p1 q1 p2 q2 p3 q3 p4 q4 p5 q5 p6 q6 p7 q7 p8 q8 p9 q9 p10 q10 p11 q11 p12 q12 p13 q13 p14 q14 p15 q15 fr hw5
  refine (TI.out _ R5.out).mono ?_
  rintro e w6 ⟨rfl, o6, b6⟩
  have y0 := box_on b6 z0
  have y1 := box_on b6 z1
  have y2 := box_on b6 z2
  have p12 : w6.cell? ⟨w.heap.size, 12, none⟩ = some (.int .i64 h.thn) := by rw [cell_of_row _ _ 12 _ _ _ y0]; rfl
  have p13 : w6.cell? ⟨w.heap.size, 13, none⟩ = some (.int .i64 h.beg) := by rw [cell_of_row _ _ 13 _ _ _ y0]; rfl
  have p14 : w6.cell? ⟨w.heap.size, 14, none⟩ = some (.int .i64 h.rep) := by rw [cell_of_row _ _ 14 _ _ _ y0]; rfl
  have p15 : w6.cell? ⟨w.heap.size, 15, none⟩ = some (.int .i64 h.out) := by rw [cell_of_row _ _ 15 _ _ _ y0]; rfl
  have q11 : w6.cell? ⟨w.heap.size + 1 + 1, 11, none⟩ = some (.slice none 0 0) := by rw [cell_of_row _ _ 11 _ _ _ y2]; rfl
  have q12 : w6.cell? ⟨w.heap.size + 1 + 1, 12, none⟩ = some (.int .i64 0) := by rw [cell_of_row _ _ 12 _ _ _ y2]; rfl
  have q13 : w6.cell? ⟨w.heap.size + 1 + 1, 13, none⟩ = some (.int .i64 0) := by rw [cell_of_row _ _ 13 _ _ _ y2]; rfl
  have q14 : w6.cell? ⟨w.heap.size + 1 + 1, 14, none⟩ = some (.int .i64 0) := by rw [cell_of_row _ _ 14 _ _ _ y2]; rfl
  have q15 : w6.cell? ⟨w.heap.size + 1 + 1, 15, none⟩ = some (.int .i64 0) := by rw [cell_of_row _ _ 15 _ _ _ y2]; rfl
  have fr : ∀ i, w6.frozen? ⟨w.heap.size + 1 + 1, i, none⟩ = false := fun i => frozen_of_row w6 _ i _ _ y2
  have Y1 := Lib.hid y1
  have Y2 := Lib.hid y2
  have O6 := Lib.hid o6
  have B6 := Lib.hid (B5.out.trans (b6.mono B5.out.size))
  have S5 : Hid (w.heap.size + 3 ≤ w5.heap.size) := Lib.hid (by have := S3.out; have := B4.out.size; have := o5.size; omega)
  clear b6 y0 y1 y2 z0 z1 z2 o5 o6
  go_upto_region 16 with (fail)
  have hch := setCells_chain w6 (w.heap.size + 1 + 1) 31 [(11, Value.slice (some ⟨w5.heap.size, 0, none⟩) n n), (12, .int .i64 h.thn), (13, .int .i64 h.beg), (14, .int .i64 h.rep), (15, .int .i64 h.out)] #[.int .i64 h.pos, .int .i64 h.cc, .int .i64 h.ck, .int .i64 h.cv, .int .i64 h.cur, .int .i64 h.want, .int .i64 h.key, .int .i64 h.kid, .int .i64 h.old, .int .i64 h.next, .int .i64 h.new, .slice none 0 0, .int .i64 0, .int .i64 0, .int .i64 0, .int .i64 0] Y2.out w6 Y2.out
  simp only [List.foldl_cons, List.foldl_nil] at hch
  rw [hch]
  clear hch
  simp only [List.setIfInBounds_toArray, List.set_cons_succ, List.set_cons_zero]
  obtain ⟨w7, hw7⟩ : ∃ w7, w7 = w6.setRow (w.heap.size + 1 + 1) (hdC h (some ⟨w5.heap.size, 0, none⟩) n n) := ⟨_, rfl⟩
  change Code.wp _ _ _ _ (w6.setRow (w.heap.size + 1 + 1) (hdC h (some ⟨w5.heap.size, 0, none⟩) n n))
  rw [← hw7]
  have o7 : Only (fun k => k = w.heap.size + 1 + 1) w6 w7 := by rw [hw7]; exact only_setRow _ _ _
  have z1 := Lib.hid (box_off o7 Y1.out (by omega))
  have z2 : Hid (w7.heap[w.heap.size + 1 + 1]? = some (.cells (hdC h (some ⟨w5.heap.size, 0, none⟩) n n) 31 (0, 0))) := Lib.hid (by rw [hw7]; exact setRow_heap _ _ _ _ _ _ Y2.out)
  have O7 := Lib.hid o7
  clear p12 p13 p14 p15 q11 q12 q13 q14 q15 fr hw7 o7
  go_wp2_with (first
    | (refine wpList_load_row rfl 31 (.tmp 3) rfl (w.heap.size + 1 + 1) rfl 31 (hdC h (some ⟨w5.heap.size, 0, none⟩) n n) (0, 0) _ z2.out Try.underlying31 rfl hand_size ?_)
    | (refine wpList_store_row rfl 31 (.tmp 2) (.tmp 48) rfl (w.heap.size + 1) (hdC h (some ⟨w5.heap.size, 0, none⟩) n n) rfl rfl 31 _ z1.out hand_size rfl (hdC_one _ _ _ _) ?_))
  refine bodyPost_ret (results_cell_row rfl _ _ (w.heap.size + 1) 31 (hdC h (some ⟨w5.heap.size, 0, none⟩) n n) (0, 0) _ rfl (setRow_heap _ _ _ _ _ _ z1.out) Try.underlying31 rfl hand_size) rfl ?_
  have o8 : Only (fun k => k = w.heap.size + 1 ∨ k = w.heap.size + 1 + 1) w6 (w7.setRow (w.heap.size + 1) (hdC h (some ⟨w5.heap.size, 0, none⟩) n n)) :=
    (O7.out.more (fun k hk => .inr hk)).trans ((only_setRow _ _ _).more (fun k hk => .inl hk))
  have hF : ∀ k, blkF (Value.slice (some ⟨w5.heap.size, 0, none⟩) n n).ownBlock k → w5.heap.size ≤ k ∧ k < w6.heap.size := fun k hk => O6.out.lt k hk
  refine ⟨some ⟨w5.heap.size, 0, none⟩, n, blkF (Value.slice (some ⟨w5.heap.size, 0, none⟩) n n).ownBlock, by rw [HL.out]; rfl, ?_, fun k hk => ?_, ?_⟩
  · rw [HL.out]
    exact (OwnS.of_ints O6.out (fun k hk => hk)).off o8 (fun k hk h => by have := hF k hk; have := S5.out; omega)
  · have := hF k hk
    have := S5.out
    have := o8.size
    omega
  · exact bel_only B6.out o8 B6.out.size (fun k hk => by omega)
end Go.Proofs.Ytjookicpmjmdhaa
