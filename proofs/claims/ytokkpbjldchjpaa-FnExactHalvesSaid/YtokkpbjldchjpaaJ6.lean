/- The walks of the code's own functions of chapter 6: fullFor, startsAt, LowerOf; the law of copy. (Made by genJ6.py.) -/
import Derived.Test.YtokkpbjldchjpaaT11
import Derived.Test.YtokkpbjldchjpaaY10
import Derived.Test.YtokkpbjldchjpaaI3
namespace Go.Proofs.Ytokkpbjldchjpaa
open Go.RowKit

/-- What fullFor answers. -/
def fullB (x : Nd) (k : Int) : Bool := (nodeOk x && inside x k) && (decide (x.ps.length = 4) && !hitB x.ps k)

section
variable {X : FP} {w0 w : World} {L : List Item} {o : Oper} {a : Act} {K : Act → World → Prop} {Q : Exit → Act → World → Prop}
theorem addr_to (b off j : Nat) : (⟨b, off, none⟩ : Addr).add j = ⟨b, off + j, none⟩ := by unfold Addr.add; split <;> simp_all
theorem run_copyP (w : World) (g m c c' : Nat) (ad : Addr) (cur : Array Value) (t : TypeId) (ys : List Pr) (ty : TypeId)
    (hg : w.heap[g]? = some (.cells cur t (0, 0))) (hm : ys.length = m) (hsrc : ∀ j v, (PL ys)[j]? = some v → w.cell? (ad.add j) = some v) (hfit : m * 2 ≤ cur.size) :
    (Builtin.copy_ #[24, 24] ty #[.slice (some ⟨g, 0, none⟩) m c, .slice (some ad) m c']).run Try.prog w =
      .ok (goInt m) (w.setRow g (PL ys ++ cur.toList.drop (m * 2)).toArray) := by
  have hl := run_loadCells_list (P := Try.prog) w ad (PL ys) hsrc
  have hst := run_storeCells_at (P := Try.prog) g 0 t (PL ys) 0 cur w hg (by rw [PL_length, hm]; simpa using hfit) (PL_one ys)
  rw [PL_length, hm] at hl
  simp only [Nat.zero_add, Nat.add_zero, List.take_zero, List.nil_append, PL_length, hm] at hst
  have hi : ∀ w, (sizeOf 28).run Try.prog w = .ok 2 w := fun w => by kernel_rfl
  have hu : ∀ w, (underlying 24).run Try.prog w = .ok (.slice 28) w := fun w => by kernel_rfl
  simp [Builtin.copy_, Builtin.lenOf, Builtin.firstCells, hi, hu, hl, hst]
/-- copy: pairs that lie somewhere go over into a list of the call's own of just their number. -/
theorem op_copyP (d s : Operand) (ho : o.op = .call { callee := .builtin .copy, args := #[d, s], argTypes := #[24, 24] }) (h : Sep X w0 L w) (p : Nat) {g m c c' : Nat} {xs ys : List Pr} {F : FP}
    (e : L[p]? = some (ow (.slice (some ⟨g, 0, none⟩) m c) xs F)) (hd : a.eval d = .slice (some ⟨g, 0, none⟩) m c) (hl : xs.length = m) {B : Nat} {ad : Addr} (hr : RP w B (some ad) m ys) (hx : a.eval s = .slice (some ad) m c') (hm0 : 0 < m)
    (hK : ∀ w', Sep X w0 (L.set p (ow (.slice (some ⟨g, 0, none⟩) m c) ys F)) w' → K (a.put o.dst (goInt m)) w') : o.wp Try.prog a w K Q := by
  obtain ⟨hrow, hF⟩ := OwnS.pairs (h.get p e)
  obtain ⟨hlen, h' | ⟨g', cap, cur, hv, hb, hgx, k1, k2, k3, k4⟩⟩ := hrow
  · exact absurd h'.1 (by simp)
  obtain ⟨h1, h2, h3⟩ : g = g' ∧ m = xs.length ∧ c = cap := by simpa using hv
  subst h1 h3
  have hm : ys.length = m := hr.1
  have hrun := run_copyP w g m c c' ad cur 28 ys o.type hgx hm (fun j u hu => by
      obtain ⟨i, hi, h'⟩ := PL_get ys j u hu
      obtain ⟨b, off, hA, hb, hc⟩ := hr.2 hm0
      cases hA
      rw [addr_to]
      obtain ⟨h1, h2⟩ := hc i (by omega)
      rcases h' with ⟨rfl, rfl⟩ | ⟨rfl, rfl⟩
      · exact h1
      · rw [show off + (i * 2 + 1) = off + i * 2 + 1 by omega]; exact h2) (by rw [k3]; omega)
  have hlt : g < w.heap.size := (Array.getElem?_eq_some_iff.1 hgx).1
  unfold Oper.wp
  simp [execOp, ho, resolve, invoke, builtin, hd, hx, hrun, Result.andThen]
  refine hK _ (h.turn p e (Only.more (only_row w g _) (fun k hk => by
    have hk : k = g := hk
    subst hk
    exact hF _ rfl)) _ ?_ (fun k hk => ⟨.inl hk, by
    have h5 := h.fresh _ (List.mem_of_getElem? e) k hk
    simpa using h5.2⟩))
  refine OwnS.of_pairs (base := 0) (n := m) ⟨by rw [PL_length, hm], .inr ⟨g, c, _, rfl, Nat.zero_le _, setRow_heap _ _ _ _ _ _ hgx, by omega, k2, ?_, ?_⟩⟩ (fun k hk => hF k hk)
  · simp [PL_length, hm]; omega
  · rw [List.toList_toArray, List.take_append_of_le_length (by rw [PL_length, hm]; exact Nat.le_refl _), List.take_of_length_le (by rw [PL_length, hm]; exact Nat.le_refl _)]
/-- A slice up to a place, with the third index. -/
theorem op_slTo3 (t e : TypeId) (sz k : Nat) (x : Operand) (ho : o.op = .slice t x none (some (.const (.int .i64 k))) (some (.const (.int .i64 k)))) (ht : Try.prog.underlying t = some (.slice e)) (hi : ∀ w, (sizeOf e).run Try.prog w = .ok sz w) {b off n c : Nat} (hx : a.eval x = .slice (some ⟨b, off, none⟩) n c) (hkc : k ≤ c) (hk0 : 0 < k)
    (hK : K (a.put o.dst (.slice (some ⟨b, off, none⟩) k k)) w) : o.wp Try.prog a w K Q := by
  refine op_val ?_ hK
  have aa : (⟨b, off, none⟩ : Addr).add (0 * sz) = ⟨b, off, none⟩ := by unfold Addr.add; split <;> simp_all
  have h1 : (k : Int) ≤ c := by omega
  have h2 : ¬ k = 0 := by omega
  generalize hE : a.eval = E at hx ⊢
  have hc : E (.const (.int .i64 k)) = .int .i64 k := by rw [← hE]; rfl
  simp [execOp, ho, hx, hc, go_sem, ht, hi, aa, h1, h2, hkc]
end

set_option maxRecDepth 100000 in
set_option maxHeartbeats 16000000 in
theorem iFull_any (x : Nd) (A : Option Addr) (n c : Nat) (k v : Int) (w0 : World) (hP : RP w0 w0.heap.size A n x.ps) (hn : n ≤ 1048576) (hc : n ≤ c) (hc2 : c ≤ 9223372036854775807) :
    Calls Try.prog 29 #[ndV x A n c, .agg #[.int .i64 k, .int .i64 v]] w0 fun e w' => e = .returned (.bool (fullB x k)) ∧ Below w0.heap.size w0 w' := by
  have FK := Lib.hid (fun w h => find_any A n c x.ps k w h hn)
  have WK := Lib.hid (fun w h => iWithin_any x k A n c w h hn hc hc2)
  have HP := Lib.hid hP
  have hl := hP.1
  unfold fullB
  rw [hl]
  clear hP hn hc hc2 hl
  generalize geIx x.ps k = g1 at *
  generalize hitB x.ps k = q3 at *
  generalize (nodeOk x && inside x k) = q1 at *
  have S := Lib.hid (Sep.start noX w0)
  have tok0 : True := trivial
  have tok1 : True := trivial
  unfold ndV at *
  go_enter Try.func29, Try.ntmps29
  go_wp2_with (first
      | go_skip
      | (have _t := tok0; clear _t; refine wpList_op rfl (op_bx 26 _ rfl S.out _ rfl ?_); clear S tok0; intro gn w S; replace S := Lib.hid S)
      | (have _t := tok1; clear _t; refine wpList_op rfl (op_bx 28 _ rfl S.out _ rfl ?_); clear S tok1; intro gp w S; replace S := Lib.hid S)
      | (refine wpList_op rfl (op_get 24 _ rfl S.out 1 rfl _ rfl Try.isAgg24 _ rfl ?_))
      | (refine wpList_op rfl (op_get 2 _ rfl S.out 0 rfl _ rfl Try.isAgg2 _ rfl ?_)))
  refine (FK.out _ (HP.out.on S.out.below)).mono ?_
  rintro e w ⟨rfl, b⟩
  replace S := Lib.hid (S.out.call b)
  clear b
  go_wp2_with (first
      | go_skip
      | (refine wpList_op rfl (op_row 26 _ rfl S.out 1 rfl rfl Try.isAgg26 (by kernel_rfl) ?_))
      | (refine wpList_op rfl (op_get 2 _ rfl S.out 0 rfl _ rfl Try.isAgg2 _ rfl ?_)))
  refine (WK.out _ (HP.out.on S.out.below)).mono ?_
  rintro e w ⟨rfl, b⟩
  replace S := Lib.hid (S.out.call b)
  clear b
  cases q1
  · go_wp2_with fail
    go_ret
    exact ⟨rfl, S.out.below⟩
  by_cases h4 : n = 4
  · have g4 : ((n : Int) == 4) = true := by simp [h4]
    have H4 := Lib.hid h4
    clear h4
    go_wp2_with (first
        | go_skip
        | (refine wpList_op rfl (op_get 24 _ rfl S.out 1 rfl _ rfl Try.isAgg24 _ rfl ?_)))
    go_ret
    exact ⟨ret_bool (by simp [H4.out]), S.out.below⟩
  · have g4 : ((n : Int) == 4) = false := by simp; omega
    have H4 := Lib.hid h4
    clear h4
    go_wp2_with (first
        | go_skip
        | (refine wpList_op rfl (op_get 24 _ rfl S.out 1 rfl _ rfl Try.isAgg24 _ rfl ?_)))
    go_ret
    exact ⟨ret_bool (by simp [H4.out]), S.out.below⟩

set_option maxRecDepth 100000 in
set_option maxHeartbeats 16000000 in
theorem iStarts_any (x : Nd) (A : Option Addr) (n c : Nat) (k : Int) (w0 : World) (hP : RP w0 w0.heap.size A n x.ps) :
    Calls Try.prog 37 #[ndV x A n c, .int .i64 k] w0 fun e w' => e = .returned (.bool (decide (x.ps.length = 0) || decide (k ≤ kAt x.ps 0))) ∧ Below w0.heap.size w0 w' := by
  have HP := Lib.hid hP
  rw [hP.1]
  clear hP
  have S := Lib.hid (Sep.start noX w0)
  have tok0 : True := trivial
  unfold ndV at *
  by_cases h0 : n = 0
  · have g0 : ((n : Int) == 0) = true := by simp [h0]
    have H0 := Lib.hid h0
    clear h0
    go_enter Try.func37, Try.ntmps37
    go_wp2_with (first
        | go_skip
        | (have _t := tok0; clear _t; refine wpList_op rfl (op_bx 26 _ rfl S.out _ rfl ?_); clear S tok0; intro gn w S; replace S := Lib.hid S)
        | (refine wpList_op rfl (op_get 24 _ rfl S.out 0 rfl _ rfl Try.isAgg24 _ rfl ?_)))
    go_ret
    exact ⟨ret_bool (by simp [H0.out]), S.out.below⟩
  · have g0 : ((n : Int) == 0) = false := by simp; omega
    obtain ⟨b, off, rfl, hb, hc⟩ := HP.out.2 (by omega)
    have ck := (hc 0 (by omega)).1
    simp only [Nat.zero_mul, Nat.add_zero] at ck
    have CK : Hid (∀ w, Below w0.heap.size w0 w → w.cell? ⟨b, off, none⟩ = some (.int .i64 (kAt x.ps 0))) := Lib.hid (fun w bw => (bw.cell (p := ⟨b, off, none⟩) hb).trans ck)
    have H0 := Lib.hid h0
    have h00 : 0 < n := by omega
    clear h0 hc ck hb
    go_enter Try.func37, Try.ntmps37
    go_wp2_with (first
        | go_skip
        | (have _t := tok0; clear _t; refine wpList_op rfl (op_bx 26 _ rfl S.out _ rfl ?_); clear S tok0; intro gn w S; replace S := Lib.hid S)
        | (refine wpList_op rfl (op_idx _ _ _ rfl 28 2 Try.underlying24 Try.sizeOf28 rfl (k := 0) rfl h00 ?_))
        | (refine wpList_op rfl (op_cell 2 _ rfl (by first | rfl | (simp only [Nat.zero_mul, Nat.add_zero])) Try.isAgg2 (CK.out _ S.out.below) ?_))
        | (refine wpList_op rfl (op_get 24 _ rfl S.out 0 rfl _ rfl Try.isAgg24 _ rfl ?_)))
    go_ret
    exact ⟨ret_bool (by simp [H0.out]), S.out.below⟩

set_option maxRecDepth 100000 in
set_option maxHeartbeats 16000000 in
theorem iLowerOf_any (x y : Nd) (A B : Option Addr) (n c m d : Nat) (w0 : World) (h : RS w0 w0.heap.size A n x.ps) (h' : RS w0 w0.heap.size B m y.ps) (hs : Small.sm x.ps) (hs' : Small.sm y.ps) (_hc : n ≤ c) (_hd : c ≤ 9223372036854775807) (_hc' : m ≤ d) (_hd' : d ≤ 9223372036854775807) :
    Calls Try.prog 12 #[ndV x A n c, ndV y B m d] w0 fun e w' => e = .returned (.bool (lowerB x y)) ∧ Below w0.heap.size w0 w' := by
  have hn : n ≤ 1048576 := by rw [← h.1]; exact hs
  have hm : m ≤ 1048576 := by rw [← h'.1]; exact hs'
  have XK := Lib.hid (fun w h => iok_any x A n c w h hn)
  have YK := Lib.hid (fun w h => iok_any y B m d w h hm)
  have SK := Lib.hid (fun w h => iStarts_any y B m d x.hi w h)
  have HX := Lib.hid h.pairs
  have HY := Lib.hid h'.pairs
  clear h h' hs hs' hn hm _hc _hd _hc' _hd'
  unfold lowerB
  generalize (decide (y.ps.length = 0) || decide (x.hi ≤ kAt y.ps 0)) = q3 at *
  generalize nodeOk x = q1 at *
  generalize nodeOk y = q2 at *
  have S := Lib.hid (Sep.start noX w0)
  have tok0 : True := trivial
  have tok1 : True := trivial
  unfold ndV at *
  go_enter Try.func12, Try.ntmps12
  go_wp2_with (first
      | go_skip
      | (have _t := tok0; clear _t; refine wpList_op rfl (op_bx 26 _ rfl S.out _ rfl ?_); clear S tok0; intro g1 w S; replace S := Lib.hid S)
      | (have _t := tok1; clear _t; refine wpList_op rfl (op_bx 26 _ rfl S.out _ rfl ?_); clear S tok1; intro g2 w S; replace S := Lib.hid S)
      | (refine wpList_op rfl (op_row 26 _ rfl S.out 1 rfl rfl Try.isAgg26 (by kernel_rfl) ?_)))
  refine (XK.out _ (HX.out.on S.out.below)).mono ?_
  rintro e w ⟨rfl, b⟩
  replace S := Lib.hid (S.out.call b)
  clear b
  cases q1
  · go_wp2_with fail
    go_ret
    exact ⟨rfl, S.out.below⟩
  go_wp2_with (first
      | go_skip
      | (refine wpList_op rfl (op_row 26 _ rfl S.out 0 rfl rfl Try.isAgg26 (by kernel_rfl) ?_)))
  refine (YK.out _ (HY.out.on S.out.below)).mono ?_
  rintro e w ⟨rfl, b⟩
  replace S := Lib.hid (S.out.call b)
  clear b
  cases q2
  · go_wp2_with fail
    go_ret
    exact ⟨rfl, S.out.below⟩
  by_cases h1 : x.lv = y.lv
  rotate_left
  · have g1 : (x.lv == y.lv) = false := by simpa using h1
    have H1 := Lib.hid h1
    clear h1
    go_wp2_with (first
        | go_skip
        | (refine wpList_op rfl (op_get 2 _ rfl S.out 1 rfl _ rfl Try.isAgg2 _ rfl ?_))
        | (refine wpList_op rfl (op_get 2 _ rfl S.out 0 rfl _ rfl Try.isAgg2 _ rfl ?_)))
    go_ret
    exact ⟨ret_bool (by simp [H1.out]), S.out.below⟩
  have g1 : (x.lv == y.lv) = true := by simpa using h1
  have H1 := Lib.hid h1
  clear h1
  by_cases h2 : -1 < x.hi
  rotate_left
  · have g2 : decide (-1 < x.hi) = false := by simpa using h2
    have H2 : Hid (decide (0 ≤ x.hi) = false) := Lib.hid (by simp; omega)
    clear h2
    go_wp2_with (first
        | go_skip
        | (refine wpList_op rfl (op_get 2 _ rfl S.out 1 rfl _ rfl Try.isAgg2 _ rfl ?_))
        | (refine wpList_op rfl (op_get 2 _ rfl S.out 0 rfl _ rfl Try.isAgg2 _ rfl ?_)))
    go_ret
    exact ⟨ret_bool (by simp [H1.out, H2.out]), S.out.below⟩
  have g2 : decide (-1 < x.hi) = true := by simpa using h2
  have H2 : Hid (decide (0 ≤ x.hi) = true) := Lib.hid (by simp; omega)
  clear h2
  go_wp2_with (first
      | go_skip
      | (refine wpList_op rfl (op_get 2 _ rfl S.out 1 rfl _ rfl Try.isAgg2 _ rfl ?_))
      | (refine wpList_op rfl (op_get 2 _ rfl S.out 0 rfl _ rfl Try.isAgg2 _ rfl ?_))
      | (refine wpList_op rfl (op_row 26 _ rfl S.out 0 rfl rfl Try.isAgg26 (by kernel_rfl) ?_)))
  refine (SK.out _ (HY.out.on S.out.below)).mono ?_
  rintro e w ⟨rfl, b⟩
  replace S := Lib.hid (S.out.call b)
  clear b
  go_wp2_with fail
  go_ret
  exact ⟨ret_bool (by simp [H1.out, H2.out]), S.out.below⟩
end Go.Proofs.Ytokkpbjldchjpaa
