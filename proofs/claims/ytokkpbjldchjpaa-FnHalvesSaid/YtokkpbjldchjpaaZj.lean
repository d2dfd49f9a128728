/- The walks of the code's own functions of chapter 6: fullFor, startsAt, LowerOf; the law of copy. (Made by genJ6.py.) -/
import Derived.Test.YtokkpbjldchjpaaT11
import Derived.Test.YtokkpbjldchjpaaY10
import Derived.Test.YtokkpbjldchjpaaI3
namespace Go.Proofs.Ytokkpbjldchjpaa
open Go.RowKit

/-- What fullFor answers. -/
def fullB (x : Nd) (k : Int) : Bool := (nodeOk x && inside x k) && (decide (x.ps.length = 4) && !hitB x.ps k)

section
variable {X : FP} {w0 w : World} {L : List Item} {o : Oper} {a : Act} {K : Act → World → Prop} {Q : Exit → Act → World → Prop}
theorem addr_to (b off j : Nat) : (⟨b, off, none⟩ : Addr).add j = ⟨b, off + j, none⟩ := by unfold Addr.add; split <;> simp_all
theorem run_copyP (w : World) (g m c c' : Nat) (ad : Addr) (cur : Array Value) (t : TypeId) (ys : List Pr) (ty : TypeId)
    (hg : w.heap[g]? = some (.cells cur t (0, 0))) (hm : ys.length = m) (hsrc : ∀ j v, (PL ys)[j]? = some v → w.cell? (ad.add j) = some v) (hfit : m * 2 ≤ cur.size) :
    (Builtin.copy_ #[24, 24] ty #[.slice (some ⟨g, 0, none⟩) m c, .slice (some ad) m c']).run Try.prog w =
      .ok (goInt m) (w.setRow g (PL ys ++ cur.toList.drop (m * 2)).toArray) := by
  have hl := run_loadCells_list (P := Try.prog) w ad (PL ys) hsrc
  have hst := run_storeCells_at (P := Try.prog) g 0 t (PL ys) 0 cur w hg (by rw [PL_length, hm]; simpa using hfit) (PL_one ys)
  rw [PL_length, hm] at hl
  simp only [Nat.zero_add, Nat.add_zero, List.take_zero, List.nil_append, PL_length, hm] at hst
  have hi : ∀ w, (sizeOf 28).run Try.prog w = .ok 2 w := fun w => by kernel_rfl
  have hu : ∀ w, (underlying 24).run Try.prog w = .ok (.slice 28) w := fun w => by kernel_rfl
  simp [Builtin.copy_, Builtin.lenOf, Builtin.firstCells, hi, hu, hl, hst]
/-- copy: pairs that lie somewhere go over into a list of the call's own of just their number. -/
theorem op_copyP (d s : Operand) (ho : o.op = .call { callee := .builtin .copy, args := #[d, s], argTypes := #[24, 24] }) (h : Sep X w0 L w) (p : Nat) {g m c c' : Nat} {xs ys : List Pr} {F : FP}
    (e : L[p]? = some (ow (.slice (some ⟨g, 0, none⟩) m c) xs F)) (hd : a.eval d = .slice (some ⟨g, 0, none⟩) m c) (hl : xs.length = m) {B : Nat} {ad : Addr} (hr : RP w B (some ad) m ys) (hx : a.eval s = .slice (some ad) m c') (hm0 : 0 < m)
    (hK : ∀ w', Sep X w0 (L.set p (ow (.slice (some ⟨g, 0, none⟩) m c) ys F)) w' → K (a.put o.dst (goInt m)) w') : o.wp Try.prog a w K Q := by
  obtain ⟨hrow, hF⟩ := OwnS.pairs (h.get p e)
  obtain ⟨hlen, h' | ⟨g', cap, cur, hv, hb, hgx, k1, k2, k3, k4⟩⟩ := hrow
  · exact absurd h'.1 (by simp)
  obtain ⟨h1, h2, h3⟩ : g = g' ∧ m = xs.length ∧ c = cap := by simpa using hv
  subst h1 h3
  have hm : ys.length = m := hr.1
  have hrun := run_copyP w g m c c' ad cur 28 ys o.type hgx hm (fun j u hu => by
      obtain ⟨i, hi, h'⟩ := PL_get ys j u hu
      obtain ⟨b, off, hA, hb, hc⟩ := hr.2 hm0
      cases hA
      rw [addr_to]
      obtain ⟨h1, h2⟩ := hc i (by omega)
      rcases h' with ⟨rfl, rfl⟩ | ⟨rfl, rfl⟩
      · exact h1
      · rw [show off + (i * 2 + 1) = off + i * 2 + 1 by omega]; exact h2) (by rw [k3]; omega)
  have hlt : g < w.heap.size := (Array.getElem?_eq_some_iff.1 hgx).1
  unfold Oper.wp
  simp [execOp, ho, resolve, invoke, builtin, hd, hx, hrun, Result.andThen]
  refine hK _ (h.turn p e (Only.more (only_row w g _) (fun k hk => by
    have hk : k = g := hk
    subst hk
    exact hF _ rfl)) _ ?_ (fun k hk => ⟨.inl hk, by
    have h5 := h.fresh _ (List.mem_of_getElem? e) k hk
    simpa using h5.2⟩))
  refine OwnS.of_pairs (base := 0) (n := m) ⟨by rw [PL_length, hm], .inr ⟨g, c, _, rfl, Nat.zero_le _, setRow_heap _ _ _ _ _ _ hgx, by omega, k2, ?_, ?_⟩⟩ (fun k hk => hF k hk)
  · simp [PL_length, hm]; omega
  · rw [List.toList_toArray, List.take_append_of_le_length (by rw [PL_length, hm]; exact Nat.le_refl _), List.take_of_length_le (by rw [PL_length, hm]; exact Nat.le_refl _)]
/-- A slice up to a place, with the third index. -/
theorem op_slTo3 (t e : TypeId) (sz k : Nat) (x : Operand) (ho : o.op = .slice t x none (some (.const (.int .i64 k))) (some (.const (.int .i64 k)))) (ht : Try.prog.underlying t = some (.slice e)) (hi : ∀ w, (sizeOf e).run Try.prog w = .ok sz w) {b off n c : Nat} (hx : a.eval x = .slice (some ⟨b, off, none⟩) n c) (hkc : k ≤ c) (hk0 : 0 < k)
    (hK : K (a.put o.dst (.slice (some ⟨b, off, none⟩) k k)) w) : o.wp Try.prog a w K Q := by
  refine op_val ?_ hK
  have aa : (⟨b, off, none⟩ : Addr).add (0 * sz) = ⟨b, off, none⟩ := by unfold Addr.add; split <;> simp_all
  have h1 : (k : Int) ≤ c := by omega
  have h2 : ¬ k = 0 := by omega
  generalize hE : a.eval = E at hx ⊢
  have hc : E (.const (.int .i64 k)) = .int .i64 k := by rw [← hE]; rfl
  simp [execOp, ho, hx, hc, go_sem, ht, hi, aa, h1, h2, hkc]
end

set_option maxRecDepth 100000 in
set_option maxHeartbeats 16000000 in
theorem iFull_any (x : Nd) (A : Option Addr) (n c : Nat) (k v : Int) (w0 : World) (hP : RP w0 w0.heap.size A n x.ps) (hn : n ≤ 1048576) (hc : n ≤ c) (hc2 : c ≤ 9223372036854775807) :
    Calls Try.prog 29 #[ndV x A n c, .agg #[.int .i64 k, .int .i64 v]] w0 fun e w' => e = .returned (.bool (fullB x k)) ∧ Below w0.heap.size w0 w' := by
  have FK := Lib.hid (fun w h => find_any A n c x.ps k w h hn)
  have WK := Lib.hid (fun w h => iWithin_any x k A n c w h hn hc hc2)
  have HP := Lib.hid hP
  have hl := hP.1
  unfold fullB
  rw [hl]
  clear hP hn hc hc2 hl
  generalize geIx x.ps k = g1 at *
  generalize hitB x.ps k = q3 at *
  generalize (nodeOk x && inside x k) = q1 at *
  have S := Lib.hid (Sep.start noX w0)
  have tok0 : True := trivial
  have tok1 : True := trivial
  unfold ndV at *
  go_enter Try.func29, Try.ntmps29
  go_wp2_with (first
      | go_skip
      | (have _t := tok0; clear _t; refine wpList_op rfl (op_bx 26 _ rfl S.out _ rfl ?_); clear S tok0; intro gn w S; replace S := Lib.hid S)
      | (have _t := tok1; clear _t; refine wpList_op rfl (op_bx 28 _ rfl S.out _ rfl ?_); clear S tok1; intro gp w S; replace S := Lib.hid S)
      | (refine wpList_op rfl (op_get 24 _ rfl S.out 1 rfl _ rfl Try.isAgg24 _ rfl ?_))
      | (refine wpList_op rfl (op_get 2 _ rfl S.out 0 rfl _ rfl Try.isAgg2 _ rfl ?_)))
  refine (FK.out _ (HP.out.on S.out.below)).mono ?_
  rintro e w ⟨rfl, b⟩
  replace S := Lib.hid (S.out.call b)
  clear b
  go_wp2_with (first
      | go_skip
      | (refine wpList_op rfl (op_row 26 _ rfl S.out 1 rfl rfl Try.isAgg26 (by kernel_rfl) ?_))
      | (refine wpList_op rfl (op_get 2 _ rfl S.out 0 rfl _ rfl Try.isAgg2 _ rfl ?_)))
  refine (WK.out _ (HP.out.on S.out.below)).mono ?_
  rintro e w ⟨rfl, b⟩
  replace S := Lib.hid (S.out.call b)
  clear b
  cases q1
  · go_wp2_with fail
    go_ret
    exact ⟨rfl, S.out.below⟩
  by_cases h4 : n = 4
  · have g4 : ((n : Int) == 4) = true := by simp [h4]
    have H4 := Lib.hid h4
    clear h4
    go_wp2_with (first
        | go_skip
        | (refine wpList_op rfl (op_get 24 _ rfl S.out 1 rfl _ rfl Try.isAgg24 _ rfl ?_)))
    go_ret
    exact ⟨ret_bool (by simp [H4.out]), S.out.below⟩
  · have g4 : ((n : Int) == 4) = false := by simp; omega
    have H4 := Lib.hid h4
    clear h4
    go_wp2_with (first
        | go_skip
        | (refine wpList_op rfl (op_get 24 _ rfl S.out 1 rfl _ rfl Try.isAgg24 _ rfl ?_)))
    go_ret
    exact ⟨ret_bool (by simp [H4.out]), S.out.below⟩

set_option maxRecDepth 100000 in
set_option maxHeartbeats 16000000 in
theorem iStarts_any (x : Nd) (A : Option Addr) (n c : Nat) (k : Int) (w0 : World) (hP : RP w0 w0.heap.size A n x.ps) :
    Calls Try.prog 37 #[ndV x A n c, .int .i64 k] w0 fun e w' => e = .returned (.bool (decide (x.ps.length = 0) || decide (k ≤ kAt x.ps 0))) ∧ Below w0.heap.size w0 w' := by
  have HP := Lib.hid hP
  rw [hP.1]
  clear hP
  have S := Lib.hid (Sep.start noX w0)
  have tok0 : True := trivial
  unfold ndV at *
  by_cases h0 : n = 0
  · have g0 : ((n : Int) == 0) = true := by simp [h0]
    have H0 := Lib.hid h0
    clear h0
    go_enter Try.func37, Try.ntmps37
    go_wp2_with (first
        | go_skip
        | (have _t := tok0; clear _t; refine wpList_op rfl (op_bx 26 _ rfl S.out _ rfl ?_); clear S tok0; intro gn w S; replace S := Lib.hid S)
        | (refine wpList_op rfl (op_get 24 _ rfl S.out 0 rfl _ rfl Try.isAgg24 _ rfl ?_)))
    go_ret
    exact ⟨ret_bool (by simp [H0.out]), S.out.below⟩
  · have g0 : ((n : Int) == 0) = false := by simp; omega
    obtain ⟨b, off, rfl, hb, hc⟩ := HP.out.2 (by omega)
    have ck := (hc 0 (by omega)).1
    simp only [Nat.zero_mul, Nat.add_zero] at ck
    have CK : Hid (∀ w, Below w0.heap.size w0 w → w.cell? ⟨b, off, none⟩ = some (.int .i64 (kAt x.ps 0))) := Lib.hid (fun w bw => (bw.cell (p := ⟨b, off, none⟩) hb).trans ck)
    have H0 := Lib.hid h0
    have h00 : 0 < n := by omega
    clear h0 hc ck hb
    go_enter Try.func37, Try.ntmps37
    go_wp2_with (first
        | go_skip
        | (have _t := tok0; clear _t; refine wpList_op rfl (op_bx 26 _ rfl S.out _ rfl ?_); clear S tok0; intro gn w S; replace S := Lib.hid S)
        | (refine wpList_op rfl (op_idx _ _ _ rfl 28 2 Try.underlying24 Try.sizeOf28 rfl (k := 0) rfl h00 ?_))
        | (refine wpList_op rfl (op_cell 2 _ rfl (by first | rfl | (simp only [Nat.zero_mul, Nat.add_zero])) Try.isAgg2 (CK.out _ S.out.below) ?_))
        | (refine wpList_op rfl (op_get 24 _ rfl S.out 0 rfl _ rfl Try.isAgg24 _ rfl ?_)))
    go_ret
    exact ⟨ret_bool (by simp [H0.out]), S.out.below⟩

set_option maxRecDepth 100000 in
set_option maxHeartbeats 16000000 in
theorem iLowerOf_any (x y : Nd) (A B : Option Addr) (n c m d : Nat) (w0 : World) (h : RS w0 w0.heap.size A n x.ps) (h' : RS w0 w0.heap.size B m y.ps) (hs : Small.sm x.ps) (hs' : Small.sm y.ps) (_hc : n ≤ c) (_hd : c ≤ 9223372036854775807) (_hc' : m ≤ d) (_hd' : d ≤ 9223372036854775807) :
    Calls Try.prog 12 #[ndV x A n c, ndV y B m d] w0 fun e w' => e = .returned (.bool (lowerB x y)) ∧ Below w0.heap.size w0 w' := by
  have hn : n ≤ 1048576 := by rw [← h.1]; exact hs
  have hm : m ≤ 1048576 := by rw [← h'.1]; exact hs'
  have XK := Lib.hid (fun w h => iok_any x A n c w h hn)
  have YK := Lib.hid (fun w h => iok_any y B m d w h hm)
  have SK := Lib.hid (fun w h => iStarts_any y B m d x.hi w h)
  have HX := Lib.hid h.pairs
  have HY := Lib.hid h'.pairs
  clear h h' hs hs' hn hm _hc _hd _hc' _hd'
  unfold lowerB
  generalize (decide (y.ps.length = 0) || decide (x.hi ≤ kAt y.ps 0)) = q3 at *
  generalize nodeOk x = q1 at *
  generalize nodeOk y = q2 at *
  have S := Lib.hid (Sep.start noX w0)
  have tok0 : True := trivial
  have tok1 : True := trivial
  unfold ndV at *
  go_enter Try.func12, Try.ntmps12
  go_wp2_with (first
      | go_skip
      | (have _t := tok0; clear _t; refine wpList_op rfl (op_bx 26 _ rfl S.out _ rfl ?_); clear S tok0; intro g1 w S; replace S := Lib.hid S)
      | (have _t := tok1; clear _t; refine wpList_op rfl (op_bx 26 _ rfl S.out _ rfl ?_); clear S tok1; intro g2 w S; replace S := Lib.hid S)
      | (refine wpList_op rfl (op_row 26 _ rfl S.out 1 rfl rfl Try.isAgg26 (by kernel_rfl) ?_)))
  refine (XK.out _ (HX.out.on S.out.below)).mono ?_
  rintro e w ⟨rfl, b⟩
  replace S := Lib.hid (S.out.call b)
  clear b
  cases q1
  · go_wp2_with fail
    go_ret
    exact ⟨rfl, S.out.below⟩
  go_wp2_with (first
      | go_skip
      | (refine wpList_op rfl (op_row 26 _ rfl S.out 0 rfl rfl Try.isAgg26 (by kernel_rfl) ?_)))
  refine (YK.out _ (HY.out.on S.out.below)).mono ?_
  rintro e w ⟨rfl, b⟩
  replace S := Lib.hid (S.out.call b)
  clear b
  cases q2
  · go_wp2_with fail
    go_ret
    exact ⟨rfl, S.out.below⟩
  by_cases h1 : x.lv = y.lv
  rotate_left
  · have g1 : (x.lv == y.lv) = false := by simpa using h1
    have H1 := Lib.hid h1
    clear h1
    go_wp2_with (first
        | go_skip
        | (refine wpList_op rfl (op_get 2 _ rfl S.out 1 rfl _ rfl Try.isAgg2 _ rfl ?_))
        | (refine wpList_op rfl (op_get 2 _ rfl S.out 0 rfl _ rfl Try.isAgg2 _ rfl ?_)))
    go_ret
    exact ⟨ret_bool (by simp [H1.out]), S.out.below⟩
  have g1 : (x.lv == y.lv) = true := by simpa using h1
  have H1 := Lib.hid h1
  clear h1
  by_cases h2 : -1 < x.hi
  rotate_left
  · have g2 : decide (-1 < x.hi) = false := by simpa using h2
    have H2 : Hid (decide (0 ≤ x.hi) = false) := Lib.hid (by simp; omega)
    clear h2
    go_wp2_with (first
        | go_skip
        | (refine wpList_op rfl (op_get 2 _ rfl S.out 1 rfl _ rfl Try.isAgg2 _ rfl ?_))
        | (refine wpList_op rfl (op_get 2 _ rfl S.out 0 rfl _ rfl Try.isAgg2 _ rfl ?_)))
    go_ret
    exact ⟨ret_bool (by simp [H1.out, H2.out]), S.out.below⟩
  have g2 : decide (-1 < x.hi) = true := by simpa using h2
  have H2 : Hid (decide (0 ≤ x.hi) = true) := Lib.hid (by simp; omega)
  clear h2
  go_wp2_with (first
      | go_skip
      | (refine wpList_op rfl (op_get 2 _ rfl S.out 1 rfl _ rfl Try.isAgg2 _ rfl ?_))
      | (refine wpList_op rfl (op_get 2 _ rfl S.out 0 rfl _ rfl Try.isAgg2 _ rfl ?_))
      | (refine wpList_op rfl (op_row 26 _ rfl S.out 0 rfl rfl Try.isAgg26 (by kernel_rfl) ?_)))
  refine (SK.out _ (HY.out.on S.out.below)).mono ?_
  rintro e w ⟨rfl, b⟩
  replace S := Lib.hid (S.out.call b)
  clear b
  go_wp2_with fail
  go_ret
  exact ⟨ret_bool (by simp [H1.out, H2.out]), S.out.below⟩
end Go.Proofs.Ytokkpbjldchjpaa

namespace Go.Proofs.Ytokkpbjldchjpaa
open Go.RowKit

/-- Both halves: the lower one's list is the front of one that is longer. -/
def GivesH (w : World) (l u : Nd) (e : Ending) (w' : World) : Prop :=
  ∃ ga ca F1 gm F2, e = .returned (.tuple #[ndV l (some ⟨ga, 0, none⟩) 3 3, ndV u (some ⟨gm, 0, none⟩) 2 2]) ∧ OwnS w' (.slice (some ⟨ga, 0, none⟩) 3 ca) l.ps F1 ∧ OwnS w' (.slice (some ⟨gm, 0, none⟩) 2 2) u.ps F2 ∧
    Apart F1 F2 ∧ Fresh F1 w w' ∧ Fresh F2 w w' ∧ Below w.heap.size w w'
/-- Two nodes and an answer, each node's list of the call's own, whatever its spare room. -/
def GivesNC (w : World) (l u : Nd) (b : Bool) (e : Ending) (w' : World) : Prop :=
  ∃ A1 c1 d1 F1 A2 c2 d2 F2, e = .returned (.tuple #[ndV l A1 l.ps.length c1, ndV u A2 u.ps.length c2, .bool b]) ∧ OwnS w' (.slice A1 l.ps.length d1) l.ps F1 ∧ OwnS w' (.slice A2 u.ps.length d2) u.ps F2 ∧
    Apart F1 F2 ∧ Fresh F1 w w' ∧ Fresh F2 w w' ∧ Below w.heap.size w w' ∧ (l.ps.length ≤ c1 ∧ c1 ≤ 9223372036854775807) ∧ (u.ps.length ≤ c2 ∧ c2 ≤ 9223372036854775807)
theorem none_NC {w w' : World} (b : Below w.heap.size w w') : GivesNC w zeroN zeroN false (.returned (.tuple #[.agg #[.int .i64 0, .slice none 0 0, .int .i64 0, .int .i64 0, .int .i64 0], .agg #[.int .i64 0, .slice none 0 0, .int .i64 0, .int .i64 0, .int .i64 0], .bool false])) w' :=
  ⟨none, 0, 0, fun _ => False, none, 0, 0, fun _ => False, rfl, OwnS.nil _ _, OwnS.nil _ _, fun _ hk => absurd hk id, fun _ hk => absurd hk id, fun _ hk => absurd hk id, b, ⟨Nat.zero_le _, by omega⟩, ⟨Nat.zero_le _, by omega⟩⟩
theorem Sep.givesH {w0 w : World} {L : List Item} (h : Sep noX w0 L w) (i j : Nat) (hij : j < i) {l u : Nd} {ga gm n ca : Nat} {zs : List Pr} {F G : FP} (e : L[i]? = some (ow (.slice (some ⟨ga, 0, none⟩) n ca) zs F)) (e' : L[j]? = some (ow (.slice (some ⟨gm, 0, none⟩) 2 2) u.ps G))
    (hn : 3 ≤ n) (hl : l.ps = zs.take 3) : GivesH w0 l u (.returned (.tuple #[ndV l (some ⟨ga, 0, none⟩) 3 3, ndV u (some ⟨gm, 0, none⟩) 2 2])) w := by
  obtain ⟨h1, h2, h3⟩ := h.ends i e
  obtain ⟨h4, h5, _⟩ := h.ends j e'
  exact ⟨ga, ca, F, gm, G, rfl, by rw [hl]; exact h1.frontE hn, h4, (h.two j i hij e' e).symm, h2, h5, h3⟩
theorem RP.key0 {w : World} {B : Nat} {g : Nat} {zs : List Pr} (h : RP w B (some ⟨g, 0, none⟩) 2 (zs.drop 3)) (hl : zs.length = 5) : w.cell? ⟨g, 0, none⟩ = some (.int .i64 (kAt zs 3)) := by
  obtain ⟨b, off, e, _, hc⟩ := h.2 (by omega)
  cases e
  have := (hc 0 (by omega)).1
  rw [show kAt (zs.drop 3) 0 = kAt zs 3 from by unfold kAt; simp] at this
  exact this
theorem pOk_right {zs : List Pr} (h : pOk zs = true) (j : Nat) (hj : j < zs.length) : rightB (kAt zs j) (vAt zs j) = true := ((pOk_iff zs).1 h).1 j hj |>.1
theorem half_full (x : Nd) (k v at_ : Int) (hl : x.ps.length = 4) (hh : hitB x.ps k = false) (h1 : nodeOk (loN x k v at_) = true) (h2 : nodeOk (upN x k v) = true) : rightB k v = true ∧ numB at_ = true := by
  have p1 := nodeOk_pOk h1
  have p2 := nodeOk_pOk h2
  have hz : (insL x.ps k v).length = 5 := by rw [insL_length, hh, hl]; rfl
  have hg : geIx x.ps k ≤ 4 := by have := geIx_le x.ps k; omega
  have hk : (insL x.ps k v)[geIx x.ps k]? = some (k, v) := by
    unfold insL
    rw [List.append_assoc, List.getElem?_append_right (by rw [List.length_take]; omega), List.length_take, Nat.min_eq_left (by omega)]
    simp
  have l1 : (loN x k v at_).ps = (insL x.ps k v).take 3 := rfl
  have l2 : (upN x k v).ps = (insL x.ps k v).drop 3 := rfl
  rw [l1] at p1
  rw [l2] at p2
  constructor
  · rcases Nat.lt_or_ge (geIx x.ps k) 3 with h3 | h3
    · have h4 := pOk_right p1 (geIx x.ps k) (by rw [List.length_take]; omega)
      have h5 : ((insL x.ps k v).take 3)[geIx x.ps k]? = some (k, v) := by rw [List.getElem?_take_of_lt h3]; exact hk
      unfold kAt vAt at h4
      rw [List.getD_eq_getElem?_getD, h5] at h4
      exact h4
    · have h4 := pOk_right p2 (geIx x.ps k - 3) (by rw [List.length_drop]; omega)
      have h5 : ((insL x.ps k v).drop 3)[geIx x.ps k - 3]? = some (k, v) := by rw [List.getElem?_drop, show 3 + (geIx x.ps k - 3) = geIx x.ps k by omega]; exact hk
      unfold kAt vAt at h4
      rw [List.getD_eq_getElem?_getD, h5] at h4
      exact h4
  · have h4 := pOk_right p2 0 (by rw [List.length_drop]; omega)
    have h5 : kAt ((insL x.ps k v).drop 3) 0 = kAt (insL x.ps k v) 3 := by unfold kAt; simp
    rw [h5] at h4
    have h6 : (loN x k v at_).hi ≠ -1 := by
      show kAt (insL x.ps k v) 3 ≠ -1
      unfold rightB at h4
      simp only [decide_eq_true_eq] at h4
      omega
    unfold nodeOk at h1
    rw [if_neg h6] at h1
    simp only [Bool.and_eq_true] at h1
    exact h1.2.1.2
theorem half_is (x : Nd) (k v at_ : Int) : halfB x k v at_ = (fullB x k && (nodeOk (loN x k v at_) && nodeOk (upN x k v))) := by
  unfold halfB
  cases h1 : nodeOk (loN x k v at_)
  · simp
  cases h2 : nodeOk (upN x k v)
  · simp
  unfold guardH fullB
  by_cases hl : x.ps.length = 4
  · cases hh : hitB x.ps k
    · obtain ⟨h3, h4⟩ := half_full x k v at_ hl hh h1 h2
      rw [h3, h4]
      simp [hl]
    · simp
  · simp [hl]

set_option maxRecDepth 100000 in
set_option maxHeartbeats 16000000 in
theorem iHalve_any (x : Nd) (A : Option Addr) (c : Nat) (k v at_ : Int) (w0 : World) (hP : RP w0 w0.heap.size A 4 x.ps) (hc : 4 ≤ c) (hc2 : c ≤ 9223372036854775807) (hh : hitB x.ps k = false) :
    Calls Try.prog 30 #[ndV x A 4 c, .agg #[.int .i64 k, .int .i64 v], .int .i64 at_] w0 (GivesH w0 (loN x k v at_) (upN x k v)) := by
  have hz : (insL x.ps k v).length = 5 := by rw [insL_length, hh, hP.1]; rfl
  have hg : geIx x.ps k ≤ 4 := by have := geIx_le x.ps k; rw [hP.1] at this; exact this
  have hi : insL x.ps k v = x.ps.take (geIx x.ps k) ++ [(k, v)] ++ x.ps.drop (geIx x.ps k) := by unfold insL; rw [hh]; rfl
  have FK := Lib.hid (fun w h => find_any A 4 c x.ps k w h (by omega))
  have SP := Lib.hid (fun w A' c' h h' => spliced_any A A' 4 c 1 c' (geIx x.ps k) (geIx x.ps k) x.ps [(k, v)] w h h' (Nat.le_refl _) hg hc hc2 (by omega) (by omega))
  rw [← hi] at SP
  have HP := Lib.hid hP
  have HZ := Lib.hid hz
  obtain ⟨i0, hi0, hz0, hz1, hz2⟩ := info_parts pair_info
  clear hP hc hc2 hh hz hi hg
  unfold loN upN at *
  generalize insL x.ps k v = zs at *
  generalize geIx x.ps k = g1 at *
  generalize hitB x.ps k = q1 at *
  have S := Lib.hid (Sep.start noX w0)
  have tok0 : True := trivial
  have tok1 : True := trivial
  have tok2 : True := trivial
  have tok3 : True := trivial
  unfold ndV at *
  go_enter Try.func30, Try.ntmps30
  go_wp2_with (first
      | go_skip
      | (have _t := tok0; clear _t; refine wpList_op rfl (op_bx 26 _ rfl S.out _ rfl ?_); clear S tok0; intro gn w S; replace S := Lib.hid S)
      | (have _t := tok1; clear _t; refine wpList_op rfl (op_bx 28 _ rfl S.out _ rfl ?_); clear S tok1; intro gp w S; replace S := Lib.hid S)
      | (have _t := tok2; clear _t; refine wpList_op rfl (op_nx 26 rfl S.out _ Try.zeroValue26 ?_); clear S tok2; intro r1 w S; replace S := Lib.hid S)
      | (have _t := tok3; clear _t; refine wpList_op rfl (op_nx 26 rfl S.out _ Try.zeroValue26 ?_); clear S tok3; intro r2 w S; replace S := Lib.hid S)
      | (refine wpList_op rfl (op_get 24 _ rfl S.out 3 rfl _ rfl Try.isAgg24 _ rfl ?_))
      | (refine wpList_op rfl (op_get 2 _ rfl S.out 2 rfl _ rfl Try.isAgg2 _ rfl ?_)))
  refine (FK.out _ (HP.out.on S.out.below)).mono ?_
  rintro e w ⟨rfl, b⟩
  replace S := Lib.hid (S.out.call b)
  clear b
  go_wp2_with (first
      | go_skip
      | (refine wpList_op rfl (op_get 24 _ rfl S.out 3 rfl _ rfl Try.isAgg24 _ rfl ?_))
      | (refine wpList_op rfl (op_row 28 _ rfl S.out 2 rfl rfl Try.isAgg28 (by kernel_rfl) ?_)))
  have bX : Below w.heap.size w (w.alloc (.cells #[.int .i64 k, .int .i64 v] 28)) := (Below.refl _ _).alloc (Nat.le_refl _) _
  have BX := Lib.hid bX
  clear bX
  refine (SP.out _ _ _ (HP.out.on (S.out.call BX.out).below) ((one_row w _ k v).more (by simp))).mono ?_
  rintro e w2 hh
  obtain ⟨A5, ca, rfl, own, b⟩ := own_form hh
  rw [HZ.out] at own
  obtain ⟨ga, cap, hv, _, _⟩ := own.form (by omega)
  obtain ⟨rfl, rfl⟩ : A5 = some ⟨ga, 0, none⟩ ∧ ca = cap := by simpa using hv
  have HCA : Hid (5 ≤ ca ∧ ca ≤ 9223372036854775807) := Lib.hid (by
    obtain ⟨A9, c9, h9, h8, h7⟩ := own_shape own
    cases h9
    unfold maxLen at h7
    omega)
  rw [HZ.out]
  replace S := Lib.hid ((S.out.call BX.out).own b (F := fun k => k = ga) (OwnS.of_pairs own (fun k hk => by simpa [Value.ownBlock] using hk.symm)) (fun k hk => by have := own.lt ga rfl; subst hk; exact this))
  obtain ⟨FA, hFA⟩ : ∃ FA : FP, FA = fun k => k = ga := ⟨_, rfl⟩
  rw [← hFA] at S
  clear hh own hv b hFA BX
  go_wp2_with fail
  refine wp_region_ev (by kernel_rfl) _ (by kernel_rfl) (by kernel_rfl) 54 rfl (by kernel_rfl) (fun D V w => ∃ ga2 : Nat, ∃ ga3 : Nat, Sep noX w0 [ow (.slice (some ⟨ga, 0, none⟩) 5 ca) zs FA, bx r2 #[.int .i64 0, .slice none 0 0, .int .i64 0, .int .i64 0, .int .i64 0] 26, bx r1 #[.int .i64 0, .slice none 0 0, .int .i64 0, .int .i64 0, .int .i64 0] 26, bx gp #[.int .i64 k, .int .i64 v] 28, bx gn #[.int .i64 x.lv, .slice A 4 c, .int .i64 x.hi, .int .i64 x.ri, .int .i64 x.ow] 26, cnd (D 2) em (cnd (D 4) (bx ga2 #[.int .i64 0, .slice none 0 0, .int .i64 0, .int .i64 0, .int .i64 0] 26) (bx ga2 #[.int .i64 x.lv, .slice A 4 c, .int .i64 x.hi, .int .i64 x.ri, .int .i64 x.ow] 26)), cnd (D 3) em (cnd (D 5) (bx ga3 #[.int .i64 0, .slice none 0 0, .int .i64 0, .int .i64 0, .int .i64 0] 26) (bx ga3 #[.int .i64 x.lv, .slice A 4 c, .int .i64 x.hi, .int .i64 x.ri, .int .i64 x.ow] 26))] w ∧ (D 0 = true → V 0 = .agg #[.int .i64 x.lv, .slice A 4 c, .int .i64 x.hi, .int .i64 x.ri, .int .i64 x.ow]) ∧ (D 1 = true → V 1 = .agg #[.int .i64 x.lv, .slice A 4 c, .int .i64 x.hi, .int .i64 x.ri, .int .i64 x.ow]) ∧ (D 2 = true → V 2 = .pointer (some ⟨ga2, 0, none⟩)) ∧ (D 3 = true → V 3 = .pointer (some ⟨ga3, 0, none⟩)) ∧ (D 4 = true → D 2 = true) ∧ (D 5 = true → D 3 = true)) ?_ ?_ ?_
  · intro D hD
    have d2 := hD 2 (by decide)
    have d3 := hD 3 (by decide)
    have d4 := hD 4 (by decide)
    have d5 := hD 5 (by decide)
    exact ⟨0, 0, by rw [cnd_f d2, cnd_f d3]; exact S.out.drew.ems 2, (fun h => absurd h (by rw [hD 0 (by decide)]; exact Bool.false_ne_true)), (fun h => absurd h (by rw [hD 1 (by decide)]; exact Bool.false_ne_true)), (fun h => absurd h (by rw [hD 2 (by decide)]; exact Bool.false_ne_true)), (fun h => absurd h (by rw [hD 3 (by decide)]; exact Bool.false_ne_true)), (fun h => absurd h (by rw [hD 4 (by decide)]; exact Bool.false_ne_true)), (fun h => absurd h (by rw [hD 5 (by decide)]; exact Bool.false_ne_true))⟩
  · intro i o D V w a ho hI hDi haf hev
    obtain ⟨ga2, ga3, S, f0, f1, f2, f3, o4_2, o5_3⟩ := hI
    rcases i with _ | _ | _ | _ | _ | _ | i
    · obtain rfl := Option.some.inj (show some _ = some o from ho)
      exact op_row 26 _ rfl S 4 rfl ((hev.old 3 (by kernel_rfl)).trans rfl) Try.isAgg26 (by kernel_rfl) ⟨_, rfl, ga2, ga3, S, fun _ => rfl, f1, f2, f3, o4_2, o5_3⟩
    · obtain rfl := Option.some.inj (show some _ = some o from ho)
      exact op_row 26 _ rfl S 4 rfl ((hev.old 3 (by kernel_rfl)).trans rfl) Try.isAgg26 (by kernel_rfl) ⟨_, rfl, ga2, ga3, S, f0, fun _ => rfl, f2, f3, o4_2, o5_3⟩
    · obtain rfl := Option.some.inj (show some _ = some o from ho)
      have nst : D 4 = false := by
        cases hq : D 4 with
        | false => rfl
        | true => exact absurd (o4_2 hq) (by rw [hDi]; exact Bool.false_ne_true)
      refine op_nxAt 26 rfl S 5 (by simp only [List.getElem?_cons_succ, List.getElem?_cons_zero, cnd_f hDi]) _ Try.zeroValue26 (fun g w S => ⟨_, rfl, g, ga3, (by have e : updB D 2 4 = false := nst; rw [e]; exact S), f0, f1, fun _ => rfl, f3, fun _ => rfl, o5_3⟩)
    · obtain rfl := Option.some.inj (show some _ = some o from ho)
      have nst : D 5 = false := by
        cases hq : D 5 with
        | false => rfl
        | true => exact absurd (o5_3 hq) (by rw [hDi]; exact Bool.false_ne_true)
      refine op_nxAt 26 rfl S 6 (by simp only [List.getElem?_cons_succ, List.getElem?_cons_zero, cnd_f hDi]) _ Try.zeroValue26 (fun g w S => ⟨_, rfl, ga2, g, (by have e : updB D 3 5 = false := nst; rw [e]; exact S), f0, f1, f2, fun _ => rfl, o4_2, fun _ => rfl⟩)
    · obtain rfl := Option.some.inj (show some _ = some o from ho)
      have h2 : D 2 = true := by first | exact haf ⟨2, .data⟩ (by simp) rfl | exact haf ⟨2, .phase⟩ (by simp) rfl | exact haf ⟨2, .chain⟩ (by simp) rfl
      have h0 : D 0 = true := by first | exact haf ⟨0, .data⟩ (by simp) rfl | exact haf ⟨0, .phase⟩ (by simp) rfl | exact haf ⟨0, .chain⟩ (by simp) rfl
      have ha : D 2 = true := by first | exact haf ⟨2, .data⟩ (by simp) rfl | exact haf ⟨2, .phase⟩ (by simp) rfl | exact haf ⟨2, .chain⟩ (by simp) rfl
      exact op_putR 26 _ _ rfl S 5 (g := ga2) (C := #[.int .i64 0, .slice none 0 0, .int .i64 0, .int .i64 0, .int .i64 0]) (t := 26) (by simp only [List.getElem?_cons_succ, List.getElem?_cons_zero, cnd_t ha, cnd_f hDi]) ((hev.new 2 _ 11 rfl rfl h2).trans (f2 h2)) _ ((hev.new 0 _ 28 rfl rfl h0).trans (f0 h0)) rfl (by kernel_rfl) rfl (fun w S => ⟨_, rfl, ga2, ga3, (by have e : updB D 4 2 = true := ha; rw [e]; exact S), f0, f1, f2, f3, fun _ => h2, o5_3⟩)
    · obtain rfl := Option.some.inj (show some _ = some o from ho)
      have h3 : D 3 = true := by first | exact haf ⟨3, .data⟩ (by simp) rfl | exact haf ⟨3, .phase⟩ (by simp) rfl | exact haf ⟨3, .chain⟩ (by simp) rfl
      have h1 : D 1 = true := by first | exact haf ⟨1, .data⟩ (by simp) rfl | exact haf ⟨1, .phase⟩ (by simp) rfl | exact haf ⟨1, .chain⟩ (by simp) rfl
      have ha : D 3 = true := by first | exact haf ⟨3, .data⟩ (by simp) rfl | exact haf ⟨3, .phase⟩ (by simp) rfl | exact haf ⟨3, .chain⟩ (by simp) rfl
      exact op_putR 26 _ _ rfl S 6 (g := ga3) (C := #[.int .i64 0, .slice none 0 0, .int .i64 0, .int .i64 0, .int .i64 0]) (t := 26) (by simp only [List.getElem?_cons_succ, List.getElem?_cons_zero, cnd_t ha, cnd_f hDi]) ((hev.new 3 _ 12 rfl rfl h3).trans (f3 h3)) _ ((hev.new 1 _ 29 rfl rfl h1).trans (f1 h1)) rfl (by kernel_rfl) rfl (fun w S => ⟨_, rfl, ga2, ga3, (by have e : updB D 5 3 = true := ha; rw [e]; exact S), f0, f1, f2, f3, o4_2, fun _ => h3⟩)
    · exact absurd ho (by simp)
  intro V w hI
  obtain ⟨ga2, ga3, S, f0, f1, f2, f3, o4_2, o5_3⟩ := hI
  replace f0 := f0 rfl
  replace f1 := f1 rfl
  replace f2 := f2 rfl
  replace f3 := f3 rfl
  replace S : Hid (Sep noX w0 [ow (.slice (some ⟨ga, 0, none⟩) 5 ca) zs FA, bx r2 #[.int .i64 0, .slice none 0 0, .int .i64 0, .int .i64 0, .int .i64 0] 26, bx r1 #[.int .i64 0, .slice none 0 0, .int .i64 0, .int .i64 0, .int .i64 0] 26, bx gp #[.int .i64 k, .int .i64 v] 28, bx gn #[.int .i64 x.lv, .slice A 4 c, .int .i64 x.hi, .int .i64 x.ri, .int .i64 x.ow] 26, bx ga2 #[.int .i64 x.lv, .slice A 4 c, .int .i64 x.hi, .int .i64 x.ri, .int .i64 x.ow] 26, bx ga3 #[.int .i64 x.lv, .slice A 4 c, .int .i64 x.hi, .int .i64 x.ri, .int .i64 x.ow] 26] w) := Lib.hid S
  simp only [putF, Act.put, List.setIfInBounds_toArray, List.set_cons_succ, List.set_cons_zero, f0, f1, f2, f3]
  clear f0 f1 f2 f3 o4_2 o5_3
  go_wp2_with (at_make; refine wpList_make_full _ rfl _ _ 24 rfl w.heap.size 28 i0 (.agg #[.int .i64 0, .int .i64 0]) 2 Try.underlying24 hi0 hz0 hz1 .i64 .i64 _ _ 2 rfl rfl rfl rfl (by rw [hz2]; omega) (by unfold maxLen; omega) (Nat.le_refl _) ?_)
  intro w1 hown hgrow
  have hown : w1.ownsRow w.heap.size 28 2 (.slice (some ⟨w.heap.size, 0, none⟩) 2 2) 2 (PL [((0 : Int), (0 : Int)), (0, 0)]) := by
    have := made_noughts 2
    rw [show List.replicate 2 ((0 : Int), (0 : Int)) = [(0, 0), (0, 0)] from rfl] at this
    rw [← this]; exact hown
  have hb1 : Below w.heap.size w w1 := (Below.refl _ _).grown hgrow (Nat.le_refl _) (by intro k hk; cases hk)
  have S1 := Lib.hid (S.out.own hb1 (F := fun k => k = w.heap.size) (OwnS.of_pairs hown (fun k hk => by simpa [Value.ownBlock] using hk.symm)) (fun k hk => by have := hown.lt w.heap.size rfl; subst hk; exact this))
  clear hown hb1 hgrow S
  obtain ⟨FM, hFM⟩ : ∃ FM : FP, FM = fun k => k = w.heap.size := ⟨_, rfl⟩
  rw [← hFM] at S1
  clear hFM
  generalize w.heap.size = gm at *
  clear w
  obtain ⟨w, rfl⟩ : ∃ w, w = w1 := ⟨_, rfl⟩
  have S := S1
  clear S1
  go_wp2_with (first
      | go_skip
      | (refine wpList_op rfl (op_put1_7 24 _ _ rfl S _ rfl _ rfl rfl (by kernel_rfl) (of_decide_eq_true rfl) ?_); clear S; intro w S; replace S : Hid (Sep noX w0 [ow (.slice (some ⟨gm, 0, none⟩) 2 2) [((0 : Int), (0 : Int)), (0, 0)] FM, ow (.slice (some ⟨ga, 0, none⟩) 5 ca) zs FA, bx r2 #[.int .i64 0, .slice none 0 0, .int .i64 0, .int .i64 0, .int .i64 0] 26, bx r1 #[.int .i64 0, .slice none 0 0, .int .i64 0, .int .i64 0, .int .i64 0] 26, bx gp #[.int .i64 k, .int .i64 v] 28, bx gn #[.int .i64 x.lv, .slice A 4 c, .int .i64 x.hi, .int .i64 x.ri, .int .i64 x.ow] 26, bx ga2 #[.int .i64 x.lv, .slice A 4 c, .int .i64 x.hi, .int .i64 x.ri, .int .i64 x.ow] 26, bx ga3 #[.int .i64 x.lv, .slice (some ⟨gm, 0, none⟩) 2 2, .int .i64 x.hi, .int .i64 x.ri, .int .i64 x.ow] 26] w) := S))
  refine wp_region_ev (by kernel_rfl) _ (by kernel_rfl) (by kernel_rfl) 54 rfl (by kernel_rfl) (fun D V w => Sep noX w0 [cnd (D 4) (ow (.slice (some ⟨gm, 0, none⟩) 2 2) [((0 : Int), (0 : Int)), (0, 0)] FM) (ow (.slice (some ⟨gm, 0, none⟩) 2 2) (zs.drop 3) FM), ow (.slice (some ⟨ga, 0, none⟩) 5 ca) zs FA, bx r2 #[.int .i64 0, .slice none 0 0, .int .i64 0, .int .i64 0, .int .i64 0] 26, bx r1 #[.int .i64 0, .slice none 0 0, .int .i64 0, .int .i64 0, .int .i64 0] 26, bx gp #[.int .i64 k, .int .i64 v] 28, bx gn #[.int .i64 x.lv, .slice A 4 c, .int .i64 x.hi, .int .i64 x.ri, .int .i64 x.ow] 26, bx ga2 #[.int .i64 x.lv, .slice A 4 c, .int .i64 x.hi, .int .i64 x.ri, .int .i64 x.ow] 26, bx ga3 #[.int .i64 x.lv, .slice (some ⟨gm, 0, none⟩) 2 2, .int .i64 x.hi, .int .i64 x.ri, .int .i64 x.ow] 26] w ∧ (D 0 = true → V 0 = .pointer (some ⟨ga3, 1, none⟩)) ∧ (D 1 = true → V 1 = .slice (some ⟨gm, 0, none⟩) 2 2) ∧ (D 2 = true → V 2 = .slice (some ⟨ga, 0, none⟩) 5 ca) ∧ (D 3 = true → V 3 = .slice (some ⟨ga, 0 + 3 * 2, none⟩) (5 - 3) (ca - 3)) ∧ (D 4 = true → V 4 = .int .i64 2)) ?_ ?_ ?_
  · intro D hD
    have d4 := hD 4 (by decide)
    exact ⟨by simp only [cnd_f d4]; exact S.out.drew.ems 0, (fun h => absurd h (by rw [hD 0 (by decide)]; exact Bool.false_ne_true)), (fun h => absurd h (by rw [hD 1 (by decide)]; exact Bool.false_ne_true)), (fun h => absurd h (by rw [hD 2 (by decide)]; exact Bool.false_ne_true)), (fun h => absurd h (by rw [hD 3 (by decide)]; exact Bool.false_ne_true)), (fun h => absurd h (by rw [hD 4 (by decide)]; exact Bool.false_ne_true))⟩
  · intro i o D V w a ho hI hDi haf hev
    obtain ⟨S, f0, f1, f2, f3, f4⟩ := hI
    rcases i with _ | _ | _ | _ | _ | i
    · obtain rfl := Option.some.inj (show some _ = some o from ho)
      exact op_field _ _ _ rfl ((hev.old 12 (by kernel_rfl)).trans rfl) (by kernel_rfl) ⟨_, rfl, S, fun _ => rfl, f1, f2, f3, f4⟩
    · obtain rfl := Option.some.inj (show some _ = some o from ho)
      have h0 : D 0 = true := by first | exact haf ⟨0, .data⟩ (by simp) rfl | exact haf ⟨0, .phase⟩ (by simp) rfl | exact haf ⟨0, .chain⟩ (by simp) rfl
      exact op_get 24 _ rfl S 7 rfl 1 ((hev.new 0 _ 35 rfl rfl h0).trans (f0 h0)) Try.isAgg24 _ rfl ⟨_, rfl, S, f0, fun _ => rfl, f2, f3, f4⟩
    · obtain rfl := Option.some.inj (show some _ = some o from ho)
      exact op_move (.inl rfl) ((hev.old 10 (by kernel_rfl)).trans rfl) ⟨_, rfl, S, f0, f1, fun _ => rfl, f3, f4⟩
    · obtain rfl := Option.some.inj (show some _ = some o from ho)
      have h2 : D 2 = true := by first | exact haf ⟨2, .data⟩ (by simp) rfl | exact haf ⟨2, .phase⟩ (by simp) rfl | exact haf ⟨2, .chain⟩ (by simp) rfl
      exact op_slFrom _ 28 2 3 _ rfl Try.underlying24 Try.sizeOf28 ((hev.new 2 _ 37 rfl rfl h2).trans (f2 h2)) (by omega) (by have := HCA.out; omega) (by have := HCA.out; omega) ⟨_, rfl, S, f0, f1, f2, fun _ => rfl, f4⟩
    · obtain rfl := Option.some.inj (show some _ = some o from ho)
      have h1 : D 1 = true := by first | exact haf ⟨1, .data⟩ (by simp) rfl | exact haf ⟨1, .phase⟩ (by simp) rfl | exact haf ⟨1, .chain⟩ (by simp) rfl
      have h3 : D 3 = true := by first | exact haf ⟨3, .data⟩ (by simp) rfl | exact haf ⟨3, .phase⟩ (by simp) rfl | exact haf ⟨3, .chain⟩ (by simp) rfl
      have hx0 := ((hev.new 1 _ 36 rfl rfl h1).trans (f1 h1))
      have hx1 := ((hev.new 3 _ 38 rfl rfl h3).trans (f3 h3))
      have rp := (OwnS.rp (S.get 1 rfl) HZ.out).drop3
      exact op_copyP _ _ rfl S 0 (g := gm) (m := 2) (c := 2) (xs := [((0 : Int), (0 : Int)), (0, 0)]) (F := FM) (by simp only [List.getElem?_cons_zero, cnd_f hDi]) hx0 rfl rp hx1 (by omega) (fun w S => ⟨_, rfl, S, f0, f1, f2, f3, fun _ => rfl⟩)
    · exact absurd ho (by simp)
  intro V w hI
  obtain ⟨S, f0, f1, f2, f3, f4⟩ := hI
  replace f0 := f0 rfl
  replace f1 := f1 rfl
  replace f2 := f2 rfl
  replace f3 := f3 rfl
  replace f4 := f4 rfl
  replace S : Hid (Sep noX w0 [ow (.slice (some ⟨gm, 0, none⟩) 2 2) (zs.drop 3) FM, ow (.slice (some ⟨ga, 0, none⟩) 5 ca) zs FA, bx r2 #[.int .i64 0, .slice none 0 0, .int .i64 0, .int .i64 0, .int .i64 0] 26, bx r1 #[.int .i64 0, .slice none 0 0, .int .i64 0, .int .i64 0, .int .i64 0] 26, bx gp #[.int .i64 k, .int .i64 v] 28, bx gn #[.int .i64 x.lv, .slice A 4 c, .int .i64 x.hi, .int .i64 x.ri, .int .i64 x.ow] 26, bx ga2 #[.int .i64 x.lv, .slice A 4 c, .int .i64 x.hi, .int .i64 x.ri, .int .i64 x.ow] 26, bx ga3 #[.int .i64 x.lv, .slice (some ⟨gm, 0, none⟩) 2 2, .int .i64 x.hi, .int .i64 x.ri, .int .i64 x.ow] 26] w) := Lib.hid S
  simp only [putF, Act.put, List.setIfInBounds_toArray, List.set_cons_succ, List.set_cons_zero, f0, f1, f2, f3, f4]
  clear f0 f1 f2 f3 f4
  go_wp2_with (first
      | go_skip
      | (refine wpList_op rfl (op_slTo3 _ 28 2 3 _ rfl Try.underlying24 Try.sizeOf28 rfl (by have := HCA.out; omega) (by omega) ?_))
      | (refine wpList_op rfl (op_put1_6 24 _ _ rfl S _ rfl _ rfl rfl (by kernel_rfl) (of_decide_eq_true rfl) ?_); clear S; intro w S; replace S : Hid (Sep noX w0 [ow (.slice (some ⟨gm, 0, none⟩) 2 2) (zs.drop 3) FM, ow (.slice (some ⟨ga, 0, none⟩) 5 ca) zs FA, bx r2 #[.int .i64 0, .slice none 0 0, .int .i64 0, .int .i64 0, .int .i64 0] 26, bx r1 #[.int .i64 0, .slice none 0 0, .int .i64 0, .int .i64 0, .int .i64 0] 26, bx gp #[.int .i64 k, .int .i64 v] 28, bx gn #[.int .i64 x.lv, .slice A 4 c, .int .i64 x.hi, .int .i64 x.ri, .int .i64 x.ow] 26, bx ga2 #[.int .i64 x.lv, .slice (some ⟨ga, 0, none⟩) 3 3, .int .i64 x.hi, .int .i64 x.ri, .int .i64 x.ow] 26, bx ga3 #[.int .i64 x.lv, .slice (some ⟨gm, 0, none⟩) 2 2, .int .i64 x.hi, .int .i64 x.ri, .int .i64 0] 26] w) := S)
      | (refine wpList_op rfl (op_get 24 _ rfl S.out 7 rfl _ rfl Try.isAgg24 _ rfl ?_))
      | (refine wpList_op rfl (op_idx _ _ _ rfl 28 2 Try.underlying24 Try.sizeOf28 rfl (k := 0) rfl (by omega) ?_))
      | (have ck := RP.key0 (OwnS.rp (m := 2) (S.out.get 0 rfl) (by rw [List.length_drop, HZ.out])) HZ.out; refine wpList_op rfl (op_cell 2 _ rfl rfl Try.isAgg2 ck ?_); clear ck)
      | (refine wpList_op rfl (op_put1_6 2 _ _ rfl S 2 rfl _ rfl rfl (by kernel_rfl) (of_decide_eq_true rfl) ?_); clear S; intro w S; replace S : Hid (Sep noX w0 [ow (.slice (some ⟨gm, 0, none⟩) 2 2) (zs.drop 3) FM, ow (.slice (some ⟨ga, 0, none⟩) 5 ca) zs FA, bx r2 #[.int .i64 0, .slice none 0 0, .int .i64 0, .int .i64 0, .int .i64 0] 26, bx r1 #[.int .i64 0, .slice none 0 0, .int .i64 0, .int .i64 0, .int .i64 0] 26, bx gp #[.int .i64 k, .int .i64 v] 28, bx gn #[.int .i64 x.lv, .slice A 4 c, .int .i64 x.hi, .int .i64 x.ri, .int .i64 x.ow] 26, bx ga2 #[.int .i64 x.lv, .slice (some ⟨ga, 0, none⟩) 3 3, .int .i64 (kAt zs 3), .int .i64 x.ri, .int .i64 x.ow] 26, bx ga3 #[.int .i64 x.lv, .slice (some ⟨gm, 0, none⟩) 2 2, .int .i64 x.hi, .int .i64 x.ri, .int .i64 0] 26] w) := S)
      | (refine wpList_op rfl (op_put1_6 2 _ _ rfl S 3 rfl _ rfl rfl (by kernel_rfl) (of_decide_eq_true rfl) ?_); clear S; intro w S; replace S : Hid (Sep noX w0 [ow (.slice (some ⟨gm, 0, none⟩) 2 2) (zs.drop 3) FM, ow (.slice (some ⟨ga, 0, none⟩) 5 ca) zs FA, bx r2 #[.int .i64 0, .slice none 0 0, .int .i64 0, .int .i64 0, .int .i64 0] 26, bx r1 #[.int .i64 0, .slice none 0 0, .int .i64 0, .int .i64 0, .int .i64 0] 26, bx gp #[.int .i64 k, .int .i64 v] 28, bx gn #[.int .i64 x.lv, .slice A 4 c, .int .i64 x.hi, .int .i64 x.ri, .int .i64 x.ow] 26, bx ga2 #[.int .i64 x.lv, .slice (some ⟨ga, 0, none⟩) 3 3, .int .i64 (kAt zs 3), .int .i64 at_, .int .i64 x.ow] 26, bx ga3 #[.int .i64 x.lv, .slice (some ⟨gm, 0, none⟩) 2 2, .int .i64 x.hi, .int .i64 x.ri, .int .i64 0] 26] w) := S)
      | (refine wpList_op rfl (op_put1_7 2 _ _ rfl S _ rfl _ rfl rfl (by kernel_rfl) (of_decide_eq_true rfl) ?_); clear S; intro w S; replace S : Hid (Sep noX w0 [ow (.slice (some ⟨gm, 0, none⟩) 2 2) (zs.drop 3) FM, ow (.slice (some ⟨ga, 0, none⟩) 5 ca) zs FA, bx r2 #[.int .i64 0, .slice none 0 0, .int .i64 0, .int .i64 0, .int .i64 0] 26, bx r1 #[.int .i64 0, .slice none 0 0, .int .i64 0, .int .i64 0, .int .i64 0] 26, bx gp #[.int .i64 k, .int .i64 v] 28, bx gn #[.int .i64 x.lv, .slice A 4 c, .int .i64 x.hi, .int .i64 x.ri, .int .i64 x.ow] 26, bx ga2 #[.int .i64 x.lv, .slice A 4 c, .int .i64 x.hi, .int .i64 x.ri, .int .i64 x.ow] 26, bx ga3 #[.int .i64 x.lv, .slice (some ⟨gm, 0, none⟩) 2 2, .int .i64 x.hi, .int .i64 x.ri, .int .i64 0] 26] w) := S))
  refine wp_region_ev (by kernel_rfl) _ (by kernel_rfl) (by kernel_rfl) 54 rfl (by kernel_rfl) (fun D V w => Sep noX w0 [ow (.slice (some ⟨gm, 0, none⟩) 2 2) (zs.drop 3) FM, ow (.slice (some ⟨ga, 0, none⟩) 5 ca) zs FA, cnd (D 3) (bx r2 #[.int .i64 0, .slice none 0 0, .int .i64 0, .int .i64 0, .int .i64 0] 26) (bx r2 #[.int .i64 x.lv, .slice (some ⟨gm, 0, none⟩) 2 2, .int .i64 x.hi, .int .i64 x.ri, .int .i64 0] 26), cnd (D 2) (bx r1 #[.int .i64 0, .slice none 0 0, .int .i64 0, .int .i64 0, .int .i64 0] 26) (bx r1 #[.int .i64 x.lv, .slice (some ⟨ga, 0, none⟩) 3 3, .int .i64 (kAt zs 3), .int .i64 at_, .int .i64 x.ow] 26), bx gp #[.int .i64 k, .int .i64 v] 28, bx gn #[.int .i64 x.lv, .slice A 4 c, .int .i64 x.hi, .int .i64 x.ri, .int .i64 x.ow] 26, bx ga2 #[.int .i64 x.lv, .slice (some ⟨ga, 0, none⟩) 3 3, .int .i64 (kAt zs 3), .int .i64 at_, .int .i64 x.ow] 26, bx ga3 #[.int .i64 x.lv, .slice (some ⟨gm, 0, none⟩) 2 2, .int .i64 x.hi, .int .i64 x.ri, .int .i64 0] 26] w ∧ (D 0 = true → V 0 = .agg #[.int .i64 x.lv, .slice (some ⟨ga, 0, none⟩) 3 3, .int .i64 (kAt zs 3), .int .i64 at_, .int .i64 x.ow]) ∧ (D 1 = true → V 1 = .agg #[.int .i64 x.lv, .slice (some ⟨gm, 0, none⟩) 2 2, .int .i64 x.hi, .int .i64 x.ri, .int .i64 0])) ?_ ?_ ?_
  · intro D hD
    have d2 := hD 2 (by decide)
    have d3 := hD 3 (by decide)
    exact ⟨by rw [cnd_f d3, cnd_f d2]; exact S.out.drew.ems 0, (fun h => absurd h (by rw [hD 0 (by decide)]; exact Bool.false_ne_true)), (fun h => absurd h (by rw [hD 1 (by decide)]; exact Bool.false_ne_true))⟩
  · intro i o D V w a ho hI hDi haf hev
    obtain ⟨S, f0, f1⟩ := hI
    rcases i with _ | _ | _ | _ | i
    · obtain rfl := Option.some.inj (show some _ = some o from ho)
      exact op_row 26 _ rfl S 6 rfl ((hev.old 11 (by kernel_rfl)).trans rfl) Try.isAgg26 (by kernel_rfl) ⟨_, rfl, S, fun _ => rfl, f1⟩
    · obtain rfl := Option.some.inj (show some _ = some o from ho)
      exact op_row 26 _ rfl S 7 rfl ((hev.old 12 (by kernel_rfl)).trans rfl) Try.isAgg26 (by kernel_rfl) ⟨_, rfl, S, f0, fun _ => rfl⟩
    · obtain rfl := Option.some.inj (show some _ = some o from ho)
      have h0 : D 0 = true := by first | exact haf ⟨0, .data⟩ (by simp) rfl | exact haf ⟨0, .phase⟩ (by simp) rfl | exact haf ⟨0, .chain⟩ (by simp) rfl
      exact op_putR 26 _ _ rfl S 3 (g := r1) (C := #[.int .i64 0, .slice none 0 0, .int .i64 0, .int .i64 0, .int .i64 0]) (t := 26) (by simp only [List.getElem?_cons_succ, List.getElem?_cons_zero, cnd_f hDi]) ((hev.old 6 (by kernel_rfl)).trans rfl) _ ((hev.new 0 _ 52 rfl rfl h0).trans (f0 h0)) rfl (by kernel_rfl) rfl (fun w S => ⟨_, rfl, S, f0, f1⟩)
    · obtain rfl := Option.some.inj (show some _ = some o from ho)
      have h1 : D 1 = true := by first | exact haf ⟨1, .data⟩ (by simp) rfl | exact haf ⟨1, .phase⟩ (by simp) rfl | exact haf ⟨1, .chain⟩ (by simp) rfl
      exact op_putR 26 _ _ rfl S 2 (g := r2) (C := #[.int .i64 0, .slice none 0 0, .int .i64 0, .int .i64 0, .int .i64 0]) (t := 26) (by simp only [List.getElem?_cons_succ, List.getElem?_cons_zero, cnd_f hDi]) ((hev.old 7 (by kernel_rfl)).trans rfl) _ ((hev.new 1 _ 53 rfl rfl h1).trans (f1 h1)) rfl (by kernel_rfl) rfl (fun w S => ⟨_, rfl, S, f0, f1⟩)
    · exact absurd ho (by simp)
  intro V w hI
  obtain ⟨S, f0, f1⟩ := hI
  replace f0 := f0 rfl
  replace f1 := f1 rfl
  replace S : Hid (Sep noX w0 [ow (.slice (some ⟨gm, 0, none⟩) 2 2) (zs.drop 3) FM, ow (.slice (some ⟨ga, 0, none⟩) 5 ca) zs FA, bx r2 #[.int .i64 x.lv, .slice (some ⟨gm, 0, none⟩) 2 2, .int .i64 x.hi, .int .i64 x.ri, .int .i64 0] 26, bx r1 #[.int .i64 x.lv, .slice (some ⟨ga, 0, none⟩) 3 3, .int .i64 (kAt zs 3), .int .i64 at_, .int .i64 x.ow] 26, bx gp #[.int .i64 k, .int .i64 v] 28, bx gn #[.int .i64 x.lv, .slice A 4 c, .int .i64 x.hi, .int .i64 x.ri, .int .i64 x.ow] 26, bx ga2 #[.int .i64 x.lv, .slice (some ⟨ga, 0, none⟩) 3 3, .int .i64 (kAt zs 3), .int .i64 at_, .int .i64 x.ow] 26, bx ga3 #[.int .i64 x.lv, .slice (some ⟨gm, 0, none⟩) 2 2, .int .i64 x.hi, .int .i64 x.ri, .int .i64 0] 26] w) := Lib.hid S
  simp only [putF, Act.put, List.setIfInBounds_toArray, List.set_cons_succ, List.set_cons_zero, f0, f1]
  clear f0 f1
  go_wp2_with fail
  exact bodyPost_ret (results_cc rfl _ S.out 3 2 rfl rfl rfl rfl Try.isAgg26 Try.isAgg26 (by kernel_rfl) (by kernel_rfl)) rfl (by exact S.out.givesH 1 0 (by omega) (l := ⟨x.lv, zs.take 3, kAt zs 3, at_, x.ow⟩) (u := ⟨x.lv, zs.drop 3, x.hi, x.ri, 0⟩) rfl rfl (by omega) rfl)

end Go.Proofs.Ytokkpbjldchjpaa

namespace Go.Proofs.Ytokkpbjldchjpaa
open Go.RowKit

theorem Sep.givesNC {w0 w : World} {L : List Item} (h : Sep noX w0 L w) (i j : Nat) (hij : i < j) {l u : Nd} {A1 A2 : Option Addr} {m1 m2 c1 c2 d1 d2 : Nat} {F G : FP} (e : L[i]? = some (ow (.slice A1 m1 d1) l.ps F)) (e' : L[j]? = some (ow (.slice A2 m2 d2) u.ps G))
    (h1 : l.ps.length = m1) (h2 : u.ps.length = m2) (k1 : m1 ≤ c1 ∧ c1 ≤ 9223372036854775807) (k2 : m2 ≤ c2 ∧ c2 ≤ 9223372036854775807) : GivesNC w0 l u true (.returned (.tuple #[ndV l A1 m1 c1, ndV u A2 m2 c2, .bool true])) w := by
  subst h1 h2
  obtain ⟨h1, h2, h3⟩ := h.ends i e
  obtain ⟨h4, h5, _⟩ := h.ends j e'
  exact ⟨A1, c1, d1, F, A2, c2, d2, G, rfl, h1, h4, h.two i j hij e e', h2, h5, h3, k1, k2⟩
set_option maxRecDepth 100000 in
set_option maxHeartbeats 16000000 in
theorem iHalves_any (x : Nd) (A : Option Addr) (n c : Nat) (k v at_ : Int) (w0 : World) (hP : RP w0 w0.heap.size A n x.ps) (hn : n ≤ 1048576) (hc : n ≤ c) (hc2 : c ≤ 9223372036854775807) :
    Calls Try.prog 8 #[ndV x A n c, .agg #[.int .i64 k, .int .i64 v], .int .i64 at_] w0 (GivesNC w0 (loH x k v at_) (upH x k v at_) (halfB x k v at_)) := by
  have FK := Lib.hid (fun w h => iFull_any x A n c k v w h hn hc hc2)
  have HK : Hid (fullB x k = true → n = 4 ∧ ∀ w, RP w w.heap.size A n x.ps → Calls Try.prog 30 #[ndV x A n c, .agg #[.int .i64 k, .int .i64 v], .int .i64 at_] w (GivesH w (loN x k v at_) (upN x k v))) := Lib.hid (fun h => by
    unfold fullB at h
    simp only [Bool.and_eq_true, decide_eq_true_eq, Bool.not_eq_true'] at h
    obtain ⟨_, h1, h2⟩ := h
    have h3 : n = 4 := by rw [← hP.1]; exact h1
    subst h3
    exact ⟨rfl, fun w hw => iHalve_any x A c k v at_ w hw hc hc2 h2⟩)
  have hl1 : (fullB x k = true → (loN x k v at_).ps.length = 3 ∧ (upN x k v).ps.length = 2) := fun h => by
    unfold fullB at h
    simp only [Bool.and_eq_true, decide_eq_true_eq, Bool.not_eq_true'] at h
    have hz : (insL x.ps k v).length = 5 := by rw [insL_length, h.2.2, h.2.1]; rfl
    show ((insL x.ps k v).take 3).length = 3 ∧ ((insL x.ps k v).drop 3).length = 2
    rw [List.length_take, List.length_drop, hz]
    exact ⟨rfl, rfl⟩
  have LK := Lib.hid (fun A c w h => iok_any (loN x k v at_) A 3 c w h (by omega))
  have UK := Lib.hid (fun A c w h => iok_any (upN x k v) A 2 c w h (by omega))
  have HB := Lib.hid (half_is x k v at_)
  have EL : Hid (halfB x k v at_ = true → loH x k v at_ = loN x k v at_ ∧ upH x k v at_ = upN x k v) := Lib.hid (fun h => by unfold loH upH; rw [h]; exact ⟨rfl, rfl⟩)
  have EF : Hid (halfB x k v at_ = false → loH x k v at_ = zeroN ∧ upH x k v at_ = zeroN ∧ halfB x k v at_ = false) := Lib.hid (fun h => by unfold loH upH; rw [h]; exact ⟨rfl, rfl, rfl⟩)
  have HP := Lib.hid hP
  have HL := Lib.hid hl1
  clear hP hn hc hc2 hl1
  generalize loH x k v at_ = lo0 at *
  generalize upH x k v at_ = up0 at *
  generalize halfB x k v at_ = hb at *
  generalize loN x k v at_ = lo at *
  generalize upN x k v = up at *
  generalize fullB x k = q1 at *
  generalize nodeOk lo = q2 at *
  generalize nodeOk up = q3 at *
  have S := Lib.hid (Sep.start noX w0)
  have tok0 : True := trivial
  have tok1 : True := trivial
  have tok2 : True := trivial
  have tok3 : True := trivial
  unfold ndV at *
  go_enter Try.func8, Try.ntmps8
  go_wp2_with (first
      | go_skip
      | (have _t := tok0; clear _t; refine wpList_op rfl (op_bx 26 _ rfl S.out _ rfl ?_); clear S tok0; intro gn w S; replace S := Lib.hid S)
      | (have _t := tok1; clear _t; refine wpList_op rfl (op_bx 28 _ rfl S.out _ rfl ?_); clear S tok1; intro gp w S; replace S := Lib.hid S)
      | (have _t := tok2; clear _t; refine wpList_op rfl (op_nx 26 rfl S.out _ Try.zeroValue26 ?_); clear S tok2; intro r1 w S; replace S := Lib.hid S)
      | (have _t := tok3; clear _t; refine wpList_op rfl (op_nx 26 rfl S.out _ Try.zeroValue26 ?_); clear S tok3; intro r2 w S; replace S := Lib.hid S)
      | (refine wpList_op rfl (op_row 26 _ rfl S.out 3 rfl rfl Try.isAgg26 (by kernel_rfl) ?_))
      | (refine wpList_op rfl (op_row 28 _ rfl S.out 2 rfl rfl Try.isAgg28 (by kernel_rfl) ?_)))
  refine (FK.out _ (HP.out.on S.out.below)).mono ?_
  rintro e w ⟨rfl, b⟩
  replace S := Lib.hid (S.out.call b)
  clear b
  cases q1
  · have HF := Lib.hid (EF.out (by rw [HB.out]; rfl))
    go_wp2_with (first
        | go_skip
        | (refine wpList_op rfl (op_putR_1 26 _ _ rfl S rfl _ rfl rfl (by kernel_rfl) rfl ?_); clear S; intro w S)
        | (refine wpList_op rfl (op_putR_0 26 _ _ rfl S rfl _ rfl rfl (by kernel_rfl) rfl ?_); clear S; intro w S))
    exact bodyPost_ret (results_ccs rfl _ S.out 1 0 rfl rfl rfl rfl Try.isAgg26 Try.isAgg26 (by kernel_rfl) (by kernel_rfl)) rfl (by obtain ⟨e1, e2, e3⟩ := HF.out; rw [e1, e2, e3]; exact none_NC S.out.below)
  obtain ⟨h4, HH⟩ := HK.out rfl
  obtain ⟨hl1, hl2⟩ := HL.out rfl
  have HL1 := Lib.hid hl1
  have HL2 := Lib.hid hl2
  have HK2 := Lib.hid HH
  clear HH h4 HK HL hl1 hl2
  go_wp2_with (first
      | go_skip
      | (refine wpList_op rfl (op_row 26 _ rfl S.out 3 rfl rfl Try.isAgg26 (by kernel_rfl) ?_))
      | (refine wpList_op rfl (op_row 28 _ rfl S.out 2 rfl rfl Try.isAgg28 (by kernel_rfl) ?_)))
  refine (HK2.out _ (HP.out.on S.out.below)).mono ?_
  rintro e w2 hh
  obtain ⟨ga, ca, F1, gm, F2, rfl, o1, o2, ap, f1, f2, b⟩ := hh
  unfold ndV
  replace S : Hid (Sep noX w0 [ow (.slice (some ⟨ga, 0, none⟩) 3 ca) lo.ps F1, ow (.slice (some ⟨gm, 0, none⟩) 2 2) up.ps F2, bx r2 #[.int .i64 0, .slice none 0 0, .int .i64 0, .int .i64 0, .int .i64 0] 26, bx r1 #[.int .i64 0, .slice none 0 0, .int .i64 0, .int .i64 0, .int .i64 0] 26, bx gp #[.int .i64 k, .int .i64 v] 28, bx gn #[.int .i64 x.lv, .slice A n c, .int .i64 x.hi, .int .i64 x.ri, .int .i64 x.ow] 26] w2) := Lib.hid (S.out.gain2 b (ow (.slice (some ⟨ga, 0, none⟩) 3 ca) lo.ps F1) (ow (.slice (some ⟨gm, 0, none⟩) 2 2) up.ps F2) o1 o2 f1 f2 ap)
  clear o1 o2 ap f1 f2 b
  have tokA : True := trivial
  have tokB : True := trivial
  go_wp2_with (first
      | go_skip
      | (have _t := tokA; clear _t; refine wpList_op rfl (op_nx 26 rfl S.out _ Try.zeroValue26 ?_); clear S tokA; intro gl w S; replace S := Lib.hid S)
      | (have _t := tokB; clear _t; refine wpList_op rfl (op_nx 26 rfl S.out _ Try.zeroValue26 ?_); clear S tokB; intro gu w S; replace S := Lib.hid S)
      | (refine wpList_op rfl (op_row 26 _ rfl S.out 1 rfl rfl Try.isAgg26 (by kernel_rfl) ?_))
      | (refine wpList_op rfl (op_putR_1 26 _ _ rfl S rfl _ rfl rfl (by kernel_rfl) rfl ?_); clear S; intro w S)
      | (refine wpList_op rfl (op_putR_0 26 _ _ rfl S rfl _ rfl rfl (by kernel_rfl) rfl ?_); clear S; intro w S))
  refine (LK.out _ _ _ (OwnS.rp (S.out.get 2 rfl) HL1.out)).mono ?_
  rintro e w ⟨rfl, b⟩
  replace S := Lib.hid (S.out.call b)
  clear b
  cases q2
  · have HF := Lib.hid (EF.out (by rw [HB.out]; rfl))
    go_wp2_with (first
        | go_skip
        | (refine wpList_op rfl (op_putR_5 26 _ _ rfl S rfl _ rfl rfl (by kernel_rfl) rfl ?_); clear S; intro w S)
        | (refine wpList_op rfl (op_putR_4 26 _ _ rfl S rfl _ rfl rfl (by kernel_rfl) rfl ?_); clear S; intro w S))
    exact bodyPost_ret (results_ccs rfl _ S.out 5 4 rfl rfl rfl rfl Try.isAgg26 Try.isAgg26 (by kernel_rfl) (by kernel_rfl)) rfl (by obtain ⟨e1, e2, e3⟩ := HF.out; rw [e1, e2, e3]; exact none_NC S.out.below)
  go_wp2_with (first
      | go_skip
      | (refine wpList_op rfl (op_row 26 _ rfl S.out 0 rfl rfl Try.isAgg26 (by kernel_rfl) ?_)))
  refine (UK.out _ _ _ (OwnS.rp (S.out.get 3 rfl) HL2.out)).mono ?_
  rintro e w ⟨rfl, b⟩
  replace S := Lib.hid (S.out.call b)
  clear b
  cases q3
  · have HF := Lib.hid (EF.out (by rw [HB.out]; rfl))
    go_wp2_with (first
        | go_skip
        | (refine wpList_op rfl (op_putR_5 26 _ _ rfl S rfl _ rfl rfl (by kernel_rfl) rfl ?_); clear S; intro w S)
        | (refine wpList_op rfl (op_putR_4 26 _ _ rfl S rfl _ rfl rfl (by kernel_rfl) rfl ?_); clear S; intro w S))
    exact bodyPost_ret (results_ccs rfl _ S.out 5 4 rfl rfl rfl rfl Try.isAgg26 Try.isAgg26 (by kernel_rfl) (by kernel_rfl)) rfl (by obtain ⟨e1, e2, e3⟩ := HF.out; rw [e1, e2, e3]; exact none_NC S.out.below)
  have HF : Hid (hb = true) := Lib.hid (by rw [HB.out]; rfl)
  go_wp2_with fail
  refine wp_region_ev (by kernel_rfl) _ (by kernel_rfl) (by kernel_rfl) 36 rfl (by kernel_rfl) (fun D V w => Sep noX w0 [bx gu #[.int .i64 up.lv, .slice (some ⟨gm, 0, none⟩) 2 2, .int .i64 up.hi, .int .i64 up.ri, .int .i64 up.ow] 26, bx gl #[.int .i64 lo.lv, .slice (some ⟨ga, 0, none⟩) 3 3, .int .i64 lo.hi, .int .i64 lo.ri, .int .i64 lo.ow] 26, ow (.slice (some ⟨ga, 0, none⟩) 3 ca) lo.ps F1, ow (.slice (some ⟨gm, 0, none⟩) 2 2) up.ps F2, cnd (D 3) (bx r2 #[.int .i64 0, .slice none 0 0, .int .i64 0, .int .i64 0, .int .i64 0] 26) (bx r2 #[.int .i64 up.lv, .slice (some ⟨gm, 0, none⟩) 2 2, .int .i64 up.hi, .int .i64 up.ri, .int .i64 up.ow] 26), cnd (D 2) (bx r1 #[.int .i64 0, .slice none 0 0, .int .i64 0, .int .i64 0, .int .i64 0] 26) (bx r1 #[.int .i64 lo.lv, .slice (some ⟨ga, 0, none⟩) 3 3, .int .i64 lo.hi, .int .i64 lo.ri, .int .i64 lo.ow] 26), bx gp #[.int .i64 k, .int .i64 v] 28, bx gn #[.int .i64 x.lv, .slice A n c, .int .i64 x.hi, .int .i64 x.ri, .int .i64 x.ow] 26] w ∧ (D 0 = true → V 0 = .agg #[.int .i64 lo.lv, .slice (some ⟨ga, 0, none⟩) 3 3, .int .i64 lo.hi, .int .i64 lo.ri, .int .i64 lo.ow]) ∧ (D 1 = true → V 1 = .agg #[.int .i64 up.lv, .slice (some ⟨gm, 0, none⟩) 2 2, .int .i64 up.hi, .int .i64 up.ri, .int .i64 up.ow]) ∧ (D 4 = true → V 4 = .bool true)) ?_ ?_ ?_
  · intro D hD
    have d2 := hD 2 (by decide)
    have d3 := hD 3 (by decide)
    exact ⟨by rw [cnd_f d3, cnd_f d2]; exact S.out.drew.ems 0, (fun h => absurd h (by rw [hD 0 (by decide)]; exact Bool.false_ne_true)), (fun h => absurd h (by rw [hD 1 (by decide)]; exact Bool.false_ne_true)), (fun h => absurd h (by rw [hD 4 (by decide)]; exact Bool.false_ne_true))⟩
  · intro i o D V w a ho hI hDi haf hev
    obtain ⟨S, f0, f1, f4⟩ := hI
    rcases i with _ | _ | _ | _ | _ | i
    · obtain rfl := Option.some.inj (show some _ = some o from ho)
      exact op_row 26 _ rfl S 1 rfl ((hev.old 9 (by kernel_rfl)).trans rfl) Try.isAgg26 (by kernel_rfl) ⟨_, rfl, S, fun _ => rfl, f1, f4⟩
    · obtain rfl := Option.some.inj (show some _ = some o from ho)
      exact op_row 26 _ rfl S 0 rfl ((hev.old 10 (by kernel_rfl)).trans rfl) Try.isAgg26 (by kernel_rfl) ⟨_, rfl, S, f0, fun _ => rfl, f4⟩
    · obtain rfl := Option.some.inj (show some _ = some o from ho)
      have h0 : D 0 = true := by first | exact haf ⟨0, .data⟩ (by simp) rfl | exact haf ⟨0, .phase⟩ (by simp) rfl | exact haf ⟨0, .chain⟩ (by simp) rfl
      exact op_putR 26 _ _ rfl S 5 (g := r1) (C := #[.int .i64 0, .slice none 0 0, .int .i64 0, .int .i64 0, .int .i64 0]) (t := 26) (by simp only [List.getElem?_cons_succ, List.getElem?_cons_zero, cnd_f hDi]) ((hev.old 6 (by kernel_rfl)).trans rfl) _ ((hev.new 0 _ 34 rfl rfl h0).trans (f0 h0)) rfl (by kernel_rfl) rfl (fun w S => ⟨_, rfl, S, f0, f1, f4⟩)
    · obtain rfl := Option.some.inj (show some _ = some o from ho)
      have h1 : D 1 = true := by first | exact haf ⟨1, .data⟩ (by simp) rfl | exact haf ⟨1, .phase⟩ (by simp) rfl | exact haf ⟨1, .chain⟩ (by simp) rfl
      exact op_putR 26 _ _ rfl S 4 (g := r2) (C := #[.int .i64 0, .slice none 0 0, .int .i64 0, .int .i64 0, .int .i64 0]) (t := 26) (by simp only [List.getElem?_cons_succ, List.getElem?_cons_zero, cnd_f hDi]) ((hev.old 7 (by kernel_rfl)).trans rfl) _ ((hev.new 1 _ 35 rfl rfl h1).trans (f1 h1)) rfl (by kernel_rfl) rfl (fun w S => ⟨_, rfl, S, f0, f1, f4⟩)
    · obtain rfl := Option.some.inj (show some _ = some o from ho)
      exact op_move (.inr rfl) rfl ⟨_, rfl, S, f0, f1, fun _ => rfl⟩
    · exact absurd ho (by simp)
  intro V w hI
  obtain ⟨S, f0, f1, f4⟩ := hI
  replace f0 := f0 rfl
  replace f1 := f1 rfl
  replace f4 := f4 rfl
  replace S : Hid (Sep noX w0 [bx gu #[.int .i64 up.lv, .slice (some ⟨gm, 0, none⟩) 2 2, .int .i64 up.hi, .int .i64 up.ri, .int .i64 up.ow] 26, bx gl #[.int .i64 lo.lv, .slice (some ⟨ga, 0, none⟩) 3 3, .int .i64 lo.hi, .int .i64 lo.ri, .int .i64 lo.ow] 26, ow (.slice (some ⟨ga, 0, none⟩) 3 ca) lo.ps F1, ow (.slice (some ⟨gm, 0, none⟩) 2 2) up.ps F2, bx r2 #[.int .i64 up.lv, .slice (some ⟨gm, 0, none⟩) 2 2, .int .i64 up.hi, .int .i64 up.ri, .int .i64 up.ow] 26, bx r1 #[.int .i64 lo.lv, .slice (some ⟨ga, 0, none⟩) 3 3, .int .i64 lo.hi, .int .i64 lo.ri, .int .i64 lo.ow] 26, bx gp #[.int .i64 k, .int .i64 v] 28, bx gn #[.int .i64 x.lv, .slice A n c, .int .i64 x.hi, .int .i64 x.ri, .int .i64 x.ow] 26] w) := Lib.hid S
  simp only [putF, Act.put, List.setIfInBounds_toArray, List.set_cons_succ, List.set_cons_zero, f0, f1, f4]
  clear f0 f1 f4
  go_wp2_with fail
  exact bodyPost_ret (results_ccs rfl _ S.out 5 4 rfl rfl rfl rfl Try.isAgg26 Try.isAgg26 (by kernel_rfl) (by kernel_rfl)) rfl (by obtain ⟨e1, e2⟩ := EL.out HF.out; rw [e1, e2, HF.out]; exact S.out.givesNC 2 3 (by omega) rfl rfl HL1.out HL2.out (by omega) (by omega))
end Go.Proofs.Ytokkpbjldchjpaa
